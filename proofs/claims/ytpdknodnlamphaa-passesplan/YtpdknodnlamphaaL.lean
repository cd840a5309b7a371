/-
  The document's Behind and same.
-/
import Derived.Test.YtpdknodnlamphaaJ
namespace Go.Proofs.Ytpdknodnlamphaa
open Go.RowKit

theorem tl_succ (n : Nat) (f : Nat → Int) : tl (n + 1) f = tl n f ++ [f n] := by simp [tl, List.range_succ]
theorem IR.form {W : World} {B : Nat} {v : Value} {l : List Int} (h : IR W B v l) : ∃ q c, v = .slice q l.length c ∧ Is W q l.length (gt l) := by
  obtain ⟨q, c, rfl⟩ := own_form h
  refine ⟨q, c, rfl, ?_⟩
  by_cases h0 : l.length = 0
  · exact .inl h0
  · obtain ⟨g, c', e⟩ := own_slice h (by omega)
    cases e
    refine .inr ⟨g, 0, rfl, (h.lt rfl).2, fun k hk => ?_⟩
    rw [Nat.zero_add, World.ownsRow.cellAt h k (by omega)]
    simp [intsV, gt, List.getD, hk]
theorem bit_of (w k : Nat) : w.testBit k = decide (w / 2 ^ k % 2 = 1) := by rw [Nat.testBit_eq_decide_div_mod_eq]
theorem half (w k : Nat) : w / 2 ^ k / 2 = w / 2 ^ (k + 1) := by rw [Nat.div_div_eq_div_mul, Nat.pow_succ]

set_option maxRecDepth 100000 in
set_option maxHeartbeats 4000000 in
theorem rbehind_any (q : Option Addr) (n c : Nat) (f : Nat → Int) (b : Int) (w : Nat) (W : World) (hq : Is W q n f) (hf : ∀ i, i < n → 0 ≤ f i ∧ f i ≤ 11) (hb : -2 ≤ b ∧ b ≤ 2) (hw : w ≤ 31) (hn5 : n ≤ 5) :
    Calls Try.prog 23 #[.slice q n c, .int .i64 b, .int .i64 w] W fun e w' => ∃ v, e = .returned v ∧ IR w' W.heap.size v (tl n (nb f b w)) ∧ Below W.heap.size W w' := by
  have Hq := hide hq
  clear hq
  go_enter Try.func23, Try.ntmps23
  go_wp2
  go_loopw [2, 7, 12] (fun wv v i wr => ∃ (x y : Nat) (u : Value), u = v ∧ i = .int .i64 x ∧ wv = .int .i64 y ∧ x ≤ n ∧ Hid (y = w / 2 ^ x) ∧ y ≤ 31 ∧ IR wr W.heap.size u (tl x (nb f b w)) ∧ Below W.heap.size W wr) (fun _ _ i _ => n - (intOf i).toNat)
  case atStart => exact ⟨0, w, _, rfl, rfl, rfl, Nat.zero_le _, hide (by simp), hw, World.ownsRow_nil _ _ _ _, Below.refl _ _⟩
  case round =>
    obtain ⟨x, y, u, rfl, rfl, rfl, hx, hy, hy2, hI, hB⟩ := hrel
    by_cases hlt : x < n
    · obtain ⟨bb, o, rfl, hc⟩ := ((unhide Hq).keep hB).at hlt
      have hfx := hf x hlt
      have hnb : nb f b w x = f x + if y % 2 = 1 then b else 0 := by
        unfold nb
        rw [bit_of, unhide hy]
        simp
      have hy3 : y / 2 = w / 2 ^ (x + 1) := by rw [unhide hy, half]
      have HY3 := hide hy3
      obtain ⟨y2, hy4⟩ : ∃ y2, y2 = y / 2 := ⟨_, rfl⟩
      rw [← hy4] at HY3
      have d1 : (y : Int) / 2 = (y2 : Int) := by omega
      have hy5 : y2 ≤ 31 := by omega
      have cl : (x : Int) < (n : Int) := by omega
      obtain ⟨r, hr⟩ : ∃ r, r = nb f b w x := ⟨_, rfl⟩
      have Lr := Li.new wr r
      have HI2 := hide (show (wr.alloc (.cells #[.int .i64 r] 3)).ownsRow W.heap.size 3 1 u x (intsV (tl x (nb f b w))) from by
        have := own_keep hI (bnew wr (.cells #[.int .i64 r] 3))
        rwa [tl_len] at this)
      have HB2 := hide (btrans hB (bnew wr (.cells #[.int .i64 r] 3)))
      have HL := hide Lr
      have fin : ∀ v' w', w'.ownsRow W.heap.size 3 1 v' (x + 1) (intsV (tl x (nb f b w)) ++ [.int .i64 r]) → IR w' W.heap.size v' (tl (x + 1) (nb f b w)) := fun v' w' h => by
        unfold IR
        rw [tl_succ, intsV_app, ← hr]
        simpa [tl_len] using h
      have Fin := hide fin
      clear hI hB Lr hy3 fin
      by_cases h1 : y % 2 = 1
      · rw [if_pos h1] at hnb
        have d2 : (y : Int) % 2 = 1 := by omega
        obtain rfl : r = f x + b := by rw [hr, hnb]
        clear hnb hy4 h1 hr
        go_wp2_with (at_builtin; refine wl_app rfl rfl Try.underlying22 info3 rfl (by decide) (B := W.heap.size) (n := x) (m := 1) rfl rfl (unhide HI2) (unhide HL) (lit_one _) (by unfold maxLen; omega) (by omega) (unhide HB2).size ?_)
        intro v' w' ho hg he
        have HI3 := hide (unhide Fin v' w' ho)
        have HB3 := hide ((unhide HB2).grown hg (unhide HB2).size (fun _ e => ((unhide HI2).lt _ e).1))
        clear ho hg he Fin HI2 HB2 HL
        go_wp2
        go_roundw
        case rel => exact ⟨x + 1, y2, v', rfl, by go_num, rfl, by omega, HY3, hy5, unhide HI3, unhide HB3⟩
        case measure => simp [intOf]; omega
      · rw [if_neg h1] at hnb
        have d2 : (y : Int) % 2 = 0 := by omega
        obtain rfl : r = f x := by rw [hr, hnb]; omega
        clear hnb hy4 h1 hr
        go_wp2_with (at_builtin; refine wl_app rfl rfl Try.underlying22 info3 rfl (by decide) (B := W.heap.size) (n := x) (m := 1) rfl rfl (unhide HI2) (unhide HL) (lit_one _) (by unfold maxLen; omega) (by omega) (unhide HB2).size ?_)
        intro v' w' ho hg he
        have HI3 := hide (unhide Fin v' w' ho)
        have HB3 := hide ((unhide HB2).grown hg (unhide HB2).size (fun _ e => ((unhide HI2).lt _ e).1))
        clear ho hg he Fin HI2 HB2 HL
        go_wp2
        go_roundw
        case rel => exact ⟨x + 1, y2, v', rfl, by go_num, rfl, by omega, HY3, hy5, unhide HI3, unhide HB3⟩
        case measure => simp [intOf]; omega
    · obtain rfl : x = n := by omega
      have cl : ¬ ((x : Int) < (x : Int)) := by omega
      have HI := hide hI
      have HB := hide hB
      clear hI hB hlt
      go_wp2
      go_ret
      exact ⟨_, rfl, unhide HI, unhide HB⟩
end Go.Proofs.Ytpdknodnlamphaa
