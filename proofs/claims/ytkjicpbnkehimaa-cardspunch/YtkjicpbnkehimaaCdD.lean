/-
  What punched and unpunched of package cards answer.
-/
import Derived.Test.YtkjicpbnkehimaaCdC
import Derived.Laws.IdiomStrings
import Derived.Laws.BitsAllLaws
namespace Go.Proofs.Ytkjicpbnkehimaa
open Go.RowKit

theorem infoB : (Try.prog.info? 5).map (fun i => (i.zero, i.size, i.bytes)) = some (some (.int .u8 0), 1, 1) := by kernel_rfl
/-- a row of bytes that may be written -/
def YRow (W : World) (b k : Nat) (f : Nat → Nat) : Prop := b < W.heap.size ∧ ∀ j, j < k → W.cell? ⟨b, j, none⟩ = some (.int .u8 ((f j : Nat) : Int)) ∧ W.frozen? ⟨b, j, none⟩ = false
theorem YRow.keep {W w1 : World} {b k : Nat} {f : Nat → Nat} (h : YRow W b k f) (hb : Below W.heap.size W w1) : YRow w1 b k f :=
  ⟨Nat.lt_of_lt_of_le h.1 hb.size, fun j hj => ⟨keepC hb h.1 (h.2 j hj).1, keepF hb h.1 (h.2 j hj).2⟩⟩
theorem YRow.set {W : World} {b k : Nat} {f : Nat → Nat} (h : YRow W b k f) (j v : Nat) : YRow (W.setCell ⟨b, j, none⟩ (.int .u8 (v : Int))) b k (fun i => if i = j then v else f i) := by
  refine ⟨by simpa using h.1, fun i hi => ?_⟩
  obtain ⟨h1, h2⟩ := h.2 i hi
  refine ⟨?_, by rw [World.frozen?_setCell]; exact h2⟩
  by_cases e : i = j
  · subst e
    rw [World.cell?_setCell_same' _ _ _ (by rw [h1]; rfl)]; simp
  · simp [go_sem, e, h1]
theorem YRow.congr {W : World} {b k : Nat} {f g : Nat → Nat} (h : YRow W b k f) (e : ∀ j, j < k → f j = g j) : YRow W b k g := ⟨h.1, fun j hj => by rw [← e j hj]; exact h.2 j hj⟩
theorem yrow_made {w : World} {B b k : Nat} (h : w.ownsRow B 5 1 (.slice (some ⟨b, 0, none⟩) k k) k (madeCells #[.int .u8 0] k).toList) : YRow w b k (fun _ => 0) :=
  ⟨(h.lt b rfl).2, fun j hj => ⟨by rw [h.cellAt j (by omega), toList_madeCells_one, List.getElem?_replicate, if_pos (by omega)]; rfl, h.frozenAt j⟩⟩
/-- string(b) -/
theorem run_str {W : World} {b k c : Nat} {l : List UInt8} (hk : k = l.length) (h : ∀ j, j < k → W.cell? ⟨b, j, none⟩ = some (.int .u8 ((bya l j : Nat) : Int))) :
    (convert 35 9 (.slice (some ⟨b, 0, none⟩) k c)).run Try.prog W = .ok (.string ⟨l.toArray⟩) W := by
  subst hk
  refine run_convert_bytes_back W 35 9 5 ⟨b, 0, none⟩ c l Try.underlying35 Try.underlying5 Try.underlying9 fun j hj => ?_
  have := h j hj
  have e : bya l j = l[j].toNat := by unfold bya; rw [List.getD_eq_getElem?_getD, List.getElem?_eq_getElem hj]; rfl
  rw [← e, ← this]
  unfold Addr.add
  by_cases c0 : j = 0 <;> simp [c0]
theorem holes_bya (r : Nat → Bool) (w j : Nat) (h : j < nb w) : bya (holes r w) j = hb r w j := by
  unfold bya; rw [holes_get r w j h, toNat_ofNat _ (hb_lt r w j)]

theorem or_all : ∀ b0 b1 b2 b3 b4 b5 b6 b7 : Bool, ∀ k, k < 8 → ([b0, b1, b2, b3, b4, b5, b6, b7] : List Bool).getD k false = false →
    (2 * (2 * (2 * (2 * (2 * (2 * (2 * (2 * 0 + b0.toNat) + b1.toNat) + b2.toNat) + b3.toNat) + b4.toNat) + b5.toNat) + b6.toNat) + b7.toNat) ||| 2 ^ (7 - k) =
    (2 * (2 * (2 * (2 * (2 * (2 * (2 * (2 * 0 + (b0 || k == 0).toNat) + (b1 || k == 1).toNat) + (b2 || k == 2).toNat) + (b3 || k == 3).toNat) + (b4 || k == 4).toNat) + (b5 || k == 5).toNat) + (b6 || k == 6).toNat) + (b7 || k == 7).toNat) := by decide +kernel
theorem hv_or (p : Nat → Bool) (k : Nat) (hk : k < 8) (h : p k = false) : hv p 8 ||| 2 ^ (7 - k) = hv (fun j => p j || k == j) 8 := by
  refine or_all (p 0) (p 1) (p 2) (p 3) (p 4) (p 5) (p 6) (p 7) k hk ?_
  rw [← h]
  match k, hk with
  | 0, _ => rfl
  | 1, _ => rfl
  | 2, _ => rfl
  | 3, _ => rfl
  | 4, _ => rfl
  | 5, _ => rfl
  | 6, _ => rfl
  | 7, _ => rfl
/-- one place more, which holds -/
theorem hb_yes (r : Nat → Bool) (x : Nat) (h : r x = true) : hb r x (x / 8) ||| 2 ^ (7 - x % 8) = hb r (x + 1) (x / 8) := by
  unfold hb
  rw [hv_or _ _ (by omega) (by unfold bt; simp; intro; omega)]
  refine hv_congr _ _ _ fun j hj => ?_
  unfold bt
  by_cases e : x % 8 = j
  · have e2 : 8 * (x / 8) + j = x := by omega
    simp [e, e2, h]
  · have e2 : (8 * (x / 8) + j < x) = (8 * (x / 8) + j < x + 1) := propext ⟨fun _ => by omega, fun _ => by omega⟩
    simp [e, e2]
theorem hb_other (r : Nat → Bool) (x i : Nat) (h : i ≠ x / 8 ∨ r x = false) : hb r x i = hb r (x + 1) i := by
  unfold hb
  refine hv_congr _ _ _ fun j hj => ?_
  unfold bt
  by_cases e : 8 * i + j = x
  · have hi : i = x / 8 := by omega
    rcases h with h | h
    · exact absurd hi h
    · rw [e, h]; simp
  · have e2 : (8 * i + j < x) = (8 * i + j < x + 1) := propext ⟨fun _ => by omega, fun _ => by omega⟩
    simp [e2]
theorem hb_zero (r : Nat → Bool) (i : Nat) : hb r 0 i = 0 := by
  unfold hb
  rw [hv_congr _ (fun _ => false) 8 (fun j _ => by simp [bt])]; rfl

set_option maxRecDepth 100000 in
set_option maxHeartbeats 2000000 in
theorem punched_any (p : Option Addr) (w c : Nat) (r : Nat → Bool) (W : World) (hw : w ≤ 64) (hr : Bs W p w c r) :
    Calls Try.prog 17 #[.slice p w c] W fun e w' => e = .returned (.string ⟨(holes r w).toArray⟩) ∧ Below W.heap.size W w' := by
  obtain ⟨N, hN⟩ : ∃ N, N = nb w := ⟨_, rfl⟩
  have HB := hide (fun W => bytesOf_any w (by omega) W)
  rw [← hN] at HB
  obtain ⟨i0, hi, hz0, hz1, hz2⟩ := info_parts infoB
  have hN8 : N ≤ 8 ∧ ∀ x, x < w → x / 8 < N := by unfold nb at hN; exact ⟨by omega, fun x hx => by omega⟩
  have hby : i0.bytes * N ≤ 281474976710656 := by rw [hz2]; omega
  have hml : N ≤ maxLen := by unfold maxLen; omega
  have Hr := hide hr
  have HN := hide hN
  have H8 := hide hN8.2
  clear hN hr hN8
  go_enter Try.func17, Try.ntmps17
  go_wp2_with (first
    | (go_at_call 34; refine (unhide HB _).mono ?_; rintro e w' ⟨rfl, hq⟩; replace hq := hq.symm; subst hq)
    | (refine wpList_make_full _ rfl _ _ 35 rfl W.heap.size 5 i0 _ 1 Try.underlying35 hi hz0 hz1 .i64 .i64 (N : Int) (N : Int) N rfl rfl rfl rfl hby hml (Nat.le_refl _) ?_))
  intro wm hown hgrow
  have R0 := hide (yrow_made hown)
  have S0 := hide ((Below.refl _ W).grown hgrow (Nat.le_refl _) (fun k hk => by cases hk))
  clear hown hgrow hi hz0 hz1 hz2 hby hml HB
  go_wp2
  go_loopw [12] (fun v wr => ∃ x : Nat, x ≤ w ∧ v = .int .i64 x ∧ YRow wr W.heap.size N (fun i => hb r x i) ∧ Below W.heap.size W wr) (fun v _ => w - (intOf v).toNat)
  case atStart => exact ⟨0, Nat.zero_le _, rfl, (unhide R0).congr fun j _ => (hb_zero r j).symm, unhide S0⟩
  case round =>
    clear R0 S0
    obtain ⟨x, hx, rfl, hR, hbl⟩ := hrel
    by_cases hlt : x < w
    · obtain ⟨b1, o1, rfl, l1, k1⟩ := bs_at ((unhide Hr).keep hbl) hlt
      have q1 : (x : Int) < (w : Int) := by omega
      have q2 : (0 : Int) ≤ (x : Int) := by omega
      have HR := hide hR
      have Hb := hide hbl
      cases hv : r x with
      | false =>
        have HRn := hide (hR.congr fun j _ => hb_other r x j (.inr hv))
        rw [hv] at k1
        clear hR hbl hv
        go_wp2
        go_roundw
        case rel => exact ⟨x + 1, by omega, by go_num, unhide HRn, unhide Hb⟩
        case measure => simp [intOf]; omega
      | true =>
        rw [hv] at k1
        obtain ⟨i, hie⟩ : ∃ i : Nat, i = x / 8 := ⟨_, rfl⟩
        have e8 : (x : Int) / 8 = (i : Int) := by omega
        have e9 : IntKind.i64.wrap (i : Int) = (i : Int) := Go.IntWalk.i64_in _ (by omega)
        have hiN : i < N := by rw [hie]; exact unhide H8 x hlt
        have q3 : (i : Int) < (N : Int) := by omega
        have q4 : (0 : Int) ≤ (i : Int) := by omega
        have d1 : wr.cell? ⟨W.heap.size, i, none⟩ = some (.int .u8 ((hb r x i : Nat) : Int)) := (hR.2 i hiN).1
        have d2 := (hR.2 i hiN).2
        have hc := hb_lt r x i
        have ho : (2 ^ (7 - x % 8) : Nat) < 256 := Nat.lt_of_le_of_lt (Nat.pow_le_pow_right (by omega) (show 7 - x % 8 ≤ 7 by omega)) (by omega)
        have hu := u8_or_nat (hb r x i) (2 ^ (7 - x % 8)) hc ho
        have hy := hb_yes r x hv
        rw [← hie] at hy
        rw [hy] at hu
        have hr2 := ((hR.keep (Below.drew (Below.refl _ wr))).set i (hb r (x + 1) i)).congr (g := fun j => hb r (x + 1) j) (fun j _ => by
          by_cases e : j = i
          · rw [if_pos e, e]
          · rw [if_neg e]; exact hb_other r x j (.inl (by rw [← hie]; exact e)))
        have HRn := hide hr2
        have Hbn := hide (bset (p := ⟨W.heap.size, i, none⟩) (u := .int .u8 ((hb r (x + 1) i : Nat) : Int)) (btrans hbl (Below.drew (Below.refl _ wr))) (Nat.le_refl _))
        have HH := hide (hole_any x)
        clear hR hbl hv hie hy hc ho hr2
        generalize hb r x i = a at *
        generalize hb r (x + 1) i = d at *
        generalize 2 ^ (7 - x % 8) = g at *
        go_wp2_with fail
        go_region_with (go_at_call 35; refine (unhide HH _).mono ?_; rintro e w2 ⟨rfl, hq⟩; replace hq := hq.symm; subst hq)
        all_goals
          clear d1 d2 HR Hb HH
          go_wp2
          go_roundw
          case rel => exact ⟨x + 1, by omega, by go_num, unhide HRn, unhide Hbn⟩
          case measure => simp [intOf]; omega
    · obtain rfl : x = w := by omega
      have cl : ¬ ((x : Int) < (x : Int)) := by omega
      have hs := hide (run_str (W := wr) (b := W.heap.size) (k := N) (c := N) (l := holes r x) (by rw [holes_len, unhide HN]) (fun j hj => by rw [holes_bya r x j (by rw [← unhide HN]; exact hj)]; exact (hR.2 j hj).1))
      clear hR
      go_wp2
      rw [unhide hs]
      simp only [Result.andThen]
      rw [Oper.upon_value]
      go_wp2
      go_ret
      exact ⟨rfl, hbl⟩
end Go.Proofs.Ytkjicpbnkehimaa
