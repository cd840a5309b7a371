/-
  The laws' alive and used.
-/
import Derived.Test.YtfbggbalnfbbgaaDrH
namespace Go.Proofs.Ytfbggbalnfbbgaa
open Go.RowKit Go.Shelf

theorem alive_k1 : (unU (tuF (fun _ => true) 2 1) 1 2).length = 1 := by decide
theorem alive_k2 : (unU (fun _ => true) 2 1).length = 1 := by decide

set_option maxHeartbeats 1000000 in
theorem dalive_any (W : World) : Calls Try.prog 16 #[] W fun e w' => e = .returned (.bool true) ∧ Below W.heap.size W w' := by
  have B0 := bal (o := .cells #[.bool true, .bool true] 4) (Below.refl W.heap.size W)
  have hR := hide (show Rt (W.alloc (.cells #[.bool true, .bool true] 4)) 2 1 (some ⟨W.heap.size, 0, none⟩) 2 2 (fun _ => true) from ⟨by omega, by omega, rfl, Nat.le_refl _, .inr ⟨_, _, rfl, by simp, fun k hk => by
    match k, hk with
    | 0, _ => simp [go_sem]
    | 1, _ => simp [go_sem]⟩⟩)
  have HF := hide (few_ok (unhide hR) (by omega) 1 1 1 alive_k1.symm alive_k2.symm rfl)
  have HB := hide B0
  clear B0
  go_enter Try.func16, Try.ntmps16
  go_wp2_with fail
  refine (unhide HF).mono ?_
  rintro e V ⟨q1, c1, q, cp, q2, c2, rfl, -, -, -, hb⟩
  have S := hide (bal (o := .cells #[.slice q1 2 c1, .int .i64 1, .int .i64 1, .slice q 1 cp, .slice q2 1 c2] 27) (btrans (unhide HB) hb))
  have O := hide (OwnR.new V q1 2 c1 1 1 q 1 cp q2 1 c2)
  clear hb
  have o1 := (unhide O).2
  go_wp2
  go_ret
  exact ⟨rfl, unhide S⟩

/-- whether a number stands at none of the first k places -/
def frB (t : Nat → Nat) (i k : Nat) : Bool := (List.range k).all fun j => !decide (t j = t i)
theorem frB_succ (t : Nat → Nat) (i k : Nat) : frB t i (k + 1) = (frB t i k && !decide (t k = t i)) := by simp [frB, List.range_succ]
/-- how many numbers stand in the first n places -/
def usN (t : Nat → Nat) : Nat → Nat
  | 0 => 0
  | i + 1 => if frB t i i then usN t i + 1 else usN t i
theorem usN_le (t : Nat → Nat) (n : Nat) : usN t n ≤ n := by
  induction n with
  | zero => exact Nat.le_refl _
  | succ n ih => simp only [usN]; split <;> omega

set_option maxRecDepth 100000 in
set_option maxHeartbeats 2000000 in
theorem used_any (q : Option Addr) (n c : Nat) (t : Nat → Nat) (W : World) (hn : n ≤ 64) (hq : Is W q n (fun k => ((t k : Nat) : Int))) :
    Calls Try.prog 18 #[.slice q n c] W fun e V => e = .returned (.int .i64 ((usN t n : Nat) : Int)) ∧ Below W.heap.size W V := by
  have HQ := hide hq
  clear hq
  go_enter Try.func18, Try.ntmps18
  go_wp2
  go_loopw [3, 9] (fun v i wr => ∃ x : Nat, x ≤ n ∧ i = .int .i64 x ∧ v = .int .i64 ((usN t x : Nat) : Int) ∧ Below W.heap.size W wr) (fun _ i _ => n - (intOf i).toNat)
  case atStart => exact ⟨0, Nat.zero_le _, rfl, rfl, Below.refl _ _⟩
  case round =>
    obtain ⟨x, hx, rfl, rfl, hb⟩ := hrel
    by_cases hlt : x < n
    · have q0 : (x : Int) < (n : Int) := by omega
      have q00 : (0 : Int) ≤ (x : Int) := by omega
      have hul := usN_le t x
      have Hst := hide (show usN t (x + 1) = if frB t x x then usN t x + 1 else usN t x from rfl)
      have Hb := hide hb
      have hub : (usN t x : Int) ≤ 64 := by omega
      generalize usN t x = u at *
      clear hb
      go_wp2
      go_loopw [5, 6] (fun v i wr => ∃ k : Nat, k ≤ x ∧ i = .int .i64 k ∧ v = .bool (frB t x k) ∧ Below W.heap.size W wr) (fun _ i _ => x - (intOf i).toNat)
      case atStart => exact ⟨0, Nat.zero_le _, rfl, rfl, unhide Hb⟩
      case round =>
        clear Hb
        obtain ⟨k, hk, rfl, rfl, hb⟩ := hrel
        by_cases hlk : k < x
        · obtain ⟨a, o, rfl, l1, k1⟩ := ((unhide HQ).keep hb).at (show k < n by omega)
          obtain ⟨a', o', e', l2, k2⟩ := ((unhide HQ).keep hb).at hlt
          cases e'
          have q1 : (k : Int) < (n : Int) := by omega
          have q2 : (0 : Int) ≤ (k : Int) := by omega
          have q3 : (k : Int) < (x : Int) := by omega
          have Hs := hide (frB_succ t x k)
          have Hb := hide hb
          generalize frB t x k = v at *
          cases v
          · go_wp2_with fail
            go_quiet (fail)
            go_wp2
            go_roundw
            case rel => exact ⟨k + 1, by omega, by go_num, by rw [unhide Hs]; rfl, btrans (unhide Hb) (Joins.below_draws _ _ _)⟩
            case measure => simp [intOf]; omega
          · by_cases hc : t k = t x
            · have hc' : ((t k : Int) != (t x : Int)) = false := by simp [hc]
              have Hz := hide (show frB t x (k + 1) = false by rw [unhide Hs]; simp [hc])
              go_wp2_with fail
              go_quiet (fail)
              go_wp2
              go_roundw
              case rel => exact ⟨k + 1, by omega, by go_num, by rw [unhide Hz], btrans (unhide Hb) (Joins.below_draws _ _ _)⟩
              case measure => simp [intOf]; omega
            · have hc' : ((t k : Int) != (t x : Int)) = true := by simp; omega
              have Hz := hide (show frB t x (k + 1) = true by rw [unhide Hs]; simp [hc])
              clear hc
              go_wp2_with fail
              go_quiet (fail)
              go_wp2
              go_roundw
              case rel => exact ⟨k + 1, by omega, by go_num, by rw [unhide Hz], btrans (unhide Hb) (Joins.below_draws _ _ _)⟩
              case measure => simp [intOf]; omega
        · obtain rfl : k = x := by omega
          have cl : ¬ ((k : Int) < (k : Int)) := by omega
          cases hv : frB t k k
          · have Hz := hide (show usN t (k + 1) = u by rw [unhide Hst, hv]; rfl)
            go_wp2
            go_roundw
            case rel => exact ⟨k + 1, by omega, by go_num, by rw [unhide Hz], hb⟩
            case measure => simp [intOf]; omega
          · have Hz := hide (show usN t (k + 1) = u + 1 by rw [unhide Hst, hv]; rfl)
            go_wp2
            go_roundw
            case rel => exact ⟨k + 1, by omega, by go_num, by rw [unhide Hz]; go_num, hb⟩
            case measure => simp [intOf]; omega
    · obtain rfl : x = n := by omega
      have cl : ¬ ((x : Int) < (x : Int)) := by omega
      go_wp2
      go_ret
      exact ⟨rfl, hb⟩
end Go.Proofs.Ytfbggbalnfbbgaa
