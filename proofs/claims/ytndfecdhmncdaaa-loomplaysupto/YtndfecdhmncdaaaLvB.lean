/-
  SameBits.
-/
import Derived.Test.YtndfecdhmncdaaaLmD
namespace Go.Proofs.Ytndfecdhmncdaaa
open Go.RowKit

set_option maxRecDepth 100000 in
set_option maxHeartbeats 2000000 in
/-- bits that are the same -/
theorem same_bits {W : World} {p1 p2 : Option Addr} {n c1 c2 : Nat} {f1 f2 : Nat → Bool} (k1 : Bs W p1 n c1 f1) (k2 : Bs W p2 n c2 f2) (he : ∀ j, j < n → f1 j = f2 j) (hn : n ≤ 4096) :
    Calls Try.prog 7 #[.slice p1 n c1, .slice p2 n c2] W fun e w' => e = .returned (.bool true) ∧ Below W.heap.size W w' := by
  have H1 := hide k1
  have H2 := hide k2
  have He := hide he
  clear k1 k2 he
  go_enter Try.func7, Try.ntmps7
  go_wp2
  go_loopw [13] (fun i wr => ∃ x : Nat, x ≤ n ∧ i = .int .i64 x ∧ Below W.heap.size W wr) (fun i _ => n - (intOf i).toNat)
  case atStart => exact ⟨0, Nat.zero_le _, rfl, Below.refl _ _⟩
  case round =>
    obtain ⟨x, hx, rfl, hb⟩ := hrel
    have Hb := hide hb
    by_cases hlt : x < n
    · have q0 : (x : Int) < (n : Int) := by omega
      have q1 : (0 : Int) ≤ (x : Int) := by omega
      obtain ⟨b1, o1, rfl, l1, e1⟩ := bs_at ((unhide H1).keep hb) hlt
      obtain ⟨b2, o2, rfl, l2, e2⟩ := bs_at ((unhide H2).keep hb) hlt
      rw [unhide He x hlt] at e1
      generalize f2 x = v at *
      clear hb
      have hv : (v != v) = false := by simp
      cases v
      all_goals
        go_wp2_with fail
        go_quiet (fail)
        go_wp2
        go_roundw
        case rel => exact ⟨x + 1, by omega, by go_num, (unhide Hb).trans (Joins.below_draws _ _ _)⟩
        case measure => simp [intOf]; omega
    · obtain rfl : n = x := by omega
      have cl : ¬ ((n : Int) < (n : Int)) := by omega
      go_wp2
      go_ret
      exact ⟨rfl, hb⟩
end Go.Proofs.Ytndfecdhmncdaaa
