/-
  The document's same and Same; Wrong.
-/
import Derived.Test.YtpdknodnlamphaaK
import Derived.Test.YtpdknodnlamphaaL
namespace Go.Proofs.Ytpdknodnlamphaa
open Go.RowKit

/-- these numbers are the same -/
def smB (n : Nat) (f t : Nat → Int) : Bool := decide (tl n f = tl n t)
theorem smB_no {n i : Nat} {f t : Nat → Int} (hi : i < n) (h : f i ≠ t i) : smB n f t = false := by
  unfold smB
  simp only [decide_eq_false_iff_not]
  intro e
  have := congrArg (fun l => gt l i) e
  simp only [gt_tl f hi, gt_tl t hi] at this
  exact h this
theorem smB_yes {n : Nat} {f t : Nat → Int} (h : ∀ i, i < n → f i = t i) : smB n f t = true := by
  unfold smB
  simp only [decide_eq_true_eq]
  exact tl_congr h
set_option maxRecDepth 100000 in
set_option maxHeartbeats 4000000 in
theorem rsame_any (q p : Option Addr) (n c d : Nat) (f t : Nat → Int) (W : World) (hq : Is W q n f) (hp : Is W p n t) (hn5 : n ≤ 5) :
    Calls Try.prog 28 #[.slice q n c, .slice p n d] W fun e w' => e = .returned (.bool (smB n f t)) ∧ ∃ j, w' = W.drewN j := by
  have Hq := hide hq
  have Hp := hide hp
  clear hq hp
  go_enter Try.func28, Try.ntmps28
  go_wp2
  go_loopw [13] (fun i wr => ∃ k : Nat, i = .int .i64 k ∧ k ≤ n ∧ (∀ j, j < k → f j = t j) ∧ ∃ j, wr = W.drewN j) (fun i _ => n - (intOf i).toNat)
  case atStart => exact ⟨0, rfl, Nat.zero_le _, fun j hj => by omega, 0, rfl⟩
  case round =>
    obtain ⟨k, rfl, hk, hdone, hw⟩ := hrel
    have hbw : Below W.heap.size W wr := by obtain ⟨j0, rfl⟩ := hw; exact Joins.below_draws _ W j0
    have Hw := hide (show ∀ i, ∃ j, wr.drewN i = W.drewN j from fun i => by obtain ⟨j0, rfl⟩ := hw; exact ⟨_, World.drewN_drewN _ _ _⟩)
    have Hw0 := hide hw
    have Hdone := hide hdone
    clear hw hdone
    by_cases hlt : k < n
    · obtain ⟨b, o, rfl, hc⟩ := ((unhide Hq).keep hbw).at hlt
      obtain ⟨b2, o2, rfl, hc2⟩ := ((unhide Hp).keep hbw).at hlt
      have g1 : (0 : Int) ≤ (k : Int) := by omega
      have g2 : (k : Int) < (n : Int) := by omega
      by_cases h : f k = t k
      · have HD := hide (show ∀ j, j < k + 1 → f j = t j from fun j hj => by
          rcases Nat.lt_or_eq_of_le (Nat.le_of_lt_succ hj) with h' | h'
          · exact unhide Hdone j h'
          · rw [h']; exact h)
        rw [h] at hc
        generalize t k = y at *
        clear h
        go_wp2_with fail
        go_quiet (fail)
        go_wp2
        go_roundw
        case rel => exact ⟨k + 1, by go_num, by omega, unhide HD, unhide Hw _⟩
        case measure => simp [intOf]; omega
      · have HR := hide (smB_no hlt h)
        have h' : (f k != t k) = true := by simpa using h
        generalize f k = x at *
        generalize t k = y at *
        clear h
        go_wp2_with fail
        go_quiet (fail)
        go_wp2
        go_ret
        exact ⟨by rw [unhide HR]; rfl, unhide Hw _⟩
    · obtain rfl : k = n := by omega
      have HR := hide (smB_yes (unhide Hdone))
      have cl : ¬ ((k : Int) < (k : Int)) := by omega
      clear hlt
      go_wp2
      go_ret
      exact ⟨by rw [unhide HR]; rfl, unhide Hw0⟩

set_option maxRecDepth 100000 in
set_option maxHeartbeats 4000000 in
/-- two lists of the same passes -/
theorem rSame_yes (q p : Option Addr) (n c d : Nat) (f : Nat → Int × Int) (W : World) (hq : Sp W q n f) (hp : Sp W p n f) (hn : n ≤ 9223372036854775806) :
    Calls Try.prog 10 #[.slice q n c, .slice p n d] W fun e w' => e = .returned (.bool true) ∧ Below W.heap.size W w' := by
  have Hq := hide hq
  have Hp := hide hp
  clear hq hp
  go_enter Try.func10, Try.ntmps10
  go_wp2
  go_loopw [13] (fun i wr => ∃ k : Nat, i = .int .i64 k ∧ k ≤ n ∧ Below W.heap.size W wr) (fun i _ => n - (intOf i).toNat)
  case atStart => exact ⟨0, rfl, Nat.zero_le _, Below.refl _ _⟩
  case round =>
    obtain ⟨k, rfl, hk, hbw⟩ := hrel
    have HB := hide (show ∀ i, Below W.heap.size W (wr.drewN i) from fun i => btrans hbw (Joins.below_draws _ wr i))
    have HB0 := hide hbw
    by_cases hlt : k < n
    · obtain ⟨b, o, rfl, -, hc⟩ := ((unhide Hq).keep hbw).resolve_left (by omega)
      obtain ⟨b2, o2, rfl, -, hc2⟩ := ((unhide Hp).keep hbw).resolve_left (by omega)
      obtain ⟨c1, c2⟩ := hc k hlt
      obtain ⟨c3, c4⟩ := hc2 k hlt
      have g1 : (0 : Int) ≤ (k : Int) := by omega
      have g2 : (k : Int) < (n : Int) := by omega
      generalize (f k).1 = x at *
      generalize (f k).2 = y at *
      clear hc hc2 hbw
      go_wp2_with fail
      go_quiet (fail)
      go_wp2
      go_roundw
      case rel => exact ⟨k + 1, by go_num, by omega, unhide HB _⟩
      case measure => simp [intOf]; omega
    · obtain rfl : k = n := by omega
      have cl : ¬ ((k : Int) < (k : Int)) := by omega
      clear hlt hbw
      go_wp2
      go_ret
      exact ⟨rfl, unhide HB0⟩
end Go.Proofs.Ytpdknodnlamphaa
