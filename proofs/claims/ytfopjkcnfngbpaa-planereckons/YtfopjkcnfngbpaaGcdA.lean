/-
  What nearest and remainder of package plane answer (walks over the translated code).
-/
import Derived.Test.YtfopjkcnfngbpaaRefA
import Derived.Deep.RegionHeld3
import Derived.Deep.QuietTactic
import Derived.BigQuiet
import Derived.Lib.SmallJoins
namespace Go.Proofs.Ytfopjkcnfngbpaa
open Go.RowKit

def NearIs (x n q : Int) : Prop := ∀ W : World, Calls Try.prog 49 #[.int .i64 x, .int .i64 n] W fun e w' => e = .returned (.int .i64 q) ∧ Below W.heap.size W w'

set_option maxHeartbeats 1000000 in
theorem nearest_up (x n : Int) (hn : 1 ≤ n ∧ n ≤ 1152921504606846976) (q l : Int) (hq : IntKind.i64.wrap (x.tdiv n) = q) (hl : x.tmod n = l) (h1 : n < 2 * l) (h2 : -1152921504606846976 ≤ l ∧ l ≤ 1152921504606846976) (h3 : -1152921504606846976 ≤ q ∧ q ≤ 1152921504606846976) : NearIs x n (q + 1) := by
  intro w
  go_enter Try.func49, Try.ntmps49
  go_wp2_with fail
  go_quiet (fail)
  go_wp2
  go_ret
  exact ⟨rfl, Joins.below_draws _ _ _⟩

set_option maxHeartbeats 1000000 in
theorem nearest_down (x n : Int) (hn : 1 ≤ n ∧ n ≤ 1152921504606846976) (q l : Int) (hq : IntKind.i64.wrap (x.tdiv n) = q) (hl : x.tmod n = l) (h0 : ¬ n < 2 * l) (h1 : 2 * l < -n) (h2 : -1152921504606846976 ≤ l ∧ l ≤ 1152921504606846976) (h3 : -1152921504606846976 ≤ q ∧ q ≤ 1152921504606846976) : NearIs x n (q - 1) := by
  intro w
  go_enter Try.func49, Try.ntmps49
  go_wp2_with fail
  go_quiet (fail)
  go_wp2
  go_ret
  exact ⟨rfl, Joins.below_draws _ _ _⟩

set_option maxHeartbeats 1000000 in
theorem nearest_same (x n : Int) (hn : 1 ≤ n ∧ n ≤ 1152921504606846976) (q l : Int) (hq : IntKind.i64.wrap (x.tdiv n) = q) (hl : x.tmod n = l) (h0 : ¬ n < 2 * l) (h1 : ¬ 2 * l < -n) (h2 : -1152921504606846976 ≤ l ∧ l ≤ 1152921504606846976) (_h3 : -1152921504606846976 ≤ q ∧ q ≤ 1152921504606846976) : NearIs x n (q) := by
  intro w
  go_enter Try.func49, Try.ntmps49
  go_wp2_with fail
  go_quiet (fail)
  go_wp2
  go_ret
  exact ⟨rfl, Joins.below_draws _ _ _⟩

/-- a whole number than which none is nearer to x over n -/
def nr (x n : Int) : Int := if n < 2 * x.tmod n then x.tdiv n + 1 else if 2 * x.tmod n < -n then x.tdiv n - 1 else x.tdiv n
theorem nr_spec (x n : Int) (hn : 1 ≤ n) : -n ≤ 2 * (x - nr x n * n) ∧ 2 * (x - nr x n * n) ≤ n := by
  have h1 := Int.tdiv_mul_add_tmod x n
  have h2 : x.tmod n < n := Int.tmod_lt_of_pos x (by omega)
  have h3 : -n < x.tmod n := by
    have a := Int.natAbs_tmod x n
    have b := Nat.mod_lt x.natAbs (show 0 < n.natAbs by omega)
    omega
  unfold nr
  generalize x.tdiv n = q at *
  generalize x.tmod n = l at *
  split
  · rw [Int.add_mul]; omega
  · split
    · rw [Int.sub_mul]; omega
    · omega
theorem near_any (x n : Int) (hn : 1 ≤ n ∧ n ≤ 1152921504606846976) (hx : -1152921504606846976 ≤ x ∧ x ≤ 1152921504606846976) : NearIs x n (nr x n) := by
  have h2 : x.tmod n < n := Int.tmod_lt_of_pos x (by omega)
  have h3 : -n < x.tmod n := by
    have a := Int.natAbs_tmod x n
    have b := Nat.mod_lt x.natAbs (show 0 < n.natAbs by omega)
    omega
  have hw : IntKind.i64.wrap (x.tdiv n) = x.tdiv n := IntWalk.i64_quo' x n ⟨by omega, by omega, hn.1⟩
  have hb : -1152921504606846976 ≤ x.tdiv n ∧ x.tdiv n ≤ 1152921504606846976 := by
    have a := Int.natAbs_tdiv_le_natAbs x n
    omega
  unfold nr
  by_cases k1 : n < 2 * x.tmod n
  · rw [if_pos k1]; exact nearest_up x n hn _ _ hw rfl k1 (by omega) hb
  · rw [if_neg k1]
    by_cases k2 : 2 * x.tmod n < -n
    · rw [if_pos k2]; exact nearest_down x n hn _ _ hw rfl k1 k2 (by omega) hb
    · rw [if_neg k2]; exact nearest_same x n hn _ _ hw rfl k1 k2 (by omega) hb

end Go.Proofs.Ytfopjkcnfngbpaa
