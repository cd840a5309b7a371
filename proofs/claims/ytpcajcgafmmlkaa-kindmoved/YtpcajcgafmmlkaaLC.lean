/-
  GroupLattice: the law's walk.
-/
import Derived.Test.YtpcajcgafmmlkaaLB
import Derived.Test.YtpcajcgafmmlkaaHC
import Derived.Test.YtpcajcgafmmlkaaGJ
import Derived.Test.YtpcajcgafmmlkaaGL
namespace Go.Proofs.Ytpcajcgafmmlkaa
open Go.RowKit

/-- turn and flip of the move ahead of the k-th -/
def pv (L : List Mv) : Nat → Option (Nat × Bool)
  | 0 => none
  | k + 1 => (L[k]?).map key

theorem kd_new (prev : Option (Nat × Bool)) (m : Mv) (l : List Mv) (h : prev ≠ some (key m)) : kd prev (m :: l) = 1 + kd (some (key m)) l := by simp [kd, h]
theorem kd_old (m : Mv) (l : List Mv) : kd (some (key m)) (m :: l) = kd (some (key m)) l := by simp [kd]

end Go.Proofs.Ytpcajcgafmmlkaa
