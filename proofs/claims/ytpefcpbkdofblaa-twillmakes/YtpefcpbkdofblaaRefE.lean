/-
  The reference: Product of right truths.
-/
import Derived.Test.YtpefcpbkdofblaaRefD
namespace Go.Proofs.Ytpefcpbkdofblaa
open Go.RowKit Go.Shelf

/-- whether there is a k below so many -/
def prB (f g : Nat → Bool) (wa wb y x k : Nat) : Bool := (List.range k).any fun k' => f (y * wa + k') && g (k' * wb + x)
theorem prB_succ (f g : Nat → Bool) (wa wb y x k : Nat) : prB f g wa wb y x (k + 1) = (prB f g wa wb y x k || (f (y * wa + k) && g (k * wb + x))) := by
  simp [prB, List.range_succ]
theorem prF_at (f g : Nat → Bool) (wa wb y x : Nat) (hx : x < wb) : prF f g wa wb (y * wb + x) = prB f g wa wb y x wa := by
  unfold prF prB
  rw [dm_div _ _ _ hx, dm_mod _ _ _ hx]

end Go.Proofs.Ytpefcpbkdofblaa
