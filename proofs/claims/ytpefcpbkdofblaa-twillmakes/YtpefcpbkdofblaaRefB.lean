/-
  The reference: run, Longest.
-/
import Derived.Test.YtpefcpbkdofblaaRefA
namespace Go.Proofs.Ytpefcpbkdofblaa
open Go.RowKit Go.Shelf

theorem rnF_eq (so : Nat → Bool) (n x k : Nat) (hk : k ≤ 65) (h : ∀ i, i < k → so ((x + i) % n) = true) (he : k = 65 ∨ so ((x + k) % n) = false) : rnF so n x 65 = k := by
  have h1 := rnF_ge so n x 65 k hk h
  have h2 := rnF_le so n x 65
  rcases he with e | e
  · omega
  · refine Nat.le_antisymm (Nat.le_of_not_lt fun c => ?_) h1
    rw [rnF_run so n x 65 k c] at e
    cases e

end Go.Proofs.Ytpefcpbkdofblaa
