/-
  Product of package truth: of right truths.
-/
import Derived.Test.YtpefcpbkdofblaaProdB
namespace Go.Proofs.Ytpefcpbkdofblaa
open Go.RowKit Go.Shelf

attribute [local go_sem] Oper.semAt_some

theorem wE_right (w h n : Nat) (hw : w ≤ 64) (hh : h ≤ 64) (hn : n = w * h) : wE w h n = 0 := by
  have h1 : sd w = true := (sd_iff _).2 (by omega)
  have h2 : sd h = true := (sd_iff _).2 (by omega)
  simp [wE, h1, h2, hn]

end Go.Proofs.Ytpefcpbkdofblaa
