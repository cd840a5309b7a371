/-
  slices.Equal, slices.IndexFunc and the function that Alike hands it.
-/
import Derived.Test.YtpefcpbkdofblaaProdC
namespace Go.Proofs.Ytpefcpbkdofblaa
open Go.RowKit Go.Shelf

/-- two rows are alike -/
def eqN (f g : Nat → Bool) (n : Nat) : Bool := (List.range n).all fun x => f x == g x
theorem eqN_succ (f g : Nat → Bool) (n : Nat) : eqN f g (n + 1) = (eqN f g n && f n == g n) := by simp [eqN, List.range_succ]
theorem eqN_false (f g : Nat → Bool) (n x : Nat) (h : x < n) (e : (f x == g x) = false) : eqN f g n = false := by
  unfold eqN
  rw [List.all_eq_false]
  exact ⟨x, by simpa using h, by simp [e]⟩

/-- the first place at which something holds, or -1 -/
def ixI (U : List Nat) (P : Nat → Bool) : Int := if U.any P then ((U.findIdx P : Nat) : Int) else -1
theorem ixI_yes (U : List Nat) (P : Nat → Bool) (i : Nat) (hi : i < U.length) (h : P U[i] = true) (hb : ∀ j (hj : j < i), P U[j] = false) : ixI U P = i := by
  have : U.any P = true := List.any_eq_true.2 ⟨U[i], List.getElem_mem hi, h⟩
  rw [ixI, if_pos this, (List.findIdx_eq hi).2 ⟨h, hb⟩]
theorem ixI_no (U : List Nat) (P : Nat → Bool) (hb : ∀ j (hj : j < U.length), P U[j] = false) : ixI U P = -1 := by
  have : ¬ U.any P = true := by
    rw [List.any_eq_true]
    rintro ⟨x, hx, e⟩
    obtain ⟨j, hj, rfl⟩ := List.getElem_of_mem hx
    rw [hb j hj] at e
    cases e
  rw [ixI, if_neg this]

end Go.Proofs.Ytpefcpbkdofblaa
