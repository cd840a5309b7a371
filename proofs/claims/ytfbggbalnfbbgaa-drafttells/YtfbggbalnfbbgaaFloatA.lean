/-
  slices.Index, slices.Contains, longestIn of package truth.
-/
import Derived.Test.YtfbggbalnfbbgaaRt
import Derived.Test.YtfbggbalnfbbgaaRuns
namespace Go.Proofs.Ytfbggbalnfbbgaa
open Go.RowKit Go.Shelf

/-- somewhere in the row it is v -/
def hasN (f : Nat → Bool) (v : Bool) (n : Nat) : Bool := (List.range n).any fun x => v == f x
theorem hasN_yes (f : Nat → Bool) (v : Bool) (n x : Nat) (h : x < n) (e : (v == f x) = true) : hasN f v n = true :=
  List.any_eq_true.2 ⟨x, by simpa using h, e⟩
theorem hasN_no (f : Nat → Bool) (v : Bool) (n : Nat) (h : ∀ x, x < n → (v == f x) = false) : hasN f v n = false := by
  cases c : hasN f v n with
  | false => rfl
  | true =>
    obtain ⟨x, hx, e⟩ := List.any_eq_true.1 c
    rw [h x (by simpa using hx)] at e
    cases e

/-- what is so in a row -/
abbrev soF (f : Nat → Bool) (v : Bool) (x : Nat) : Bool := f x == v
theorem hasN_not (f : Nat → Bool) (v : Bool) (n : Nat) : hasN f (!v) n = !allN (soF f v) n := by
  cases c : allN (soF f v) n with
  | true =>
    rw [allN_iff] at c
    refine hasN_no _ _ _ fun x hx => ?_
    have := c x hx
    unfold soF at this
    generalize f x = a at *
    cases v <;> cases a <;> first | rfl | cases this
  | false =>
    cases d : hasN f (!v) n with
    | true => rfl
    | false =>
      exfalso
      have : allN (soF f v) n = true := (allN_iff _ _).2 fun x hx => by
        unfold soF
        generalize ha : f x = a
        have h1 : ¬ ((!v) == f x) = true := fun e => by rw [hasN_yes f _ n x hx e] at d; cases d
        rw [ha] at h1
        cases v <;> cases a <;> first | rfl | exact absurd rfl h1
      rw [this] at c
      cases c
theorem lgS_at (so : Nat → Bool) (n r x : Nat) (hx : x < n) : lgS so n (r * n + x + 1) = lgStep (lgS so n (r * n + x)) (so x) := by
  show lgStep (lgS so n (r * n + x)) (so ((r * n + x) % n)) = _
  rw [Nat.mul_comm, Nat.mul_add_mod, Nat.mod_eq_of_lt hx]

theorem mx_succ (M R : Nat) : (if (M : Int) < (R : Int) + 1 then (R : Int) + 1 else (M : Int)) = ((max M (R + 1) : Nat) : Int) := by
  split <;> omega
theorem mx_zero (M : Nat) : (M : Int) = ((max M 0 : Nat) : Int) := by omega
theorem mx_nat (M R : Nat) : (if (M : Int) < (R : Int) then (R : Int) else (M : Int)) = ((max M R : Nat) : Int) := by
  split <;> omega

end Go.Proofs.Ytfbggbalnfbbgaa
