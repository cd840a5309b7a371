/-
  join and Product of package truth.
-/
import Derived.Test.YtpefcpbkdofblaaTurnB
namespace Go.Proofs.Ytpefcpbkdofblaa
open Go.RowKit Go.Shelf

/-- what holds in one row is made hold in another one -/
def joF (G f : Nat → Bool) (oo x j : Nat) : Bool := if oo ≤ j ∧ j < oo + x then G j || f (j - oo) else G j
theorem joF_zero (G f : Nat → Bool) (oo : Nat) : joF G f oo 0 = G := by
  funext j; unfold joF; rw [if_neg (by omega)]
theorem joF_at (G f : Nat → Bool) (oo x : Nat) : joF G f oo x (oo + x) = G (oo + x) := by
  unfold joF; rw [if_neg (by omega)]
theorem joF_succ (G f : Nat → Bool) (oo x : Nat) : (fun j => if j = oo + x then (G (oo + x) || f x) else joF G f oo x j) = joF G f oo (x + 1) := by
  funext j
  by_cases e : j = oo + x
  · subst e
    rw [if_pos rfl]
    unfold joF
    rw [if_pos (by omega), Nat.add_sub_cancel_left]
  · rw [if_neg e]
    unfold joF
    congr 1
    apply propext
    omega

/-- the product of truths -/
def prF (a b : Nat → Bool) (wa wb : Nat) (j : Nat) : Bool := (List.range wa).any fun k => a (j / wb * wa + k) && b (k * wb + j % wb)
def prG (a b : Nat → Bool) (wa wb h : Nat) (l : List (Fin h)) (j : Nat) : Bool := (l.map (·.1)).contains (j / wb) && prF a b wa wb j
def prH (a b : Nat → Bool) (wa wb h : Nat) (l : List (Fin h)) (y k : Nat) (j : Nat) : Bool := prG a b wa wb h l j || (j / wb == y && (List.range k).any fun k' => a (y * wa + k') && b (k' * wb + j % wb))
theorem prH_zero (a b : Nat → Bool) (wa wb h : Nat) (l : List (Fin h)) (y : Nat) : prH a b wa wb h l y 0 = prG a b wa wb h l := by
  funext j; simp [prH]
theorem prH_full (a b : Nat → Bool) (wa wb h : Nat) (l : List (Fin h)) (y : Fin h) : prH a b wa wb h l y.1 wa = prG a b wa wb h (l ++ [y]) := by
  funext j
  unfold prH prG
  rw [List.map_append, List.contains_eq_any_beq, List.contains_eq_any_beq, List.any_append]
  have e0 : ((j / wb == y.1 && (List.range wa).any fun k' => a (y.1 * wa + k') && b (k' * wb + j % wb)) : Bool) = (j / wb == y.1 && prF a b wa wb j) := by
    by_cases e : j / wb = y.1
    · unfold prF; rw [← e]
    · have : (j / wb == y.1) = false := by simp [e]
      rw [this]; rfl
  rw [e0]
  simp only [List.map_cons, List.map_nil, List.any_cons, List.any_nil, Bool.or_false]
  generalize (List.map (fun x : Fin h => x.1) l).any (fun x => j / wb == x) = X
  generalize prF a b wa wb j = Y
  generalize (j / wb == y.1) = Z
  cases X <;> cases Y <;> cases Z <;> rfl
theorem prH_no (a b : Nat → Bool) (wa wb h : Nat) (l : List (Fin h)) (y k : Nat) (hk : a (y * wa + k) = false) : prH a b wa wb h l y (k + 1) = prH a b wa wb h l y k := by
  funext j
  unfold prH
  rw [List.range_succ, List.any_append]
  simp [hk]
theorem prH_yes (a b : Nat → Bool) (wa wb h : Nat) (l : List (Fin h)) (y k : Nat) (hk : a (y * wa + k) = true) (j : Nat) (hwb : 0 < wb) : joF (prH a b wa wb h l y k) (fun x => b (k * wb + x)) (y * wb) wb j = prH a b wa wb h l y (k + 1) j := by
  have e : (y * wb ≤ j ∧ j < y * wb + wb) ↔ j / wb = y := by
    have h1 := Nat.div_add_mod j wb
    have h2 := Nat.mod_lt j hwb
    rw [Nat.mul_comm] at h1
    constructor
    · rintro ⟨h3, h4⟩
      rw [Nat.div_eq_iff hwb]
      omega
    · rintro rfl
      omega
  unfold joF
  by_cases c : j / wb = y
  · rw [if_pos (e.2 c)]
    have hm : j - y * wb = j % wb := by
      have h1 := Nat.div_add_mod j wb
      rw [c, Nat.mul_comm] at h1
      omega
    rw [hm]
    unfold prH
    rw [List.range_succ, List.any_append]
    simp [hk, c, Bool.or_assoc]
  · rw [if_neg (fun q => c (e.1 q))]
    have c' : (j / wb == y) = false := by simp [c]
    unfold prH
    rw [c']
    rfl
end Go.Proofs.Ytpefcpbkdofblaa
