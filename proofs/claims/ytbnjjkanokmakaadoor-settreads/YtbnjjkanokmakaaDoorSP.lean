/-
  What a sett is written as.
-/
import Derived.Test.YtbnjjkanokmakaaDoorSM
import Derived.Test.YtbnjjkanokmakaaDoorSL
import Derived.Test.YtbnjjkanokmakaaDoorShelf
namespace Go.Proofs.YtbnjjkanokmakaaDoor
open Go.RowKit

/-- what a stripe is written as -/
def stB (x : St) : List UInt8 := sb x.1 ++ Lib.itoa x.2
/-- stripes, with a space between two -/
def prL (l : List St) : List UInt8 := Lib.join (l.map stB) [32]
/-- a sett -/
def prB (pv : Bool) (l : List St) : List UInt8 := if pv = true then 47 :: (prL l ++ [47]) else prL l
def sbA (x : St) : ByteArray := ⟨(stB x).toArray⟩
theorem sb_len (c : Int) : (sb c).length ≤ 4 := by
  unfold sb Lib.encodeRune Lib.encodeRuneZ
  repeat' split
  all_goals simp
theorem nd_le (u : Nat) : Lib.nDigits u ≤ u + 1 := by
  induction u using Nat.strongRecOn with
  | ind u ih =>
    by_cases h : u < 10
    · rw [Lib.nDigits_small h]; omega
    · rw [Lib.nDigits_big h]
      have := ih (u / 10) (by omega)
      omega
theorem itoa_len (k : Int) (h : 0 ≤ k) : (Lib.itoa k).length ≤ k.toNat + 1 := by
  unfold Lib.itoa
  rw [if_neg (by omega), Lib.decDigits_length]
  exact nd_le _
theorem stB_len (x : St) (h : 1 ≤ x.2 ∧ x.2 ≤ 4096) : (stB x).length ≤ 4101 := by
  unfold stB
  rw [List.length_append]
  have := sb_len x.1
  have := itoa_len x.2 (by omega)
  omega
theorem join_cons (a b : List UInt8) (r : List (List UInt8)) (s : List UInt8) : Lib.join (a :: b :: r) s = a ++ s ++ Lib.join (b :: r) s := by
  simp [Lib.join, List.intercalate]
theorem prL_one (x : St) : prL [x] = stB x := by simp [prL, Lib.join, List.intercalate]
theorem prL_cons (x y : St) (r : List St) : prL (x :: y :: r) = stB x ++ 32 :: prL (y :: r) := by
  unfold prL
  rw [List.map_cons, List.map_cons, join_cons]
  simp
theorem prL_len (l : List St) (h : ∀ x ∈ l, 1 ≤ x.2 ∧ x.2 ≤ 4096) : (prL l).length ≤ 4102 * l.length := by
  induction l with
  | nil => simp [prL, Lib.join, List.intercalate]
  | cons x r ih =>
    cases r with
    | nil => rw [prL_one]; have := stB_len x (h x (by simp)); simp; omega
    | cons y r =>
      rw [prL_cons, List.length_append, List.length_cons]
      have := stB_len x (h x (by simp))
      have := ih (fun z hz => h z (by simp [hz]))
      simp at this ⊢
      omega
/-- the text so far, each stripe behind a space -/
def sqL (l : List St) : List UInt8 := (l.map fun x => 32 :: stB x).flatten
theorem sqL_snoc (l : List St) (x : St) : sqL (l ++ [x]) = sqL l ++ 32 :: stB x := by simp [sqL]
theorem sqL_prL (l : List St) (h : l ≠ []) : sqL l = 32 :: prL l := by
  induction l with
  | nil => exact absurd rfl h
  | cons x r ih =>
    cases r with
    | nil => simp [sqL, prL_one]
    | cons y r =>
      rw [prL_cons]
      have e : sqL (x :: y :: r) = 32 :: stB x ++ sqL (y :: r) := by simp [sqL]
      rw [e, ih (by simp)]
      simp
theorem sqL_len (l : List St) (h : ∀ x ∈ l, 1 ≤ x.2 ∧ x.2 ≤ 4096) : (sqL l).length ≤ 4102 * l.length := by
  induction l with
  | nil => simp [sqL]
  | cons x r ih =>
    have e : sqL (x :: r) = 32 :: stB x ++ sqL r := by simp [sqL]
    rw [e, List.length_append, List.length_cons]
    have := stB_len x (h x (by simp))
    have := ih (fun z hz => h z (by simp [hz]))
    simp
    omega
end Go.Proofs.YtbnjjkanokmakaaDoor
