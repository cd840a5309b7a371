/-
  Domain of the reference.
-/
import Derived.Test.YtpcajcgafmmlkaaFA
import Derived.Test.YtpcajcgafmmlkaaGS
namespace Go.Proofs.Ytpcajcgafmmlkaa
open Go.RowKit

def zC (z : Int × Int) : List Value := [.int .i64 z.1, .int .i64 z.2]
def zsV (l : List (Int × Int)) : List Value := l.flatMap zC
theorem zsV_snoc (l : List (Int × Int)) (m : Int × Int) : zsV (l ++ [m]) = zsV l ++ zC m := by simp [zsV]
theorem zsV_get (L : List (Int × Int)) (j : Nat) (m : Int × Int) (h : L[j]? = some m) (o : Nat) (ho : o < 2) : (zsV L)[j * 2 + o]? = (zC m)[o]? := by
  induction L generalizing j with
  | nil => simp at h
  | cons a L ih =>
    have e : zsV (a :: L) = zC a ++ zsV L := by simp [zsV]
    have hl : (zC a).length = 2 := rfl
    cases j with
    | zero =>
      simp at h
      subst h
      rw [e, List.getElem?_append_left (by rw [hl]; omega), Nat.zero_mul, Nat.zero_add]
    | succ j =>
      simp at h
      rw [e, List.getElem?_append_right (by rw [hl]; omega), hl, show (j + 1) * 2 + o - 2 = j * 2 + o by omega]
      exact ih j h
theorem zrow_own {W : World} {B b cap : Nat} {L : List (Int × Int)} (h : W.ownsRow B 36 2 (.slice (some ⟨b, 0, none⟩) L.length cap) L.length (zsV L)) : ZRow W b L := by
  refine ⟨(h.lt b rfl).2, fun j m hj => ?_⟩
  have hl : j < L.length := (List.getElem?_eq_some_iff.1 hj).1
  refine ⟨?_, ?_⟩
  · rw [h.cellAt (j * 2) (by omega)]; exact zsV_get L j m hj 0 (by omega)
  · rw [h.cellAt (j * 2 + 1) (by omega)]; exact zsV_get L j m hj 1 (by omega)

/-- the cell to which a move takes a cell, on the torus -/
def imgC (g : Int) (N : Nat) (m : Mv) (j : Nat) : Nat := tgtR g m.1 m.2.1 m.2.2.1 m.2.2.2 N j
/-- the cells that no move takes to one ahead of them -/
def domB (I : Mv → Nat → Nat) (L : List Mv) (j : Nat) : Bool := L.all fun m => decide (j ≤ I m j)
def domL (I : Mv → Nat → Nat) (L : List Mv) (N M : Nat) : List (Int × Int) := ((List.range M).filter (domB I L)).map fun j => (((j % N : Nat) : Int), ((j / N : Nat) : Int))
theorem domL_succ (I : Mv → Nat → Nat) (L : List Mv) (N M : Nat) : domL I L N (M + 1) = domL I L N M ++ (if domB I L M = true then [(((M % N : Nat) : Int), ((M / N : Nat) : Int))] else []) := by
  unfold domL
  rw [List.range_succ, List.filter_append, List.map_append]
  congr 1
  by_cases h : domB I L M = true <;> simp [h]
theorem domL_len (I : Mv → Nat → Nat) (L : List Mv) (N M : Nat) : (domL I L N M).length ≤ M := by
  unfold domL
  rw [List.length_map]
  exact Nat.le_trans (List.length_filter_le _ _) (by simp)
theorem domB_take (I : Mv → Nat → Nat) (L : List Mv) (j k : Nat) (m : Mv) (h : L[k]? = some m) : domB I (L.take (k + 1)) j = (domB I (L.take k) j && decide (j ≤ I m j)) := by
  unfold domB
  rw [List.take_add_one, h]
  simp

end Go.Proofs.Ytpcajcgafmmlkaa
