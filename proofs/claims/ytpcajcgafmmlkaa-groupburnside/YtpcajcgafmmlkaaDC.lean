/-
  domain of package group: a row of marks, and the list that the sweep makes.
-/
import Derived.Test.YtpcajcgafmmlkaaDB
import Derived.Test.YtpcajcgafmmlkaaGQ
namespace Go.Proofs.Ytpcajcgafmmlkaa
open Go.RowKit

theorem info4 : (Try.prog.info? 4).map (fun i => (i.zero, i.size, i.bytes)) = some (some (.bool false), 1, 1) := by kernel_rfl
/-- a row of marks that may be written -/
def BRow (W : World) (b k : Nat) (f : Nat → Bool) : Prop := b < W.heap.size ∧ ∀ j, j < k → W.cell? ⟨b, j, none⟩ = some (.bool (f j)) ∧ W.frozen? ⟨b, j, none⟩ = false
theorem BRow.keep {W w1 : World} {b k : Nat} {f : Nat → Bool} (h : BRow W b k f) (hb : Below W.heap.size W w1) : BRow w1 b k f :=
  ⟨Nat.lt_of_lt_of_le h.1 hb.size, fun j hj => ⟨keepC hb h.1 (h.2 j hj).1, keepF hb h.1 (h.2 j hj).2⟩⟩
theorem BRow.set {W : World} {b k : Nat} {f : Nat → Bool} (h : BRow W b k f) (j : Nat) : BRow (W.setCell ⟨b, j, none⟩ (.bool true)) b k (fun i => f i || j == i) := by
  refine ⟨by simpa using h.1, fun i hi => ?_⟩
  obtain ⟨h1, h2⟩ := h.2 i hi
  refine ⟨?_, by simpa [go_sem] using h2⟩
  by_cases e : j = i
  · subst e
    simp [go_sem, h1]
  · simp [go_sem, h1, e]
theorem brow_made {w : World} {B b k : Nat} (h : w.ownsRow B 4 1 (.slice (some ⟨b, 0, none⟩) k k) k (madeCells #[.bool false] k).toList) : BRow w b k (fun _ => false) :=
  ⟨(h.lt b rfl).2, fun j hj => ⟨by rw [h.cellAt j (by omega), toList_madeCells_one, List.getElem?_replicate, if_pos (by omega)], h.frozenAt j⟩⟩

/-- the cells that the sweep tells, as points -/
def dO (I : Mv → Nat → Nat) (L : List Mv) (N M : Nat) : List (Int × Int) := ((List.range M).filter fun t => !dR I L t t).map fun j => (((j % N : Nat) : Int), ((j / N : Nat) : Int))
theorem dO_domL {I : Mv → Nat → Nat} {L : List Mv} {N M : Nat} (h : Acts I L M) : dO I L N M = domL I L N M := by
  unfold dO domL
  congr 1
  refine List.filter_congr (fun t ht => ?_)
  have := told_iff h t (List.mem_range.1 ht)
  rw [Bool.eq_iff_iff, ← this]
  simp
theorem dO_succ (I : Mv → Nat → Nat) (L : List Mv) (N M : Nat) : dO I L N (M + 1) = dO I L N M ++ (if dR I L M M = true then [] else [(((M % N : Nat) : Int), ((M / N : Nat) : Int))]) := by
  unfold dO
  rw [List.range_succ, List.filter_append, List.map_append]
  congr 1
  by_cases h : dR I L M M = true <;> simp [h]
end Go.Proofs.Ytpcajcgafmmlkaa
