/-
  What movedCells of package group answers: each colour goes where the move takes its point.
-/
import Derived.Test.YtpcajcgafmmlkaaDoorGP
import Derived.Maps.AppendAt
namespace Go.Proofs.YtpcajcgafmmlkaaDoor
open Go.RowKit

/-- a row of numbers that may be written -/
def IRow (W : World) (b k : Nat) (f : Nat → Int) : Prop := b < W.heap.size ∧ ∀ j, j < k → W.cell? ⟨b, j, none⟩ = some (.int .i64 (f j)) ∧ W.frozen? ⟨b, j, none⟩ = false
theorem IRow.keep {W w1 : World} {b k : Nat} {f : Nat → Int} (h : IRow W b k f) (hb : Below W.heap.size W w1) : IRow w1 b k f :=
  ⟨Nat.lt_of_lt_of_le h.1 hb.size, fun j hj => ⟨keepC hb h.1 (h.2 j hj).1, keepF hb h.1 (h.2 j hj).2⟩⟩
def put (f : Nat → Int) (j : Nat) (v : Int) (i : Nat) : Int := if i = j then v else f i
theorem IRow.set {W : World} {b k : Nat} {f : Nat → Int} (h : IRow W b k f) (j : Nat) (v : Int) (hj : j < k) : IRow (W.setCell ⟨b, j, none⟩ (.int .i64 v)) b k (put f j v) := by
  refine ⟨by simpa using h.1, fun i hi => ?_⟩
  obtain ⟨h1, h2⟩ := h.2 i hi
  refine ⟨?_, by simp [go_sem, h2]⟩
  by_cases e : i = j
  · subst e
    rw [World.cell?_setCell_same (h := h1)]
    simp [put]
  · rw [World.cell?_setCell_other (h := fun q => e (Addr.mk.inj q).2.1.symm), h1]
    simp [put, e]
theorem IRow.row {W : World} {b k : Nat} {f : Nat → Int} (h : IRow W b k f) : Ch.Row W b 0 k f := ⟨h.1, fun j hj => by rw [Nat.zero_add]; exact (h.2 j hj).1⟩
/-- all but one block is as it was -/
theorem gtrans {a b c : World} {row : Option Nat} (h : a.grownBy b row) (k : b.grownBy c row) : a.grownBy c row := World.grownBy.trans h k
theorem gbelow {a b : World} (row : Option Nat) (h : Below a.heap.size a b) : a.grownBy b row := ⟨h.os, h.tape, h.output, h.size, fun k hk _ => h.block k hk⟩
theorem gset {a b : World} {o : Nat} (h : a.grownBy b (some o)) (j : Nat) (v : Value) : a.grownBy (b.setCell ⟨o, j, none⟩ v) (some o) :=
  gtrans h ⟨rfl, rfl, rfl, by simp, fun k _ hne => by
    have hne' : ¬ o = k := fun e => hne (by rw [e])
    simp [World.setCell, Array.getElem?_modify, hne']⟩
theorem gcell {a b : World} {row : Option Nat} {p : Addr} {v : Value} (h : a.grownBy b row) (hl : p.block < a.heap.size) (hne : some p.block ≠ row) (hc : a.cell? p = some v) : b.cell? p = some v := by
  rw [World.cell?_of_block (h.block p.block hl hne)]; exact hc
theorem Row.grown {a b : World} {row : Option Nat} {q o n : Nat} {px : Nat → Int} (h : Ch.Row a q o n px) (hg : a.grownBy b row) (hne : some q ≠ row) : Ch.Row b q o n px :=
  ⟨Nat.lt_of_lt_of_le h.1 hg.size, fun k hk => gcell hg h.1 hne (h.2 k hk)⟩
theorem OwnT.grown {a b : World} {row : Option Nat} {q : Nat} {g n : Int} {s : Option Addr} {k cap : Nat} (h : OwnT a q g n s k cap) (hg : a.grownBy b row) (hne : some q ≠ row) : OwnT b q g n s k cap :=
  ⟨Nat.lt_of_lt_of_le h.1 hg.size, gcell hg h.1 hne h.2.1, gcell hg h.1 hne h.2.2.1, gcell hg h.1 hne h.2.2.2⟩
theorem Own.grown2 {a b : World} {row : Option Nat} {q : Nat} {x y : Int} (h : Own a q x y) (hg : a.grownBy b row) (hne : some q ≠ row) : b.cell? ⟨q, 0, none⟩ = some (.int .i64 x) ∧ b.cell? ⟨q, 1, none⟩ = some (.int .i64 y) :=
  ⟨gcell hg h.1 hne h.2.1.1, gcell hg h.1 hne h.2.1.2⟩

/-- what stands where when the first i colours have gone to their places -/
def mcF (tgt : Nat → Nat) (src : Nat → Int) : Nat → Nat → Int
  | 0 => fun _ => 0
  | i + 1 => put (mcF tgt src i) (tgt i) (src i)
/-- where the i-th cell's colour goes -/
def tgtF (g : Int) (t : Nat) (f : Bool) (u v : Int) (N i : Nat) : Nat := cby N (imX g t f N i) (imY g t f N i) u v
theorem irow_made {w : World} {B b k : Nat} (tgt : Nat → Nat) (src : Nat → Int) (h : w.ownsRow B 3 1 (.slice (some ⟨b, 0, none⟩) k k) k (madeCells #[.int .i64 0] k).toList) : IRow w b k (mcF tgt src 0) :=
  ⟨(h.lt b rfl).2, fun j hj => ⟨by rw [h.cellAt j (by omega), toList_madeCells_one, List.getElem?_replicate, if_pos (by omega)]; rfl, h.frozenAt j⟩⟩

end Go.Proofs.YtpcajcgafmmlkaaDoor
