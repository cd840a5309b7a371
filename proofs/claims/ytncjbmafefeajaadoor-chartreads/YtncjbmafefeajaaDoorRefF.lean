/-
  The rows of the reference's Read: the words that both grids share.
-/
import Derived.Test.YtncjbmafefeajaaDoorRefE
import Derived.Maps.AppendAt
namespace Go.Proofs.YtncjbmafefeajaaDoor
open Go.RowKit

/-- what the reference's Read answers of a text whose first line is right -/
def RPost (s : ByteArray) (W : World) (g : Int) (e : Ending) (w' : World) : Prop :=
  ((∃ er at' : Int, RowsFail s 4 er at' ∧ e = .returned (.tuple #[ch 0 0 0 none 0 0, .agg #[.int .i64 er, .int .i64 at']])) ∨
   (∃ (rows : List (List Int)) (q : Option Addr) (cap : Nat), RowsGood s 4 rows ∧ e = .returned (.tuple #[ch g (headLen rows) rows.length q (lowCells rows rows.length).length cap, .agg #[.int .i64 0, .int .i64 0]]) ∧ w'.ownsRow W.heap.size 3 1 (.slice q (lowCells rows rows.length).length cap) (lowCells rows rows.length).length (intsV (lowCells rows rows.length)))) ∧ Below W.heap.size W w'
theorem RPost.fail {s : ByteArray} {W w' : World} {g er at' : Int} (h : RowsFail s 4 er at') (hb : Below W.heap.size W w') : RPost s W g (.returned (.tuple #[ch 0 0 0 none 0 0, .agg #[.int .i64 er, .int .i64 at']])) w' :=
  ⟨Or.inl ⟨er, at', h, rfl⟩, hb⟩
def RReads (s : ByteArray) (W : World) (g : Int) : Prop := Calls Tryd.prog 9 #[.string s] W (RPost s W g)
theorem gtrans {a b c : World} {row : Option Nat} (h : a.grownBy b row) (k : b.grownBy c row) : a.grownBy c row := World.grownBy.trans h k
theorem gbelow {a b : World} (row : Option Nat) (h : Below a.heap.size a b) : a.grownBy b row := ⟨h.os, h.tape, h.output, h.size, fun k hk _ => h.block k hk⟩
theorem gset {a b : World} {o : Nat} (h : a.grownBy b (some o)) (j : Nat) (v : Value) : a.grownBy (b.setCell ⟨o, j, none⟩ v) (some o) :=
  gtrans h ⟨rfl, rfl, rfl, by simp, fun k _ hne => by
    have hne' : ¬ o = k := fun e => hne (by rw [e])
    simp [World.setCell, Array.getElem?_modify, hne']⟩
theorem gcell {a b : World} {row : Option Nat} {p : Addr} {v : Value} (h : a.grownBy b row) (hl : p.block < a.heap.size) (hne : some p.block ≠ row) (hc : a.cell? p = some v) : b.cell? p = some v := by
  rw [World.cell?_of_block (h.block p.block hl hne)]; exact hc
theorem gfroz {a b : World} {row : Option Nat} {p : Addr} {v : Bool} (h : a.grownBy b row) (hl : p.block < a.heap.size) (hne : some p.block ≠ row) (hc : a.frozen? p = v) : b.frozen? p = v := by
  rw [World.frozen?_of_block (h.block p.block hl hne)]; exact hc
/-- what is new may grow -/
theorem gmore {a b c : World} {o : Nat} {row : Option Nat} (h : a.grownBy b (some o)) (k : b.grownBy c row) (hr : ∀ j, row = some j → a.heap.size ≤ j) : a.grownBy c (some o) := by
  refine ⟨by rw [k.os, h.os], by rw [k.tape, h.tape], by rw [k.output, h.output], by have := h.size; have := k.size; omega, ?_⟩
  intro i hi hne
  have hs := h.size
  rw [k.block i (by omega) (fun e => by have := hr i e.symm; omega)]
  exact h.block i hi hne
theorem OwnD.grown {a b : World} {row : Option Nat} {c : Nat} {g w h : Int} {p : Option Addr} {n cap : Nat} (k : OwnD a c g w h p n cap) (hg : a.grownBy b row) (hne : some c ≠ row) : OwnD b c g w h p n cap := by
  obtain ⟨⟨h0, h1, h2, h3, h4⟩, f1, f2, f3, f4⟩ := k
  exact ⟨⟨Nat.lt_of_lt_of_le h0 hg.size, gcell hg h0 hne h1, gcell hg h0 hne h2, gcell hg h0 hne h3, gcell hg h0 hne h4⟩, gfroz hg h0 hne f1, gfroz hg h0 hne f2, gfroz hg h0 hne f3, gfroz hg h0 hne f4⟩
theorem OwnW.grown {a b : World} {row : Option Nat} {c : Nat} {x y : Int} (k : OwnW a c x y) (hg : a.grownBy b row) (hne : some c ≠ row) : OwnW b c x y := by
  obtain ⟨h0, ⟨h1, h2⟩, f1, f2⟩ := k
  exact ⟨Nat.lt_of_lt_of_le h0 hg.size, ⟨gcell hg h0 hne h1, gcell hg h0 hne h2⟩, gfroz hg h0 hne f1, gfroz hg h0 hne f2⟩
/-- a chart's box with its sides set -/
theorem OwnD.set12 {W : World} {b : Nat} {g w h : Int} {p : Option Addr} {n cap : Nat} (k : OwnD W b g w h p n cap) (w' h' : Int) : OwnD ((W.setCell ⟨b, 1, none⟩ (.int .i64 w')).setCell ⟨b, 2, none⟩ (.int .i64 h')) b g w' h' p n cap := by
  obtain ⟨⟨h0, h1, h2, h3, h4⟩, f1, f2, f3, f4⟩ := k
  refine ⟨⟨by simpa using h0, ?_, ?_, ?_, ?_⟩, ?_, ?_, ?_, ?_⟩
  all_goals simp [go_sem, h1, h2, h3, h4, f1, f2, f3, f4]
theorem lf_none {s : ByteArray} {p : Nat} (h : lf s p = true) : signAt s p = none := (sign_lf s p _ (lf_sound s p h)).1
theorem rows_head {W : World} {B g k cap : Nat} {rows : List (List Int)} {vs : List Value} (hown : W.ownsRow B 25 1 (.slice (some ⟨g, 0, none⟩) k cap) k vs) (hrows : RowsAt W B vs rows) (hk : k = rows.length) (hne : rows ≠ []) : ∃ q0 c0, W.cell? ⟨g, 0, none⟩ = some (.slice q0 (headLen rows) c0) := by
  rcases rows with _ | ⟨r, rs⟩
  · exact absurd rfl hne
  · simp at hk
    rcases vs with _ | ⟨v0, vs'⟩
    · have := hrows.1; simp at this
    · have hv0 := hrows.2 0 v0 r rfl rfl
      obtain ⟨q0, c0, rfl⟩ := own_form hv0
      exact ⟨q0, c0, by rw [hown.cellAt 0 (by omega)]; rfl⟩
end Go.Proofs.YtncjbmafefeajaaDoor
