/-
  How a chart (a struct with a slice in it), a move and a point are read out of what a row gives.
-/
import Derived.Test.YtpcajcgafmmlkaaGL
import Derived.ProofKit
import Derived.OpenShut
import Derived.ChangeSlices
import Derived.Carry
import Derived.LaidMore
import Derived.Deep.DeepHandedRow
import Derived.Lib.SmallJoins
namespace Go.Proofs.Ytpcajcgafmmlkaa
open Go.ChangeShapes Go.WideShapes Go.ChangeAt Go.RowKit Go.Joins Go.Deep

theorem own : ownKnob Try.prog.godebug = none := by kernel_rfl
theorem laidOut : laidOutB Try.prog = true := by kernel_rfl
theorem cells24 : Try.prog.cellsOf 24 = 4 := by kernel_rfl
theorem cells33 : Try.prog.cellsOf 36 = 2 := by kernel_rfl
theorem cells45 : Try.prog.cellsOf 38 = 4 := by kernel_rfl
theorem cells3 : Try.prog.cellsOf 3 = 1 := by kernel_rfl
theorem cells4 : Try.prog.cellsOf 4 = 1 := by kernel_rfl
theorem cells22 : Try.prog.cellsOf 22 = 1 := by kernel_rfl
theorem read24 : Try.prog.readableRec 24 = true := by kernel_rfl
theorem read33 : Try.prog.readableRec 36 = true := by kernel_rfl
theorem read45 : Try.prog.readableRec 38 = true := by kernel_rfl
theorem read3 : Try.prog.readableRec 3 = true := by kernel_rfl
theorem in24 : 24 < Try.prog.types.size := of_decide_eq_true (by kernel_rfl)
theorem in33 : 36 < Try.prog.types.size := of_decide_eq_true (by kernel_rfl)
theorem in45 : 38 < Try.prog.types.size := of_decide_eq_true (by kernel_rfl)
theorem in3 : 3 < Try.prog.types.size := of_decide_eq_true (by kernel_rfl)

set_option maxRecDepth 100000 in
theorem chart_open {H : Type} {enc : TypeId × Value → H} {W : World} {base : Nat} {sp : Nat → Bool} {hd : Bool} {r : Reach} {b0 : Nat} {v : Value} {d : DataW H} {p : List MemPlace} (hv : Value.okWide Try.prog W r b0 24 v) (h : DataW.Trod enc Try.prog W base sp hd 24 v d p) :
    ∃ (g w h : Int) (q : Option Addr) (n cap : Nat) (px : Nat → Int), v = Ch.ch g w h q n cap ∧ Ch.Cells W q n px := by
  obtain ⟨cs, rfl, hsz⟩ := okWide_struct Try.underlying24 hv
  obtain ⟨c0, c1, c2, c3, rfl⟩ := array4 (hsz.trans cells24)
  obtain ⟨fuel, hf⟩ := h
  obtain ⟨y0, y1, y2, y3, n, hx, _, h0, h1, h2, h3⟩ := trod_struct4 Try.underlying24 hf
  simp only [Value.cells, cells3, cells22, List.drop, List.take] at h0 h1 h2 h3
  obtain ⟨g, e0, rfl, wg⟩ := DataW.trod_int Try.underlying3 h0
  obtain ⟨w, e1, rfl, ww⟩ := DataW.trod_int Try.underlying3 h1
  obtain ⟨hh, e2, rfl, wh⟩ := DataW.trod_int Try.underlying3 h2
  simp at e0 e1 e2
  subst e0 e1 e2
  rcases open_ints Try.underlying22 Try.underlying3 cells3 h3 with ⟨e3, _⟩ | ⟨a, len, cap, zs, e3, _, hl, hm, hzl, _, hcell, _⟩
  · simp at e3
    subst e3
    exact ⟨g, w, hh, _, 0, 0, fun _ => 0, rfl, Or.inl rfl⟩
  · simp at e3
    subst e3
    refine ⟨g, w, hh, _, len, cap, fun k => zs.getD k 0, rfl, ?_⟩
    by_cases hz : len = 0
    · exact Or.inl hz
    · have hlen : len ≤ zs.length := by rw [hzl]; split <;> omega
      have hc0 := hcell 0 (by omega)
      have hsp := World.cell?_spot hc0
      obtain ⟨b, o, s⟩ := a
      simp [Addr.add] at hsp
      subst hsp
      refine Or.inr ⟨b, o, rfl, World.block_lt_of_cell? W _ hc0, fun k hk => ?_⟩
      have := hcell k (by omega)
      by_cases hk0 : k = 0
      · subst hk0
        simpa [Addr.add] using this
      · simpa [Addr.add, hk0] using this
set_option maxRecDepth 100000 in
theorem point_open {H : Type} {enc : TypeId × Value → H} {W : World} {base : Nat} {sp : Nat → Bool} {hd : Bool} {r : Reach} {b0 : Nat} {v : Value} {d : DataW H} {p : List MemPlace} (hv : Value.okWide Try.prog W r b0 36 v) (h : DataW.Trod enc Try.prog W base sp hd 36 v d p) :
    ∃ x y : Int, v = .agg #[.int .i64 x, .int .i64 y] := by
  obtain ⟨v0, v1, y0, y1, n, rfl, rfl, rfl, h0, h1⟩ := open_agg2 Try.underlying36 (by kernel_rfl) cells33 hv h
  obtain ⟨x, e0, -, wx⟩ := DataW.trod_int Try.underlying3 h0
  obtain ⟨y, e1, -, wy⟩ := DataW.trod_int Try.underlying3 h1
  simp at e0 e1
  subst e0 e1
  exact ⟨x, y, rfl⟩
set_option maxRecDepth 100000 in
theorem move_open {H : Type} {enc : TypeId × Value → H} {W : World} {base : Nat} {sp : Nat → Bool} {hd : Bool} {r : Reach} {b0 : Nat} {v : Value} {d : DataW H} {p : List MemPlace} (hv : Value.okWide Try.prog W r b0 38 v) (h : DataW.Trod enc Try.prog W base sp hd 38 v d p) :
    ∃ (t : Int) (f : Bool) (x y : Int), v = .agg #[.int .i64 t, .bool f, .int .i64 x, .int .i64 y] := by
  obtain ⟨cs, rfl, hsz⟩ := okWide_struct Try.underlying38 hv
  obtain ⟨c0, c1, c2, c3, rfl⟩ := array4 (hsz.trans cells45)
  obtain ⟨fuel, hf⟩ := h
  obtain ⟨y0, y1, y2, n, hx, _, h0, h1, h2⟩ := trod_struct3 Try.underlying38 hf
  simp only [Value.cells, cells3, cells4, cells33, List.drop, List.take] at h0 h1 h2
  obtain ⟨z0, z1, m, hy, _, k0, k1⟩ := trod_struct2 Try.underlying36 h2
  simp only [cells3, List.drop, List.take] at k0 k1
  obtain ⟨t, e0, rfl, wt⟩ := DataW.trod_int Try.underlying3 h0
  obtain ⟨f, e1, rfl⟩ := DataW.trod_bool Try.underlying4 h1
  obtain ⟨x, e2, rfl, wx⟩ := DataW.trod_int Try.underlying3 k0
  obtain ⟨y, e3, rfl, wy⟩ := DataW.trod_int Try.underlying3 k1
  simp at e0 e1 e2 e3
  subst e0 e1 e2 e3
  exact ⟨t, f, x, y, rfl⟩
end Go.Proofs.Ytpcajcgafmmlkaa
