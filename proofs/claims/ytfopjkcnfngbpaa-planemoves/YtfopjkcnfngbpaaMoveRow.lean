/-
  How a move (a struct with a point in it) is read out of an argument, and read again: for the rows of PlaneGroup and PlaneMoves.
-/
import Derived.Test.YtfopjkcnfngbpaaRingProof
namespace Go.Proofs.Ytfopjkcnfngbpaa
open Go.ChangeShapes Go.WideShapes Go.ChangeAt Go.RowKit Go.Joins Go.Deep

theorem cells31 : Try.prog.cellsOf 31 = 4 := by kernel_rfl
theorem cells3 : Try.prog.cellsOf 3 = 1 := by kernel_rfl
theorem cells4 : Try.prog.cellsOf 4 = 1 := by kernel_rfl

theorem move_open {H : Type} {enc : TypeId × Value → H} {W : World} {base : Nat} {sp : Nat → Bool} {hd : Bool} {r : Reach} {b0 : Nat} {v : Value} {d : DataW H} {p : List MemPlace} (hv : Value.okWide Try.prog W r b0 31 v) (h : DataW.Trod enc Try.prog W base sp hd 31 v d p) :
    ∃ (t : Int) (f : Bool) (x y : Int), v = .agg #[.int .i64 t, .bool f, .int .i64 x, .int .i64 y] ∧ d = .agg [.lit (.int .i64 t), .lit (.bool f), .agg [.lit (.int .i64 x), .lit (.int .i64 y)]] ∧ p = [] ∧ (Lit.int .i64 t).wf = true ∧ (Lit.int .i64 x).wf = true ∧ (Lit.int .i64 y).wf = true := by
  obtain ⟨cs, rfl, hsz⟩ := okWide_struct Try.underlying31 hv
  obtain ⟨c0, c1, c2, c3, rfl⟩ := array4 (hsz.trans cells31)
  obtain ⟨fuel, hf⟩ := h
  obtain ⟨y0, y1, y2, n, hx, _, h0, h1, h2⟩ := trod_struct3 Try.underlying31 hf
  simp only [Value.cells, cells3, cells4, cells23, List.drop, List.take] at h0 h1 h2
  obtain ⟨z0, z1, m, hy, _, k0, k1⟩ := trod_struct2 Try.underlying23 h2
  simp only [cells3, List.drop, List.take] at k0 k1
  obtain ⟨t, e0, rfl, wt⟩ := DataW.trod_int Try.underlying3 h0
  obtain ⟨f, e1, rfl⟩ := DataW.trod_bool Try.underlying4 h1
  obtain ⟨x, e2, rfl, wx⟩ := DataW.trod_int Try.underlying3 k0
  obtain ⟨y, e3, rfl, wy⟩ := DataW.trod_int Try.underlying3 k1
  simp only [Prod.mk.injEq] at hx hy
  subst hy
  simp at e0 e1 e2 e3
  subst e0 e1 e2 e3
  exact ⟨t, f, x, y, rfl, hx.1, by simpa using hx.2, wt, wx, wy⟩

theorem move_shut {H : Type} {enc : TypeId × Value → H} {W : World} {sp : Nat → Bool} {t : Int} {f : Bool} {x y : Int} (wt : (Lit.int .i64 t).wf = true) (wx : (Lit.int .i64 x).wf = true) (wy : (Lit.int .i64 y).wf = true) :
    DataW.Trod enc Try.prog W 0 sp true 31 (.agg #[.int .i64 t, .bool f, .int .i64 x, .int .i64 y]) (.agg [.lit (.int .i64 t), .lit (.bool f), .agg [.lit (.int .i64 x), .lit (.int .i64 y)]]) [] := by
  have k := trod_struct2_mk (enc := enc) (P := Try.prog) (w := W) (base := 0) (spare := sp) (held := true) (n := 1) (cs := [.int .i64 x, .int .i64 y]) (y0 := (.lit (.int .i64 x), [])) (y1 := (.lit (.int .i64 y), [])) Try.underlying23 (by simp [cells23])
    (by simp [DataW.trod, Try.underlying3, cells3, wx]) (by simp [DataW.trod, Try.underlying3, cells3, wy])
  have m := trod_struct3_mk (enc := enc) (P := Try.prog) (w := W) (base := 0) (spare := sp) (held := true) (n := 2) (cs := [.int .i64 t, .bool f, .int .i64 x, .int .i64 y]) (y0 := (.lit (.int .i64 t), [])) (y1 := (.lit (.bool f), [])) (y2 := (.agg [.lit (.int .i64 x), .lit (.int .i64 y)], [])) Try.underlying31 (by simp [cells31])
    (by simp [DataW.trod, Try.underlying3, cells3, wt]) (by simp [DataW.trod, Try.underlying4, cells4]) (by simpa [cells23] using k)
  exact ⟨_, by simpa [Value.cells] using m⟩

end Go.Proofs.Ytfopjkcnfngbpaa
