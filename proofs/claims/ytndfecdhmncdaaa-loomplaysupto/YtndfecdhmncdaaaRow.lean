/-
  How truths (a struct with a slice in it) are read out of what a row gives.
-/
import Derived.Test.YtndfecdhmncdaaaCb
import Derived.ProofKit
import Derived.OpenShut
import Derived.ChangeSlices
import Derived.Carry
import Derived.LaidMore
import Derived.Deep.DeepHandedRow
import Derived.Deep.Grids
namespace Go.Proofs.Ytndfecdhmncdaaa
open Go.ChangeShapes Go.WideShapes Go.ChangeAt Go.RowKit Go.Joins Go.Deep

theorem own : ownKnob Try.prog.godebug = none := by kernel_rfl
theorem laidOut : laidOutB Try.prog = true := by kernel_rfl
theorem cells24 : Try.prog.cellsOf 24 = 3 := by kernel_rfl
theorem cells3 : Try.prog.cellsOf 3 = 1 := by kernel_rfl
theorem cells4 : Try.prog.cellsOf 4 = 1 := by kernel_rfl
theorem cells22 : Try.prog.cellsOf 22 = 1 := by kernel_rfl
theorem read24 : Try.prog.readableRec 24 = true := by kernel_rfl
theorem in24 : 24 < Try.prog.types.size := of_decide_eq_true (by kernel_rfl)
theorem wf_i64 {a : Int} (h : (Lit.int .i64 a).wf = true) : -9223372036854775808 ≤ a ∧ a ≤ 9223372036854775807 := by
  simp [Lit.wf] at h
  have e1 : IntKind.i64.min = -9223372036854775808 := by decide
  have e2 : IntKind.i64.max = 9223372036854775807 := by decide
  omega

theorem truth_open {H : Type} {enc : TypeId × Value → H} {W : World} {base : Nat} {hd : Bool} {r : Reach} {b0 : Nat} {v : Value} {d : DataW H} {p : List MemPlace} (hv : Value.okWide Try.prog W r b0 24 v) (h : DataW.Trod enc Try.prog W base (fun _ => true) hd 24 v d p) :
    ∃ (w h : Int) (q : Option Addr) (n cap : Nat) (f : Nat → Bool), v = tr w h q n cap ∧ Bs W q n cap f := by
  obtain ⟨cs, rfl, hsz⟩ := okWide_struct Try.underlying24 hv
  obtain ⟨c0, c1, c2, rfl⟩ := array3 (hsz.trans cells24)
  obtain ⟨fuel, hf⟩ := h
  obtain ⟨y0, y1, y2, n, hx, _, h0, h1, h2⟩ := trod_struct3 Try.underlying24 hf
  simp only [Value.cells, cells3, cells22, List.drop, List.take] at h0 h1 h2
  obtain ⟨w, e0, rfl, ww⟩ := DataW.trod_int Try.underlying3 h0
  obtain ⟨hh, e1, rfl, wh⟩ := DataW.trod_int Try.underlying3 h1
  simp at e0 e1
  subst e0 e1
  rcases open_bools Try.underlying22 Try.underlying4 cells4 h2 with ⟨e3, _⟩ | ⟨a, len, cap, B, e3, _, hl, hm, _, hcell⟩
  · simp at e3
    subst e3
    exact ⟨w, hh, _, 0, 0, fun _ => false, rfl, Nat.le_refl _, Or.inl rfl⟩
  · simp at e3
    subst e3
    refine ⟨w, hh, _, len, cap, B, rfl, hl, ?_⟩
    by_cases hz : len = 0
    · exact Or.inl hz
    · have hc0 := hcell 0 (by omega)
      have hsp := World.cell?_spot hc0
      obtain ⟨b, o, s⟩ := a
      simp [Addr.add] at hsp
      subst hsp
      refine Or.inr ⟨b, o, rfl, World.block_lt_of_cell? W _ hc0, fun k hk => ?_⟩
      have := hcell k (by omega)
      by_cases hk0 : k = 0
      · subst hk0
        simpa [Addr.add] using this
      · simpa [Addr.add, hk0] using this
end Go.Proofs.Ytndfecdhmncdaaa
