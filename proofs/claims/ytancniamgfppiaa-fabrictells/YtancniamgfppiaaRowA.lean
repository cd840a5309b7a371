/-
  How stitches in a slice are read out of what a row gives.
-/
import Derived.Test.YtancniamgfppiaaRnA
import Derived.ProofKit
import Derived.OpenShut
import Derived.ChangeSlices
import Derived.Carry
import Derived.LaidMore
import Derived.Deep.DeepHandedRow
import Derived.Deep.Grids
import Derived.Deep.SlicePairs
import Derived.SizedLaws
namespace Go.Proofs.Ytancniamgfppiaa
open Go.ChangeShapes Go.WideShapes Go.ChangeAt Go.RowKit Go.Joins Go.Deep

theorem own : ownKnob Try.prog.godebug = none := by kernel_rfl
theorem laidOut : laidOutB Try.prog = true := by kernel_rfl
theorem cells3 : Try.prog.cellsOf 3 = 1 := by kernel_rfl
theorem cells44 : Try.prog.cellsOf 24 = 5 := by kernel_rfl
theorem read3 : Try.prog.readableRec 3 = true := by kernel_rfl
theorem in3 : 3 < Try.prog.types.size := of_decide_eq_true (by kernel_rfl)
theorem read22 : Try.prog.readableRec 22 = true := by kernel_rfl
theorem in22 : 22 < Try.prog.types.size := of_decide_eq_true (by kernel_rfl)
theorem bytes44 : Try.prog.bytesOf 24 = 40 := by kernel_rfl

set_option maxRecDepth 100000 in
theorem stitches_open {H : Type} {enc : TypeId × Value → H} {W : World} {base : Nat} {hd : Bool} {r : Reach} {b0 : Nat} {v : Value} {d : DataW H} {p : List MemPlace} (hv : Value.okWide Try.prog W r b0 22 v) (h : DataW.Trod enc Try.prog W base (fun _ => true) hd 22 v d p) :
    ∃ (q : Option Addr) (m c : Nat) (f : Nat → Sx), v = .slice q m c ∧ Sc W q m f ∧ (d = .nil ∧ m = 0 ∨ ∃ elems spare, d = .slice elems spare ∧ m = elems.length) := by
  obtain ⟨a0, l0, k0, rfl⟩ := okWide_slice Try.underlying22 hv
  obtain ⟨fuel, hf⟩ := h
  rcases open_slice Try.underlying22 hf with ⟨e3, hd⟩ | ⟨a, len, cap, m, n, D, Pl, e3, hb, hl, hm, hmm, hx, hel⟩
  · simp [Value.cells] at e3
    obtain ⟨rfl, rfl, rfl⟩ := e3
    exact ⟨_, 0, 0, fun _ => ⟨0, 0, 0, 0, 0⟩, rfl, Or.inl rfl, .inl ⟨(Prod.mk.inj hd).1, rfl⟩⟩
  · simp [Value.cells] at e3
    obtain ⟨rfl, rfl, rfl⟩ := e3
    rw [if_pos rfl] at hmm
    have each : ∀ i, i < m → ∃ q : Int × Int × Int × Int × Int, W.cell? (a.add (i * 5)) = some (.int .i64 q.1) ∧ W.cell? (a.add (i * 5 + 1)) = some (.int .i64 q.2.1) ∧ W.cell? (a.add (i * 5 + 2)) = some (.int .i64 q.2.2.1) ∧ W.cell? (a.add (i * 5 + 3)) = some (.int .i64 q.2.2.2.1) ∧ W.cell? (a.add (i * 5 + 4)) = some (.int .i64 q.2.2.2.2) := by
      intro i hi
      obtain ⟨cs', h1, h2⟩ := hel i hi
      rw [cells44] at h1
      obtain ⟨_, hlen, hcell⟩ := World.cells?_some h1
      obtain ⟨xs, k, -, -, -, hxl, hfs⟩ := DataW.trod_struct Try.underlying24 h2
      match cs', hlen, xs, hxl with
      | [v0, v1, v2, v3, v4], _, [y0, y1, y2, y3, y4], _ =>
        have g0 := hfs 0 _ rfl
        have g1 := hfs 1 _ rfl
        have g2 := hfs 2 _ rfl
        have g3 := hfs 3 _ rfl
        have g4 := hfs 4 _ rfl
        obtain ⟨x0, e0, _⟩ := DataW.trod_int Try.underlying3 g0
        obtain ⟨x1, e1, _⟩ := DataW.trod_int Try.underlying3 g1
        obtain ⟨x2, e2, _⟩ := DataW.trod_int Try.underlying3 g2
        obtain ⟨x3, e3, _⟩ := DataW.trod_int Try.underlying3 g3
        obtain ⟨x4, e4, _⟩ := DataW.trod_int Try.underlying3 g4
        simp [cells3] at e0 e1 e2 e3 e4
        subst e0 e1 e2 e3 e4
        have f0 := hcell 0 (by omega)
        have f1 := hcell 1 (by omega)
        have f2 := hcell 2 (by omega)
        have f3 := hcell 3 (by omega)
        have f4 := hcell 4 (by omega)
        rw [add_add] at f0 f1 f2 f3 f4
        exact ⟨(x0, x1, x2, x3, x4), by simpa using f0, by simpa using f1, by simpa using f2, by simpa using f3, by simpa using f4⟩
    obtain ⟨q, hq⟩ := choose_lt each
    refine ⟨_, l0, k0, fun i => ⟨(q i).1, (q i).2.1, (q i).2.2.1, (q i).2.2.2.1, (q i).2.2.2.2⟩, rfl, ?_, .inr ⟨_, _, (Prod.mk.inj hx).1, by simp⟩⟩
    by_cases hz : l0 = 0
    · exact Or.inl hz
    · have hc0 := (hq 0 (by omega)).1
      have hsp := World.cell?_spot hc0
      obtain ⟨b, o, s⟩ := a
      simp [Addr.add] at hsp
      subst hsp
      refine Or.inr ⟨b, o, rfl, World.block_lt_of_cell? W _ hc0, fun k hk => ?_⟩
      obtain ⟨f0, f1, f2, f3, f4⟩ := hq k (by omega)
      refine ⟨?_, ?_, ?_, ?_, ?_⟩
      · by_cases hk0 : k = 0
        · subst hk0
          simpa [Addr.add] using f0
        · have hk3 : ¬ k * 5 = 0 := by omega
          simpa [Addr.add, hk3] using f0
      · simpa [Addr.add, Nat.add_assoc] using f1
      · simpa [Addr.add, Nat.add_assoc] using f2
      · simpa [Addr.add, Nat.add_assoc] using f3
      · simpa [Addr.add, Nat.add_assoc] using f4
end Go.Proofs.Ytancniamgfppiaa
