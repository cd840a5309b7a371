/-
  A slice of stitches that is nil.
-/
import Derived.Test.YtancniamgfppiaaRowB
namespace Go.Proofs.Ytancniamgfppiaa
open Go.ChangeShapes Go.WideShapes Go.ChangeAt Go.RowKit Go.Joins Go.Deep

set_option maxRecDepth 100000 in
theorem stitches_nil {H : Type} {enc : TypeId × Value → H} {W : World} {base : Nat} {hd : Bool} {q : Option Addr} {m c : Nat} {d : DataW H} {p : List MemPlace} (h : DataW.Trod enc Try.prog W base (fun _ => true) hd 22 (.slice q m c) d p) : q = none → m = 0 ∧ c = 0 := by
  obtain ⟨fuel, hf⟩ := h
  rcases open_slice Try.underlying22 hf with ⟨e3, -⟩ | ⟨a, len, cap, m', n, D, Pl, e3, -⟩
  · simp [Value.cells] at e3
    obtain ⟨rfl, rfl, rfl⟩ := e3
    exact fun _ => ⟨rfl, rfl⟩
  · simp [Value.cells] at e3
    obtain ⟨rfl, rfl, rfl⟩ := e3
    intro e
    cases e
end Go.Proofs.Ytancniamgfppiaa
