/-
  How whole numbers in a slice are read out of what a row gives.
-/
import Derived.Test.YtndfecdhmncdaaaRow
import Derived.SizedLaws
namespace Go.Proofs.Ytndfecdhmncdaaa
open Go.ChangeShapes Go.WideShapes Go.ChangeAt Go.RowKit Go.Joins Go.Deep

theorem nums_open {H : Type} {enc : TypeId × Value → H} {W : World} {base : Nat} {hd : Bool} {r : Reach} {b0 : Nat} {v : Value} {d : DataW H} {p : List MemPlace} {t e : TypeId} (ht : Try.prog.underlying t = some (.slice e)) (hu : Try.prog.underlying e = some (.int .i64)) (hc : Try.prog.cellsOf e = 1) (hv : Value.okWide Try.prog W r b0 t v) (h : DataW.Trod enc Try.prog W base (fun _ => true) hd t v d p) :
    ∃ (q : Option Addr) (n cap : Nat) (f : Nat → Int), v = .slice q n cap ∧ Is W q n f ∧ (q = none → n = 0 ∧ cap = 0) ∧ n ≤ maxLen ∧ (d = .nil ∧ n = 0 ∨ ∃ elems spare, d = .slice elems spare ∧ n = elems.length) := by
  obtain ⟨a0, l0, k0, rfl⟩ := okWide_slice ht hv
  obtain ⟨fuel, hf⟩ := h
  rcases open_ints ht hu hc hf with ⟨e3, hd⟩ | ⟨a, len, cap, zs, e3, _, hl, hm, hlen, hx, hcell, _⟩
  · simp [Value.cells] at e3
    obtain ⟨rfl, rfl, rfl⟩ := e3
    exact ⟨_, 0, 0, fun _ => 0, rfl, Or.inl rfl, fun _ => ⟨rfl, rfl⟩, Nat.zero_le _, .inl ⟨(Prod.mk.inj hd).1, rfl⟩⟩
  · simp [Value.cells] at e3
    obtain ⟨rfl, rfl, rfl⟩ := e3
    rw [if_pos rfl] at hlen
    refine ⟨_, _, _, fun k => zs.getD k 0, rfl, ?_, (fun e => by cases e), by omega, .inr ⟨_, _, (Prod.mk.inj hx).1, by simp [lits]; omega⟩⟩
    by_cases hz : l0 = 0
    · exact Or.inl hz
    · have hc0 := hcell 0 (by omega)
      have hsp := World.cell?_spot hc0
      obtain ⟨b, o, s⟩ := a
      simp [Addr.add] at hsp
      subst hsp
      refine Or.inr ⟨b, o, rfl, World.block_lt_of_cell? W _ hc0, fun k hk => ?_⟩
      have := hcell k (by omega)
      by_cases hk0 : k = 0
      · subst hk0
        simpa [Addr.add] using this
      · simpa [Addr.add, hk0] using this
end Go.Proofs.Ytndfecdhmncdaaa
