/-
  How whole numbers in a slice, and a stitch, are read out of what a row gives.
-/
import Derived.Test.YtancniamgfppiaaRowA
namespace Go.Proofs.Ytancniamgfppiaa
open Go.ChangeShapes Go.WideShapes Go.ChangeAt Go.RowKit Go.Joins Go.Deep

theorem read27 : Try.prog.readableRec 27 = true := by kernel_rfl
theorem in27 : 27 < Try.prog.types.size := of_decide_eq_true (by kernel_rfl)
theorem read24 : Try.prog.readableRec 24 = true := by kernel_rfl
theorem in24 : 24 < Try.prog.types.size := of_decide_eq_true (by kernel_rfl)
/-- numbers that lie in a slice -/
def Is (W : World) (q : Option Addr) (n : Nat) (f : Nat → Int) : Prop := n = 0 ∨ ∃ b o, q = some ⟨b, o, none⟩ ∧ b < W.heap.size ∧ ∀ k, k < n → W.cell? ⟨b, o + k, none⟩ = some (.int .i64 (f k))
theorem Is.keep {W V : World} {q : Option Addr} {n : Nat} {f : Nat → Int} (h : Is W q n f) (hb : Below W.heap.size W V) : Is V q n f := by
  rcases h with h | ⟨b, o, e, hl, hk⟩
  · exact .inl h
  · exact .inr ⟨b, o, e, Nat.lt_of_lt_of_le hl hb.size, fun k hkn => low_cell hb hl (hk k hkn)⟩
theorem Is.at {W : World} {q : Option Addr} {n k : Nat} {f : Nat → Int} (h : Is W q n f) (hk : k < n) : ∃ b o, q = some ⟨b, o, none⟩ ∧ W.cell? ⟨b, o + k, none⟩ = some (.int .i64 (f k)) := by
  rcases h with h | ⟨b, o, e, -, hc⟩
  · omega
  · exact ⟨b, o, e, hc k hk⟩
set_option maxRecDepth 100000 in
theorem nums_top {H : Type} {enc : TypeId × Value → H} {W : World} {base : Nat} {hd : Bool} {r : Reach} {b0 : Nat} {v : Value} {d : DataW H} {p : List MemPlace} (hv : Value.okWide Try.prog W r b0 27 v) (h : DataW.Trod enc Try.prog W base (fun _ => true) hd 27 v d p) :
    ∃ (q : Option Addr) (n cap : Nat) (f : Nat → Int), v = .slice q n cap ∧ Is W q n f ∧ (n : Int) ≤ 9223372036854775807 := by
  obtain ⟨a0, l0, k0, rfl⟩ := okWide_slice Try.underlying27 hv
  obtain ⟨fuel, hf⟩ := h
  rcases open_ints Try.underlying27 Try.underlying3 cells3 hf with ⟨e3, _⟩ | ⟨a, len, cap, zs, e3, _, hl, hm, hlen, _, hcell, _⟩
  · simp [Value.cells] at e3
    obtain ⟨rfl, rfl, rfl⟩ := e3
    exact ⟨_, 0, 0, fun _ => 0, rfl, Or.inl rfl, by decide⟩
  · simp [Value.cells] at e3
    obtain ⟨rfl, rfl, rfl⟩ := e3
    rw [if_pos rfl] at hlen
    refine ⟨_, _, _, fun k => zs.getD k 0, rfl, ?_, by unfold maxLen at *; omega⟩
    by_cases hz : l0 = 0
    · exact Or.inl hz
    · have hc0 := hcell 0 (by omega)
      have hsp := World.cell?_spot hc0
      obtain ⟨b, o, s⟩ := a
      simp [Addr.add] at hsp
      subst hsp
      refine Or.inr ⟨b, o, rfl, World.block_lt_of_cell? W _ hc0, fun k hk => ?_⟩
      have := hcell k (by omega)
      by_cases hk0 : k = 0
      · subst hk0
        simpa [Addr.add] using this
      · simpa [Addr.add, hk0] using this
/-- numbers of a stitch are numbers -/
def Xi (x : Sx) : Prop := (-9223372036854775808 ≤ x.bed ∧ x.bed < 9223372036854775808) ∧ (-9223372036854775808 ≤ x.ndl ∧ x.ndl < 9223372036854775808)
end Go.Proofs.Ytancniamgfppiaa
