/-
  How a draft (a struct with truths and two slices of numbers in it) is read out of what a row gives.
-/
import Derived.Test.YtfbggbalnfbbgaaRow
import Derived.Test.YtfbggbalnfbbgaaDrA
namespace Go.Proofs.Ytfbggbalnfbbgaa
open Go.ChangeShapes Go.WideShapes Go.ChangeAt Go.RowKit Go.Joins Go.Deep

theorem cells27 : Try.prog.cellsOf 27 = 5 := by kernel_rfl
theorem cells22i : Try.prog.cellsOf 22 = 1 := by kernel_rfl
theorem read27 : Try.prog.readableRec 27 = true := by kernel_rfl
theorem in27 : 27 < Try.prog.types.size := of_decide_eq_true (by kernel_rfl)
theorem array5 {α : Type} {cs : Array α} (h : cs.size = 5) : ∃ c0 c1 c2 c3 c4, cs = #[c0, c1, c2, c3, c4] := by
  obtain ⟨l⟩ := cs
  match l, h with
  | [a, b, c, d, e], _ => exact ⟨a, b, c, d, e, rfl⟩

theorem bits_open {H : Type} {enc : TypeId × Value → H} {W : World} {base : Nat} {hd : Bool} {fuel : Nat} {c : Value} {x : DataW H × List MemPlace} (h : DataW.trod enc Try.prog W base (fun _ => true) hd fuel 23 [c] = some x) :
    ∃ (q : Option Addr) (n cap : Nat) (f : Nat → Bool), c = .slice q n cap ∧ Bs W q n cap f := by
  rcases open_bools Try.underlying23 Try.underlying4 cells4 h with ⟨e3, _⟩ | ⟨a, len, cap, B, e3, _, hl, hm, _, hcell⟩
  · simp at e3
    subst e3
    exact ⟨_, 0, 0, fun _ => false, rfl, Nat.le_refl _, Or.inl rfl⟩
  · simp at e3
    subst e3
    refine ⟨_, len, cap, B, rfl, hl, ?_⟩
    by_cases hz : len = 0
    · exact Or.inl hz
    · have hc0 := hcell 0 (by omega)
      have hsp := World.cell?_spot hc0
      obtain ⟨b, o, s⟩ := a
      simp [Addr.add] at hsp
      subst hsp
      refine Or.inr ⟨b, o, rfl, World.block_lt_of_cell? W _ hc0, fun k hk => ?_⟩
      have := hcell k (by omega)
      by_cases hk0 : k = 0
      · subst hk0
        simpa [Addr.add] using this
      · simpa [Addr.add, hk0] using this
theorem nums_open {H : Type} {enc : TypeId × Value → H} {W : World} {base : Nat} {hd : Bool} {fuel : Nat} {c : Value} {x : DataW H × List MemPlace} (h : DataW.trod enc Try.prog W base (fun _ => true) hd fuel 22 [c] = some x) :
    ∃ (q : Option Addr) (n cap : Nat) (f : Nat → Int), c = .slice q n cap ∧ Is W q n f := by
  rcases open_ints Try.underlying22 Try.underlying3 cells3 h with ⟨e3, _⟩ | ⟨a, len, cap, zs, e3, _, hl, hm, hlen, _, hcell, _⟩
  · simp at e3
    subst e3
    exact ⟨_, 0, 0, fun _ => 0, rfl, Or.inl rfl⟩
  · simp at e3
    subst e3
    rw [if_pos rfl] at hlen
    refine ⟨_, len, cap, fun k => zs.getD k 0, rfl, ?_⟩
    by_cases hz : len = 0
    · exact Or.inl hz
    · have hc0 := hcell 0 (by omega)
      have hsp := World.cell?_spot hc0
      obtain ⟨b, o, s⟩ := a
      simp [Addr.add] at hsp
      subst hsp
      refine Or.inr ⟨b, o, rfl, World.block_lt_of_cell? W _ hc0, fun k hk => ?_⟩
      have := hcell k (by omega)
      by_cases hk0 : k = 0
      · subst hk0
        simpa [Addr.add] using this
      · simpa [Addr.add, hk0] using this

theorem draft_open {H : Type} {enc : TypeId × Value → H} {W : World} {base : Nat} {hd : Bool} {r : Reach} {b0 : Nat} {v : Value} {d : DataW H} {p : List MemPlace} (hv : Value.okWide Try.prog W r b0 27 v) (h : DataW.Trod enc Try.prog W base (fun _ => true) hd 27 v d p) :
    ∃ (q1 : Option Addr) (n1 c1 : Nat) (f1 : Nat → Int) (w h : Int) (q : Option Addr) (n cap : Nat) (f : Nat → Bool) (q2 : Option Addr) (n2 c2 : Nat) (f2 : Nat → Int), v = dr q1 n1 c1 w h q n cap q2 n2 c2 ∧ Is W q1 n1 f1 ∧ Bs W q n cap f ∧ Is W q2 n2 f2 := by
  obtain ⟨cs, rfl, hsz⟩ := okWide_struct Try.underlying27 hv
  obtain ⟨c0, c1, c2, c3, c4, rfl⟩ := array5 (hsz.trans cells27)
  obtain ⟨fuel, hf⟩ := h
  obtain ⟨y0, y1, y2, n, hx, _, h0, h1, h2⟩ := trod_struct3 Try.underlying27 hf
  simp only [Value.cells, cells22i, cells24, List.drop, List.take] at h0 h1 h2
  obtain ⟨z0, z1, z2, n', hx', _, g0, g1, g2⟩ := trod_struct3 Try.underlying25 h1
  simp only [cells3, cells22, List.drop, List.take] at g0 g1 g2
  obtain ⟨w, e0, rfl, ww⟩ := DataW.trod_int Try.underlying3 g0
  obtain ⟨hh, e1, rfl, wh⟩ := DataW.trod_int Try.underlying3 g1
  simp at e0 e1
  subst e0 e1
  obtain ⟨q, m, cap, f, rfl, hB⟩ := bits_open g2
  obtain ⟨q1, n1, k1, f1, rfl, hI1⟩ := nums_open h0
  obtain ⟨q2, n2, k2, f2, rfl, hI2⟩ := nums_open h2
  exact ⟨q1, n1, k1, f1, w, hh, q, m, cap, f, q2, n2, k2, f2, rfl, hI1, hB, hI2⟩
end Go.Proofs.Ytfbggbalnfbbgaa
