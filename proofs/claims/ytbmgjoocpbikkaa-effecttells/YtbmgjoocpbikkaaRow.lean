/-
  How threads, truths and charts are read out of what a row gives.
-/
import Derived.Test.YtbmgjoocpbikkaaLm
import Derived.ProofKit
import Derived.OpenShut
import Derived.ChangeSlices
import Derived.Carry
import Derived.LaidMore
import Derived.Deep.DeepHandedRow
import Derived.Deep.Grids
namespace Go.Proofs.Ytbmgjoocpbikkaa
open Go.ChangeShapes Go.WideShapes Go.ChangeAt Go.RowKit Go.Joins Go.Deep

theorem own : ownKnob Try.prog.godebug = none := by kernel_rfl
theorem laidOut : laidOutB Try.prog = true := by kernel_rfl
theorem cells24 : Try.prog.cellsOf 24 = 2 := by kernel_rfl
theorem cells27 : Try.prog.cellsOf 27 = 3 := by kernel_rfl
theorem cells29 : Try.prog.cellsOf 29 = 4 := by kernel_rfl
theorem cells3 : Try.prog.cellsOf 3 = 1 := by kernel_rfl
theorem cells4 : Try.prog.cellsOf 4 = 1 := by kernel_rfl
theorem cells22 : Try.prog.cellsOf 22 = 1 := by kernel_rfl
theorem cells25 : Try.prog.cellsOf 25 = 1 := by kernel_rfl
theorem read24 : Try.prog.readableRec 24 = true := by kernel_rfl
theorem in24 : 24 < Try.prog.types.size := of_decide_eq_true (by kernel_rfl)
theorem read27 : Try.prog.readableRec 27 = true := by kernel_rfl
theorem in27 : 27 < Try.prog.types.size := of_decide_eq_true (by kernel_rfl)
theorem read29 : Try.prog.readableRec 29 = true := by kernel_rfl
theorem in29 : 29 < Try.prog.types.size := of_decide_eq_true (by kernel_rfl)

theorem bits_open {H : Type} {enc : TypeId × Value → H} {W : World} {base : Nat} {hd : Bool} {fuel : Nat} {c : Value} {x : DataW H × List MemPlace} (h : DataW.trod enc Try.prog W base (fun _ => true) hd fuel 25 [c] = some x) :
    ∃ (q : Option Addr) (n cap : Nat) (f : Nat → Bool), c = .slice q n cap ∧ T.Bs W q n cap f := by
  rcases open_bools Try.underlying25 Try.underlying4 cells4 h with ⟨e3, _⟩ | ⟨a, len, cap, B, e3, _, hl, hm, _, hcell⟩
  · simp at e3
    subst e3
    exact ⟨_, 0, 0, fun _ => false, rfl, Nat.le_refl _, Or.inl rfl⟩
  · simp at e3
    subst e3
    refine ⟨_, len, cap, B, rfl, hl, ?_⟩
    by_cases hz : len = 0
    · exact Or.inl hz
    · have hc0 := hcell 0 (by omega)
      have hsp := World.cell?_spot hc0
      obtain ⟨b, o, s⟩ := a
      simp [Addr.add] at hsp
      subst hsp
      refine Or.inr ⟨b, o, rfl, World.block_lt_of_cell? W _ hc0, fun k hk => ?_⟩
      have := hcell k (by omega)
      by_cases hk0 : k = 0
      · subst hk0
        simpa [Addr.add] using this
      · simpa [Addr.add, hk0] using this
theorem nums_open {H : Type} {enc : TypeId × Value → H} {W : World} {base : Nat} {hd : Bool} {fuel : Nat} {c : Value} {x : DataW H × List MemPlace} (h : DataW.trod enc Try.prog W base (fun _ => true) hd fuel 22 [c] = some x) :
    ∃ (q : Option Addr) (n cap : Nat) (f : Nat → Int), c = .slice q n cap ∧ T.Is W q n f := by
  rcases open_ints Try.underlying22 Try.underlying3 cells3 h with ⟨e3, _⟩ | ⟨a, len, cap, zs, e3, _, hl, hm, hlen, _, hcell, _⟩
  · simp at e3
    subst e3
    exact ⟨_, 0, 0, fun _ => 0, rfl, Or.inl rfl⟩
  · simp at e3
    subst e3
    rw [if_pos rfl] at hlen
    refine ⟨_, len, cap, fun k => zs.getD k 0, rfl, ?_⟩
    by_cases hz : len = 0
    · exact Or.inl hz
    · have hc0 := hcell 0 (by omega)
      have hsp := World.cell?_spot hc0
      obtain ⟨b, o, s⟩ := a
      simp [Addr.add] at hsp
      subst hsp
      refine Or.inr ⟨b, o, rfl, World.block_lt_of_cell? W _ hc0, fun k hk => ?_⟩
      have := hcell k (by omega)
      by_cases hk0 : k = 0
      · subst hk0
        simpa [Addr.add] using this
      · simpa [Addr.add, hk0] using this

theorem strung_open {H : Type} {enc : TypeId × Value → H} {W : World} {base : Nat} {hd : Bool} {r : Reach} {b0 : Nat} {v : Value} {d : DataW H} {p : List MemPlace} (hv : Value.okWide Try.prog W r b0 24 v) (h : DataW.Trod enc Try.prog W base (fun _ => true) hd 24 v d p) :
    ∃ (q1 : Option Addr) (n c1 : Nat) (q2 : Option Addr) (m c2 : Nat) (f g : Nat → Int), v = sg q1 n c1 q2 m c2 ∧ T.Is W q1 n f ∧ T.Is W q2 m g := by
  obtain ⟨cs, rfl, hsz⟩ := okWide_struct Try.underlying24 hv
  obtain ⟨c0, c1, rfl⟩ := array2 (hsz.trans cells24)
  obtain ⟨fuel, hf⟩ := h
  obtain ⟨y0, y1, n, hx, _, h0, h1⟩ := trod_struct2 Try.underlying24 hf
  simp only [Value.cells, cells22, List.drop, List.take] at h0 h1
  obtain ⟨q, n, cap, f, rfl, hI⟩ := nums_open h0
  obtain ⟨q', n', cap', f', rfl, hI'⟩ := nums_open h1
  exact ⟨q, n, cap, q', n', cap', f, f', rfl, hI, hI'⟩
theorem truth_open {H : Type} {enc : TypeId × Value → H} {W : World} {base : Nat} {hd : Bool} {r : Reach} {b0 : Nat} {v : Value} {d : DataW H} {p : List MemPlace} (hv : Value.okWide Try.prog W r b0 27 v) (h : DataW.Trod enc Try.prog W base (fun _ => true) hd 27 v d p) :
    ∃ (w h : Int) (q : Option Addr) (n cap : Nat) (f : Nat → Bool), v = T.tr w h q n cap ∧ T.Bs W q n cap f := by
  obtain ⟨cs, rfl, hsz⟩ := okWide_struct Try.underlying27 hv
  obtain ⟨c0, c1, c2, rfl⟩ := array3 (hsz.trans cells27)
  obtain ⟨fuel, hf⟩ := h
  obtain ⟨y0, y1, y2, n, hx, _, h0, h1, h2⟩ := trod_struct3 Try.underlying27 hf
  simp only [Value.cells, cells3, cells25, List.drop, List.take] at h0 h1 h2
  obtain ⟨w, e0, rfl, ww⟩ := DataW.trod_int Try.underlying3 h0
  obtain ⟨hh, e1, rfl, wh⟩ := DataW.trod_int Try.underlying3 h1
  simp at e0 e1
  subst e0 e1
  obtain ⟨q, n, cap, f, rfl, hI⟩ := bits_open h2
  exact ⟨w, hh, q, n, cap, f, rfl, hI⟩
theorem chart_open {H : Type} {enc : TypeId × Value → H} {W : World} {base : Nat} {hd : Bool} {r : Reach} {b0 : Nat} {v : Value} {d : DataW H} {p : List MemPlace} (hv : Value.okWide Try.prog W r b0 29 v) (h : DataW.Trod enc Try.prog W base (fun _ => true) hd 29 v d p) :
    ∃ (g w h : Int) (q : Option Addr) (n cap : Nat) (px : Nat → Int), v = Ch.ch g w h q n cap ∧ T.Is W q n px := by
  obtain ⟨cs, rfl, hsz⟩ := okWide_struct Try.underlying29 hv
  obtain ⟨c0, c1, c2, c3, rfl⟩ := array4 (hsz.trans cells29)
  obtain ⟨fuel, hf⟩ := h
  obtain ⟨y0, y1, y2, y3, n, hx, _, h0, h1, h2, h3⟩ := trod_struct4 Try.underlying29 hf
  simp only [Value.cells, cells3, cells22, List.drop, List.take] at h0 h1 h2 h3
  obtain ⟨g, e0, rfl, wg⟩ := DataW.trod_int Try.underlying3 h0
  obtain ⟨w, e1, rfl, ww⟩ := DataW.trod_int Try.underlying3 h1
  obtain ⟨hh, e2, rfl, wh⟩ := DataW.trod_int Try.underlying3 h2
  simp at e0 e1 e2
  subst e0 e1 e2
  obtain ⟨q, n, cap, f, rfl, hI⟩ := nums_open h3
  exact ⟨g, w, hh, q, n, cap, f, rfl, hI⟩
end Go.Proofs.Ytbmgjoocpbikkaa
