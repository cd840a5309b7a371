/-
  How a chart (a struct with a slice in it) and the table of signs are read out of what a row gives.
-/
import Derived.Test.YtncjbmafefeajabDoorLawA
import Derived.Test.YtncjbmafefeajabDoorTie
import Derived.Test.YtncjbmafefeajabDoorCards
import Derived.ProofKit
import Derived.OpenShut
import Derived.ChangeSlices
import Derived.Carry
import Derived.LaidMore
import Derived.Deep.DeepHandedRow
import Derived.Lib.SmallJoins
namespace Go.Proofs.YtncjbmafefeajabDoor
open Go.ChangeShapes Go.WideShapes Go.ChangeAt Go.RowKit Go.Joins Go.Deep

theorem own : ownKnob Tryd.prog.godebug = none := by kernel_rfl
theorem laidOut : laidOutB Tryd.prog = true := by kernel_rfl
theorem cells24 : Tryd.prog.cellsOf 24 = 4 := by kernel_rfl
theorem cells26 : Tryd.prog.cellsOf 26 = 2 := by kernel_rfl
theorem cells3 : Tryd.prog.cellsOf 3 = 1 := by kernel_rfl
theorem cells21 : Tryd.prog.cellsOf 21 = 1 := by kernel_rfl
theorem cells22 : Tryd.prog.cellsOf 22 = 1 := by kernel_rfl
theorem cells65 : Tryd.prog.cellsOf 65 = 3 := by kernel_rfl
theorem cells66 : Tryd.prog.cellsOf 66 = 18 := by kernel_rfl
theorem read24 : Tryd.prog.readableRec 24 = true := by kernel_rfl
theorem read26 : Tryd.prog.readableRec 26 = true := by kernel_rfl
theorem in24 : 24 < Tryd.prog.types.size := of_decide_eq_true (by kernel_rfl)
theorem in26 : 26 < Tryd.prog.types.size := of_decide_eq_true (by kernel_rfl)

theorem chart_open {H : Type} {enc : TypeId × Value → H} {W : World} {base : Nat} {sp : Nat → Bool} {hd : Bool} {r : Reach} {b0 : Nat} {v : Value} {d : DataW H} {p : List MemPlace} (hv : Value.okWide Tryd.prog W r b0 24 v) (h : DataW.Trod enc Tryd.prog W base sp hd 24 v d p) :
    ∃ (g w h : Int) (q : Option Addr) (n cap : Nat) (px : Nat → Int), v = ch g w h q n cap ∧ Cells W q n px ∧ n ≤ cap ∧ cap ≤ 9223372036854775807 := by
  obtain ⟨cs, rfl, hsz⟩ := okWide_struct Tryd.underlying24 hv
  obtain ⟨c0, c1, c2, c3, rfl⟩ := array4 (hsz.trans cells24)
  obtain ⟨fuel, hf⟩ := h
  obtain ⟨y0, y1, y2, y3, n, hx, _, h0, h1, h2, h3⟩ := trod_struct4 Tryd.underlying24 hf
  simp only [Value.cells, cells3, cells22, List.drop, List.take] at h0 h1 h2 h3
  obtain ⟨g, e0, rfl, wg⟩ := DataW.trod_int Tryd.underlying3 h0
  obtain ⟨w, e1, rfl, ww⟩ := DataW.trod_int Tryd.underlying3 h1
  obtain ⟨hh, e2, rfl, wh⟩ := DataW.trod_int Tryd.underlying3 h2
  simp at e0 e1 e2
  subst e0 e1 e2
  rcases open_ints Tryd.underlying22 Tryd.underlying3 cells3 h3 with ⟨e3, _⟩ | ⟨a, len, cap, zs, e3, _, hl, hm, hzl, _, hcell, _⟩
  · simp at e3
    subst e3
    exact ⟨g, w, hh, _, 0, 0, fun _ => 0, rfl, Or.inl rfl, Nat.le_refl _, by omega⟩
  · simp at e3
    subst e3
    refine ⟨g, w, hh, _, len, cap, fun k => zs.getD k 0, rfl, ?_, hl, by unfold maxLen at hm; omega⟩
    by_cases hz : len = 0
    · exact Or.inl hz
    · have hlen : len ≤ zs.length := by rw [hzl]; split <;> omega
      have hc0 := hcell 0 (by omega)
      have hsp := World.cell?_spot hc0
      obtain ⟨b, o, s⟩ := a
      simp [Addr.add] at hsp
      subst hsp
      refine Or.inr ⟨b, o, rfl, World.block_lt_of_cell? W _ hc0, fun k hk => ?_⟩
      have := hcell k (by omega)
      by_cases hk0 : k = 0
      · subst hk0
        simpa [Addr.add] using this
      · simpa [Addr.add, hk0] using this
theorem point_open {H : Type} {enc : TypeId × Value → H} {W : World} {base : Nat} {sp : Nat → Bool} {hd : Bool} {r : Reach} {b0 : Nat} {v : Value} {d : DataW H} {p : List MemPlace} (hv : Value.okWide Tryd.prog W r b0 26 v) (h : DataW.Trod enc Tryd.prog W base sp hd 26 v d p) :
    ∃ x y : Int, v = .agg #[.int .i64 x, .int .i64 y] := by
  obtain ⟨v0, v1, y0, y1, n, rfl, rfl, rfl, h0, h1⟩ := open_agg2 Tryd.underlying26 (by kernel_rfl) cells26 hv h
  obtain ⟨x, e0, -, wx⟩ := DataW.trod_int Tryd.underlying3 h0
  obtain ⟨y, e1, -, wy⟩ := DataW.trod_int Tryd.underlying3 h1
  simp at e0 e1
  subst e0 e1
  exact ⟨x, y, rfl⟩

theorem gTab : Tryd.prog.globalNamed "tapestry/chart.groups" = some 0 := by kernel_rfl
theorem gTabType : (Tryd.prog.globals[0]?).map (·.type) = some 66 := by kernel_rfl

theorem one_at {l : List Value} {j : Nat} {v : Value} (h : (l.drop j).take 1 = [v]) : l[j]? = some v := by
  have : ((l.drop j).take 1)[0]? = some v := by rw [h]; rfl
  simpa using this
theorem group_of {W : World} {enc : TypeId × Value → Unit} {base : Nat} {sp : Nat → Bool} {hd : Bool} {m : Nat} {l : List Value} {y : DataW Unit × List MemPlace} {a b c : Int} (h : DataW.trod enc Tryd.prog W base sp hd m 65 l = some y) (hy : y.1 = .agg [.lit (.int .i64 a), .lit (.int .i32 b), .lit (.int .i64 c)]) :
    l[0]? = some (.int .i64 a) ∧ l[1]? = some (.int .i32 b) ∧ l[2]? = some (.int .i64 c) := by
  obtain ⟨y0, y1, y2, n, hx, _, h0, h1, h2⟩ := trod_struct3 Tryd.underlying65 h
  simp only [cells3, cells21] at h0 h1 h2
  obtain ⟨a', e0, rfl, _⟩ := DataW.trod_int Tryd.underlying3 h0
  obtain ⟨b', e1, rfl, _⟩ := DataW.trod_int Tryd.underlying21 h1
  obtain ⟨c', e2, rfl, _⟩ := DataW.trod_int Tryd.underlying3 h2
  subst hx
  simp at hy
  obtain ⟨rfl, rfl, rfl⟩ := hy
  exact ⟨one_at e0, one_at e1, one_at e2⟩
/-- the table, out of its reading -/
theorem tab_of {W : World} {cs : Array Value} {f : Nat} {p : List MemPlace} {enc : TypeId × Value → Unit} {base : Nat} {sp : Nat → Bool} {hd : Bool} (hv : W.var? Tryd.prog "tapestry/chart.groups" = some cs) (h : DataW.trod enc Tryd.prog W base sp hd f 66 cs.toList = some (Rows.laid_tapestry_chart_groups, p)) : Tab W := by
  have hcell := fun i => World.var?_cell gTab hv i
  obtain ⟨xs, m, rfl, hx, hlen, hn, hel⟩ := DataW.trod_array Tryd.underlying66 h
  simp only [Prod.mk.injEq, Rows.laid_tapestry_chart_groups, DataW.agg.injEq] at hx
  have key : ∀ (i : Nat) (a b c : Int), i < 6 → (xs.map (·.1))[i]? = some (.agg [.lit (.int .i64 a), .lit (.int .i32 b), .lit (.int .i64 c)]) →
      W.cell? ⟨0, i * 3, none⟩ = some (.int .i64 a) ∧ W.cell? ⟨0, i * 3 + 1, none⟩ = some (.int .i32 b) ∧ W.cell? ⟨0, i * 3 + 2, none⟩ = some (.int .i64 c) := by
    intro i a b c hi hxi
    obtain ⟨y, hy, hy1⟩ : ∃ y, xs[i]? = some y ∧ y.1 = .agg [.lit (.int .i64 a), .lit (.int .i32 b), .lit (.int .i64 c)] := by
      simp only [List.getElem?_map, Option.map_eq_some_iff] at hxi
      exact hxi
    have hl := hel i hi
    rw [hy, cells65] at hl
    obtain ⟨k0, k1, k2⟩ := group_of hl hy1
    simp [List.getElem?_drop] at k0 k1 k2
    exact ⟨by rw [hcell]; simpa using k0, by rw [hcell]; simpa using k1, by rw [hcell]; simpa using k2⟩
  rw [← hx.1] at key
  have k0 := key 0 0 183 1 (by omega) rfl
  have k1 := key 1 1 9608 1 (by omega) rfl
  have k2 := key 2 2 48 10 (by omega) rfl
  have k3 := key 3 12 945 17 (by omega) rfl
  have k4 := key 4 29 963 7 (by omega) rfl
  have k5 := key 5 36 97 26 (by omega) rfl
  have hcs : cs = tabA := by
    apply Array.ext_getElem?
    intro i
    rw [← hcell]
    by_cases hi : i < 18
    · have : i = 0 ∨ i = 1 ∨ i = 2 ∨ i = 3 ∨ i = 4 ∨ i = 5 ∨ i = 6 ∨ i = 7 ∨ i = 8 ∨ i = 9 ∨ i = 10 ∨ i = 11 ∨ i = 12 ∨ i = 13 ∨ i = 14 ∨ i = 15 ∨ i = 16 ∨ i = 17 := by omega
      rcases this with rfl | rfl | rfl | rfl | rfl | rfl | rfl | rfl | rfl | rfl | rfl | rfl | rfl | rfl | rfl | rfl | rfl | rfl
      · exact k0.1
      · exact k0.2.1
      · exact k0.2.2
      · exact k1.1
      · exact k1.2.1
      · exact k1.2.2
      · exact k2.1
      · exact k2.2.1
      · exact k2.2.2
      · exact k3.1
      · exact k3.2.1
      · exact k3.2.2
      · exact k4.1
      · exact k4.2.1
      · exact k4.2.2
      · exact k5.1
      · exact k5.2.1
      · exact k5.2.2
    · have hz : cs.size = 18 := by rw [← Array.length_toList, hlen, cells66]
      rw [hcell, Array.getElem?_eq_none (by omega), Array.getElem?_eq_none (show (tabA).size ≤ i by show 18 ≤ i; omega)]
  subst hcs
  simp only [World.var?, gTab, Option.bind_some] at hv
  split at hv
  · rename_i c t fr hh
    obtain rfl := Option.some.inj hv
    exact ⟨t, fr, hh⟩
  · cases hv
end Go.Proofs.YtncjbmafefeajabDoor
