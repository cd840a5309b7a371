/-
  How the table of signs is read out of what the row gives.
-/
import Derived.Test.YtncjbmafefeajaaDoorLawR
import Derived.Test.YtncjbmafefeajaaDoorTie
import Derived.Test.YtncjbmafefeajaaDoorCards
import Derived.ProofKit
import Derived.OpenShut
import Derived.ChangeSlices
import Derived.Carry
import Derived.LaidMore
import Derived.Deep.DeepHandedRow
import Derived.Lib.SmallJoins
namespace Go.Proofs.YtncjbmafefeajaaDoor
open Go.ChangeShapes Go.WideShapes Go.ChangeAt Go.RowKit Go.Joins Go.Deep

theorem own : ownKnob Tryd.prog.godebug = none := by kernel_rfl
theorem laidOut : laidOutB Tryd.prog = true := by kernel_rfl
theorem cells24 : Tryd.prog.cellsOf 27 = 4 := by kernel_rfl
theorem cells3 : Tryd.prog.cellsOf 3 = 1 := by kernel_rfl
theorem cells21 : Tryd.prog.cellsOf 21 = 1 := by kernel_rfl
theorem cells22 : Tryd.prog.cellsOf 25 = 1 := by kernel_rfl
theorem cells65 : Tryd.prog.cellsOf 36 = 3 := by kernel_rfl
theorem cells66 : Tryd.prog.cellsOf 37 = 18 := by kernel_rfl

theorem gTab : Tryd.prog.globalNamed "tapestry/chart.groups" = some 0 := by kernel_rfl
theorem gTabType : (Tryd.prog.globals[0]?).map (·.type) = some 37 := by kernel_rfl

theorem one_at {l : List Value} {j : Nat} {v : Value} (h : (l.drop j).take 1 = [v]) : l[j]? = some v := by
  have : ((l.drop j).take 1)[0]? = some v := by rw [h]; rfl
  simpa using this
theorem group_of {W : World} {enc : TypeId × Value → Unit} {base : Nat} {sp : Nat → Bool} {hd : Bool} {m : Nat} {l : List Value} {y : DataW Unit × List MemPlace} {a b c : Int} (h : DataW.trod enc Tryd.prog W base sp hd m 36 l = some y) (hy : y.1 = .agg [.lit (.int .i64 a), .lit (.int .i32 b), .lit (.int .i64 c)]) :
    l[0]? = some (.int .i64 a) ∧ l[1]? = some (.int .i32 b) ∧ l[2]? = some (.int .i64 c) := by
  obtain ⟨y0, y1, y2, n, hx, _, h0, h1, h2⟩ := trod_struct3 Tryd.underlying36 h
  simp only [cells3, cells21] at h0 h1 h2
  obtain ⟨a', e0, rfl, _⟩ := DataW.trod_int Tryd.underlying3 h0
  obtain ⟨b', e1, rfl, _⟩ := DataW.trod_int Tryd.underlying21 h1
  obtain ⟨c', e2, rfl, _⟩ := DataW.trod_int Tryd.underlying3 h2
  subst hx
  simp at hy
  obtain ⟨rfl, rfl, rfl⟩ := hy
  exact ⟨one_at e0, one_at e1, one_at e2⟩
/-- the table, out of its reading -/
theorem tab_of {W : World} {cs : Array Value} {f : Nat} {p : List MemPlace} {enc : TypeId × Value → Unit} {base : Nat} {sp : Nat → Bool} {hd : Bool} (hv : W.var? Tryd.prog "tapestry/chart.groups" = some cs) (h : DataW.trod enc Tryd.prog W base sp hd f 37 cs.toList = some (Rows.laid_tapestry_chart_groups, p)) : Tab W := by
  have hcell := fun i => World.var?_cell gTab hv i
  obtain ⟨xs, m, rfl, hx, hlen, hn, hel⟩ := DataW.trod_array Tryd.underlying37 h
  simp only [Prod.mk.injEq, Rows.laid_tapestry_chart_groups, DataW.agg.injEq] at hx
  have key : ∀ (i : Nat) (a b c : Int), i < 6 → (xs.map (·.1))[i]? = some (.agg [.lit (.int .i64 a), .lit (.int .i32 b), .lit (.int .i64 c)]) →
      W.cell? ⟨0, i * 3, none⟩ = some (.int .i64 a) ∧ W.cell? ⟨0, i * 3 + 1, none⟩ = some (.int .i32 b) ∧ W.cell? ⟨0, i * 3 + 2, none⟩ = some (.int .i64 c) := by
    intro i a b c hi hxi
    obtain ⟨y, hy, hy1⟩ : ∃ y, xs[i]? = some y ∧ y.1 = .agg [.lit (.int .i64 a), .lit (.int .i32 b), .lit (.int .i64 c)] := by
      simp only [List.getElem?_map, Option.map_eq_some_iff] at hxi
      exact hxi
    have hl := hel i hi
    rw [hy, cells65] at hl
    obtain ⟨k0, k1, k2⟩ := group_of hl hy1
    simp [List.getElem?_drop] at k0 k1 k2
    exact ⟨by rw [hcell]; simpa using k0, by rw [hcell]; simpa using k1, by rw [hcell]; simpa using k2⟩
  rw [← hx.1] at key
  have k0 := key 0 0 183 1 (by omega) rfl
  have k1 := key 1 1 9608 1 (by omega) rfl
  have k2 := key 2 2 48 10 (by omega) rfl
  have k3 := key 3 12 945 17 (by omega) rfl
  have k4 := key 4 29 963 7 (by omega) rfl
  have k5 := key 5 36 97 26 (by omega) rfl
  have hcs : cs = tabA := by
    apply Array.ext_getElem?
    intro i
    rw [← hcell]
    by_cases hi : i < 18
    · have : i = 0 ∨ i = 1 ∨ i = 2 ∨ i = 3 ∨ i = 4 ∨ i = 5 ∨ i = 6 ∨ i = 7 ∨ i = 8 ∨ i = 9 ∨ i = 10 ∨ i = 11 ∨ i = 12 ∨ i = 13 ∨ i = 14 ∨ i = 15 ∨ i = 16 ∨ i = 17 := by omega
      rcases this with rfl | rfl | rfl | rfl | rfl | rfl | rfl | rfl | rfl | rfl | rfl | rfl | rfl | rfl | rfl | rfl | rfl | rfl
      · exact k0.1
      · exact k0.2.1
      · exact k0.2.2
      · exact k1.1
      · exact k1.2.1
      · exact k1.2.2
      · exact k2.1
      · exact k2.2.1
      · exact k2.2.2
      · exact k3.1
      · exact k3.2.1
      · exact k3.2.2
      · exact k4.1
      · exact k4.2.1
      · exact k4.2.2
      · exact k5.1
      · exact k5.2.1
      · exact k5.2.2
    · have hz : cs.size = 18 := by rw [← Array.length_toList, hlen, cells66]
      rw [hcell, Array.getElem?_eq_none (by omega), Array.getElem?_eq_none (show (tabA).size ≤ i by show 18 ≤ i; omega)]
  subst hcs
  simp only [World.var?, gTab, Option.bind_some] at hv
  split at hv
  · rename_i c t fr hh
    obtain rfl := Option.some.inj hv
    exact ⟨t, fr, hh⟩
  · cases hv
end Go.Proofs.YtncjbmafefeajaaDoor
