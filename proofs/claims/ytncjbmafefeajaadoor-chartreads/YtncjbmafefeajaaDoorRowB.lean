/-
  The tables that reading looks into, out of what the row of ChartReads lists; and a world that holds them.
-/
import Derived.Test.YtncjbmafefeajaaDoorRow
import Derived.Test.YtncjbmafefeajaaDoorLawR
import Derived.PinnedBridge
import Derived.Lib.LaidU8
namespace Go.Proofs.YtncjbmafefeajaaDoor
open Go.ChangeShapes Go.WideShapes Go.ChangeAt Go.RowKit Go.Joins Go.Deep Go.Shelf

abbrev tabsLaid : List (String × DataW Unit) := [("unicode/utf8.acceptRanges", Rows.laid_unicode_utf8_acceptRanges), ("tapestry/chart.groups", Rows.laid_tapestry_chart_groups), ("unicode/utf8.first", Rows.laid_unicode_utf8_first)]

theorem accept_eq : Rows.laid_unicode_utf8_acceptRanges = Lib.acceptData := by kernel_rfl
theorem first_eq : Rows.laid_unicode_utf8_first = Lib.firstData := Pinned.utf8First_eq
theorem u8extra : U8Extra Tryd.prog Tryd.lays197_ren := { n3 := by kernel_rfl, n4 := by kernel_rfl, y3 := by kernel_rfl, y4 := by kernel_rfl, c5 := by kernel_rfl, c119 := by kernel_rfl, c138 := by kernel_rfl }
theorem lays260 : Lays.n260 Tryd.prog Tryd.lays197_ren := { Tryd.lays197 with }
theorem tabs_of {W : World} (h : laidMetH Tryd.prog tabsLaid W) : Tabs W := by
  rw [MakeChecks.laidMetH_plain _ _ _ (by kernel_rfl)] at h
  have h1 := Lib.laidMet.reads h (n := "unicode/utf8.first") (d := Rows.laid_unicode_utf8_first) (by simp [tabsLaid])
  have h2 := Lib.laidMet.reads h (n := "unicode/utf8.acceptRanges") (d := Rows.laid_unicode_utf8_acceptRanges) (by simp [tabsLaid])
  have h3 := Lib.laidMet.reads h (n := "tapestry/chart.groups") (d := Rows.laid_tapestry_chart_groups) (by simp [tabsLaid])
  rw [first_eq] at h1
  rw [accept_eq] at h2
  obtain ⟨g, t, cs, fuel, p, hg, hty, hvar, hd⟩ := h3
  obtain rfl := Option.some.inj (gTab.symm.trans hg)
  obtain rfl := Option.some.inj (gTabType.symm.trans hty)
  exact ⟨tab_of hvar hd, utf8Tabs_of_reads lays260 u8extra h1 h2⟩

/-- a world with the table of first bytes in its place -/
def withFirst (w : World) : World := { w with heap := w.heap.modify 1 fun
  | .cells _ t fr => .cells (Lib.firstTab.map fun z => Value.int .u8 z).toArray t fr
  | o => o }
theorem tabs_door (os : Os) (args : Array Value) : laidMetH Tryd.prog tabsLaid ((withFirst (World.doorLaid Tryd.prog 30 os)).forCall (fun _ _ => 0) ⟨#[], args, []⟩).memory :=
  laidMetH_of_parts3 (fuel := 8) (laidMet_of_run' 8 (by kernel_rfl) (by kernel_rfl)) (by kernel_rfl) (by kernel_rfl)
end Go.Proofs.YtncjbmafefeajaaDoor
