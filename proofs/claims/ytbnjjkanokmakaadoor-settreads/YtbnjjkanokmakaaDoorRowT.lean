/-
  What reading looks into, out of what the rows list; and a world that holds it.
-/
import Derived.Test.YtbnjjkanokmakaaDoorRow
import Derived.Test.YtbnjjkanokmakaaDoorRX
import Derived.PinnedBridge
import Derived.Lib.LaidU8
import Derived.Stop.LaidErr
import Derived.Deep.DeepWitnessRowRef
namespace Go.Proofs.YtbnjjkanokmakaaDoor
open Go.ChangeShapes Go.WideShapes Go.ChangeAt Go.RowKit Go.Joins Go.Deep Go.Shelf

abbrev tabsLaid : List (String × DataW Unit) := Rows.settFoldsUptoRow.laid
theorem accept_eq : Rows.laid_unicode_utf8_acceptRanges = Lib.acceptData := by kernel_rfl
theorem first_eq : Rows.laid_unicode_utf8_first = Lib.firstData := Pinned.utf8First_eq
theorem u8extra : U8Extra Tryd.prog Tryd.lays197_ren := { n3 := by kernel_rfl, n4 := by kernel_rfl, y3 := by kernel_rfl, y4 := by kernel_rfl, c5 := by kernel_rfl, c119 := by kernel_rfl, c138 := by kernel_rfl }
theorem lays260 : Lays.n260 Tryd.prog Tryd.lays197_ren := { Tryd.lays197 with }
theorem gER : Tryd.prog.globalNamed "strconv.ErrRange" = some 6 := by kernel_rfl
theorem gERType : (Tryd.prog.globals[6]?).map (·.type) = some 85 := by kernel_rfl
theorem cells147 : Tryd.prog.cellsOf 147 = 1 := by kernel_rfl
theorem cells9 : Tryd.prog.cellsOf 9 = 1 := by kernel_rfl
theorem star : "*" ++ "errors.errorString" = "*errors.errorString" := by decide
theorem row145 (u : TypeId) (h : Tryd.prog.typeName? 3 u = some "*errors.errorString") : u = 145 :=
  typeName_ptr_named (nm := "errors.errorString") (by rw [star]; kernel_rfl) (by kernel_rfl) (by decide) u (by rw [star]; exact h)
theorem rtabs_of {W : World} (h : laidMetH Tryd.prog tabsLaid W) : RTabs W := by
  rw [MakeChecks.laidMetH_plain _ _ _ (by kernel_rfl)] at h
  have h1 := Lib.laidMet.reads h (n := "unicode/utf8.first") (d := Rows.laid_unicode_utf8_first) (by simp [tabsLaid, Rows.settFoldsUptoRow])
  have h2 := Lib.laidMet.reads h (n := "unicode/utf8.acceptRanges") (d := Rows.laid_unicode_utf8_acceptRanges) (by simp [tabsLaid, Rows.settFoldsUptoRow])
  have h3 := Lib.laidMet.reads h (n := "tapestry/chart.groups") (d := Rows.laid_tapestry_chart_groups) (by simp [tabsLaid, Rows.settFoldsUptoRow])
  obtain ⟨a1, s1, hv1, -, -, -⟩ := laid_sentinel h.tail.tail.tail.tail gER gERType Tryd.underlying85 row145 Tryd.underlying145 Tryd.underlying147 rfl rfl Tryd.underlying9 cells147 cells9
  rw [first_eq] at h1
  rw [accept_eq] at h2
  exact ⟨⟨tab_reads h3, utf8Tabs_of_reads lays260 u8extra h1 h2⟩, _, by have h0 := World.var?_cell gER hv1 0; simpa using h0, Or.inr ⟨_, _, rfl⟩⟩
theorem pow_met {W : World} (h : laidMetH Tryd.prog tabsLaid W) : Pow W := by
  rw [MakeChecks.laidMetH_plain _ _ _ (by kernel_rfl)] at h
  exact pow_of (Lib.laidMet.reads h (n := "internal/strconv.uint64pow10") (d := Rows.laid_internal_strconv_uint64pow10) (by simp [tabsLaid, Rows.settFoldsUptoRow]))

/-- a world with the table of first bytes in its place -/
def withFirst (w : World) : World := { w with heap := w.heap.modify 3 fun
  | .cells _ t fr => .cells (Lib.firstTab.map fun z => Value.int .u8 z).toArray t fr
  | o => o }
theorem tabs_door (os : Os) (args : Array Value) : laidMetH Tryd.prog tabsLaid ((withFirst (World.doorLaid Tryd.prog 90 os)).forCall (fun _ _ => 0) ⟨#[], args, []⟩).memory :=
  laidMetH_of_parts3 (fuel := 8) (laidMet_of_run' 8 (by kernel_rfl) (by kernel_rfl)) (by kernel_rfl) (by kernel_rfl)
end Go.Proofs.YtbnjjkanokmakaaDoor
