/-
  NARROWER THAN 'FOR EVERY INPUT', by the rows' own cells (each row's printed sentence says how): ChartTells: laid · ChartTurns: laid · ChartGoes: laid.
  DERIVED. THE GIVEN ROWS OF THIS SEAT. 3 by the template 'for every input the law returns true; each argument reads behind the call as it read before'; 0 by the template 'total and deterministic' (their statements: YtncjbmafefeajabDoorTotals.lean).
  GIVEN WITH THE SEED: the statements are not yours to turn. If you find one false, say at which input.
  Laid BY PROGRAM, IN A SANDBOX (cutbox-rows.mjs): the forced cells as the released guide's own fill.sh prints them over the translation 344dc09a8d3d6bb3… (all of the seat's roots in one cut). By AI agents, Wed Nov 11 2026. No macro, syntax, notation, axiom, sorry.
-/
import Derived.Test.YtncjbmafefeajabDoorChecked
import GoSem.PinnedTables
import GoSem.Claim
import GoSem.ClaimJoined
import GoSem.ClaimMapViews
import Derived.JoinedTies
import Derived.KernelRfl
namespace Go.Proofs.YtncjbmafefeajabDoor
/- THE CELL 'sum', in the pinned program and in every row, IS THE sha256 OF THE DUMP (.gsa) THAT YtncjbmafefeajabDoorProg.lean LOADS. Nothing in Lean hashes anything: it is a label: what it is worth is what the hold of that sum in a sandbox is worth. -/
noncomputable def Tryd.pinned : Pinned := { name := "ytncjbmafefeajabdoor", sum := "344dc09a8d3d6bb38347d35e578091b2a1c8f761303e5754a7b7e332f9edea8d", checked := Tryd.checked }
namespace Rows
def none {H : Type} : Left H := { results := [], args := [] }

/- WHAT THE LISTED PACKAGE-LEVEL VARIABLES READ AS WHEN THE CALL BEGINS. Each datum BY PROGRAM (the guide's laid-datum.mjs) off the statement by which the dump's own 'gosem.cut.vars' lays the variable. In a bare row this is a premise. The card (YtncjbmafefeajabDoorCards.lean) ties it to the program's text. -/
def laid_tapestry_chart_groups {H : Type} : DataW H := .agg [.agg [.lit (.int .i64 0), .lit (.int .i32 183), .lit (.int .i64 1)], .agg [.lit (.int .i64 1), .lit (.int .i32 9608), .lit (.int .i64 1)], .agg [.lit (.int .i64 2), .lit (.int .i32 48), .lit (.int .i64 10)], .agg [.lit (.int .i64 12), .lit (.int .i32 945), .lit (.int .i64 17)], .agg [.lit (.int .i64 29), .lit (.int .i32 963), .lit (.int .i64 7)], .agg [.lit (.int .i64 36), .lit (.int .i32 97), .lit (.int .i64 26)]]
def laid_unicode_utf8_acceptRanges {H : Type} : DataW H := .agg [.agg [.lit (.int .u8 128), .lit (.int .u8 191)], .agg [.lit (.int .u8 160), .lit (.int .u8 191)], .agg [.lit (.int .u8 128), .lit (.int .u8 159)], .agg [.lit (.int .u8 144), .lit (.int .u8 191)], .agg [.lit (.int .u8 128), .lit (.int .u8 143)], .agg [.lit (.int .u8 0), .lit (.int .u8 0)], .agg [.lit (.int .u8 0), .lit (.int .u8 0)], .agg [.lit (.int .u8 0), .lit (.int .u8 0)], .agg [.lit (.int .u8 0), .lit (.int .u8 0)], .agg [.lit (.int .u8 0), .lit (.int .u8 0)], .agg [.lit (.int .u8 0), .lit (.int .u8 0)], .agg [.lit (.int .u8 0), .lit (.int .u8 0)], .agg [.lit (.int .u8 0), .lit (.int .u8 0)], .agg [.lit (.int .u8 0), .lit (.int .u8 0)], .agg [.lit (.int .u8 0), .lit (.int .u8 0)], .agg [.lit (.int .u8 0), .lit (.int .u8 0)]]
/-- One of Go's own tables, pinned by name: the form's constant. -/
def laid_unicode_utf8_first : DataW Unit := Go.Pinned.utf8First

/-- 'tapestrylaw2.ChartTells': WHATEVER THE INPUT: true; the input reads as it did. -/
def chartTellsSpec : ChangeSpec := { name := "chartTells", fn := fun _ => fun
  | [d1, d2] => { results := [.lit (.bool true)], args := [d1, d2] }
  | _ => none }
def chartTellsRow : OpenClaim := { program := "ytncjbmafefeajabdoor", sum := "344dc09a8d3d6bb38347d35e578091b2a1c8f761303e5754a7b7e332f9edea8d", func := "tapestry/tapestrylaw2.ChartTells", spec := "chartTells", inPlace := ["internal/abi.NoEscape"], named := ["tapestry/chart.groups"], apart := false, laid := [("tapestry/chart.groups", laid_tapestry_chart_groups)] }
def ChartTellsSaid : Prop := chartTellsRow.holds Tryd.pinned (OpenSpec.ofChange chartTellsSpec)

/-- ITS FALSE NEIGHBOUR: 'it returns false'. Refute it at one input. -/
def chartTellsWrong : ChangeSpec := { name := "chartTells", fn := fun _ => fun
  | [d1, d2] => { results := [.lit (.bool false)], args := [d1, d2] }
  | _ => none }
def ChartTellsWrongFalsely : Prop := chartTellsRow.holds Tryd.pinned (OpenSpec.ofChange chartTellsWrong)

/-- 'tapestrylaw2.ChartTurns': WHATEVER THE INPUT: true; the input reads as it did. -/
def chartTurnsSpec : ChangeSpec := { name := "chartTurns", fn := fun _ => fun
  | [d1, d2] => { results := [.lit (.bool true)], args := [d1, d2] }
  | _ => none }
def chartTurnsRow : OpenClaim := { program := "ytncjbmafefeajabdoor", sum := "344dc09a8d3d6bb38347d35e578091b2a1c8f761303e5754a7b7e332f9edea8d", func := "tapestry/tapestrylaw2.ChartTurns", spec := "chartTurns", inPlace := ["internal/abi.NoEscape"], named := ["unicode/utf8.first", "unicode/utf8.acceptRanges", "tapestry/chart.groups"], apart := false, laid := [("unicode/utf8.acceptRanges", laid_unicode_utf8_acceptRanges), ("tapestry/chart.groups", laid_tapestry_chart_groups), ("unicode/utf8.first", laid_unicode_utf8_first)] }
def ChartTurnsSaid : Prop := chartTurnsRow.holds Tryd.pinned (OpenSpec.ofChange chartTurnsSpec)

/-- ITS FALSE NEIGHBOUR: 'it returns false'. Refute it at one input. -/
def chartTurnsWrong : ChangeSpec := { name := "chartTurns", fn := fun _ => fun
  | [d1, d2] => { results := [.lit (.bool false)], args := [d1, d2] }
  | _ => none }
def ChartTurnsWrongFalsely : Prop := chartTurnsRow.holds Tryd.pinned (OpenSpec.ofChange chartTurnsWrong)

/-- 'tapestrylaw2.ChartGoes': WHATEVER THE INPUT: true; the input reads as it did. -/
def chartGoesSpec : ChangeSpec := { name := "chartGoes", fn := fun _ => fun
  | [d1, d2, d3, d4] => { results := [.lit (.bool true)], args := [d1, d2, d3, d4] }
  | _ => none }
def chartGoesRow : OpenClaim := { program := "ytncjbmafefeajabdoor", sum := "344dc09a8d3d6bb38347d35e578091b2a1c8f761303e5754a7b7e332f9edea8d", func := "tapestry/tapestrylaw2.ChartGoes", spec := "chartGoes", named := ["unicode/utf8.first", "unicode/utf8.acceptRanges", "tapestry/chart.groups"], apart := false, laid := [("unicode/utf8.acceptRanges", laid_unicode_utf8_acceptRanges), ("tapestry/chart.groups", laid_tapestry_chart_groups), ("unicode/utf8.first", laid_unicode_utf8_first)] }
def ChartGoesSaid : Prop := chartGoesRow.holds Tryd.pinned (OpenSpec.ofChange chartGoesSpec)

/-- ITS FALSE NEIGHBOUR: 'it returns false'. Refute it at one input. -/
def chartGoesWrong : ChangeSpec := { name := "chartGoes", fn := fun _ => fun
  | [d1, d2, d3, d4] => { results := [.lit (.bool false)], args := [d1, d2, d3, d4] }
  | _ => none }
def ChartGoesWrongFalsely : Prop := chartGoesRow.holds Tryd.pinned (OpenSpec.ofChange chartGoesWrong)

/- THE SECOND FORM. 'bulk': how many values and letters a reading holds, each counted each time it is reached (what is shared counts as often as it is met; a slice's spare places count too). A statement '..UptoSaid' is the law's where the arguments, and the package variables that the reading takes, are together of bulk at most 1048576: NARROWER than '..Said'. Prove '..Said' where nothing that the law and all that it calls make is longer than what came in: it says more and counts as full. Else prove '..UptoSaid'. A law counts once. -/
mutual
def uptoBulk {H : Type} : DataW H → Nat
  | .lit (.string bytes) => bytes.length + 1
  | .lit _ => 1
  | .nil => 1
  | .ptr d => uptoBulk d + 1
  | .slice elems spare => uptoBulkAll elems + uptoBulkAll spare + 1
  | .agg parts => uptoBulkAll parts + 1
  | .iface _ d => uptoBulk d + 1
  | .map entries => uptoBulkEntries entries + 1
  | .held _ => 1
def uptoBulkAll {H : Type} : List (DataW H) → Nat
  | [] => 0
  | d :: r => uptoBulk d + uptoBulkAll r
def uptoBulkEntries {H : Type} : List (Lit × DataW H) → Nat
  | [] => 0
  | x :: r => uptoBulkEntry x + uptoBulkEntries r
def uptoBulkEntry {H : Type} : Lit × DataW H → Nat
  | (.string bytes, d) => bytes.length + uptoBulk d + 1
  | (_, d) => uptoBulk d + 1
 end
def uptoSmall : (H : Type) → List (DataW H) → Bool := fun _ ds => decide (uptoBulkAll ds ≤ 1048576)
def OpenSpec.upto (s : _root_.Go.ChangeSpec) : _root_.Go.OpenSpec := { _root_.Go.OpenSpec.ofChange s with cond := some uptoSmall }

/-- 'tapestrylaw2.ChartTells', WHERE WHAT IT READS IS OF BULK AT MOST 1048576: true; the input reads as it did. -/
def chartTellsUptoRow : OpenClaim := { program := "ytncjbmafefeajabdoor", sum := "344dc09a8d3d6bb38347d35e578091b2a1c8f761303e5754a7b7e332f9edea8d", func := "tapestry/tapestrylaw2.ChartTells", spec := "chartTells", inPlace := ["internal/abi.NoEscape"], named := ["tapestry/chart.groups"], apart := false, laid := [("tapestry/chart.groups", laid_tapestry_chart_groups)], narrowed := true }
def ChartTellsUptoSaid : Prop := chartTellsUptoRow.holds Tryd.pinned (OpenSpec.upto chartTellsSpec)

/-- 'tapestrylaw2.ChartTurns', WHERE WHAT IT READS IS OF BULK AT MOST 1048576: true; the input reads as it did. -/
def chartTurnsUptoRow : OpenClaim := { program := "ytncjbmafefeajabdoor", sum := "344dc09a8d3d6bb38347d35e578091b2a1c8f761303e5754a7b7e332f9edea8d", func := "tapestry/tapestrylaw2.ChartTurns", spec := "chartTurns", inPlace := ["internal/abi.NoEscape"], named := ["unicode/utf8.first", "unicode/utf8.acceptRanges", "tapestry/chart.groups"], apart := false, laid := [("unicode/utf8.acceptRanges", laid_unicode_utf8_acceptRanges), ("tapestry/chart.groups", laid_tapestry_chart_groups), ("unicode/utf8.first", laid_unicode_utf8_first)], narrowed := true }
def ChartTurnsUptoSaid : Prop := chartTurnsUptoRow.holds Tryd.pinned (OpenSpec.upto chartTurnsSpec)

/-- 'tapestrylaw2.ChartGoes', WHERE WHAT IT READS IS OF BULK AT MOST 1048576: true; the input reads as it did. -/
def chartGoesUptoRow : OpenClaim := { program := "ytncjbmafefeajabdoor", sum := "344dc09a8d3d6bb38347d35e578091b2a1c8f761303e5754a7b7e332f9edea8d", func := "tapestry/tapestrylaw2.ChartGoes", spec := "chartGoes", named := ["unicode/utf8.first", "unicode/utf8.acceptRanges", "tapestry/chart.groups"], apart := false, laid := [("unicode/utf8.acceptRanges", laid_unicode_utf8_acceptRanges), ("tapestry/chart.groups", laid_tapestry_chart_groups), ("unicode/utf8.first", laid_unicode_utf8_first)], narrowed := true }
def ChartGoesUptoSaid : Prop := chartGoesUptoRow.holds Tryd.pinned (OpenSpec.upto chartGoesSpec)

end Rows
end Go.Proofs.YtncjbmafefeajabDoor
