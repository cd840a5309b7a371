/-
  DERIVED. GIVEN WITH THE SEED: THE CARDS: each row of YtncjbmafefeajaaDoorRows.lean that lists a variable, with what it lists TIED to the program's text (the seventh form; the later family's looks); each row that meets fmt, with fmt's text TOLD by the authors' own Lean function (tested against real Go, not proved from fmt's source: count such statements apart). THE CARD IS WHAT COUNTS. Prove the row's statement (the work); the ties are given (YtncjbmafefeajaaDoorTie.lean); close each card by the builder's one call (the guide's Derived/Test/ToyasCard.lean, 'card_holds'). Laid BY PROGRAM, IN A SANDBOX (cutbox-door.mjs). By AI agents, Wed Nov 11 2026. No macro, syntax, notation, axiom, sorry.
-/
import Derived.Test.YtncjbmafefeajaaDoorRows
import GoSem.ClaimSeven
namespace Go.Proofs.YtncjbmafefeajaaDoor
namespace Rows

/-- THE TIED CARD OF 'tapestrylaw2.ChartReads'. -/
def chartReadsCard : Claim7 := { stood := { row := chartReadsRow, standIns := [], harness := (true, "fd112dc79cb521f558fc209061b0f5c23d7a9b62bbe6d2081490e800ec89a96e"), looks := false }, kinds := [], alts := [], laidByText := true, laidKinds := [.data, .data, .pinned], laidTests := true, laidLooks := .later }
def ChartReadsCardSaid : Prop := Claim7.holds Tryd.pinned (.plain (OpenSpec.ofChange chartReadsSpec)) chartReadsCard

/-- THE SECOND FORM's CARD OF 'tapestrylaw2.ChartReads'. -/
def chartReadsUptoCard : Claim7 := { stood := { row := chartReadsUptoRow, standIns := [], harness := (true, "fd112dc79cb521f558fc209061b0f5c23d7a9b62bbe6d2081490e800ec89a96e"), looks := false }, kinds := [], alts := [], laidByText := true, laidKinds := [.data, .data, .pinned], laidTests := true, laidLooks := .later }
def ChartReadsUptoCardSaid : Prop := Claim7.holds Tryd.pinned (.plain (OpenSpec.upto chartReadsSpec)) chartReadsUptoCard
end Rows
end Go.Proofs.YtncjbmafefeajaaDoor
