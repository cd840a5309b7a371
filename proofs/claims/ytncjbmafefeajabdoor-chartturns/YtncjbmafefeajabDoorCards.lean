/-
  DERIVED. GIVEN WITH THE SEED: THE CARDS: each row of YtncjbmafefeajabDoorRows.lean that lists a variable, with what it lists TIED to the program's text (the seventh form; the later family's looks); each row that meets fmt, with fmt's text TOLD by the authors' own Lean function (tested against real Go, not proved from fmt's source: count such statements apart). THE CARD IS WHAT COUNTS. Prove the row's statement (the work); the ties are given (YtncjbmafefeajabDoorTie.lean); close each card by the builder's one call (the guide's Derived/Test/ToyasCard.lean, 'card_holds'). Laid BY PROGRAM, IN A SANDBOX (cutbox-door.mjs). By AI agents, Wed Nov 11 2026. No macro, syntax, notation, axiom, sorry.
-/
import Derived.Test.YtncjbmafefeajabDoorRows
import GoSem.ClaimSeven
namespace Go.Proofs.YtncjbmafefeajabDoor
namespace Rows

/-- THE TIED CARD OF 'tapestrylaw2.ChartTells'. -/
def chartTellsCard : Claim7 := { stood := { row := chartTellsRow, standIns := [], harness := (true, "8e28903ead934900b95b2606380f14a7468e155004516954f55771f2a814e385"), looks := false }, kinds := [], alts := [], laidByText := true, laidKinds := [.data], laidTests := true, laidLooks := .later }
def ChartTellsCardSaid : Prop := Claim7.holds Tryd.pinned (.plain (OpenSpec.ofChange chartTellsSpec)) chartTellsCard

/-- THE TIED CARD OF 'tapestrylaw2.ChartTurns'. -/
def chartTurnsCard : Claim7 := { stood := { row := chartTurnsRow, standIns := [], harness := (true, "8e28903ead934900b95b2606380f14a7468e155004516954f55771f2a814e385"), looks := false }, kinds := [], alts := [], laidByText := true, laidKinds := [.data, .data, .pinned], laidTests := true, laidLooks := .later }
def ChartTurnsCardSaid : Prop := Claim7.holds Tryd.pinned (.plain (OpenSpec.ofChange chartTurnsSpec)) chartTurnsCard

/-- THE TIED CARD OF 'tapestrylaw2.ChartGoes'. -/
def chartGoesCard : Claim7 := { stood := { row := chartGoesRow, standIns := [], harness := (true, "8e28903ead934900b95b2606380f14a7468e155004516954f55771f2a814e385"), looks := false }, kinds := [], alts := [], laidByText := true, laidKinds := [.data, .data, .pinned], laidTests := true, laidLooks := .later }
def ChartGoesCardSaid : Prop := Claim7.holds Tryd.pinned (.plain (OpenSpec.ofChange chartGoesSpec)) chartGoesCard

/-- THE SECOND FORM's CARD OF 'tapestrylaw2.ChartTells'. -/
def chartTellsUptoCard : Claim7 := { stood := { row := chartTellsUptoRow, standIns := [], harness := (true, "8e28903ead934900b95b2606380f14a7468e155004516954f55771f2a814e385"), looks := false }, kinds := [], alts := [], laidByText := true, laidKinds := [.data], laidTests := true, laidLooks := .later }
def ChartTellsUptoCardSaid : Prop := Claim7.holds Tryd.pinned (.plain (OpenSpec.upto chartTellsSpec)) chartTellsUptoCard

/-- THE SECOND FORM's CARD OF 'tapestrylaw2.ChartTurns'. -/
def chartTurnsUptoCard : Claim7 := { stood := { row := chartTurnsUptoRow, standIns := [], harness := (true, "8e28903ead934900b95b2606380f14a7468e155004516954f55771f2a814e385"), looks := false }, kinds := [], alts := [], laidByText := true, laidKinds := [.data, .data, .pinned], laidTests := true, laidLooks := .later }
def ChartTurnsUptoCardSaid : Prop := Claim7.holds Tryd.pinned (.plain (OpenSpec.upto chartTurnsSpec)) chartTurnsUptoCard

/-- THE SECOND FORM's CARD OF 'tapestrylaw2.ChartGoes'. -/
def chartGoesUptoCard : Claim7 := { stood := { row := chartGoesUptoRow, standIns := [], harness := (true, "8e28903ead934900b95b2606380f14a7468e155004516954f55771f2a814e385"), looks := false }, kinds := [], alts := [], laidByText := true, laidKinds := [.data, .data, .pinned], laidTests := true, laidLooks := .later }
def ChartGoesUptoCardSaid : Prop := Claim7.holds Tryd.pinned (.plain (OpenSpec.upto chartGoesSpec)) chartGoesUptoCard
end Rows
end Go.Proofs.YtncjbmafefeajabDoor
