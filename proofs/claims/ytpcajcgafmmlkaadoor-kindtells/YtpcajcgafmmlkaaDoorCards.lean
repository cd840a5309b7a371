/-
  DERIVED. GIVEN WITH THE SEED: THE CARDS: each row of YtpcajcgafmmlkaaDoorRows.lean that lists a variable, with what it lists TIED to the program's text (the seventh form; the later family's looks); each row that meets fmt, with fmt's text TOLD by the authors' own Lean function (tested against real Go, not proved from fmt's source: count such statements apart). THE CARD IS WHAT COUNTS. Prove the row's statement (the work); the ties are given (YtpcajcgafmmlkaaDoorTie.lean); close each card by the builder's one call (the guide's Derived/Test/ToyasCard.lean, 'card_holds'). Laid BY PROGRAM, IN A SANDBOX (cutbox-door.mjs). By AI agents, Wed Nov 11 2026. No macro, syntax, notation, axiom, sorry.
-/
import Derived.Test.YtpcajcgafmmlkaaDoorRows
import GoSem.ClaimSeven
namespace Go.Proofs.YtpcajcgafmmlkaaDoor
namespace Rows

/-- THE TIED CARD OF 'tapestrylaw4.KindTells'. -/
def kindTellsCard : Claim7 := { stood := { row := kindTellsRow, standIns := [], harness := (true, "9a25d6ac8f73e9e99f261de72b72f2524fcf05283ff65b3b255bc67aa98262a7"), looks := false }, kinds := [], alts := [], laidByText := true, laidKinds := [.data], laidTests := true, laidLooks := .later }
def KindTellsCardSaid : Prop := Claim7.holds Tryd.pinned (.plain (OpenSpec.ofChange kindTellsSpec)) kindTellsCard

/-- THE SECOND FORM's CARD OF 'tapestrylaw4.KindTells'. -/
def kindTellsUptoCard : Claim7 := { stood := { row := kindTellsUptoRow, standIns := [], harness := (true, "9a25d6ac8f73e9e99f261de72b72f2524fcf05283ff65b3b255bc67aa98262a7"), looks := false }, kinds := [], alts := [], laidByText := true, laidKinds := [.data], laidTests := true, laidLooks := .later }
def KindTellsUptoCardSaid : Prop := Claim7.holds Tryd.pinned (.plain (OpenSpec.upto kindTellsSpec)) kindTellsUptoCard
end Rows
end Go.Proofs.YtpcajcgafmmlkaaDoor
