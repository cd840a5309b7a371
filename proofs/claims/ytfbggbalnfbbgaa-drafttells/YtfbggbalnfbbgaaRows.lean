/-
  No cell of these rows narrows 'for every input' (looked for: loops, veiled, ifaces, maps, wideKeys, modest, calm, conditions, laid).
  DERIVED. THE GIVEN ROWS OF THIS SEAT. 3 by the template 'for every input the law returns true; each argument reads behind the call as it read before'; 0 by the template 'total and deterministic' (their statements: YtfbggbalnfbbgaaTotals.lean).
  GIVEN WITH THE SEED: the statements are not yours to turn. If you find one false, say at which input.
  Laid BY PROGRAM, IN A SANDBOX (cutbox-rows.mjs): the forced cells as the released guide's own fill.sh prints them over the translation 3ce560a27d8eefff… (all of the seat's roots in one cut). By AI agents, Wed Nov 11 2026. No macro, syntax, notation, axiom, sorry.
-/
import Derived.Test.YtfbggbalnfbbgaaChecked
import GoSem.Claim
import GoSem.ClaimJoined
import GoSem.ClaimMapViews
import Derived.JoinedTies
import Derived.KernelRfl
namespace Go.Proofs.Ytfbggbalnfbbgaa
/- THE CELL 'sum', in the pinned program and in every row, IS THE sha256 OF THE DUMP (.gsa) THAT YtfbggbalnfbbgaaProg.lean LOADS. Nothing in Lean hashes anything: it is a label: what it is worth is what the hold of that sum in a sandbox is worth. -/
noncomputable def Try.pinned : Pinned := { name := "ytfbggbalnfbbgaa", sum := "3ce560a27d8eefffeedc4461560e14d86064d0ee7c68ec65c1678840592ed2da", checked := Try.checked }
namespace Rows
def none {H : Type} : Left H := { results := [], args := [] }

/-- 'tapestrylaw6.DraftTells': WHATEVER THE INPUT: true; the input reads as it did. -/
def draftTellsSpec : ChangeSpec := { name := "draftTells", fn := fun _ => fun
  | [d1, d2] => { results := [.lit (.bool true)], args := [d1, d2] }
  | _ => none }
def draftTellsRow : OpenClaim := { program := "ytfbggbalnfbbgaa", sum := "3ce560a27d8eefffeedc4461560e14d86064d0ee7c68ec65c1678840592ed2da", func := "tapestry/tapestrylaw6.DraftTells", spec := "draftTells", unfollowed := true, recurses := true, apart := false }
def DraftTellsSaid : Prop := draftTellsRow.holds Try.pinned (OpenSpec.ofChange draftTellsSpec)

/-- ITS FALSE NEIGHBOUR: 'it returns false'. Refute it at one input. -/
def draftTellsWrong : ChangeSpec := { name := "draftTells", fn := fun _ => fun
  | [d1, d2] => { results := [.lit (.bool false)], args := [d1, d2] }
  | _ => none }
def DraftTellsWrongFalsely : Prop := draftTellsRow.holds Try.pinned (OpenSpec.ofChange draftTellsWrong)

/-- 'tapestrylaw6.DraftWeaves': WHATEVER THE INPUT: true; the input reads as it did. -/
def draftWeavesSpec : ChangeSpec := { name := "draftWeaves", fn := fun _ => fun
  | [d] => { results := [.lit (.bool true)], args := [d] }
  | _ => none }
def draftWeavesRow : OpenClaim := { program := "ytfbggbalnfbbgaa", sum := "3ce560a27d8eefffeedc4461560e14d86064d0ee7c68ec65c1678840592ed2da", func := "tapestry/tapestrylaw6.DraftWeaves", spec := "draftWeaves", unfollowed := true, recurses := true, apart := false }
def DraftWeavesSaid : Prop := draftWeavesRow.holds Try.pinned (OpenSpec.ofChange draftWeavesSpec)

/-- ITS FALSE NEIGHBOUR: 'it returns false'. Refute it at one input. -/
def draftWeavesWrong : ChangeSpec := { name := "draftWeaves", fn := fun _ => fun
  | [d] => { results := [.lit (.bool false)], args := [d] }
  | _ => none }
def DraftWeavesWrongFalsely : Prop := draftWeavesRow.holds Try.pinned (OpenSpec.ofChange draftWeavesWrong)

/-- 'tapestrylaw6.DraftFewest': WHATEVER THE INPUT: true; the input reads as it did. -/
def draftFewestSpec : ChangeSpec := { name := "draftFewest", fn := fun _ => fun
  | [d1, d2] => { results := [.lit (.bool true)], args := [d1, d2] }
  | _ => none }
def draftFewestRow : OpenClaim := { program := "ytfbggbalnfbbgaa", sum := "3ce560a27d8eefffeedc4461560e14d86064d0ee7c68ec65c1678840592ed2da", func := "tapestry/tapestrylaw6.DraftFewest", spec := "draftFewest", unfollowed := true, recurses := true, apart := false }
def DraftFewestSaid : Prop := draftFewestRow.holds Try.pinned (OpenSpec.ofChange draftFewestSpec)

/-- ITS FALSE NEIGHBOUR: 'it returns false'. Refute it at one input. -/
def draftFewestWrong : ChangeSpec := { name := "draftFewest", fn := fun _ => fun
  | [d1, d2] => { results := [.lit (.bool false)], args := [d1, d2] }
  | _ => none }
def DraftFewestWrongFalsely : Prop := draftFewestRow.holds Try.pinned (OpenSpec.ofChange draftFewestWrong)

/- THE SECOND FORM. 'bulk': how many values and letters a reading holds, each counted each time it is reached (what is shared counts as often as it is met; a slice's spare places count too). A statement '..UptoSaid' is the law's where the arguments, and the package variables that the reading takes, are together of bulk at most 1048576: NARROWER than '..Said'. Prove '..Said' where nothing that the law and all that it calls make is longer than what came in: it says more and counts as full. Else prove '..UptoSaid'. A law counts once. -/
mutual
def uptoBulk {H : Type} : DataW H → Nat
  | .lit (.string bytes) => bytes.length + 1
  | .lit _ => 1
  | .nil => 1
  | .ptr d => uptoBulk d + 1
  | .slice elems spare => uptoBulkAll elems + uptoBulkAll spare + 1
  | .agg parts => uptoBulkAll parts + 1
  | .iface _ d => uptoBulk d + 1
  | .map entries => uptoBulkEntries entries + 1
  | .held _ => 1
def uptoBulkAll {H : Type} : List (DataW H) → Nat
  | [] => 0
  | d :: r => uptoBulk d + uptoBulkAll r
def uptoBulkEntries {H : Type} : List (Lit × DataW H) → Nat
  | [] => 0
  | x :: r => uptoBulkEntry x + uptoBulkEntries r
def uptoBulkEntry {H : Type} : Lit × DataW H → Nat
  | (.string bytes, d) => bytes.length + uptoBulk d + 1
  | (_, d) => uptoBulk d + 1
 end
def uptoSmall : (H : Type) → List (DataW H) → Bool := fun _ ds => decide (uptoBulkAll ds ≤ 1048576)
def OpenSpec.upto (s : _root_.Go.ChangeSpec) : _root_.Go.OpenSpec := { _root_.Go.OpenSpec.ofChange s with cond := some uptoSmall }

/-- 'tapestrylaw6.DraftTells', WHERE WHAT IT READS IS OF BULK AT MOST 1048576: true; the input reads as it did. -/
def draftTellsUptoRow : OpenClaim := { program := "ytfbggbalnfbbgaa", sum := "3ce560a27d8eefffeedc4461560e14d86064d0ee7c68ec65c1678840592ed2da", func := "tapestry/tapestrylaw6.DraftTells", spec := "draftTells", unfollowed := true, recurses := true, apart := false, narrowed := true }
def DraftTellsUptoSaid : Prop := draftTellsUptoRow.holds Try.pinned (OpenSpec.upto draftTellsSpec)

/-- 'tapestrylaw6.DraftWeaves', WHERE WHAT IT READS IS OF BULK AT MOST 1048576: true; the input reads as it did. -/
def draftWeavesUptoRow : OpenClaim := { program := "ytfbggbalnfbbgaa", sum := "3ce560a27d8eefffeedc4461560e14d86064d0ee7c68ec65c1678840592ed2da", func := "tapestry/tapestrylaw6.DraftWeaves", spec := "draftWeaves", unfollowed := true, recurses := true, apart := false, narrowed := true }
def DraftWeavesUptoSaid : Prop := draftWeavesUptoRow.holds Try.pinned (OpenSpec.upto draftWeavesSpec)

/-- 'tapestrylaw6.DraftFewest', WHERE WHAT IT READS IS OF BULK AT MOST 1048576: true; the input reads as it did. -/
def draftFewestUptoRow : OpenClaim := { program := "ytfbggbalnfbbgaa", sum := "3ce560a27d8eefffeedc4461560e14d86064d0ee7c68ec65c1678840592ed2da", func := "tapestry/tapestrylaw6.DraftFewest", spec := "draftFewest", unfollowed := true, recurses := true, apart := false, narrowed := true }
def DraftFewestUptoSaid : Prop := draftFewestUptoRow.holds Try.pinned (OpenSpec.upto draftFewestSpec)

end Rows
end Go.Proofs.Ytfbggbalnfbbgaa
