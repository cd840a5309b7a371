/-
  No cell of these rows narrows 'for every input' (looked for: loops, veiled, ifaces, maps, wideKeys, modest, calm, conditions, laid).
  DERIVED. THE GIVEN ROWS OF THIS SEAT. 4 by the template 'for every input the law returns true; each argument reads behind the call as it read before'; 0 by the template 'total and deterministic' (their statements: YtbbilogkblmniaaTotals.lean).
  GIVEN WITH THE SEED: the statements are not yours to turn. If you find one false, say at which input.
  Laid BY PROGRAM, IN A SANDBOX (cutbox-rows.mjs): the forced cells as the released guide's own fill.sh prints them over the translation 3aacd99968efbca1… (all of the seat's roots in one cut). By AI agents, Wed Nov 11 2026. No macro, syntax, notation, axiom, sorry.
-/
import Derived.Test.YtbbilogkblmniaaChecked
import GoSem.Claim
import GoSem.ClaimJoined
import GoSem.ClaimMapViews
import Derived.JoinedTies
import Derived.KernelRfl
namespace Go.Proofs.Ytbbilogkblmniaa
/- THE CELL 'sum', in the pinned program and in every row, IS THE sha256 OF THE DUMP (.gsa) THAT YtbbilogkblmniaaProg.lean LOADS. Nothing in Lean hashes anything: it is a label: what it is worth is what the hold of that sum in a sandbox is worth. -/
noncomputable def Try.pinned : Pinned := { name := "ytbbilogkblmniaa", sum := "3aacd99968efbca1a9d410a51507693e1f44c27d6247fe7de7eff9f3293152dc", checked := Try.checked }
namespace Rows
def none {H : Type} : Left H := { results := [], args := [] }

/-- 'tapestrylaw8.ClothTells': WHATEVER THE INPUT: true; the input reads as it did. -/
def clothTellsSpec : ChangeSpec := { name := "clothTells", fn := fun _ => fun
  | [d] => { results := [.lit (.bool true)], args := [d] }
  | _ => none }
def clothTellsRow : OpenClaim := { program := "ytbbilogkblmniaa", sum := "3aacd99968efbca1a9d410a51507693e1f44c27d6247fe7de7eff9f3293152dc", func := "tapestry/tapestrylaw8.ClothTells", spec := "clothTells", unfollowed := true, recurses := true, apart := false }
def ClothTellsSaid : Prop := clothTellsRow.holds Try.pinned (OpenSpec.ofChange clothTellsSpec)

/-- ITS FALSE NEIGHBOUR: 'it returns false'. Refute it at one input. -/
def clothTellsWrong : ChangeSpec := { name := "clothTells", fn := fun _ => fun
  | [d] => { results := [.lit (.bool false)], args := [d] }
  | _ => none }
def ClothTellsWrongFalsely : Prop := clothTellsRow.holds Try.pinned (OpenSpec.ofChange clothTellsWrong)

/-- 'tapestrylaw8.ClothHangs': WHATEVER THE INPUT: true; the input reads as it did. -/
def clothHangsSpec : ChangeSpec := { name := "clothHangs", fn := fun _ => fun
  | [d1, d2] => { results := [.lit (.bool true)], args := [d1, d2] }
  | _ => none }
def clothHangsRow : OpenClaim := { program := "ytbbilogkblmniaa", sum := "3aacd99968efbca1a9d410a51507693e1f44c27d6247fe7de7eff9f3293152dc", func := "tapestry/tapestrylaw8.ClothHangs", spec := "clothHangs", unfollowed := true, recurses := true, apart := false }
def ClothHangsSaid : Prop := clothHangsRow.holds Try.pinned (OpenSpec.ofChange clothHangsSpec)

/-- ITS FALSE NEIGHBOUR: 'it returns false'. Refute it at one input. -/
def clothHangsWrong : ChangeSpec := { name := "clothHangs", fn := fun _ => fun
  | [d1, d2] => { results := [.lit (.bool false)], args := [d1, d2] }
  | _ => none }
def ClothHangsWrongFalsely : Prop := clothHangsRow.holds Try.pinned (OpenSpec.ofChange clothHangsWrong)

/-- 'tapestrylaw8.ClothLayers': WHATEVER THE INPUT: true; the input reads as it did. -/
def clothLayersSpec : ChangeSpec := { name := "clothLayers", fn := fun _ => fun
  | [d1, d2] => { results := [.lit (.bool true)], args := [d1, d2] }
  | _ => none }
def clothLayersRow : OpenClaim := { program := "ytbbilogkblmniaa", sum := "3aacd99968efbca1a9d410a51507693e1f44c27d6247fe7de7eff9f3293152dc", func := "tapestry/tapestrylaw8.ClothLayers", spec := "clothLayers", unfollowed := true, recurses := true, apart := false }
def ClothLayersSaid : Prop := clothLayersRow.holds Try.pinned (OpenSpec.ofChange clothLayersSpec)

/-- ITS FALSE NEIGHBOUR: 'it returns false'. Refute it at one input. -/
def clothLayersWrong : ChangeSpec := { name := "clothLayers", fn := fun _ => fun
  | [d1, d2] => { results := [.lit (.bool false)], args := [d1, d2] }
  | _ => none }
def ClothLayersWrongFalsely : Prop := clothLayersRow.holds Try.pinned (OpenSpec.ofChange clothLayersWrong)

/-- 'tapestrylaw8.ClothTurned': WHATEVER THE INPUT: true; the input reads as it did. -/
def clothTurnedSpec : ChangeSpec := { name := "clothTurned", fn := fun _ => fun
  | [d] => { results := [.lit (.bool true)], args := [d] }
  | _ => none }
def clothTurnedRow : OpenClaim := { program := "ytbbilogkblmniaa", sum := "3aacd99968efbca1a9d410a51507693e1f44c27d6247fe7de7eff9f3293152dc", func := "tapestry/tapestrylaw8.ClothTurned", spec := "clothTurned", unfollowed := true, recurses := true, apart := false }
def ClothTurnedSaid : Prop := clothTurnedRow.holds Try.pinned (OpenSpec.ofChange clothTurnedSpec)

/-- ITS FALSE NEIGHBOUR: 'it returns false'. Refute it at one input. -/
def clothTurnedWrong : ChangeSpec := { name := "clothTurned", fn := fun _ => fun
  | [d] => { results := [.lit (.bool false)], args := [d] }
  | _ => none }
def ClothTurnedWrongFalsely : Prop := clothTurnedRow.holds Try.pinned (OpenSpec.ofChange clothTurnedWrong)

/- THE SECOND FORM. 'bulk': how many values and letters a reading holds, each counted each time it is reached (what is shared counts as often as it is met; a slice's spare places count too). A statement '..UptoSaid' is the law's where the arguments, and the package variables that the reading takes, are together of bulk at most 1048576: NARROWER than '..Said'. Prove '..Said' where nothing that the law and all that it calls make is longer than what came in: it says more and counts as full. Else prove '..UptoSaid'. A law counts once. -/
mutual
def uptoBulk {H : Type} : DataW H → Nat
  | .lit (.string bytes) => bytes.length + 1
  | .lit _ => 1
  | .nil => 1
  | .ptr d => uptoBulk d + 1
  | .slice elems spare => uptoBulkAll elems + uptoBulkAll spare + 1
  | .agg parts => uptoBulkAll parts + 1
  | .iface _ d => uptoBulk d + 1
  | .map entries => uptoBulkEntries entries + 1
  | .held _ => 1
def uptoBulkAll {H : Type} : List (DataW H) → Nat
  | [] => 0
  | d :: r => uptoBulk d + uptoBulkAll r
def uptoBulkEntries {H : Type} : List (Lit × DataW H) → Nat
  | [] => 0
  | x :: r => uptoBulkEntry x + uptoBulkEntries r
def uptoBulkEntry {H : Type} : Lit × DataW H → Nat
  | (.string bytes, d) => bytes.length + uptoBulk d + 1
  | (_, d) => uptoBulk d + 1
 end
def uptoSmall : (H : Type) → List (DataW H) → Bool := fun _ ds => decide (uptoBulkAll ds ≤ 1048576)
def OpenSpec.upto (s : _root_.Go.ChangeSpec) : _root_.Go.OpenSpec := { _root_.Go.OpenSpec.ofChange s with cond := some uptoSmall }

/-- 'tapestrylaw8.ClothTells', WHERE WHAT IT READS IS OF BULK AT MOST 1048576: true; the input reads as it did. -/
def clothTellsUptoRow : OpenClaim := { program := "ytbbilogkblmniaa", sum := "3aacd99968efbca1a9d410a51507693e1f44c27d6247fe7de7eff9f3293152dc", func := "tapestry/tapestrylaw8.ClothTells", spec := "clothTells", unfollowed := true, recurses := true, apart := false, narrowed := true }
def ClothTellsUptoSaid : Prop := clothTellsUptoRow.holds Try.pinned (OpenSpec.upto clothTellsSpec)

/-- 'tapestrylaw8.ClothHangs', WHERE WHAT IT READS IS OF BULK AT MOST 1048576: true; the input reads as it did. -/
def clothHangsUptoRow : OpenClaim := { program := "ytbbilogkblmniaa", sum := "3aacd99968efbca1a9d410a51507693e1f44c27d6247fe7de7eff9f3293152dc", func := "tapestry/tapestrylaw8.ClothHangs", spec := "clothHangs", unfollowed := true, recurses := true, apart := false, narrowed := true }
def ClothHangsUptoSaid : Prop := clothHangsUptoRow.holds Try.pinned (OpenSpec.upto clothHangsSpec)

/-- 'tapestrylaw8.ClothLayers', WHERE WHAT IT READS IS OF BULK AT MOST 1048576: true; the input reads as it did. -/
def clothLayersUptoRow : OpenClaim := { program := "ytbbilogkblmniaa", sum := "3aacd99968efbca1a9d410a51507693e1f44c27d6247fe7de7eff9f3293152dc", func := "tapestry/tapestrylaw8.ClothLayers", spec := "clothLayers", unfollowed := true, recurses := true, apart := false, narrowed := true }
def ClothLayersUptoSaid : Prop := clothLayersUptoRow.holds Try.pinned (OpenSpec.upto clothLayersSpec)

/-- 'tapestrylaw8.ClothTurned', WHERE WHAT IT READS IS OF BULK AT MOST 1048576: true; the input reads as it did. -/
def clothTurnedUptoRow : OpenClaim := { program := "ytbbilogkblmniaa", sum := "3aacd99968efbca1a9d410a51507693e1f44c27d6247fe7de7eff9f3293152dc", func := "tapestry/tapestrylaw8.ClothTurned", spec := "clothTurned", unfollowed := true, recurses := true, apart := false, narrowed := true }
def ClothTurnedUptoSaid : Prop := clothTurnedUptoRow.holds Try.pinned (OpenSpec.upto clothTurnedSpec)

end Rows
end Go.Proofs.Ytbbilogkblmniaa
