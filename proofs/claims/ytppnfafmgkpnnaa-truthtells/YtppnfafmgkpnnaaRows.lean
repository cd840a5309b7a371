/-
  No cell of these rows narrows 'for every input' (looked for: loops, veiled, ifaces, maps, wideKeys, modest, calm, conditions, laid).
  DERIVED. THE GIVEN ROWS OF THIS SEAT. 3 by the template 'for every input the law returns true; each argument reads behind the call as it read before'; 0 by the template 'total and deterministic' (their statements: YtppnfafmgkpnnaaTotals.lean).
  GIVEN WITH THE SEED: the statements are not yours to turn. If you find one false, say at which input.
  Laid BY PROGRAM, IN A SANDBOX (cutbox-rows.mjs): the forced cells as the released guide's own fill.sh prints them over the translation bb808f46d55e08dc… (all of the seat's roots in one cut). By AI agents, Wed Nov 11 2026. No macro, syntax, notation, axiom, sorry.
-/
import Derived.Test.YtppnfafmgkpnnaaChecked
import GoSem.Claim
import GoSem.ClaimJoined
import GoSem.ClaimMapViews
import Derived.JoinedTies
import Derived.KernelRfl
namespace Go.Proofs.Ytppnfafmgkpnnaa
/- THE CELL 'sum', in the pinned program and in every row, IS THE sha256 OF THE DUMP (.gsa) THAT YtppnfafmgkpnnaaProg.lean LOADS. Nothing in Lean hashes anything: it is a label: what it is worth is what the hold of that sum in a sandbox is worth. -/
noncomputable def Try.pinned : Pinned := { name := "ytppnfafmgkpnnaa", sum := "bb808f46d55e08dcc136bae6198bb0aa5680008bbbee8ed411c9294cea2dbdef", checked := Try.checked }
namespace Rows
def none {H : Type} : Left H := { results := [], args := [] }

/-- 'tapestrylaw5.TruthTells': WHATEVER THE INPUT: true; the input reads as it did. -/
def truthTellsSpec : ChangeSpec := { name := "truthTells", fn := fun _ => fun
  | [d1, d2] => { results := [.lit (.bool true)], args := [d1, d2] }
  | _ => none }
def truthTellsRow : OpenClaim := { program := "ytppnfafmgkpnnaa", sum := "bb808f46d55e08dcc136bae6198bb0aa5680008bbbee8ed411c9294cea2dbdef", func := "tapestry/tapestrylaw5.TruthTells", spec := "truthTells", unfollowed := true, recurses := true, apart := false }
def TruthTellsSaid : Prop := truthTellsRow.holds Try.pinned (OpenSpec.ofChange truthTellsSpec)

/-- ITS FALSE NEIGHBOUR: 'it returns false'. Refute it at one input. -/
def truthTellsWrong : ChangeSpec := { name := "truthTells", fn := fun _ => fun
  | [d1, d2] => { results := [.lit (.bool false)], args := [d1, d2] }
  | _ => none }
def TruthTellsWrongFalsely : Prop := truthTellsRow.holds Try.pinned (OpenSpec.ofChange truthTellsWrong)

/-- 'tapestrylaw5.TruthProducts': WHATEVER THE INPUT: true; the input reads as it did. -/
def truthProductsSpec : ChangeSpec := { name := "truthProducts", fn := fun _ => fun
  | [d1, d2, d3] => { results := [.lit (.bool true)], args := [d1, d2, d3] }
  | _ => none }
def truthProductsRow : OpenClaim := { program := "ytppnfafmgkpnnaa", sum := "bb808f46d55e08dcc136bae6198bb0aa5680008bbbee8ed411c9294cea2dbdef", func := "tapestry/tapestrylaw5.TruthProducts", spec := "truthProducts", unfollowed := true, recurses := true, apart := false }
def TruthProductsSaid : Prop := truthProductsRow.holds Try.pinned (OpenSpec.ofChange truthProductsSpec)

/-- ITS FALSE NEIGHBOUR: 'it returns false'. Refute it at one input. -/
def truthProductsWrong : ChangeSpec := { name := "truthProducts", fn := fun _ => fun
  | [d1, d2, d3] => { results := [.lit (.bool false)], args := [d1, d2, d3] }
  | _ => none }
def TruthProductsWrongFalsely : Prop := truthProductsRow.holds Try.pinned (OpenSpec.ofChange truthProductsWrong)

/-- 'tapestrylaw5.TruthFloats': WHATEVER THE INPUT: true; the input reads as it did. -/
def truthFloatsSpec : ChangeSpec := { name := "truthFloats", fn := fun _ => fun
  | [d1, d2] => { results := [.lit (.bool true)], args := [d1, d2] }
  | _ => none }
def truthFloatsRow : OpenClaim := { program := "ytppnfafmgkpnnaa", sum := "bb808f46d55e08dcc136bae6198bb0aa5680008bbbee8ed411c9294cea2dbdef", func := "tapestry/tapestrylaw5.TruthFloats", spec := "truthFloats", unfollowed := true, recurses := true, apart := false }
def TruthFloatsSaid : Prop := truthFloatsRow.holds Try.pinned (OpenSpec.ofChange truthFloatsSpec)

/-- ITS FALSE NEIGHBOUR: 'it returns false'. Refute it at one input. -/
def truthFloatsWrong : ChangeSpec := { name := "truthFloats", fn := fun _ => fun
  | [d1, d2] => { results := [.lit (.bool false)], args := [d1, d2] }
  | _ => none }
def TruthFloatsWrongFalsely : Prop := truthFloatsRow.holds Try.pinned (OpenSpec.ofChange truthFloatsWrong)

/- THE SECOND FORM. 'bulk': how many values and letters a reading holds, each counted each time it is reached (what is shared counts as often as it is met; a slice's spare places count too). A statement '..UptoSaid' is the law's where the arguments, and the package variables that the reading takes, are together of bulk at most 1048576: NARROWER than '..Said'. Prove '..Said' where nothing that the law and all that it calls make is longer than what came in: it says more and counts as full. Else prove '..UptoSaid'. A law counts once. -/
mutual
def uptoBulk {H : Type} : DataW H → Nat
  | .lit (.string bytes) => bytes.length + 1
  | .lit _ => 1
  | .nil => 1
  | .ptr d => uptoBulk d + 1
  | .slice elems spare => uptoBulkAll elems + uptoBulkAll spare + 1
  | .agg parts => uptoBulkAll parts + 1
  | .iface _ d => uptoBulk d + 1
  | .map entries => uptoBulkEntries entries + 1
  | .held _ => 1
def uptoBulkAll {H : Type} : List (DataW H) → Nat
  | [] => 0
  | d :: r => uptoBulk d + uptoBulkAll r
def uptoBulkEntries {H : Type} : List (Lit × DataW H) → Nat
  | [] => 0
  | x :: r => uptoBulkEntry x + uptoBulkEntries r
def uptoBulkEntry {H : Type} : Lit × DataW H → Nat
  | (.string bytes, d) => bytes.length + uptoBulk d + 1
  | (_, d) => uptoBulk d + 1
 end
def uptoSmall : (H : Type) → List (DataW H) → Bool := fun _ ds => decide (uptoBulkAll ds ≤ 1048576)
def OpenSpec.upto (s : _root_.Go.ChangeSpec) : _root_.Go.OpenSpec := { _root_.Go.OpenSpec.ofChange s with cond := some uptoSmall }

/-- 'tapestrylaw5.TruthTells', WHERE WHAT IT READS IS OF BULK AT MOST 1048576: true; the input reads as it did. -/
def truthTellsUptoRow : OpenClaim := { program := "ytppnfafmgkpnnaa", sum := "bb808f46d55e08dcc136bae6198bb0aa5680008bbbee8ed411c9294cea2dbdef", func := "tapestry/tapestrylaw5.TruthTells", spec := "truthTells", unfollowed := true, recurses := true, apart := false, narrowed := true }
def TruthTellsUptoSaid : Prop := truthTellsUptoRow.holds Try.pinned (OpenSpec.upto truthTellsSpec)

/-- 'tapestrylaw5.TruthProducts', WHERE WHAT IT READS IS OF BULK AT MOST 1048576: true; the input reads as it did. -/
def truthProductsUptoRow : OpenClaim := { program := "ytppnfafmgkpnnaa", sum := "bb808f46d55e08dcc136bae6198bb0aa5680008bbbee8ed411c9294cea2dbdef", func := "tapestry/tapestrylaw5.TruthProducts", spec := "truthProducts", unfollowed := true, recurses := true, apart := false, narrowed := true }
def TruthProductsUptoSaid : Prop := truthProductsUptoRow.holds Try.pinned (OpenSpec.upto truthProductsSpec)

/-- 'tapestrylaw5.TruthFloats', WHERE WHAT IT READS IS OF BULK AT MOST 1048576: true; the input reads as it did. -/
def truthFloatsUptoRow : OpenClaim := { program := "ytppnfafmgkpnnaa", sum := "bb808f46d55e08dcc136bae6198bb0aa5680008bbbee8ed411c9294cea2dbdef", func := "tapestry/tapestrylaw5.TruthFloats", spec := "truthFloats", unfollowed := true, recurses := true, apart := false, narrowed := true }
def TruthFloatsUptoSaid : Prop := truthFloatsUptoRow.holds Try.pinned (OpenSpec.upto truthFloatsSpec)

end Rows
end Go.Proofs.Ytppnfafmgkpnnaa
