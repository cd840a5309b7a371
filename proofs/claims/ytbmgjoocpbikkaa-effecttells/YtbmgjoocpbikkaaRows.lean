/-
  No cell of these rows narrows 'for every input' (looked for: loops, veiled, ifaces, maps, wideKeys, modest, calm, conditions, laid).
  DERIVED. THE GIVEN ROWS OF THIS SEAT. 3 by the template 'for every input the law returns true; each argument reads behind the call as it read before'; 0 by the template 'total and deterministic' (their statements: YtbmgjoocpbikkaaTotals.lean).
  GIVEN WITH THE SEED: the statements are not yours to turn. If you find one false, say at which input.
  Laid BY PROGRAM, IN A SANDBOX (cutbox-rows.mjs): the forced cells as the released guide's own fill.sh prints them over the translation a56b91026f88293a… (all of the seat's roots in one cut). By AI agents, Wed Nov 11 2026. No macro, syntax, notation, axiom, sorry.
-/
import Derived.Test.YtbmgjoocpbikkaaChecked
import GoSem.Claim
import GoSem.ClaimJoined
import GoSem.ClaimMapViews
import Derived.JoinedTies
import Derived.KernelRfl
namespace Go.Proofs.Ytbmgjoocpbikkaa
/- THE CELL 'sum', in the pinned program and in every row, IS THE sha256 OF THE DUMP (.gsa) THAT YtbmgjoocpbikkaaProg.lean LOADS. Nothing in Lean hashes anything: it is a label: what it is worth is what the hold of that sum in a sandbox is worth. -/
noncomputable def Try.pinned : Pinned := { name := "ytbmgjoocpbikkaa", sum := "a56b91026f88293a69523e7988a230a5382c4a97181a62e3568f220e94053b62", checked := Try.checked }
namespace Rows
def none {H : Type} : Left H := { results := [], args := [] }

/-- 'tapestrylaw19.EffectTells': WHATEVER THE INPUT: true; the input reads as it did. -/
def effectTellsSpec : ChangeSpec := { name := "effectTells", fn := fun _ => fun
  | [d1, d2, d3] => { results := [.lit (.bool true)], args := [d1, d2, d3] }
  | _ => none }
def effectTellsRow : OpenClaim := { program := "ytbmgjoocpbikkaa", sum := "a56b91026f88293a69523e7988a230a5382c4a97181a62e3568f220e94053b62", func := "tapestry/tapestrylaw19.EffectTells", spec := "effectTells", unfollowed := true, recurses := true, apart := false }
def EffectTellsSaid : Prop := effectTellsRow.holds Try.pinned (OpenSpec.ofChange effectTellsSpec)

/-- ITS FALSE NEIGHBOUR: 'it returns false'. Refute it at one input. -/
def effectTellsWrong : ChangeSpec := { name := "effectTells", fn := fun _ => fun
  | [d1, d2, d3] => { results := [.lit (.bool false)], args := [d1, d2, d3] }
  | _ => none }
def EffectTellsWrongFalsely : Prop := effectTellsRow.holds Try.pinned (OpenSpec.ofChange effectTellsWrong)

/-- 'tapestrylaw19.EffectComplete': WHATEVER THE INPUT: true; the input reads as it did. -/
def effectCompleteSpec : ChangeSpec := { name := "effectComplete", fn := fun _ => fun
  | [d1, d2, d3] => { results := [.lit (.bool true)], args := [d1, d2, d3] }
  | _ => none }
def effectCompleteRow : OpenClaim := { program := "ytbmgjoocpbikkaa", sum := "a56b91026f88293a69523e7988a230a5382c4a97181a62e3568f220e94053b62", func := "tapestry/tapestrylaw19.EffectComplete", spec := "effectComplete", unfollowed := true, recurses := true, apart := false }
def EffectCompleteSaid : Prop := effectCompleteRow.holds Try.pinned (OpenSpec.ofChange effectCompleteSpec)

/-- ITS FALSE NEIGHBOUR: 'it returns false'. Refute it at one input. -/
def effectCompleteWrong : ChangeSpec := { name := "effectComplete", fn := fun _ => fun
  | [d1, d2, d3] => { results := [.lit (.bool false)], args := [d1, d2, d3] }
  | _ => none }
def EffectCompleteWrongFalsely : Prop := effectCompleteRow.holds Try.pinned (OpenSpec.ofChange effectCompleteWrong)

/-- 'tapestrylaw19.EffectFirst': WHATEVER THE INPUT: true; the input reads as it did. -/
def effectFirstSpec : ChangeSpec := { name := "effectFirst", fn := fun _ => fun
  | [d1, d2] => { results := [.lit (.bool true)], args := [d1, d2] }
  | _ => none }
def effectFirstRow : OpenClaim := { program := "ytbmgjoocpbikkaa", sum := "a56b91026f88293a69523e7988a230a5382c4a97181a62e3568f220e94053b62", func := "tapestry/tapestrylaw19.EffectFirst", spec := "effectFirst", unfollowed := true, recurses := true, apart := false }
def EffectFirstSaid : Prop := effectFirstRow.holds Try.pinned (OpenSpec.ofChange effectFirstSpec)

/-- ITS FALSE NEIGHBOUR: 'it returns false'. Refute it at one input. -/
def effectFirstWrong : ChangeSpec := { name := "effectFirst", fn := fun _ => fun
  | [d1, d2] => { results := [.lit (.bool false)], args := [d1, d2] }
  | _ => none }
def EffectFirstWrongFalsely : Prop := effectFirstRow.holds Try.pinned (OpenSpec.ofChange effectFirstWrong)

/- THE SECOND FORM. 'bulk': how many values and letters a reading holds, each counted each time it is reached (what is shared counts as often as it is met; a slice's spare places count too). A statement '..UptoSaid' is the law's where the arguments, and the package variables that the reading takes, are together of bulk at most 1048576: NARROWER than '..Said'. Prove '..Said' where nothing that the law and all that it calls make is longer than what came in: it says more and counts as full. Else prove '..UptoSaid'. A law counts once. -/
mutual
def uptoBulk {H : Type} : DataW H → Nat
  | .lit (.string bytes) => bytes.length + 1
  | .lit _ => 1
  | .nil => 1
  | .ptr d => uptoBulk d + 1
  | .slice elems spare => uptoBulkAll elems + uptoBulkAll spare + 1
  | .agg parts => uptoBulkAll parts + 1
  | .iface _ d => uptoBulk d + 1
  | .map entries => uptoBulkEntries entries + 1
  | .held _ => 1
def uptoBulkAll {H : Type} : List (DataW H) → Nat
  | [] => 0
  | d :: r => uptoBulk d + uptoBulkAll r
def uptoBulkEntries {H : Type} : List (Lit × DataW H) → Nat
  | [] => 0
  | x :: r => uptoBulkEntry x + uptoBulkEntries r
def uptoBulkEntry {H : Type} : Lit × DataW H → Nat
  | (.string bytes, d) => bytes.length + uptoBulk d + 1
  | (_, d) => uptoBulk d + 1
 end
def uptoSmall : (H : Type) → List (DataW H) → Bool := fun _ ds => decide (uptoBulkAll ds ≤ 1048576)
def OpenSpec.upto (s : _root_.Go.ChangeSpec) : _root_.Go.OpenSpec := { _root_.Go.OpenSpec.ofChange s with cond := some uptoSmall }

/-- 'tapestrylaw19.EffectTells', WHERE WHAT IT READS IS OF BULK AT MOST 1048576: true; the input reads as it did. -/
def effectTellsUptoRow : OpenClaim := { program := "ytbmgjoocpbikkaa", sum := "a56b91026f88293a69523e7988a230a5382c4a97181a62e3568f220e94053b62", func := "tapestry/tapestrylaw19.EffectTells", spec := "effectTells", unfollowed := true, recurses := true, apart := false, narrowed := true }
def EffectTellsUptoSaid : Prop := effectTellsUptoRow.holds Try.pinned (OpenSpec.upto effectTellsSpec)

/-- 'tapestrylaw19.EffectComplete', WHERE WHAT IT READS IS OF BULK AT MOST 1048576: true; the input reads as it did. -/
def effectCompleteUptoRow : OpenClaim := { program := "ytbmgjoocpbikkaa", sum := "a56b91026f88293a69523e7988a230a5382c4a97181a62e3568f220e94053b62", func := "tapestry/tapestrylaw19.EffectComplete", spec := "effectComplete", unfollowed := true, recurses := true, apart := false, narrowed := true }
def EffectCompleteUptoSaid : Prop := effectCompleteUptoRow.holds Try.pinned (OpenSpec.upto effectCompleteSpec)

/-- 'tapestrylaw19.EffectFirst', WHERE WHAT IT READS IS OF BULK AT MOST 1048576: true; the input reads as it did. -/
def effectFirstUptoRow : OpenClaim := { program := "ytbmgjoocpbikkaa", sum := "a56b91026f88293a69523e7988a230a5382c4a97181a62e3568f220e94053b62", func := "tapestry/tapestrylaw19.EffectFirst", spec := "effectFirst", unfollowed := true, recurses := true, apart := false, narrowed := true }
def EffectFirstUptoSaid : Prop := effectFirstUptoRow.holds Try.pinned (OpenSpec.upto effectFirstSpec)

end Rows
end Go.Proofs.Ytbmgjoocpbikkaa
