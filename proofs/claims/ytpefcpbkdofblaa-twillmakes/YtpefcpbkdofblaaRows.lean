/-
  No cell of these rows narrows 'for every input' (looked for: loops, veiled, ifaces, maps, wideKeys, modest, calm, conditions, laid).
  DERIVED. THE GIVEN ROWS OF THIS SEAT. 3 by the template 'for every input the law returns true; each argument reads behind the call as it read before'; 0 by the template 'total and deterministic' (their statements: YtpefcpbkdofblaaTotals.lean).
  GIVEN WITH THE SEED: the statements are not yours to turn. If you find one false, say at which input.
  Laid BY PROGRAM, IN A SANDBOX (cutbox-rows.mjs): the forced cells as the released guide's own fill.sh prints them over the translation bf4c440748dff8a3… (all of the seat's roots in one cut). By AI agents, Wed Nov 11 2026. No macro, syntax, notation, axiom, sorry.
-/
import Derived.Test.YtpefcpbkdofblaaChecked
import GoSem.Claim
import GoSem.ClaimJoined
import GoSem.ClaimMapViews
import Derived.JoinedTies
import Derived.KernelRfl
namespace Go.Proofs.Ytpefcpbkdofblaa
/- THE CELL 'sum', in the pinned program and in every row, IS THE sha256 OF THE DUMP (.gsa) THAT YtpefcpbkdofblaaProg.lean LOADS. Nothing in Lean hashes anything: it is a label: what it is worth is what the hold of that sum in a sandbox is worth. -/
noncomputable def Try.pinned : Pinned := { name := "ytpefcpbkdofblaa", sum := "bf4c440748dff8a3fd99faec0b8c98e14d6f60fb360ee3fdb6d90d7e60720908", checked := Try.checked }
namespace Rows
def none {H : Type} : Left H := { results := [], args := [] }

/-- 'tapestrylaw7.TwillMakes': WHATEVER THE INPUT: true; the input reads as it did. -/
def twillMakesSpec : ChangeSpec := { name := "twillMakes", fn := fun _ => fun
  | [d1, d2, d3, d4] => { results := [.lit (.bool true)], args := [d1, d2, d3, d4] }
  | _ => none }
def twillMakesRow : OpenClaim := { program := "ytpefcpbkdofblaa", sum := "bf4c440748dff8a3fd99faec0b8c98e14d6f60fb360ee3fdb6d90d7e60720908", func := "tapestry/tapestrylaw7.TwillMakes", spec := "twillMakes", apart := false }
def TwillMakesSaid : Prop := twillMakesRow.holds Try.pinned (OpenSpec.ofChange twillMakesSpec)

/-- ITS FALSE NEIGHBOUR: 'it returns false'. Refute it at one input. -/
def twillMakesWrong : ChangeSpec := { name := "twillMakes", fn := fun _ => fun
  | [d1, d2, d3, d4] => { results := [.lit (.bool false)], args := [d1, d2, d3, d4] }
  | _ => none }
def TwillMakesWrongFalsely : Prop := twillMakesRow.holds Try.pinned (OpenSpec.ofChange twillMakesWrong)

/-- 'tapestrylaw7.TwillRuns': WHATEVER THE INPUT: true; the input reads as it did. -/
def twillRunsSpec : ChangeSpec := { name := "twillRuns", fn := fun _ => fun
  | [d1, d2] => { results := [.lit (.bool true)], args := [d1, d2] }
  | _ => none }
def twillRunsRow : OpenClaim := { program := "ytpefcpbkdofblaa", sum := "bf4c440748dff8a3fd99faec0b8c98e14d6f60fb360ee3fdb6d90d7e60720908", func := "tapestry/tapestrylaw7.TwillRuns", spec := "twillRuns", unfollowed := true, recurses := true, apart := false }
def TwillRunsSaid : Prop := twillRunsRow.holds Try.pinned (OpenSpec.ofChange twillRunsSpec)

/-- ITS FALSE NEIGHBOUR: 'it returns false'. Refute it at one input. -/
def twillRunsWrong : ChangeSpec := { name := "twillRuns", fn := fun _ => fun
  | [d1, d2] => { results := [.lit (.bool false)], args := [d1, d2] }
  | _ => none }
def TwillRunsWrongFalsely : Prop := twillRunsRow.holds Try.pinned (OpenSpec.ofChange twillRunsWrong)

/-- 'tapestrylaw7.TwillSatin': WHATEVER THE INPUT: true; the input reads as it did. -/
def twillSatinSpec : ChangeSpec := { name := "twillSatin", fn := fun _ => fun
  | [d1, d2] => { results := [.lit (.bool true)], args := [d1, d2] }
  | _ => none }
def twillSatinRow : OpenClaim := { program := "ytpefcpbkdofblaa", sum := "bf4c440748dff8a3fd99faec0b8c98e14d6f60fb360ee3fdb6d90d7e60720908", func := "tapestry/tapestrylaw7.TwillSatin", spec := "twillSatin", apart := false }
def TwillSatinSaid : Prop := twillSatinRow.holds Try.pinned (OpenSpec.ofChange twillSatinSpec)

/-- ITS FALSE NEIGHBOUR: 'it returns false'. Refute it at one input. -/
def twillSatinWrong : ChangeSpec := { name := "twillSatin", fn := fun _ => fun
  | [d1, d2] => { results := [.lit (.bool false)], args := [d1, d2] }
  | _ => none }
def TwillSatinWrongFalsely : Prop := twillSatinRow.holds Try.pinned (OpenSpec.ofChange twillSatinWrong)

/- THE SECOND FORM. 'bulk': how many values and letters a reading holds, each counted each time it is reached (what is shared counts as often as it is met; a slice's spare places count too). A statement '..UptoSaid' is the law's where the arguments, and the package variables that the reading takes, are together of bulk at most 1048576: NARROWER than '..Said'. Prove '..Said' where nothing that the law and all that it calls make is longer than what came in: it says more and counts as full. Else prove '..UptoSaid'. A law counts once. -/
mutual
def uptoBulk {H : Type} : DataW H → Nat
  | .lit (.string bytes) => bytes.length + 1
  | .lit _ => 1
  | .nil => 1
  | .ptr d => uptoBulk d + 1
  | .slice elems spare => uptoBulkAll elems + uptoBulkAll spare + 1
  | .agg parts => uptoBulkAll parts + 1
  | .iface _ d => uptoBulk d + 1
  | .map entries => uptoBulkEntries entries + 1
  | .held _ => 1
def uptoBulkAll {H : Type} : List (DataW H) → Nat
  | [] => 0
  | d :: r => uptoBulk d + uptoBulkAll r
def uptoBulkEntries {H : Type} : List (Lit × DataW H) → Nat
  | [] => 0
  | x :: r => uptoBulkEntry x + uptoBulkEntries r
def uptoBulkEntry {H : Type} : Lit × DataW H → Nat
  | (.string bytes, d) => bytes.length + uptoBulk d + 1
  | (_, d) => uptoBulk d + 1
 end
def uptoSmall : (H : Type) → List (DataW H) → Bool := fun _ ds => decide (uptoBulkAll ds ≤ 1048576)
def OpenSpec.upto (s : _root_.Go.ChangeSpec) : _root_.Go.OpenSpec := { _root_.Go.OpenSpec.ofChange s with cond := some uptoSmall }

/-- 'tapestrylaw7.TwillMakes', WHERE WHAT IT READS IS OF BULK AT MOST 1048576: true; the input reads as it did. -/
def twillMakesUptoRow : OpenClaim := { program := "ytpefcpbkdofblaa", sum := "bf4c440748dff8a3fd99faec0b8c98e14d6f60fb360ee3fdb6d90d7e60720908", func := "tapestry/tapestrylaw7.TwillMakes", spec := "twillMakes", apart := false, narrowed := true }
def TwillMakesUptoSaid : Prop := twillMakesUptoRow.holds Try.pinned (OpenSpec.upto twillMakesSpec)

/-- 'tapestrylaw7.TwillRuns', WHERE WHAT IT READS IS OF BULK AT MOST 1048576: true; the input reads as it did. -/
def twillRunsUptoRow : OpenClaim := { program := "ytpefcpbkdofblaa", sum := "bf4c440748dff8a3fd99faec0b8c98e14d6f60fb360ee3fdb6d90d7e60720908", func := "tapestry/tapestrylaw7.TwillRuns", spec := "twillRuns", unfollowed := true, recurses := true, apart := false, narrowed := true }
def TwillRunsUptoSaid : Prop := twillRunsUptoRow.holds Try.pinned (OpenSpec.upto twillRunsSpec)

/-- 'tapestrylaw7.TwillSatin', WHERE WHAT IT READS IS OF BULK AT MOST 1048576: true; the input reads as it did. -/
def twillSatinUptoRow : OpenClaim := { program := "ytpefcpbkdofblaa", sum := "bf4c440748dff8a3fd99faec0b8c98e14d6f60fb360ee3fdb6d90d7e60720908", func := "tapestry/tapestrylaw7.TwillSatin", spec := "twillSatin", apart := false, narrowed := true }
def TwillSatinUptoSaid : Prop := twillSatinUptoRow.holds Try.pinned (OpenSpec.upto twillSatinSpec)

end Rows
end Go.Proofs.Ytpefcpbkdofblaa
