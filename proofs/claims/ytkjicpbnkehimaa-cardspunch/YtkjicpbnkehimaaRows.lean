/-
  No cell of these rows narrows 'for every input' (looked for: loops, veiled, ifaces, maps, wideKeys, modest, calm, conditions, laid).
  DERIVED. THE GIVEN ROWS OF THIS SEAT. 3 by the template 'for every input the law returns true; each argument reads behind the call as it read before'; 0 by the template 'total and deterministic' (their statements: YtkjicpbnkehimaaTotals.lean).
  GIVEN WITH THE SEED: the statements are not yours to turn. If you find one false, say at which input.
  Laid BY PROGRAM, IN A SANDBOX (cutbox-rows.mjs): the forced cells as the released guide's own fill.sh prints them over the translation 846046d261d9ee18… (all of the seat's roots in one cut). By AI agents, Wed Nov 11 2026. No macro, syntax, notation, axiom, sorry.
-/
import Derived.Test.YtkjicpbnkehimaaChecked
import GoSem.Claim
import GoSem.ClaimJoined
import GoSem.ClaimMapViews
import Derived.JoinedTies
import Derived.KernelRfl
namespace Go.Proofs.Ytkjicpbnkehimaa
/- THE CELL 'sum', in the pinned program and in every row, IS THE sha256 OF THE DUMP (.gsa) THAT YtkjicpbnkehimaaProg.lean LOADS. Nothing in Lean hashes anything: it is a label: what it is worth is what the hold of that sum in a sandbox is worth. -/
noncomputable def Try.pinned : Pinned := { name := "ytkjicpbnkehimaa", sum := "846046d261d9ee18c045124c691e5f25a8607f3569004e4db216de9a107d906c", checked := Try.checked }
namespace Rows
def none {H : Type} : Left H := { results := [], args := [] }

/-- 'tapestrylaw9.CardsPunch': WHATEVER THE INPUT: true; the input reads as it did. -/
def cardsPunchSpec : ChangeSpec := { name := "cardsPunch", fn := fun _ => fun
  | [d1, d2] => { results := [.lit (.bool true)], args := [d1, d2] }
  | _ => none }
def cardsPunchRow : OpenClaim := { program := "ytkjicpbnkehimaa", sum := "846046d261d9ee18c045124c691e5f25a8607f3569004e4db216de9a107d906c", func := "tapestry/tapestrylaw9.CardsPunch", spec := "cardsPunch", inPlace := ["internal/abi.NoEscape"], unfollowed := true, recurses := true, apart := false }
def CardsPunchSaid : Prop := cardsPunchRow.holds Try.pinned (OpenSpec.ofChange cardsPunchSpec)

/-- ITS FALSE NEIGHBOUR: 'it returns false'. Refute it at one input. -/
def cardsPunchWrong : ChangeSpec := { name := "cardsPunch", fn := fun _ => fun
  | [d1, d2] => { results := [.lit (.bool false)], args := [d1, d2] }
  | _ => none }
def CardsPunchWrongFalsely : Prop := cardsPunchRow.holds Try.pinned (OpenSpec.ofChange cardsPunchWrong)

/-- 'tapestrylaw9.CardsTurn': WHATEVER THE INPUT: true; the input reads as it did. -/
def cardsTurnSpec : ChangeSpec := { name := "cardsTurn", fn := fun _ => fun
  | [d1, d2] => { results := [.lit (.bool true)], args := [d1, d2] }
  | _ => none }
def cardsTurnRow : OpenClaim := { program := "ytkjicpbnkehimaa", sum := "846046d261d9ee18c045124c691e5f25a8607f3569004e4db216de9a107d906c", func := "tapestry/tapestrylaw9.CardsTurn", spec := "cardsTurn", inPlace := ["internal/abi.NoEscape"], apart := false }
def CardsTurnSaid : Prop := cardsTurnRow.holds Try.pinned (OpenSpec.ofChange cardsTurnSpec)

/-- ITS FALSE NEIGHBOUR: 'it returns false'. Refute it at one input. -/
def cardsTurnWrong : ChangeSpec := { name := "cardsTurn", fn := fun _ => fun
  | [d1, d2] => { results := [.lit (.bool false)], args := [d1, d2] }
  | _ => none }
def CardsTurnWrongFalsely : Prop := cardsTurnRow.holds Try.pinned (OpenSpec.ofChange cardsTurnWrong)

/-- 'tapestrylaw9.CardsCheck': WHATEVER THE INPUT: true; the input reads as it did. -/
def cardsCheckSpec : ChangeSpec := { name := "cardsCheck", fn := fun _ => fun
  | [d1, d2, d3] => { results := [.lit (.bool true)], args := [d1, d2, d3] }
  | _ => none }
def cardsCheckRow : OpenClaim := { program := "ytkjicpbnkehimaa", sum := "846046d261d9ee18c045124c691e5f25a8607f3569004e4db216de9a107d906c", func := "tapestry/tapestrylaw9.CardsCheck", spec := "cardsCheck", inPlace := ["internal/abi.NoEscape"], apart := false }
def CardsCheckSaid : Prop := cardsCheckRow.holds Try.pinned (OpenSpec.ofChange cardsCheckSpec)

/-- ITS FALSE NEIGHBOUR: 'it returns false'. Refute it at one input. -/
def cardsCheckWrong : ChangeSpec := { name := "cardsCheck", fn := fun _ => fun
  | [d1, d2, d3] => { results := [.lit (.bool false)], args := [d1, d2, d3] }
  | _ => none }
def CardsCheckWrongFalsely : Prop := cardsCheckRow.holds Try.pinned (OpenSpec.ofChange cardsCheckWrong)

/- THE SECOND FORM. 'bulk': how many values and letters a reading holds, each counted each time it is reached (what is shared counts as often as it is met; a slice's spare places count too). A statement '..UptoSaid' is the law's where the arguments, and the package variables that the reading takes, are together of bulk at most 1048576: NARROWER than '..Said'. Prove '..Said' where nothing that the law and all that it calls make is longer than what came in: it says more and counts as full. Else prove '..UptoSaid'. A law counts once. -/
mutual
def uptoBulk {H : Type} : DataW H → Nat
  | .lit (.string bytes) => bytes.length + 1
  | .lit _ => 1
  | .nil => 1
  | .ptr d => uptoBulk d + 1
  | .slice elems spare => uptoBulkAll elems + uptoBulkAll spare + 1
  | .agg parts => uptoBulkAll parts + 1
  | .iface _ d => uptoBulk d + 1
  | .map entries => uptoBulkEntries entries + 1
  | .held _ => 1
def uptoBulkAll {H : Type} : List (DataW H) → Nat
  | [] => 0
  | d :: r => uptoBulk d + uptoBulkAll r
def uptoBulkEntries {H : Type} : List (Lit × DataW H) → Nat
  | [] => 0
  | x :: r => uptoBulkEntry x + uptoBulkEntries r
def uptoBulkEntry {H : Type} : Lit × DataW H → Nat
  | (.string bytes, d) => bytes.length + uptoBulk d + 1
  | (_, d) => uptoBulk d + 1
 end
def uptoSmall : (H : Type) → List (DataW H) → Bool := fun _ ds => decide (uptoBulkAll ds ≤ 1048576)
def OpenSpec.upto (s : _root_.Go.ChangeSpec) : _root_.Go.OpenSpec := { _root_.Go.OpenSpec.ofChange s with cond := some uptoSmall }

/-- 'tapestrylaw9.CardsPunch', WHERE WHAT IT READS IS OF BULK AT MOST 1048576: true; the input reads as it did. -/
def cardsPunchUptoRow : OpenClaim := { program := "ytkjicpbnkehimaa", sum := "846046d261d9ee18c045124c691e5f25a8607f3569004e4db216de9a107d906c", func := "tapestry/tapestrylaw9.CardsPunch", spec := "cardsPunch", inPlace := ["internal/abi.NoEscape"], unfollowed := true, recurses := true, apart := false, narrowed := true }
def CardsPunchUptoSaid : Prop := cardsPunchUptoRow.holds Try.pinned (OpenSpec.upto cardsPunchSpec)

/-- 'tapestrylaw9.CardsTurn', WHERE WHAT IT READS IS OF BULK AT MOST 1048576: true; the input reads as it did. -/
def cardsTurnUptoRow : OpenClaim := { program := "ytkjicpbnkehimaa", sum := "846046d261d9ee18c045124c691e5f25a8607f3569004e4db216de9a107d906c", func := "tapestry/tapestrylaw9.CardsTurn", spec := "cardsTurn", inPlace := ["internal/abi.NoEscape"], apart := false, narrowed := true }
def CardsTurnUptoSaid : Prop := cardsTurnUptoRow.holds Try.pinned (OpenSpec.upto cardsTurnSpec)

/-- 'tapestrylaw9.CardsCheck', WHERE WHAT IT READS IS OF BULK AT MOST 1048576: true; the input reads as it did. -/
def cardsCheckUptoRow : OpenClaim := { program := "ytkjicpbnkehimaa", sum := "846046d261d9ee18c045124c691e5f25a8607f3569004e4db216de9a107d906c", func := "tapestry/tapestrylaw9.CardsCheck", spec := "cardsCheck", inPlace := ["internal/abi.NoEscape"], apart := false, narrowed := true }
def CardsCheckUptoSaid : Prop := cardsCheckUptoRow.holds Try.pinned (OpenSpec.upto cardsCheckSpec)

end Rows
end Go.Proofs.Ytkjicpbnkehimaa
