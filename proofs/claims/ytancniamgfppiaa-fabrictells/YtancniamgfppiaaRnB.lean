/-
  plain.Knit: stitches, whatever is told of them.
-/
import Derived.Test.YtancniamgfppiaaRnA
namespace Go.Proofs.Ytancniamgfppiaa
open Go.RowKit

/-- what is told of the first stitches -/
def errV (N : Nat) (f : Nat → Sx) (n : Nat) : List Value := (List.range n).map fun i => Value.int .i64 (erS N f i)
theorem errV_succ (N : Nat) (f : Nat → Sx) (n : Nat) : errV N f (n + 1) = errV N f n ++ [.int .i64 (erS N f n)] := by simp [errV, List.range_succ]
/-- what Knit answers, of the program and of the document -/
def KnitOk (F N n : Nat) (f : Nat → Sx) (args : Array Value) (W : World) : Prop :=
  Calls Try.prog F args W fun e w' => ∃ ov v, e = .returned (.tuple #[ov, v, .int .i64 0]) ∧ w'.ownsRow W.heap.size 30 1 ov n (errV N f n) ∧ KR w' W.heap.size v (tell N (knS N f n)) ∧ Below W.heap.size W w'

end Go.Proofs.Ytancniamgfppiaa
