/-
  SameMoves and SamePoints of the reference: two rows that hold the same.
-/
import Derived.Test.YtpcajcgafmmlkaaGJ
namespace Go.Proofs.Ytpcajcgafmmlkaa
open Go.RowKit

/-- a row of points -/
def ZRow (W : World) (b : Nat) (L : List (Int × Int)) : Prop := b < W.heap.size ∧ ∀ j z, L[j]? = some z → W.cell? ⟨b, j * 2, none⟩ = some (.int .i64 z.1) ∧ W.cell? ⟨b, j * 2 + 1, none⟩ = some (.int .i64 z.2)
theorem ZRow.keep {W w1 : World} {b : Nat} {L : List (Int × Int)} (h : ZRow W b L) (hb : Below W.heap.size W w1) : ZRow w1 b L :=
  ⟨Nat.lt_of_lt_of_le h.1 hb.size, fun j z hz => ⟨keepC hb h.1 (h.2 j z hz).1, keepC hb h.1 (h.2 j z hz).2⟩⟩

end Go.Proofs.Ytpcajcgafmmlkaa
