/-
  What Torus, Kept and Keeps of the reference answer.
-/
import Derived.Test.YtpcajcgafmmlkaaDoorLComp
namespace Go.Proofs.YtpcajcgafmmlkaaDoor
open Go.RowKit

theorem abB_false {P : Int → Int → Int} {g : Int} {t : Nat} {f : Bool} {u v : Int} {N : Nat} (i k : Nat) (h : i < k) (hk : P ((i : Int) % N) ((i : Int) / N) ≠ P (mv g t f u v ((i : Int) % N) ((i : Int) / N)).1 (mv g t f u v ((i : Int) % N) ((i : Int) / N)).2) : abB P g t f u v N k = false := by
  cases e : abB P g t f u v N k with
  | false => rfl
  | true => exact absurd ((abB_iff P g t f u v N k).1 e i h) hk

end Go.Proofs.YtpcajcgafmmlkaaDoor
