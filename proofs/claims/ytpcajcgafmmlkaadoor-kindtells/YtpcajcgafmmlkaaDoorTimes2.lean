/-
  What Times and Norm of package plane answer, at every input, in one line each.
-/
import Derived.Test.YtpcajcgafmmlkaaDoorTimes
namespace Go.Proofs.YtpcajcgafmmlkaaDoor
open Go.RowKit

def nn (g x y : Int) : Int := if g = 6 then x * x + x * y + y * y else x * x + y * y
def nE (g x y : Int) : Int := e1 g x y
def nN (g x y : Int) : Int := if e1 g x y = 0 then nn g x y else 0

theorem tE_alive : tE 6 0 1 0 1 = 0 := by decide
theorem tX_alive : tX 6 0 1 0 1 = -1 := by decide
theorem tY_alive : tY 6 0 1 0 1 = 1 := by decide

end Go.Proofs.YtpcajcgafmmlkaaDoor
