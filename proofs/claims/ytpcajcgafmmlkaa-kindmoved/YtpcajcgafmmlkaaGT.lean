/-
  What Moved of the reference answers of a right chart.
-/
import Derived.Test.YtpcajcgafmmlkaaGS
namespace Go.Proofs.Ytpcajcgafmmlkaa
open Go.RowKit

end Go.Proofs.Ytpcajcgafmmlkaa
