/-
  What Moved of the reference answers of a right chart.
-/
import Derived.Test.YtpcajcgafmmlkaaDoorGS
namespace Go.Proofs.YtpcajcgafmmlkaaDoor
open Go.RowKit

end Go.Proofs.YtpcajcgafmmlkaaDoor
