/-
  The reference: Floats; what is wrong with a product.
-/
import Derived.Test.YtpefcpbkdofblaaRefC
namespace Go.Proofs.Ytpefcpbkdofblaa
open Go.RowKit Go.Shelf

end Go.Proofs.Ytpefcpbkdofblaa
