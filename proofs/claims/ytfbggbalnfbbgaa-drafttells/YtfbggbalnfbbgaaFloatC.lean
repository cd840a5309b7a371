/-
  Floats of package truth.
-/
import Derived.Test.YtfbggbalnfbbgaaFloatB
namespace Go.Proofs.Ytfbggbalnfbbgaa
open Go.RowKit Go.Shelf

def FloatsIs (F : Nat) (w h : Int) (p : Option Addr) (n cap : Nat) (W : World) (d a er : Int) : Prop := Calls Try.prog F #[tr w h p n cap] W fun e w' => e = .returned (.tuple #[.int .i64 d, .int .i64 a, .int .i64 er]) ∧ Below W.heap.size W w'
end Go.Proofs.Ytfbggbalnfbbgaa
