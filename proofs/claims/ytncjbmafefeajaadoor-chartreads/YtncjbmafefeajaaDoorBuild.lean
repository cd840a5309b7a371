/-
  What copyCheck, WriteByte and WriteRune of a strings.Builder do to a builder that the caller made itself.
-/
import Derived.Test.YtncjbmafefeajaaDoorShelf
import Derived.Test.YtncjbmafefeajaaDoorAt
import Derived.Lib.RuneBytes
namespace Go.Proofs.YtncjbmafefeajaaDoor
open Go.RowKit

theorem info5 : (Tryd.prog.info? 5).map (fun i => (i.zero, i.size, i.bytes)) = some (some (.int .u8 0), 1, 1) := by kernel_rfl

theorem bd_slice {B : Nat} {n m : Nat} {xs : List Value} {v : Value} {w : World} (h : w.ownsRow B 5 1 v (n + m) xs) (hm : 1 ≤ m) : ∃ g cap, v = .slice (some ⟨g, 0, none⟩) (n + m) cap := by
  rcases h.2 with ⟨_, h0⟩ | ⟨g, cap, cur, hv, _⟩
  · omega
  · exact ⟨g, cap, hv⟩

end Go.Proofs.YtncjbmafefeajaaDoor
