/-
  DyeSums, of anything.
-/
import Derived.Test.YtlilmchlddiacaaDD
import Derived.Test.YtlilmchlddiacaaFE
namespace Go.Proofs.Ytlilmchlddiacaa
open Go.RowKit

theorem sums_any (w : Int) (n cap : Nat) (q : Option Addr) (g : Nat → Int) (W : World) (hI : Is W q n g) : Calls Try.prog 6 #[.int .i64 w, .slice q n cap] W fun e w' => e = .returned (.bool true) ∧ Below W.heap.size W w' := by
  obtain ⟨m, f, lost, er, h⟩ := dot_split w n g
  have HD : ∀ V, Below W.heap.size W V → AnsD 12 #[.int .i64 w, .slice q n cap] V m f lost er := fun V hV => dots_any h cap q V (hI.keep hV)
  rcases h with ⟨h, rfl, rfl, rfl, rfl⟩ | ⟨h, -, rfl, rfl, rfl, rfl⟩ | ⟨h, h1, rfl, rfl, rfl, rfl⟩
  · exact sums_bad w n 0 cap q _ 0 8 (.inl rfl) alive_any W HD
  · exact sums_bad w n 0 cap q _ 0 3 (.inr rfl) alive_any W HD
  · obtain ⟨-, k1, -, k3, -⟩ := fit_nat h
    exact sums_ok w m cap q g _ _ k3 h1 (fun j => dt_two _) (no_light k1) alive_any W HD hI
end Go.Proofs.Ytlilmchlddiacaa
