/-
  EffectFirst, of anything.
-/
import Derived.Test.YtbmgjoocpbikkaaLf
namespace Go.Proofs.Ytbmgjoocpbikkaa
open Go.RowKit

theorem first_any (q1 : Option Addr) (n c1 : Nat) (q2 : Option Addr) (m c2 : Nat) (e p : Nat → Int) (g w h : Int) (q4 : Option Addr) (nc c4 : Nat) (px : Nat → Int) (W : World) (h1 : T.Is W q1 n e) (h2 : T.Is W q2 m p) (h4 : T.Is W q4 nc px) :
    Calls Try.prog 5 #[sg q1 n c1 q2 m c2, Ch.ch g w h q4 nc c4] W fun e' w' => e' = .returned (.bool true) ∧ Below W.heap.size W w' := by
  by_cases he : pE g w h nc px = 0
  · obtain ⟨rfl, hw, hh, hn, _⟩ := pE_zero he
    obtain ⟨a, rfl⟩ := Int.eq_ofNat_of_zero_le (show 0 ≤ w by omega)
    obtain ⟨b, rfl⟩ := Int.eq_ofNat_of_zero_le (show 0 ≤ h by omega)
    by_cases hx : ∃ f, Tot (pic a b px) f ∧ Good (pic a b px) f
    · obtain ⟨f, hT, hG⟩ := hx
      by_cases hc : clE n m e p 4 a b nc px = 0 ∧ ∀ j, j < n * m → CS n e p px j
      · obtain ⟨k1, k2, k3, k4⟩ := clE_zero hc.1
        obtain rfl : a = n := by omega
        obtain rfl : b = m := by omega
        have hnc : nc = a * b := by rw [← Int.natCast_mul] at hn; exact Int.ofNat.inj hn
        exact first_ok q1 a c1 q2 b c2 e p q4 nc c4 px W h1 h2 h4 k1 hnc he hc.2
      · exact first_other q1 n c1 q2 m c2 e p a b q4 nc c4 px W h1 h2 h4 he f hT hG (fun k l => hc ⟨k, l⟩)
    · exact first_none q1 n c1 q2 m c2 e p a b q4 nc c4 px W h1 h2 h4 he (fun f hT hG => hx ⟨f, hT, hG⟩)
  · exact first_wrong q1 n c1 q2 m c2 e p g w h q4 nc c4 px W h1 h2 h4 he
end Go.Proofs.Ytbmgjoocpbikkaa
