/-
  EffectComplete, of anything.
-/
import Derived.Test.YtbmgjoocpbikkaaLcB
namespace Go.Proofs.Ytbmgjoocpbikkaa
open Go.RowKit

theorem complete_any (q1 : Option Addr) (n c1 : Nat) (q2 : Option Addr) (m c2 : Nat) (e p : Nat → Int) (tw th : Int) (q3 : Option Addr) (nb c3 : Nat) (f : Nat → Bool) (g w h : Int) (q4 : Option Addr) (nc c4 : Nat) (px : Nat → Int) (W : World) (h1 : T.Is W q1 n e) (h2 : T.Is W q2 m p) (h3 : T.Bs W q3 nb c3 f) (h4 : T.Is W q4 nc px) :
    Calls Try.prog 4 #[sg q1 n c1 q2 m c2, T.tr tw th q3 nb c3, Ch.ch g w h q4 nc c4] W fun e' w' => e' = .returned (.bool true) ∧ Below W.heap.size W w' := by
  by_cases hs : shE n m e p tw th nb = 0
  · obtain ⟨k1, rfl, rfl, k4⟩ := shE_zero hs
    by_cases he : pE g w h nc px = 0
    · obtain ⟨rfl, hw, hh, hn, _⟩ := pE_zero he
      obtain ⟨a, rfl⟩ := Int.eq_ofNat_of_zero_le (show 0 ≤ w by omega)
      obtain ⟨b, rfl⟩ := Int.eq_ofNat_of_zero_le (show 0 ≤ h by omega)
      by_cases hx : ∃ f, Tot (pic a b px) f ∧ Good (pic a b px) f
      · obtain ⟨f0, hT, hG⟩ := hx
        exact complete_B0 q1 n c1 q2 m c2 e p q3 nb c3 f a b q4 nc c4 px W h1 h2 h3 h4 k1 k4 he f0 hT hG
      · exact complete_B6 q1 n c1 q2 m c2 e p q3 nb c3 f a b q4 nc c4 px W h1 h2 h3 h4 k1 k4 he (fun f hT hG => hx ⟨f, hT, hG⟩)
    · exact complete_BX q1 n c1 q2 m c2 e p q3 nb c3 f g w h q4 nc c4 px W h1 h2 h3 h4 k1 k4 he
  · by_cases he : pE g w h nc px = 0
    · obtain ⟨rfl, hw, hh, hn, _⟩ := pE_zero he
      obtain ⟨a, rfl⟩ := Int.eq_ofNat_of_zero_le (show 0 ≤ w by omega)
      obtain ⟨b, rfl⟩ := Int.eq_ofNat_of_zero_le (show 0 ≤ h by omega)
      by_cases hx : ∃ f, Tot (pic a b px) f ∧ Good (pic a b px) f
      · obtain ⟨f0, hT, hG⟩ := hx
        exact complete_A0 q1 n c1 q2 m c2 e p tw th q3 nb c3 f a b q4 nc c4 px W h1 h2 h3 h4 hs he f0 hT hG
      · exact complete_A6 q1 n c1 q2 m c2 e p tw th q3 nb c3 f a b q4 nc c4 px W h1 h2 h3 h4 hs he (fun f hT hG => hx ⟨f, hT, hG⟩)
    · exact complete_AX q1 n c1 q2 m c2 e p tw th q3 nb c3 f g w h q4 nc c4 px W h1 h2 h3 h4 hs he
end Go.Proofs.Ytbmgjoocpbikkaa
