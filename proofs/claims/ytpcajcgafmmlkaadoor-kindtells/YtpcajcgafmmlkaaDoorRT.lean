/-
  What the reference's Then answers, of moves that are far within the bounds.
-/
import Derived.Test.YtpcajcgafmmlkaaDoorFit
import Derived.Test.YtpcajcgafmmlkaaDoorThen
import Derived.Test.YtpcajcgafmmlkaaDoorMoveMath
namespace Go.Proofs.YtpcajcgafmmlkaaDoor
open Go.RowKit

theorem li_inj6 : ∀ t T : Fin 6, ∀ f F : Bool, (li 6 t f 1 0 = li 6 T F 1 0 ∧ li 6 t f 0 1 = li 6 T F 0 1) → t = T ∧ f = F := by decide +kernel

theorem li_inj4 : ∀ t T : Fin 4, ∀ f F : Bool, (li 4 t f 1 0 = li 4 T F 1 0 ∧ li 4 t f 0 1 = li 4 T F 0 1) → t = T ∧ f = F := by decide +kernel

theorem li_inj (g : Int) (hg : g = 4 ∨ g = 6) (t T : Nat) (f F : Bool) (ht : (t : Int) < g) (hT : (T : Int) < g) (h1 : li g t f 1 0 = li g T F 1 0) (h2 : li g t f 0 1 = li g T F 0 1) : t = T ∧ f = F := by
  rcases hg with rfl | rfl
  · have := li_inj4 ⟨t, by omega⟩ ⟨T, by omega⟩ f F ⟨h1, h2⟩
    exact ⟨by simpa using this.1, this.2⟩
  · have := li_inj6 ⟨t, by omega⟩ ⟨T, by omega⟩ f F ⟨h1, h2⟩
    exact ⟨by simpa using this.1, this.2⟩

theorem Sz.pt {g x y : Int} (h : (x = 0 ∧ y = 0) ∨ (x = 1 ∧ y = 0) ∨ (x = 0 ∧ y = 1)) : Sz g 1 x y := by unfold Sz; omega

theorem fit_any (g T : Int) (F : Bool) (ox oy : Int) (hg : g = 4 ∨ g = 6) (hT : 0 ≤ T ∧ T < g) (ho : Sz g 268435456 ox oy) :
    FitIs g ox oy (mv g T.toNat F ox oy 1 0).1 (mv g T.toNat F ox oy 1 0).2 (mv g T.toNat F ox oy 0 1).1 (mv g T.toNat F ox oy 0 1).2 T F ox oy := by
  obtain ⟨n, rfl⟩ := Int.eq_ofNat_of_zero_le hT.1
  simp only [Int.toNat_natCast]
  intro W
  refine fitting_is g n F ox oy _ _ _ _ W (by omega) (by omega) ?_
  intro t ht f
  have s1 : Sz g 268435456 1 0 := (Sz.pt (Or.inr (Or.inl ⟨rfl, rfl⟩))).mono (by decide)
  have s2 : Sz g 268435456 0 1 := (Sz.pt (Or.inr (Or.inr ⟨rfl, rfl⟩))).mono (by decide)
  refine ⟨_, _, _, _, to_any g t f ox oy 1 0 hg ⟨by omega, ht⟩ s1 ho, to_any g t f ox oy 0 1 hg ⟨by omega, ht⟩ s2 ho, ?_, ?_⟩
  · rintro ⟨rfl, rfl⟩
    exact ⟨rfl, rfl, rfl, rfl⟩
  · intro hne hall
    simp only [Int.toNat_natCast, mv_li] at hall
    obtain ⟨a1, a2, a3, a4⟩ := hall
    exact hne (li_inj g hg t n f F ht (by omega) (Prod.ext (by omega) (by omega)) (Prod.ext (by omega) (by omega)))

theorem li_origin (g : Int) (t : Nat) (f : Bool) : li g t f 0 0 = (0, 0) := by
  have := li_add g t f 0 0 0 0
  rw [show (0 : Int) + 0 = 0 by omega] at this
  have h1 := congrArg Prod.fst this
  have h2 := congrArg Prod.snd this
  simp only at h1 h2
  exact Prod.ext (by simp only; omega) (by simp only; omega)

theorem then_any (g t : Int) (f : Bool) (x y t' : Int) (f' : Bool) (x' y' : Int) (hg : g = 4 ∨ g = 6) (ht : 0 ≤ t ∧ t < g) (ht' : 0 ≤ t' ∧ t' < g) (h : Sz g 67108864 x y) (h' : Sz g 67108864 x' y') :
    ThenIs g t f x y t' f' x' y' (cT g t f t') (cF f f') (mv g t.toNat f x y x' y').1 (mv g t.toNat f x y x' y').2 := by
  have s0 : Sz g 1 0 0 := Sz.pt (Or.inl ⟨rfl, rfl⟩)
  have s1 : Sz g 1 1 0 := Sz.pt (Or.inr (Or.inl ⟨rfl, rfl⟩))
  have s2 : Sz g 1 0 1 := Sz.pt (Or.inr (Or.inr ⟨rfl, rfl⟩))
  have e0 : mv g t'.toNat f' x' y' 0 0 = (x', y') := by rw [mv_li, li_origin]; exact Prod.ext (by simp) (by simp)
  have H0 := to_any g t' f' x' y' 0 0 hg ht' (s0.mono (by decide)) (h'.mono (by decide))
  have H1 := to_any g t' f' x' y' 1 0 hg ht' (s1.mono (by decide)) (h'.mono (by decide))
  have H2 := to_any g t' f' x' y' 0 1 hg ht' (s2.mono (by decide)) (h'.mono (by decide))
  rw [e0] at H0
  have F0 := to_any g t f x y x' y' hg ht (h'.mono (by decide)) (h.mono (by decide))
  have F1 := to_any g t f x y _ _ hg ht ((s1.mv h' t'.toNat f').mono (by decide)) (h.mono (by decide))
  have F2 := to_any g t f x y _ _ hg ht ((s2.mv h' t'.toNat f').mono (by decide)) (h.mono (by decide))
  have m1 := mv_comp g t f x y t' f' x' y' 1 0 hg ht ht'
  have m2 := mv_comp g t f x y t' f' x' y' 0 1 hg ht ht'
  have Q := fit_any g (cT g t f t') (cF f f') (mv g t.toNat f x y x' y').1 (mv g t.toNat f x y x' y').2 hg (cT_range g t f t' hg) ((h'.mv h t.toNat f).mono (by decide))
  rw [m1, m2] at Q
  exact then_is g t f x y t' f' x' y' _ _ _ _ _ _ _ _ _ _ _ _ _ _ _ _ H0 H1 H2 F0 F1 F2 Q

end Go.Proofs.YtpcajcgafmmlkaaDoor
