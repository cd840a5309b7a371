/-
  Plain facts: two moves that keep a pattern, one behind the other, keep it; what undoes one keeps it. And what Compose and Inverse answer of moves by points of the torus.
-/
import Derived.Test.YtpcajcgafmmlkaaDoorGL
namespace Go.Proofs.YtpcajcgafmmlkaaDoor
open Go.RowKit

theorem cT_back (g t : Int) (f : Bool) (hg : g = 4 ∨ g = 6) (ht : 0 ≤ t ∧ t < g) : cT g (bt g t f) f t = 0 ∧ cT g t f (bt g t f) = 0 ∧ cF f f = false := by
  rcases hg with rfl | rfl <;> cases f <;> exact ⟨by simp only [cT, bt]; omega, by simp only [cT, bt]; omega, rfl⟩
theorem back2 (g t : Int) (f : Bool) (x y : Int) (hg : g = 4 ∨ g = 6) (ht : 0 ≤ t ∧ t < g) : mv g t.toNat f x y (iP g t f x y).1 (iP g t f x y).2 = (0, 0) := by
  rw [mv_li]; unfold iP
  rw [li_neg, li_comp g t f (bt g t f) f x y hg ht (bt_range g t f hg ht), (cT_back g t f hg ht).2.1, (cT_back g t f hg ht).2.2]
  exact Prod.ext (by simp [li, tu, mi]; omega) (by simp [li, tu, mi]; omega)
theorem mv_id (g x y : Int) : mv g 0 false 0 0 x y = (x, y) := by simp [mv, tu, mi]
/-- a move behind what undoes it leaves each point where it is -/
theorem mv_back (g t : Int) (f : Bool) (x y zx zy : Int) (hg : g = 4 ∨ g = 6) (ht : 0 ≤ t ∧ t < g) :
    mv g t.toNat f x y (mv g (bt g t f).toNat f (iP g t f x y).1 (iP g t f x y).2 zx zy).1 (mv g (bt g t f).toNat f (iP g t f x y).1 (iP g t f x y).2 zx zy).2 = (zx, zy) := by
  rw [← mv_comp g t f x y (bt g t f) f _ _ zx zy hg ht (bt_range g t f hg ht), back2 g t f x y hg ht, (cT_back g t f hg ht).2.1, (cT_back g t f hg ht).2.2]
  exact mv_id g zx zy
theorem Kp.comp {P : Int → Int → Int} {g t : Int} {f : Bool} {x y t' : Int} {f' : Bool} {x' y' : Int} (hg : g = 4 ∨ g = 6) (ht : 0 ≤ t ∧ t < g) (ht' : 0 ≤ t' ∧ t' < g) (h : Kp P g t.toNat f x y) (k : Kp P g t'.toNat f' x' y') :
    Kp P g (cT g t f t').toNat (cF f f') (mv g t.toNat f x y x' y').1 (mv g t.toNat f x y x' y').2 := by
  intro zx zy
  rw [mv_comp g t f x y t' f' x' y' zx zy hg ht ht', ← h, ← k]
theorem Kp.inv {P : Int → Int → Int} {g t : Int} {f : Bool} {x y : Int} (hg : g = 4 ∨ g = 6) (ht : 0 ≤ t ∧ t < g) (h : Kp P g t.toNat f x y) : Kp P g (bt g t f).toNat f (iP g t f x y).1 (iP g t f x y).2 := by
  intro zx zy
  have e := h (mv g (bt g t f).toNat f (iP g t f x y).1 (iP g t f x y).2 zx zy).1 (mv g (bt g t f).toNat f (iP g t f x y).1 (iP g t f x y).2 zx zy).2
  rw [mv_back g t f x y zx zy hg ht] at e
  exact e.symm
theorem compose_small (g t : Int) (f : Bool) (x y t' : Int) (f' : Bool) (x' y' : Int) (hg : g = 4 ∨ g = 6) (ht : 0 ≤ t ∧ t < g) (ht' : 0 ≤ t' ∧ t' < g) (hx : 0 ≤ x ∧ x ≤ 24) (hy : 0 ≤ y ∧ y ≤ 24) (hx' : 0 ≤ x' ∧ x' ≤ 24) (hy' : 0 ≤ y' ∧ y' ≤ 24) :
    ComposeIs g t f x y t' f' x' y' (cT g t f t') (cF f f') (mv g t.toNat f x y x' y').1 (mv g t.toNat f x y x' y').2 0 := by
  have h := compose_any g t f x y t' f' x' y'
  have w1 := wE_of hg ht (sm2_of (x := x) (y := y) (by omega) (by omega))
  have w2 := wE_of hg ht' (sm2_of (x := x') (y := y') (by omega) (by omega))
  have hz := Sz.mv (g := g) (sz_small hx' hy') (sz_small hx hy) t.toNat f
  have hE : kE g t f x y t' x' y' = 0 := by
    rw [kE_of g t f x y t' x' y' w1 w2, if_pos]
    exact sm2_of (by unfold Sz at hz; omega) (by unfold Sz at hz; omega)
  obtain ⟨-, -, -, e1, e2, e3⟩ := kE_zero g t f x y t' f' x' y' hE
  rw [hE, e1, e2, e3] at h
  exact h
end Go.Proofs.YtpcajcgafmmlkaaDoor
