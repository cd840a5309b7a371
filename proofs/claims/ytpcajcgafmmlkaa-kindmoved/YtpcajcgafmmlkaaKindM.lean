/-
  Plain facts about what a kind hangs on: mirrors, glides and the points round which a pattern is turned by a third, said of the pattern alone; and that a pattern that is moved has the same.
-/
import Derived.Test.YtpcajcgafmmlkaaKindD
import Derived.Test.YtpcajcgafmmlkaaBandB
import Derived.Deep.CutRange
import Derived.Test.YtpcajcgafmmlkaaRow
namespace Go.Proofs.Ytpcajcgafmmlkaa
open Go.RowKit

theorem kp_mov {P : Int → Int → Int} {g : Int} {t : Nat} {f : Bool} {u v : Int} (h : Kp P g t f u v) : Mov P P g t f u v := fun x y => (h x y).symm
theorem st_mov {P : Int → Int → Int} {g u v : Int} (h : St P u v) : Mov P P g 0 false u v := kp_mov ((kp_step P g u v).2 h)
theorem li_zero (g : Int) (t : Nat) (f : Bool) : li g t f 0 0 = (0, 0) := by
  have := li_mul g t f 0 0 0
  simpa using this
theorem li_back (g : Int) (t : Nat) (f : Bool) (x y : Int) (hg : g = 4 ∨ g = 6) (ht : (t : Int) < g) : li g (bt g t f).toNat f (li g t f x y).1 (li g t f x y).2 = (x, y) := by
  have e := li_comp g (bt g t f) f t f x y hg (bt_range g t f hg ⟨by omega, ht⟩) ⟨by omega, ht⟩
  rw [(cT_back g t f hg ⟨by omega, ht⟩).1, (cT_back g t f hg ⟨by omega, ht⟩).2.2, Int.toNat_natCast] at e
  rw [e]
  simp [li, tu, mi]
theorem mv_onto (g : Int) (t : Nat) (f : Bool) (u v x y : Int) (hg : g = 4 ∨ g = 6) (ht : (t : Int) < g) : ∃ a b, mv g t f u v a b = (x, y) := by
  have e := mv_back g t f u v x y hg ⟨by omega, ht⟩
  rw [Int.toNat_natCast] at e
  exact ⟨_, _, e⟩
/-- a step that keeps a pattern, turned likewise, keeps the moved one -/
theorem st_fore {P Q : Int → Int → Int} {g : Int} {t : Nat} {f : Bool} {u v a b : Int} (hg : g = 4 ∨ g = 6) (ht : (t : Int) < g) (h : Mov P Q g t f u v) (k : St P a b) : St Q (li g t f a b).1 (li g t f a b).2 := by
  intro x y
  obtain ⟨c, d, e⟩ := mv_onto g t f u v x y hg ht
  have h1 := h c d
  have h2 := h (c + a) (d + b)
  rw [e] at h1
  rw [mv_li] at e h2
  rw [li_add] at h2
  have e1 : (li g t f c d).1 + u = x := (Prod.mk.inj e).1
  have e2 : (li g t f c d).2 + v = y := (Prod.mk.inj e).2
  rw [h1, k c d, ← h2]
  congr 1 <;> dsimp only <;> omega
/-- moves of one turn and flip part by a step -/
theorem kp_sub {P : Int → Int → Int} {g : Int} {t : Nat} {f : Bool} {u v u' v' : Int} (hg : g = 4 ∨ g = 6) (ht : (t : Int) < g) (h : Kp P g t f u v) (k : Kp P g t f u' v') : St P (u - u') (v - v') := by
  intro x y
  obtain ⟨c, d, e⟩ := mv_onto g t f u' v' x y hg ht
  have h1 := h c d
  have h2 := k c d
  rw [e] at h2
  rw [mv_li] at h1 e
  have e1 : (li g t f c d).1 + u' = x := (Prod.mk.inj e).1
  have e2 : (li g t f c d).2 + v' = y := (Prod.mk.inj e).2
  dsimp only at h1 h2
  rw [← h2, h1]
  congr 1 <;> omega
theorem kp_add {P : Int → Int → Int} {g : Int} {t : Nat} {f : Bool} {u v a b : Int} (h : Kp P g t f u v) (k : St P a b) : Kp P g t f (u + a) (v + b) := by
  intro x y
  rw [h x y, k _ _, mv_li, mv_li]
  congr 1 <;> dsimp only <;> omega
theorem cj_map (g : Int) (t : Nat) (f : Bool) (u v : Int) (t' : Nat) (f' : Bool) (u' v' x y : Int) (hg : g = 4 ∨ g = 6) (ht : (t : Int) < g) (ht' : (t' : Int) < g) :
    mv g (cjT g t f t' f').toNat (cjF f f') (cjP g t f u v t' f' u' v').1 (cjP g t f u v t' f' u' v').2 (mv g t f u v x y).1 (mv g t f u v x y).2 = mv g t f u v (mv g t' f' u' v' x y).1 (mv g t' f' u' v' x y).2 := by
  unfold cjT cjF cjP
  rw [mv_comp g (cT g t f t') (cF f f') _ _ (bt g t f) f _ _ _ _ hg (cT_range g t f t' hg) (bt_range g t f hg ⟨by omega, ht⟩), mv_comp g t f u v t' f' u' v' _ _ hg ⟨by omega, ht⟩ ⟨by omega, ht'⟩]
  have e := mv_fore g t f u v x y hg ⟨by omega, ht⟩
  rw [Int.toNat_natCast] at e ⊢
  rw [e, Int.toNat_natCast]
theorem cj_keeps {P Q : Int → Int → Int} {g : Int} {t : Nat} {f : Bool} {u v : Int} {t' : Nat} {f' : Bool} {u' v' : Int} (hg : g = 4 ∨ g = 6) (ht : (t : Int) < g) (ht' : (t' : Int) < g) (h : Mov P Q g t f u v) (k : Kp P g t' f' u' v') :
    Kp Q g (cjT g t f t' f').toNat (cjF f f') (cjP g t f u v t' f' u' v').1 (cjP g t f u v t' f' u' v').2 := by
  refine Mov.keeps (P := P) (t := (t : Int)) (t' := (t' : Int)) hg ⟨by omega, ht⟩ ⟨by omega, ht'⟩ ?_ ?_
  · rw [Int.toNat_natCast]; exact h
  · rw [Int.toNat_natCast]; exact k
theorem cjT_lt (g : Int) (t : Nat) (f : Bool) (t' : Nat) (f' : Bool) (hg : g = 4 ∨ g = 6) : (((cjT g t f t' f').toNat : Nat) : Int) < g := by
  have := cT_range g (cT g t f t') (cF f f') (bt g t f) hg
  unfold cjT
  omega
theorem flip_twice (g : Int) (t : Nat) (u v x y : Int) (hg : g = 4 ∨ g = 6) (ht : (t : Int) < g) : mv g t true u v (mv g t true u v x y).1 (mv g t true u v x y).2 = (x + (mv g t true u v u v).1, y + (mv g t true u v u v).2) := by
  have e := li_back g t true x y hg ht
  rw [show bt g t true = (t : Int) from rfl, Int.toNat_natCast] at e
  rw [mv_li, mv_li g t true u v x y, mv_li g t true u v u v, li_add, e]
  exact Prod.ext (by dsimp only; omega) (by dsimp only; omega)

/-- a step along its line makes a mirror of a flip -/
def Mr (P : Int → Int → Int) (g : Int) (t : Nat) (u v : Int) : Prop := ∃ a b : Int, mv g t true u v u v = (-(2 * a), -(2 * b)) ∧ St P a b
theorem cj_twice (g : Int) (t : Nat) (f : Bool) (u v : Int) (t' : Nat) (u' v' : Int) (hg : g = 4 ∨ g = 6) (ht : (t : Int) < g) (ht' : (t' : Int) < g) :
    mv g (cjT g t f t' true).toNat true (cjP g t f u v t' true u' v').1 (cjP g t f u v t' true u' v').2 (cjP g t f u v t' true u' v').1 (cjP g t f u v t' true u' v').2 = li g t f (mv g t' true u' v' u' v').1 (mv g t' true u' v' u' v').2 := by
  have hF : cjF f true = true := by cases f <;> rfl
  have e1 := cj_map g t f u v t' true u' v' 0 0 hg ht ht'
  have e2 := cj_map g t f u v t' true u' v' (mv g t' true u' v' 0 0).1 (mv g t' true u' v' 0 0).2 hg ht ht'
  rw [hF] at e1 e2
  rw [← e1, flip_twice g _ _ _ _ _ hg (cjT_lt g t f t' true hg), flip_twice g t' u' v' 0 0 hg ht', mv_li g t f u v 0 0, mv_li g t f u v _ _, li_zero] at e2
  have a1 := (Prod.mk.inj e2).1
  have a2 := (Prod.mk.inj e2).2
  dsimp only at a1 a2
  simp only [Int.zero_add] at a1 a2
  exact Prod.ext (by omega) (by omega)
theorem li_dbl (g : Int) (t : Nat) (f : Bool) (a b : Int) : li g t f (-(2 * a)) (-(2 * b)) = (-(2 * (li g t f a b).1), -(2 * (li g t f a b).2)) := by
  have := li_mul g t f (-2) a b
  rw [Int.neg_mul, Int.neg_mul, Int.neg_mul, Int.neg_mul] at this
  exact this
theorem mr_cj {P Q : Int → Int → Int} {g : Int} {t : Nat} {f : Bool} {u v : Int} {t' : Nat} {u' v' : Int} (hg : g = 4 ∨ g = 6) (ht : (t : Int) < g) (ht' : (t' : Int) < g) (h : Mov P Q g t f u v) :
    Mr P g t' u' v' ↔ Mr Q g (cjT g t f t' true).toNat (cjP g t f u v t' true u' v').1 (cjP g t f u v t' true u' v').2 := by
  constructor
  · rintro ⟨a, b, e, k⟩
    refine ⟨_, _, ?_, st_fore hg ht h k⟩
    rw [cj_twice g t f u v t' u' v' hg ht ht', e]
    exact li_dbl g t f a b
  · rintro ⟨a, b, e, k⟩
    rw [cj_twice g t f u v t' u' v' hg ht ht'] at e
    have hb := bt_range g t f hg ⟨by omega, ht⟩
    have k2 := st_fore hg (show (((bt g t f).toNat : Nat) : Int) < g by omega) (h.back hg ht) k
    refine ⟨_, _, ?_, k2⟩
    have e2 := li_back g t f (mv g t' true u' v' u' v').1 (mv g t' true u' v' u' v').2 hg ht
    rw [e] at e2
    rw [← li_dbl]
    exact e2.symm
/-- flips of a turn: some that a step makes a mirror, some that none does -/
def HF (P : Int → Int → Int) (g : Int) (t : Nat) (b : Bool) : Prop := ∃ u v, Kp P g t true u v ∧ (Mr P g t u v ↔ b = true)
theorem hf_fore {P Q : Int → Int → Int} {g : Int} {t : Nat} {f : Bool} {u v : Int} {t' : Nat} {b : Bool} (hg : g = 4 ∨ g = 6) (ht : (t : Int) < g) (ht' : (t' : Int) < g) (h : Mov P Q g t f u v) (k : HF P g t' b) : HF Q g (cjT g t f t' true).toNat b := by
  obtain ⟨u', v', k1, k2⟩ := k
  have hF : cjF f true = true := by cases f <;> rfl
  have k3 := cj_keeps hg ht ht' h k1
  rw [hF] at k3
  exact ⟨_, _, k3, (mr_cj hg ht ht' h).symm.trans k2⟩
theorem cjT_back (g : Int) (t : Nat) (f : Bool) (t' : Nat) (hg : g = 4 ∨ g = 6) (ht : (t : Int) < g) (ht' : (t' : Int) < g) : cjT g ((bt g t f).toNat : Nat) f ((cjT g t f t' true).toNat : Nat) true = t' := by
  have h1 := cT_range g (cT g t f t') (cF f true) (bt g t f) hg
  have h2 := bt_range g t f hg ⟨by omega, ht⟩
  rw [Int.toNat_of_nonneg h2.1, Int.toNat_of_nonneg (show 0 ≤ cjT g t f t' true from h1.1)]
  rcases hg with rfl | rfl <;> cases f <;> simp only [cjT, cT, cF, bt, Bool.not_true] <;> omega
theorem hf_iff {P Q : Int → Int → Int} {g : Int} {t : Nat} {f : Bool} {u v : Int} {t' : Nat} {b : Bool} (hg : g = 4 ∨ g = 6) (ht : (t : Int) < g) (ht' : (t' : Int) < g) (h : Mov P Q g t f u v) : HF P g t' b ↔ HF Q g (cjT g t f t' true).toNat b := by
  refine ⟨hf_fore hg ht ht' h, fun k => ?_⟩
  have hb := bt_range g t f hg ⟨by omega, ht⟩
  have := hf_fore hg (show (((bt g t f).toNat : Nat) : Int) < g by omega) (cjT_lt g t f t' true hg) (h.back hg ht) k
  rw [cjT_back g t f t' hg ht ht', Int.toNat_natCast] at this
  exact this
/-- turned by so much -/
def HT (P : Int → Int → Int) (g : Int) (t : Nat) : Prop := ∃ u v, Kp P g t false u v
theorem ht_back {P : Int → Int → Int} {g : Int} {t : Nat} (hg : g = 4 ∨ g = 6) (ht : (t : Int) < g) (h : HT P g t) : HT P g (bt g t false).toNat := by
  obtain ⟨u, v, k⟩ := h
  exact ⟨_, _, Kp.inv (t := (t : Int)) hg ⟨by omega, ht⟩ (by rw [Int.toNat_natCast]; exact k)⟩
theorem ht_fore {P Q : Int → Int → Int} {g : Int} {t : Nat} {f : Bool} {u v : Int} {t' : Nat} (hg : g = 4 ∨ g = 6) (ht : (t : Int) < g) (ht' : (t' : Int) < g) (h : Mov P Q g t f u v) (k : HT P g t') : HT Q g t' := by
  cases f with
  | false =>
    obtain ⟨u', v', k1⟩ := k
    have k3 := cj_keeps hg ht ht' h k1
    rw [show cjT g t false t' false = t' by simp only [cjT, cT, cF, bt]; rcases hg with rfl | rfl <;> omega, Int.toNat_natCast] at k3
    exact ⟨_, _, k3⟩
  | true =>
    obtain ⟨u', v', k1⟩ := ht_back hg ht' k
    have hb := bt_range g t' false hg ⟨by omega, ht'⟩
    have k3 := cj_keeps hg ht (show (((bt g t' false).toNat : Nat) : Int) < g by omega) h k1
    rw [Int.toNat_of_nonneg hb.1, show cjT g t true (bt g t' false) false = t' by simp only [cjT, cT, cF, bt, Bool.not_false]; rcases hg with rfl | rfl <;> omega, Int.toNat_natCast] at k3
    exact ⟨_, _, k3⟩
theorem ht_iff {P Q : Int → Int → Int} {g : Int} {t : Nat} {f : Bool} {u v : Int} {t' : Nat} (hg : g = 4 ∨ g = 6) (ht : (t : Int) < g) (ht' : (t' : Int) < g) (h : Mov P Q g t f u v) : HT P g t' ↔ HT Q g t' := by
  have hb := bt_range g t f hg ⟨by omega, ht⟩
  exact ⟨ht_fore hg ht ht' h, ht_fore hg (show (((bt g t f).toNat : Nat) : Int) < g by omega) ht' (h.back hg ht)⟩

/-- a turn's point lies on a mirror's line: the mirror, and the mirror behind the turn, undo themselves -/
def OnA (P : Int → Int → Int) (g : Int) (t : Nat) (u v : Int) : Prop := ∃ (t1 : Nat) (p q : Int), (t1 : Int) < g ∧ Kp P g t1 true p q ∧ (∀ x y, mv g t1 true p q (mv g t1 true p q x y).1 (mv g t1 true p q x y).2 = (x, y)) ∧
  ∀ x y, mv g t1 true p q (mv g t false u v (mv g t1 true p q (mv g t false u v x y).1 (mv g t false u v x y).2).1 (mv g t1 true p q (mv g t false u v x y).1 (mv g t false u v x y).2).2).1 (mv g t false u v (mv g t1 true p q (mv g t false u v x y).1 (mv g t false u v x y).2).1 (mv g t1 true p q (mv g t false u v x y).1 (mv g t false u v x y).2).2).2 = (x, y)
theorem ona_fore {P Q : Int → Int → Int} {g : Int} {t : Nat} {f : Bool} {u v : Int} {t' : Nat} {u' v' : Int} (hg : g = 4 ∨ g = 6) (ht : (t : Int) < g) (ht' : (t' : Int) < g) (h : Mov P Q g t f u v) (k : OnA P g t' u' v') : OnA Q g (cjT g t f t' false).toNat (cjP g t f u v t' false u' v').1 (cjP g t f u v t' false u' v').2 := by
  obtain ⟨t1, p, q, k0, k1, k2, k3⟩ := k
  have hF : cjF f true = true := by cases f <;> rfl
  have hF' : cjF f false = false := by cases f <;> rfl
  have k4 := cj_keeps hg ht k0 h k1
  have M1 := fun x y => cj_map g t f u v t1 true p q x y hg ht k0
  have M2 := fun x y => cj_map g t f u v t' false u' v' x y hg ht ht'
  rw [hF] at k4
  simp only [hF] at M1
  simp only [hF'] at M2
  refine ⟨_, _, _, cjT_lt g t f t1 true hg, k4, fun x y => ?_, fun x y => ?_⟩
  · obtain ⟨a, b, e⟩ := mv_onto g t f u v x y hg ht
    have e1 : x = (mv g t f u v a b).1 := by rw [e]
    have e2 : y = (mv g t f u v a b).2 := by rw [e]
    rw [e1, e2, M1, M1, k2]
  · obtain ⟨a, b, e⟩ := mv_onto g t f u v x y hg ht
    have e1 : x = (mv g t f u v a b).1 := by rw [e]
    have e2 : y = (mv g t f u v a b).2 := by rw [e]
    rw [e1, e2, M2, M1, M2, M1, k3]
/-- the turn back has the same point -/
theorem ona_inv {P : Int → Int → Int} {g : Int} {t : Nat} {u v : Int} (hg : g = 4 ∨ g = 6) (ht : (t : Int) < g) (k : OnA P g t u v) : OnA P g (bt g t false).toNat (iP g t false u v).1 (iP g t false u v).2 := by
  obtain ⟨t1, p, q, k0, k1, k2, k3⟩ := k
  refine ⟨t1, p, q, k0, k1, k2, fun x y => ?_⟩
  have F := fun x y => mv_fore g t false u v x y hg ⟨by omega, ht⟩
  have B := fun x y => mv_back g t false u v x y hg ⟨by omega, ht⟩
  simp only [Int.toNat_natCast] at F B
  -- r (f (r z)) = f z
  have R : ∀ x y, mv g t false u v (mv g t1 true p q (mv g t false u v x y).1 (mv g t false u v x y).2).1 (mv g t1 true p q (mv g t false u v x y).1 (mv g t false u v x y).2).2 = mv g t1 true p q x y := by
    intro x y
    have e := k3 x y
    generalize mv g t false u v (mv g t1 true p q (mv g t false u v x y).1 (mv g t false u v x y).2).1 (mv g t1 true p q (mv g t false u v x y).1 (mv g t false u v x y).2).2 = z at e ⊢
    have e2 := k2 z.1 z.2
    rw [e] at e2
    exact e2.symm
  -- r' (f z) = f (r z)
  have R2 : ∀ x y, mv g (bt g t false).toNat false (iP g t false u v).1 (iP g t false u v).2 (mv g t1 true p q x y).1 (mv g t1 true p q x y).2 = mv g t1 true p q (mv g t false u v x y).1 (mv g t false u v x y).2 := by
    intro x y
    rw [← R x y]
    exact F _ _
  rw [R2, k2, B]
/-- each point round which a pattern is turned by a third lies on a mirror -/
def ThA (P : Int → Int → Int) (g : Int) : Prop := ∀ u v, Kp P g 2 false u v → OnA P g 2 u v
theorem ona_bwd {P Q : Int → Int → Int} {g : Int} {t : Nat} {f : Bool} {u v : Int} {t' : Nat} {u' v' : Int} (hg : g = 4 ∨ g = 6) (ht : (t : Int) < g) (ht' : (t' : Int) < g) (h : Mov P Q g t f u v) (k : OnA Q g (cjT g t f t' false).toNat (cjP g t f u v t' false u' v').1 (cjP g t f u v t' false u' v').2) : OnA P g t' u' v' := by
  obtain ⟨t1, p, q, k0, k1, k2, k3⟩ := k
  have hF : cjF f true = true := by cases f <;> rfl
  have hF' : cjF f false = false := by cases f <;> rfl
  have hb := bt_range g t f hg ⟨by omega, ht⟩
  have hbt : (((bt g t f).toNat : Nat) : Int) < g := by omega
  have k4 := cj_keeps hg hbt k0 (h.back hg ht) k1
  have M1 := fun x y => cj_map g (bt g t f).toNat f (iP g t f u v).1 (iP g t f u v).2 t1 true p q x y hg hbt k0
  have M3 := fun x y => cj_map g t f u v t' false u' v' x y hg ht ht'
  have F := fun x y => mv_fore g t f u v x y hg ⟨by omega, ht⟩
  have B := fun x y => mv_back g t f u v x y hg ⟨by omega, ht⟩
  rw [hF] at k4
  simp only [hF] at M1
  simp only [hF'] at M3
  simp only [Int.toNat_natCast] at F B
  have M2 : ∀ x y, mv g t' false u' v' x y = mv g (bt g t f).toNat f (iP g t f u v).1 (iP g t f u v).2 (mv g (cjT g t f t' false).toNat false (cjP g t f u v t' false u' v').1 (cjP g t f u v t' false u' v').2 (mv g t f u v x y).1 (mv g t f u v x y).2).1 (mv g (cjT g t f t' false).toNat false (cjP g t f u v t' false u' v').1 (cjP g t f u v t' false u' v').2 (mv g t f u v x y).1 (mv g t f u v x y).2).2 := by
    intro x y
    rw [M3, F]
  refine ⟨_, _, _, cjT_lt g (bt g t f).toNat f t1 true hg, k4, fun x y => ?_, fun x y => ?_⟩
  · have e := F x y
    have e1 : x = (mv g (bt g t f).toNat f (iP g t f u v).1 (iP g t f u v).2 (mv g t f u v x y).1 (mv g t f u v x y).2).1 := by rw [e]
    have e2 : y = (mv g (bt g t f).toNat f (iP g t f u v).1 (iP g t f u v).2 (mv g t f u v x y).1 (mv g t f u v x y).2).2 := by rw [e]
    generalize (mv g t f u v x y).1 = a at e1 e2
    generalize (mv g t f u v x y).2 = b at e1 e2
    rw [e1, e2, M1, M1, k2]
  · rw [M2 x y, M1, M2, B, M1, k3, F]
theorem iP_twice (u v : Int) : iP 6 2 false (iP 6 4 false u v).1 (iP 6 4 false u v).2 = (u, v) := by
  simp [iP, bt, li, tu, mi, tq]
  omega
theorem tha_fore {P Q : Int → Int → Int} {t : Nat} {f : Bool} {u v : Int} (ht : (t : Int) < 6) (h : Mov P Q 6 t f u v) (k : ThA Q 6) : ThA P 6 := by
  have hg : (6 : Int) = 4 ∨ (6 : Int) = 6 := Or.inr rfl
  intro u' v' k1
  have k2 := cj_keeps hg ht (show ((2 : Nat) : Int) < 6 by decide) h k1
  refine ona_bwd hg ht (show ((2 : Nat) : Int) < 6 by decide) h ?_
  cases f with
  | false =>
    have e : cjT 6 t false (2 : Nat) false = (2 : Nat) := by simp only [cjT, cT, cF, bt]; omega
    rw [e, Int.toNat_natCast] at k2 ⊢
    exact k _ _ k2
  | true =>
    have e : cjT 6 t true (2 : Nat) false = (4 : Nat) := by simp only [cjT, cT, cF, bt, Bool.not_false]; omega
    rw [e, Int.toNat_natCast] at k2 ⊢
    generalize (cjP 6 t true u v (2 : Nat) false u' v').1 = c at k2 ⊢
    generalize (cjP 6 t true u v (2 : Nat) false u' v').2 = d at k2 ⊢
    rw [show cjF true false = false from rfl] at k2
    have k3 := Kp.inv (t := 4) hg (by decide) k2
    have k4 := ona_inv hg (show ((2 : Nat) : Int) < 6 by decide) (k _ _ k3)
    have k5 := iP_twice c d
    rw [show bt 6 ((2 : Nat) : Int) false = 4 from rfl] at k4
    rw [show (((2 : Nat) : Int)) = 2 from rfl, k5] at k4
    exact k4
theorem tha_iff {P Q : Int → Int → Int} {t : Nat} {f : Bool} {u v : Int} (ht : (t : Int) < 6) (h : Mov P Q 6 t f u v) : ThA P 6 ↔ ThA Q 6 := by
  have hg : (6 : Int) = 4 ∨ (6 : Int) = 6 := Or.inr rfl
  have hb := bt_range 6 t f hg ⟨by omega, ht⟩
  exact ⟨tha_fore (show (((bt 6 t f).toNat : Nat) : Int) < 6 by omega) (h.back hg ht), tha_fore ht h⟩
end Go.Proofs.Ytpcajcgafmmlkaa

namespace Go.Proofs.Ytpcajcgafmmlkaa
open Go.RowKit Go.Maps

theorem kp_mod {P : Int → Int → Int} {N : Nat} (hP : Per P N) {g : Int} {t : Nat} {f : Bool} {u v : Int} : Kp P g t f (u % N) (v % N) ↔ Kp P g t f u v :=
  ⟨fun h => h.cong hP (mod_mod u N) (mod_mod v N), fun h => h.cong hP (mod_mod u N).symm (mod_mod v N).symm⟩
theorem fi_iff (w h N : Nat) (px : Nat → Int) (g : Int) (t : Nat) (f : Bool) (hN : 1 ≤ N) (ht : t < g.toNat) : (fi (movesL w h N px g) t f).isSome = true ↔ ∃ u v, Kp (pat w h N px) g t f u v := by
  rw [fi_some]
  constructor
  · rintro ⟨X, Y, hm⟩
    exact ⟨X, Y, ((mem_moves w h N px g t f X Y hN).1 hm).2.2.2⟩
  · rintro ⟨u, v, hk⟩
    have a1 := Int.emod_nonneg u (show (N : Int) ≠ 0 by omega)
    have a2 := Int.emod_lt_of_pos u (show (0 : Int) < N by omega)
    have b1 := Int.emod_nonneg v (show (N : Int) ≠ 0 by omega)
    have b2 := Int.emod_lt_of_pos v (show (0 : Int) < N by omega)
    refine ⟨(u % N).toNat, (v % N).toNat, (mem_moves w h N px g t f _ _ hN).2 ⟨ht, by omega, by omega, ?_⟩⟩
    rw [Int.toNat_of_nonneg a1, Int.toNat_of_nonneg b1]
    exact (kp_mod (pat_per w h N px)).2 hk
theorem fi_of (w h N : Nat) (px : Nat → Int) (g : Int) (t : Nat) (f : Bool) (hN : 1 ≤ N) {m : Mv} (h0 : fi (movesL w h N px g) t f = some m) : m.1 = t ∧ m.2.1 = f ∧ Kp (pat w h N px) g t f m.2.2.1 m.2.2.2 := by
  unfold fi at h0
  have h1 := List.find?_some h0
  have h2 := List.mem_of_find?_eq_some h0
  obtain ⟨t', f', X, Y⟩ := m
  simp at h1
  obtain ⟨rfl, rfl⟩ := h1
  exact ⟨rfl, rfl, ((mem_moves w h N px g t' f' X Y hN).1 h2).2.2.2⟩
theorem stB_iff (w h N : Nat) (px : Nat → Int) (g x y : Int) (hN : 1 ≤ N) : stB w h N px g x y = true ↔ St (pat w h N px) x y := by
  unfold stB
  rw [kpV_iff w h N px g 0 false _ _ hN, kp_mod (pat_per w h N px), kp_step]
theorem flB_iff (w h N : Nat) (px : Nat → Int) (g : Int) (t : Nat) (x y : Int) (hN : 1 ≤ N) : flB w h N px g t x y = true ↔ Kp (pat w h N px) g t true x y := by
  unfold flB
  rw [kpV_iff w h N px g t true _ _ hN, kp_mod (pat_per w h N px)]
theorem glB_iff (w h N : Nat) (px : Nat → Int) (g : Int) (t X Y : Nat) (hN : 1 ≤ N) : glB (stB w h N px g) g t X Y = false ↔ Mr (pat w h N px) g t X Y := by
  unfold glB Mr
  generalize mv g t true X Y X Y = z
  obtain ⟨a, b⟩ := z
  simp only [Bool.not_eq_false', Bool.and_eq_true, decide_eq_true_eq]
  rw [stB_iff w h N px g _ _ hN]
  constructor
  · rintro ⟨⟨h1, h2⟩, h3⟩
    exact ⟨_, _, Prod.ext (by dsimp only; omega) (by dsimp only; omega), h3⟩
  · rintro ⟨c, d, e, h3⟩
    have e1 := (Prod.mk.inj e).1
    have e2 := (Prod.mk.inj e).2
    refine ⟨⟨by omega, by omega⟩, ?_⟩
    rw [show (0 - a) / 2 = c by omega, show (0 - b) / 2 = d by omega]
    exact h3
theorem mr_add {P : Int → Int → Int} {g : Int} {t : Nat} {u v a b : Int} (hg : g = 4 ∨ g = 6) (ht : (t : Int) < g) (h : Kp P g t true u v) (k : St P a b) (m : Mr P g t u v) : Mr P g t (u + 2 * a) (v + 2 * b) := by
  obtain ⟨c, d, e, l⟩ := m
  have s := st_fore hg ht (kp_mov h) k
  refine ⟨c + (-((li g t true a b).1) + -a), d + (-((li g t true a b).2) + -b), ?_, l.add (s.neg.add k.neg)⟩
  rw [mv_li] at e ⊢
  rw [li_shift]
  have e1 := (Prod.mk.inj e).1
  have e2 := (Prod.mk.inj e).2
  exact Prod.ext (by dsimp only; omega) (by dsimp only; omega)
theorem mr_shift {P : Int → Int → Int} {g : Int} {t : Nat} {u v a b : Int} (hg : g = 4 ∨ g = 6) (ht : (t : Int) < g) (h : Kp P g t true u v) (k : St P a b) : Mr P g t (u + 2 * a) (v + 2 * b) ↔ Mr P g t u v := by
  refine ⟨fun m => ?_, mr_add hg ht h k⟩
  have h2 := kp_add h (k.add k)
  rw [show a + a = 2 * a by omega, show b + b = 2 * b by omega] at h2
  have := mr_add hg ht h2 k.neg m
  rwa [show u + 2 * a + 2 * -a = u by omega, show v + 2 * b + 2 * -b = v by omega] at this
/-- a move of the same turn and flip is one of those behind the first, and so many steps -/
theorem reduce {P : Int → Int → Int} {N s u v : Nat} {g : Int} {t : Nat} {f : Bool} {X Y x y : Int} (M : Nat) (hM : 1 ≤ M) (hF : Fine P N s u v) (hg : g = 4 ∨ g = 6) (ht : (t : Int) < g) (h : Kp P g t f X Y) (k : Kp P g t f x y) :
    ∃ (i j : Nat) (a b : Int), i < M ∧ j < M ∧ St P a b ∧ x = X + ((i * s : Int) + j * u) + M * a ∧ y = Y + (j * v : Int) + M * b := by
  have d := kp_sub hg ht k h
  obtain ⟨h1, h2⟩ := (hF.all _ _).1 d
  have hs := hF.hs
  have hv := hF.hv
  obtain ⟨j, hj⟩ := Int.dvd_of_emod_eq_zero h1
  have hjv : (y - Y) / (v : Int) = j := by rw [hj, Int.mul_ediv_cancel_left _ (by omega)]
  rw [hjv] at h2
  obtain ⟨i, hi⟩ := Int.dvd_of_emod_eq_zero h2
  have i1 := Int.emod_nonneg i (show (M : Int) ≠ 0 by omega)
  have i2 := Int.emod_lt_of_pos i (show (0 : Int) < M by omega)
  have j1 := Int.emod_nonneg j (show (M : Int) ≠ 0 by omega)
  have j2 := Int.emod_lt_of_pos j (show (0 : Int) < M by omega)
  have ei := Int.emod_add_mul_ediv i M
  have ej := Int.emod_add_mul_ediv j M
  refine ⟨(i % M).toNat, (j % M).toNat, i / M * s + j / M * u, j / M * v, by omega, by omega, ?_, ?_, ?_⟩
  · have := (hF.st1.mul (i / M)).add (hF.st2.mul (j / M))
    rwa [Int.mul_zero, Int.zero_add] at this
  · rw [Int.toNat_of_nonneg i1, Int.toNat_of_nonneg j1]
    have e1 : x = X + (i * s + j * u) := by rw [Int.mul_comm (s : Int) i] at hi; omega
    rw [e1]
    generalize i / (M : Int) = I at *
    generalize j / (M : Int) = J at *
    generalize i % (M : Int) = r at *
    generalize j % (M : Int) = q at *
    rw [← ei, ← ej]
    grind
  · rw [Int.toNat_of_nonneg j1]
    have e1 : y = Y + j * v := by rw [Int.mul_comm (v : Int) j] at hj; omega
    rw [e1]
    generalize j / (M : Int) = J at *
    generalize j % (M : Int) = q at *
    rw [← ej]
    grind
theorem st_fine {P : Int → Int → Int} {N s u v : Nat} (hF : Fine P N s u v) (i j : Nat) : St P ((i * s : Int) + j * u) (j * v : Int) := by
  have := (hF.st1.mul i).add (hF.st2.mul j)
  rwa [Int.mul_zero, Int.zero_add] at this
theorem mem_bAll (t : Nat) (f : Bool) (X Y s u v c k : Nat) (m : Mv) : m ∈ bAll t f X Y s u v c k ↔ ∃ i j, i < k ∧ j < c ∧ m = bMv t f X Y s u v i j := by
  unfold bAll bRow
  rw [List.mem_flatMap]
  constructor
  · rintro ⟨i, hi, hm⟩
    rw [List.mem_map] at hm
    obtain ⟨j, hj, rfl⟩ := hm
    exact ⟨i, j, List.mem_range.1 hi, List.mem_range.1 hj, rfl⟩
  · rintro ⟨i, j, hi, hj, rfl⟩
    exact ⟨i, List.mem_range.2 hi, List.mem_map.2 ⟨j, List.mem_range.2 hj, rfl⟩⟩
theorem cast_x (X i s j u : Nat) : ((X + (i * s + j * u) : Nat) : Int) = (X : Int) + ((i * s : Int) + j * u) := by rw [Int.natCast_add, Int.natCast_add, Int.natCast_mul, Int.natCast_mul]
theorem cast_y (Y j v : Nat) : ((Y + j * v : Nat) : Int) = (Y : Int) + (j * v : Int) := by rw [Int.natCast_add, Int.natCast_mul]
theorem any_hf (w h N : Nat) (px : Nat → Int) (g : Int) (s u v : Nat) (t X Y : Nat) (b : Bool) (hg : g = 4 ∨ g = 6) (hN : 1 ≤ N) (ht : (t : Int) < g) (hF : Fine (pat w h N px) N s u v) (hk : Kp (pat w h N px) g t true X Y) :
    (bAll t true X Y s u v 2 2).any (fun m => glB (stB w h N px g) g m.1 m.2.2.1 m.2.2.2 == !b) = true ↔ HF (pat w h N px) g t b := by
  rw [List.any_eq_true]
  have key : ∀ i j : Nat, (glB (stB w h N px g) g t (X + (i * s + j * u)) (Y + j * v) == !b) = true ↔ (Mr (pat w h N px) g t ((X : Int) + ((i * s : Int) + j * u)) ((Y : Int) + (j * v : Int)) ↔ b = true) := by
    intro i j
    rw [← cast_x, ← cast_y, ← glB_iff w h N px g t _ _ hN]
    cases b <;> cases glB (stB w h N px g) g t (X + (i * s + j * u)) (Y + j * v) <;> simp
  constructor
  · rintro ⟨m, hm, hq⟩
    obtain ⟨i, j, hi, hj, rfl⟩ := (mem_bAll t true X Y s u v 2 2 m).1 hm
    exact ⟨_, _, kp_add hk (st_fine hF i j), (key i j).1 hq⟩
  · rintro ⟨x, y, k1, k2⟩
    obtain ⟨i, j, a, c, hi, hj, hst, rfl, rfl⟩ := reduce 2 (by decide) hF hg ht hk k1
    refine ⟨bMv t true X Y s u v i j, (mem_bAll t true X Y s u v 2 2 _).2 ⟨i, j, hi, hj, rfl⟩, (key i j).2 ?_⟩
    exact (mr_shift hg ht (kp_add hk (st_fine hF i j)) hst).symm.trans k2
theorem flF_none (w h N : Nat) (px : Nat → Int) (g : Int) (s u v t : Nat) (hN : 1 ≤ N) (ht : t < g.toNat) : flF (stB w h N px g) g (movesL w h N px g) s u v t = none ↔ ¬ (HF (pat w h N px) g t true ∨ HF (pat w h N px) g t false) := by
  have e : (HF (pat w h N px) g t true ∨ HF (pat w h N px) g t false) ↔ ∃ x y, Kp (pat w h N px) g t true x y := by
    constructor
    · rintro (⟨x, y, k, -⟩ | ⟨x, y, k, -⟩) <;> exact ⟨x, y, k⟩
    · rintro ⟨x, y, k⟩
      by_cases m : Mr (pat w h N px) g t x y
      · exact Or.inl ⟨x, y, k, by simp [m]⟩
      · exact Or.inr ⟨x, y, k, by simp [m]⟩
  rw [e, ← fi_iff w h N px g t true hN ht]
  unfold flF
  cases fi (movesL w h N px g) t true <;> simp
theorem flF_some2 (w h N : Nat) (px : Nat → Int) (g : Int) (s u v t : Nat) (hg : g = 4 ∨ g = 6) (hN : 1 ≤ N) (ht : t < g.toNat) (hF : Fine (pat w h N px) N s u v) {c : Bool × Bool} (hc : flF (stB w h N px g) g (movesL w h N px g) s u v t = some c) :
    (c.1 = true ↔ HF (pat w h N px) g t true) ∧ (c.2 = true ↔ HF (pat w h N px) g t false) := by
  unfold flF at hc
  cases hm : fi (movesL w h N px g) t true with
  | none => rw [hm] at hc; cases hc
  | some m =>
    rw [hm] at hc
    obtain ⟨-, -, k⟩ := fi_of w h N px g t true hN hm
    cases hc
    have ht' : (t : Int) < g := by omega
    have a1 := any_hf w h N px g s u v t m.2.2.1 m.2.2.2 true hg hN ht' hF k
    have a2 := any_hf w h N px g s u v t m.2.2.1 m.2.2.2 false hg hN ht' hF k
    refine ⟨?_, ?_⟩
    · rw [← a1]; simp
    · rw [← a2]; simp

/-- what the choice among the kinds hangs on -/
theorem allW_iff2 (G : Nat) (F : Nat → Option (Bool × Bool)) (p : Bool × Bool → Bool) : allW G F p = true ↔ ∀ t c, t < G → F t = some c → p c = true := by
  unfold allW
  rw [List.all_eq_true]
  constructor
  · intro H t c ht hc
    have := H t (List.mem_range.2 ht)
    rw [hc] at this
    exact this
  · intro H t ht
    cases hc : F t with
    | none => rfl
    | some c => exact H t c (List.mem_range.1 ht) hc
theorem allW_same {G : Nat} {F F' : Nat → Option (Bool × Bool)} (h1 : ∀ t c, t < G → F t = some c → ∃ t', t' < G ∧ F' t' = some c) (h2 : ∀ t c, t < G → F' t = some c → ∃ t', t' < G ∧ F t' = some c) (p : Bool × Bool → Bool) : allW G F p = allW G F' p := by
  rw [Bool.eq_iff_iff, allW_iff2, allW_iff2]
  constructor
  · intro H t c ht hc
    obtain ⟨t', h3, h4⟩ := h2 t c ht hc
    exact H t' c h3 h4
  · intro H t c ht hc
    obtain ⟨t', h3, h4⟩ := h1 t c ht hc
    exact H t' c h3 h4
theorem Cn_zero (p : Nat → Bool) (G : Nat) : Cn p G = 0 ↔ ∀ t, t < G → p t = false := by
  unfold Cn
  rw [List.length_eq_zero_iff, List.filter_eq_nil_iff]
  constructor
  · intro H t ht
    have := H t (List.mem_range.2 ht)
    simpa using this
  · intro H t ht
    rw [H t (List.mem_range.1 ht)]
    simp
theorem kdO_same {T G : Nat} {F F' : Nat → Option (Bool × Bool)} {th th' : Bool} (h1 : ∀ t c, t < G → F t = some c → ∃ t', t' < G ∧ F' t' = some c) (h2 : ∀ t c, t < G → F' t = some c → ∃ t', t' < G ∧ F t' = some c) (h3 : T = 3 → th = th') : kdO T G F th = kdO T G F' th' := by
  have e : (Cn (fun t => (F t).isSome) G = 0) ↔ (Cn (fun t => (F' t).isSome) G = 0) := by
    rw [Cn_zero, Cn_zero]
    constructor
    · intro H t ht
      cases hc : F' t with
      | none => rfl
      | some c =>
        obtain ⟨t', h4, h5⟩ := h2 t c ht hc
        have := H t' h4
        rw [h5] at this
        cases this
    · intro H t ht
      cases hc : F t with
      | none => rfl
      | some c =>
        obtain ⟨t', h4, h5⟩ := h1 t c ht hc
        have := H t' h4
        rw [h5] at this
        cases this
  unfold kdO chO
  rw [allW_same h1 h2, allW_same h1 h2, allW_same h1 h2, allW_same h1 h2]
  simp only [e]
  by_cases hT : T = 3
  · rw [h3 hT]
  · simp only [hT, if_false]

/-- where a turn by a third has its point, thrice: the mirrors through it -/
theorem on_coord (t1 : Nat) (h1 : t1 < 6) (p q u v : Int) : ((∀ x y, mv 6 t1 true p q (mv 6 t1 true p q x y).1 (mv 6 t1 true p q x y).2 = (x, y)) ∧
  ∀ x y, mv 6 t1 true p q (mv 6 2 false u v (mv 6 t1 true p q (mv 6 2 false u v x y).1 (mv 6 2 false u v x y).2).1 (mv 6 t1 true p q (mv 6 2 false u v x y).1 (mv 6 2 false u v x y).2).2).1 (mv 6 2 false u v (mv 6 t1 true p q (mv 6 2 false u v x y).1 (mv 6 2 false u v x y).2).1 (mv 6 t1 true p q (mv 6 2 false u v x y).1 (mv 6 2 false u v x y).2).2).2 = (x, y)) ↔
  3 * p = u - v - (mv 6 t1 true 0 0 (u - v) (u + v + v)).1 ∧ 3 * q = u + v + v - (mv 6 t1 true 0 0 (u - v) (u + v + v)).2 := by
  constructor
  · rintro ⟨a, b⟩
    have a0 := a 0 0
    have b0 := b 0 0
    rcases six t1 h1 with rfl | rfl | rfl | rfl | rfl | rfl <;> simp [mv, tu, mi, tq] at a0 b0 ⊢ <;> omega
  · rintro ⟨a, b⟩
    rcases six t1 h1 with rfl | rfl | rfl | rfl | rfl | rfl <;> simp [mv, tu, mi, tq] at a b ⊢ <;> exact ⟨fun x y => by omega, fun x y => by omega⟩
theorem thM_iff (w h N : Nat) (px : Nat → Int) (X Y : Nat) (hN : 1 ≤ N) : thM (flB w h N px 6) 6 6 (2, false, X, Y) = true ↔ OnA (pat w h N px) 6 2 X Y := by
  unfold thM omB OnA omT
  rw [List.any_eq_true]
  simp only [if_true, Bool.and_eq_true, decide_eq_true_eq]
  constructor
  · rintro ⟨t, ht, ⟨e1, e2⟩, hk⟩
    rw [List.mem_range] at ht
    rw [flB_iff w h N px 6 t _ _ hN] at hk
    refine ⟨t, _, _, by omega, hk, (on_coord t ht _ _ X Y).2 ⟨by omega, by omega⟩⟩
  · rintro ⟨t, p, q, ht, hk, hc⟩
    have ht' : t < 6 := by omega
    obtain ⟨c1, c2⟩ := (on_coord t ht' p q X Y).1 hc
    refine ⟨t, List.mem_range.2 ht', ⟨by omega, by omega⟩, ?_⟩
    rw [flB_iff w h N px 6 t _ _ hN, ← c1, ← c2, Int.mul_ediv_cancel_left _ (by decide), Int.mul_ediv_cancel_left _ (by decide)]
    exact hk
/-- thrice a step behind a turn by a third takes its point to a like one -/
theorem ona_add {P : Int → Int → Int} {X Y a b : Int} (h : Kp P 6 2 false X Y) (k : St P a b) (o : OnA P 6 2 X Y) : OnA P 6 2 (X + 3 * a) (Y + 3 * b) := by
  have hg : (6 : Int) = 4 ∨ (6 : Int) = 6 := Or.inr rfl
  have s1 := st_fore hg (show ((2 : Nat) : Int) < 6 by decide) (kp_mov h) k
  have s2 := st_fore hg (show ((2 : Nat) : Int) < 6 by decide) (kp_mov h) s1
  have s3 := k.add s2.neg
  have o2 := ona_fore hg (show ((0 : Nat) : Int) < 6 by decide) (show ((2 : Nat) : Int) < 6 by decide) (st_mov (g := 6) s3) o
  rw [show cjT 6 ((0 : Nat) : Int) false ((2 : Nat) : Int) false = ((2 : Nat) : Int) from rfl, Int.toNat_natCast] at o2
  have e : cjP 6 ((0 : Nat) : Int) false (a + -(li 6 2 false (li 6 2 false a b).1 (li 6 2 false a b).2).1) (b + -(li 6 2 false (li 6 2 false a b).1 (li 6 2 false a b).2).2) ((2 : Nat) : Int) false X Y = (X + 3 * a, Y + 3 * b) := by
    simp [cjP, mv, iP, li, tu, mi, tq, bt, cT, cF]
    omega
  rw [e] at o2
  exact o2
theorem thB_iff (w h N : Nat) (px : Nat → Int) (s u v : Nat) (hN : 1 ≤ N) (hF : Fine (pat w h N px) N s u v) : thB (flB w h N px 6) 6 6 (movesL w h N px 6) s u v = true ↔ ThA (pat w h N px) 6 := by
  have hg : (6 : Int) = 4 ∨ (6 : Int) = 6 := Or.inr rfl
  unfold thB
  cases hm : fi (movesL w h N px 6) 2 false with
  | none =>
    simp only [true_iff]
    intro x y hk
    have := (fi_iff w h N px 6 2 false hN (by decide)).2 ⟨x, y, hk⟩
    rw [hm] at this
    cases this
  | some m =>
    obtain ⟨-, -, k⟩ := fi_of w h N px 6 2 false hN hm
    simp only []
    rw [List.all_eq_true]
    constructor
    · intro H x y hk
      obtain ⟨i, j, a, c, hi, hj, hst, rfl, rfl⟩ := reduce 3 (by decide) hF hg (show ((2 : Nat) : Int) < 6 by decide) k hk
      have h1 := H (bMv 2 false m.2.2.1 m.2.2.2 s u v i j) ((mem_bAll 2 false m.2.2.1 m.2.2.2 s u v 3 3 _).2 ⟨i, j, hi, hj, rfl⟩)
      unfold bMv at h1
      rw [thM_iff w h N px _ _ hN, cast_x, cast_y] at h1
      exact ona_add (kp_add k (st_fine hF i j)) hst h1
    · intro H x hx
      obtain ⟨i, j, hi, hj, rfl⟩ := (mem_bAll 2 false m.2.2.1 m.2.2.2 s u v 3 3 x).1 hx
      unfold bMv
      rw [thM_iff w h N px _ _ hN, cast_x, cast_y]
      exact H _ _ (kp_add k (st_fine hF i j))
/-- two patterns of which these are the same are of one kind -/
structure Alike (P Q : Int → Int → Int) (g : Int) : Prop where
  turns : ∀ t : Nat, (t : Int) < g → (HT P g t ↔ HT Q g t)
  fore : ∀ t : Nat, (t : Int) < g → ∃ t' : Nat, (t' : Int) < g ∧ ∀ b, HF P g t b ↔ HF Q g t' b
  back : ∀ t : Nat, (t : Int) < g → ∃ t' : Nat, (t' : Int) < g ∧ ∀ b, HF Q g t b ↔ HF P g t' b
  thirds : g = 6 → (ThA P g ↔ ThA Q g)
theorem flF_to (w h N : Nat) (px : Nat → Int) (s u v : Nat) (w' h' N' : Nat) (px' : Nat → Int) (s' u' v' : Nat) (g : Int) (hg : g = 4 ∨ g = 6) (hN : 1 ≤ N) (hN' : 1 ≤ N') (hF : Fine (pat w h N px) N s u v) (hF' : Fine (pat w' h' N' px') N' s' u' v')
    (H : ∀ t : Nat, (t : Int) < g → ∃ t' : Nat, (t' : Int) < g ∧ ∀ b, HF (pat w h N px) g t b ↔ HF (pat w' h' N' px') g t' b) :
    ∀ t c, t < g.toNat → flF (stB w h N px g) g (movesL w h N px g) s u v t = some c → ∃ t', t' < g.toNat ∧ flF (stB w' h' N' px' g) g (movesL w' h' N' px' g) s' u' v' t' = some c := by
  intro t c ht hc
  obtain ⟨t', h1, h2⟩ := H t (by omega)
  have ht' : t' < g.toNat := by omega
  refine ⟨t', ht', ?_⟩
  have a := flF_some2 w h N px g s u v t hg hN ht hF hc
  have hne : ¬ flF (stB w h N px g) g (movesL w h N px g) s u v t = none := by rw [hc]; simp
  rw [flF_none w h N px g s u v t hN ht, h2 true, h2 false, ← flF_none w' h' N' px' g s' u' v' t' hN' ht'] at hne
  cases hd : flF (stB w' h' N' px' g) g (movesL w' h' N' px' g) s' u' v' t' with
  | none => exact absurd hd hne
  | some d =>
    have b := flF_some2 w' h' N' px' g s' u' v' t' hg hN' ht' hF' hd
    have e1 : d.1 = c.1 := by rw [Bool.eq_iff_iff, a.1, b.1, h2]
    have e2 : d.2 = c.2 := by rw [Bool.eq_iff_iff, a.2, b.2, h2]
    rw [Prod.ext e1 e2]
theorem kindO_same (w h N : Nat) (px : Nat → Int) (s u v : Nat) (w' h' N' : Nat) (px' : Nat → Int) (s' u' v' : Nat) (g : Int) (hg : g = 4 ∨ g = 6) (hN : 1 ≤ N) (hN' : 1 ≤ N') (hF : Fine (pat w h N px) N s u v) (hF' : Fine (pat w' h' N' px') N' s' u' v')
    (A : Alike (pat w h N px) (pat w' h' N' px') g) : kindO w' h' N' px' g s' u' v' = kindO w h N px g s u v := by
  unfold kindO
  have e : Cn (fun t => (fi (movesL w' h' N' px' g) t false).isSome) g.toNat = Cn (fun t => (fi (movesL w h N px g) t false).isSome) g.toNat := by
    refine Cn_congr _ _ _ fun t ht => ?_
    rw [Bool.eq_iff_iff, fi_iff w' h' N' px' g t false hN' ht, fi_iff w h N px g t false hN ht]
    exact (A.turns t (by omega)).symm
  rw [e]
  refine kdO_same (flF_to w' h' N' px' s' u' v' w h N px s u v g hg hN' hN hF' hF A.back) (flF_to w h N px s u v w' h' N' px' s' u' v' g hg hN hN' hF hF' A.fore) ?_
  intro h3
  have hgr := moves_grp w h N px g hg hN
  have g6 : g = 6 := by
    rcases hg with rfl | rfl
    · have := hgr.count.1
      rw [h3] at this
      revert this
      decide
    · rfl
  subst g6
  rw [Bool.eq_iff_iff]
  exact (thB_iff w' h' N' px' s' u' v' hN' hF').trans ((A.thirds rfl).symm.trans (thB_iff w h N px s u v hN hF).symm)
theorem Alike.of_mov {P Q : Int → Int → Int} {g : Int} {t : Nat} {f : Bool} {u v : Int} (hg : g = 4 ∨ g = 6) (ht : (t : Int) < g) (h : Mov P Q g t f u v) : Alike P Q g := by
  have hb := bt_range g t f hg ⟨by omega, ht⟩
  refine ⟨fun t' ht' => ht_iff hg ht ht' h, fun t' ht' => ⟨_, cjT_lt g t f t' true hg, fun b => hf_iff hg ht ht' h⟩, fun t' ht' => ⟨_, cjT_lt g (bt g t f).toNat f t' true hg, fun b => hf_iff hg (show (((bt g t f).toNat : Nat) : Int) < g by omega) ht' (h.back hg ht)⟩, ?_⟩
  rintro rfl
  exact tha_iff ht h
theorem Alike.of_kp {P Q : Int → Int → Int} {g : Int} (h : ∀ t f u v, Kp P g t f u v ↔ Kp Q g t f u v) : Alike P Q g := by
  have hs : ∀ a b, St P a b ↔ St Q a b := fun a b => by rw [← kp_step P g a b, ← kp_step Q g a b]; exact h 0 false a b
  have hm : ∀ t u v, Mr P g t u v ↔ Mr Q g t u v := fun t u v => by unfold Mr; simp only [hs]
  have hf : ∀ t b, HF P g t b ↔ HF Q g t b := fun t b => by unfold HF; simp only [hm, h]
  refine ⟨fun t _ => by unfold HT; simp only [h], fun t ht => ⟨t, ht, fun b => hf t b⟩, fun t ht => ⟨t, ht, fun b => (hf t b).symm⟩, fun _ => ?_⟩
  unfold ThA OnA
  simp only [h]
end Go.Proofs.Ytpcajcgafmmlkaa

namespace Go.Proofs.Ytpcajcgafmmlkaa
open Go.RowKit

def KMoved (g w h : Int) (p : Option Addr) (n cap : Nat) (t : Int) (f : Bool) (x y add wide high : Int) (W : World) : Prop :=
  Calls Try.prog 4 #[Ch.ch g w h p n cap, .agg #[.int .i64 t, .bool f, .int .i64 x, .int .i64 y], .int .i64 add, .int .i64 wide, .int .i64 high] W fun e w' => e = .returned (.bool true) ∧ Below W.heap.size W w'

theorem g13_0 {a0 a1 a2 a3 a4 a5 a6 a7 a8 a9 a10 a11 a12 : Oper} : (#[a0, a1, a2, a3, a4, a5, a6, a7, a8, a9, a10, a11, a12] : Array Oper)[0]? = some a0 := rfl
theorem g13_1 {a0 a1 a2 a3 a4 a5 a6 a7 a8 a9 a10 a11 a12 : Oper} : (#[a0, a1, a2, a3, a4, a5, a6, a7, a8, a9, a10, a11, a12] : Array Oper)[1]? = some a1 := rfl
theorem g13_2 {a0 a1 a2 a3 a4 a5 a6 a7 a8 a9 a10 a11 a12 : Oper} : (#[a0, a1, a2, a3, a4, a5, a6, a7, a8, a9, a10, a11, a12] : Array Oper)[2]? = some a2 := rfl
theorem g13_3 {a0 a1 a2 a3 a4 a5 a6 a7 a8 a9 a10 a11 a12 : Oper} : (#[a0, a1, a2, a3, a4, a5, a6, a7, a8, a9, a10, a11, a12] : Array Oper)[3]? = some a3 := rfl
theorem g13_4 {a0 a1 a2 a3 a4 a5 a6 a7 a8 a9 a10 a11 a12 : Oper} : (#[a0, a1, a2, a3, a4, a5, a6, a7, a8, a9, a10, a11, a12] : Array Oper)[4]? = some a4 := rfl
theorem g13_5 {a0 a1 a2 a3 a4 a5 a6 a7 a8 a9 a10 a11 a12 : Oper} : (#[a0, a1, a2, a3, a4, a5, a6, a7, a8, a9, a10, a11, a12] : Array Oper)[5]? = some a5 := rfl
theorem g13_6 {a0 a1 a2 a3 a4 a5 a6 a7 a8 a9 a10 a11 a12 : Oper} : (#[a0, a1, a2, a3, a4, a5, a6, a7, a8, a9, a10, a11, a12] : Array Oper)[6]? = some a6 := rfl
theorem g13_7 {a0 a1 a2 a3 a4 a5 a6 a7 a8 a9 a10 a11 a12 : Oper} : (#[a0, a1, a2, a3, a4, a5, a6, a7, a8, a9, a10, a11, a12] : Array Oper)[7]? = some a7 := rfl
theorem g13_8 {a0 a1 a2 a3 a4 a5 a6 a7 a8 a9 a10 a11 a12 : Oper} : (#[a0, a1, a2, a3, a4, a5, a6, a7, a8, a9, a10, a11, a12] : Array Oper)[8]? = some a8 := rfl
theorem g13_9 {a0 a1 a2 a3 a4 a5 a6 a7 a8 a9 a10 a11 a12 : Oper} : (#[a0, a1, a2, a3, a4, a5, a6, a7, a8, a9, a10, a11, a12] : Array Oper)[9]? = some a9 := rfl
theorem g13_10 {a0 a1 a2 a3 a4 a5 a6 a7 a8 a9 a10 a11 a12 : Oper} : (#[a0, a1, a2, a3, a4, a5, a6, a7, a8, a9, a10, a11, a12] : Array Oper)[10]? = some a10 := rfl
theorem g13_11 {a0 a1 a2 a3 a4 a5 a6 a7 a8 a9 a10 a11 a12 : Oper} : (#[a0, a1, a2, a3, a4, a5, a6, a7, a8, a9, a10, a11, a12] : Array Oper)[11]? = some a11 := rfl
theorem g13_12 {a0 a1 a2 a3 a4 a5 a6 a7 a8 a9 a10 a11 a12 : Oper} : (#[a0, a1, a2, a3, a4, a5, a6, a7, a8, a9, a10, a11, a12] : Array Oper)[12]? = some a12 := rfl
theorem tcl_row (w h A : Nat) (px : Nat → Int) (r i : Nat) (hi : i < A) : tcl w h (A * w) px (r * (A * w) + i * w + w) = tcl w h (A * w) px (r * (A * w) + i * w) ++ (List.range w).map fun j => px (r % h * w + j) := by
  unfold tcl
  rw [List.range_add, List.map_append, List.map_map]
  congr 1
  refine List.map_congr_left fun j hj => ?_
  rw [List.mem_range] at hj
  show tcx w h (A * w) px (r * (A * w) + i * w + j) = _
  have hlt : i * w + j < A * w := by
    have := Nat.mul_le_mul_right w (show i + 1 ≤ A from hi)
    rw [Nat.add_mul, Nat.one_mul] at this
    omega
  rw [Nat.add_assoc, tcx_at w h (A * w) px (i * w + j) r hlt, Nat.mul_comm i w, Nat.mul_add_mod, Nat.mod_eq_of_lt hj]
/-- a colour, so many further -/
def rcO (add c : Int) : Int := (c + add.tmod 62) % 62
theorem range_map_succ (F : Nat → Int) (k : Nat) : (List.range (k + 1)).map F = (List.range k).map F ++ [F k] := by rw [List.range_succ, List.map_append]; rfl

set_option maxHeartbeats 8000000 in
set_option maxRecDepth 100000 in
theorem kmoved_plain (g : Int) (w h b o n cap : Nat) (px : Nat → Int) (t : Int) (f : Bool) (x y add wide high : Int) (kd : Int) (W : World) (hw : 1 ≤ w ∧ w ≤ 64) (hh : 1 ≤ h ∧ h ≤ 64) (hn : n = w * h) (hcap : n ≤ cap) (hr : Ch.Row W b o n px) (hpx : ∀ k, k < n → 0 ≤ px k ∧ px k ≤ 61)
    (HA : ∀ V : World, Calls Try.prog 13 #[] V fun e w' => e = .returned (.bool true) ∧ Below V.heap.size V w')
    (HK : ∀ V, Ch.Row V b o n px → KindIs g w h (some ⟨b, o, none⟩) n cap V kd 0)
    (HM : ∀ V, Ch.Row V b o n px → Calls Try.prog 15 #[Ch.ch g w h (some ⟨b, o, none⟩) n cap, .agg #[.int .i64 t, .bool f, .int .i64 x, .int .i64 y]] V fun e w' => ∃ (gd wd hd : Int) (pd : Option Addr) (nd cd : Nat) (er : Int), e = .returned (.tuple #[Ch.ch gd wd hd pd nd cd, .int .i64 er]) ∧ (er = 0 → ∀ V', Below w'.heap.size w' V' → KindIs gd wd hd pd nd cd V' kd 0) ∧ Below V.heap.size V w')
    (HX : ∀ (V : World) (q cp : Nat), Ch.Row V q 0 n (fun k => rcO add (px k)) → KindIs g w h (some ⟨q, 0, none⟩) n cp V kd 0)
    (HY : ∀ (V : World) (q cp ww hh : Nat), 1 ≤ wide → 1 ≤ high → wide * (w : Int) = (ww : Int) → high * (h : Int) = (hh : Int) → ww ≤ 24 → hh ≤ 24 → Ch.Row V q 0 (hh * ww) (tcx w h ww px) → ∃ ky ey : Int, (ey = 4 ∨ ey = 0 ∧ ky = kd) ∧ KindIs g ww hh (some ⟨q, 0, none⟩) (hh * ww) cp V ky ey) :
    KMoved g w h (some ⟨b, o, none⟩) n cap t f x y add wide high W := by
  have K1 := hide HA
  have K2 := hide HK
  have K3 := hide HM
  have K4 := hide HX
  have K5 := hide HY
  have hn4 : n ≤ 4096 := by rw [hn]; exact Nat.mul_le_mul hw.2 hh.2
  have Hn := hide hn
  have Hpx := hide hpx
  obtain ⟨i0, hi, hz0, hz1, hz2⟩ := info_parts info3
  have B0 := bal (o := .cells #[.int .i64 t, .bool f, .int .i64 x, .int .i64 y] 38) (bal (o := .cells #[.int .i64 g, .int .i64 w, .int .i64 h, .slice (some ⟨b, o, none⟩) n cap] 24) (Below.refl W.heap.size W))
  have HR0 := hide (hr.keep B0)
  have HB0 := hide B0
  have HC0 := hide ((Ch.OwnC.new W g w h (some ⟨b, o, none⟩) n cap 24).alloc (.cells #[.int .i64 t, .bool f, .int .i64 x, .int .i64 y] 38))
  have M0 := OwnM.new (W.alloc (.cells #[.int .i64 g, .int .i64 w, .int .i64 h, .slice (some ⟨b, o, none⟩) n cap] 24)) t f x y 38
  rw [World.size_alloc] at M0
  have HM0 := hide M0
  clear hr HA HK HM HX HY B0 hn M0 hpx
  unfold KMoved
  go_enter Try.func4, Try.ntmps4
  go_wp2_with fail
  generalize (W.alloc (.cells #[.int .i64 g, .int .i64 w, .int .i64 h, .slice (some ⟨b, o, none⟩) n cap] 24)).alloc (.cells #[.int .i64 t, .bool f, .int .i64 x, .int .i64 y] 38) = w0 at *
  refine (unhide K1 _).mono ?_
  rintro e w1 ⟨rfl, hb⟩
  have c := ((unhide HC0).keep hb).2
  have S1 := hb
  clear hb
  go_wp2_with fail
  clear c
  refine (unhide K2 _ ((unhide HR0).keep S1)).mono ?_
  rintro e w2 ⟨rfl, hb⟩
  have S2 := btrans S1 hb
  have c := ((unhide HC0).keep S2).2
  have m := ((unhide HM0).keep S2).2.1
  clear hb S1
  go_wp2_with fail
  clear c m
  refine (unhide K3 _ ((unhide HR0).keep S2)).mono ?_
  rintro e w3 ⟨gd, wd, hd, pd, nd, cd, er, rfl, hkd, hb⟩
  have S3 := btrans S2 hb
  have Hkd := hide hkd
  clear hb S2 hkd K1 K2 K3
  go_upto_if 40 with fail
  go_cut [14, 15] from 40 to 52 (fun _ _ wc => Below w0.heap.size w0 wc)
  case first =>
    have D0 := Ch.OwnC.new w3 gd wd hd pd nd cd 24
    have S4 := bal (o := .cells #[.int .i64 gd, .int .i64 wd, .int .i64 hd, .slice pd nd cd] 24) S3
    by_cases he : er = 0
    · have he' : (er == 0) = true := by simp [he]
      have K6 := hide (unhide Hkd he _ (bal (o := .cells #[.int .i64 gd, .int .i64 wd, .int .i64 hd, .slice pd nd cd] 24) (Below.refl _ _)))
      have d := D0.2
      clear he D0 S3
      generalize w3.alloc (.cells #[.int .i64 gd, .int .i64 wd, .int .i64 hd, .slice pd nd cd] 24) = w4 at *
      go_wp2_with fail
      clear d
      refine (unhide K6).mono ?_
      rintro e w5 ⟨rfl, hb⟩
      have S5 := btrans S4 hb
      clear hb
      go_wp2
      go_meet
      exact S5
    · have he' : (er == 0) = false := by simp [he]
      clear he
      go_wp2
      go_meet
      exact S4
  case rest =>
  have S5 := hcut
  have c := ((unhide HC0).keep S5).2
  have c2 := (((unhide HC0).keep S5).alloc (.cells #[.int .i64 g, .int .i64 w, .int .i64 h, .slice none 0 0] 24)).2
  have n1 : W.heap.size < wc.heap.size := ((unhide HC0).keep S5).1
  clear hcut S3 Hkd
  go_wp2
  clear c c2
  have DC := OwnE.new wc g w h none 0 0 24
  have hbel0 := bal (o := .cells #[.int .i64 g, .int .i64 w, .int .i64 h, .slice none 0 0] 24) (Below.refl wc.heap.size wc)
  have R5 := hide ((unhide HR0).keep S5)
  have C5 := hide ((unhide HC0).keep S5)
  have T1 : -62 < add.tmod 62 ∧ add.tmod 62 < 62 := Ch.tmod_lt add 62 (by decide)
  go_loopw [63] (fun i wr => ∃ (k cp : Nat) (q : Option Addr), k ≤ n ∧ i = .int .i64 k ∧ OwnE wr wc.heap.size g w h q k cp ∧ wr.ownsRow (wc.heap.size + 1) 3 1 (.slice q k cp) k (intsV ((List.range k).map fun j => rcO add (px j))) ∧ Below wc.heap.size wc wr) (fun i _ => n - (intOf i).toNat)
  case atStart => exact ⟨0, 0, none, Nat.zero_le _, rfl, DC, World.ownsRow_nil _ _ _ _, hbel0⟩
  case round =>
    clear DC hbel0
    obtain ⟨k, cp, q, hk, rfl, DC, hown, hbel⟩ := hrel
    by_cases hlt : k < n
    · have q2 : (k : Int) < (n : Int) := by omega
      have cx := ((unhide R5).keep hbel).2 k hlt
      have hx := unhide Hpx k hlt
      generalize hpk : px k = pk at *
      have Hpk := hide hpk
      have d3 := DC.1.2.2.2.2
      have f3 := DC.2
      have hdlt := DC.1.1
      clear hpk
      have Hs := hide (show intsV ((List.range (k + 1)).map fun j => rcO add (px j)) = intsV ((List.range k).map fun j => rcO add (px j)) ++ [.int .i64 ((pk + add.tmod 62) % 62)] by
        rw [range_map_succ]
        simp [intsV, rcO, unhide Hpk])
      have hwr := hbel.size
      go_wp2_with (at_builtin; refine wpList_append_own _ rfl _ _ 22 rfl (wc.heap.size + 1) 3 i0 (.int .i64 0) 1 8 Try.underlying22 hi hz0 hz1 hz2 rfl (by decide) _ _ _ rfl (hown.alloc _) ⟨wr.heap.size, 0, none⟩ 1 1 [.int .i64 ((pk + add.tmod 62) % 62)] rfl rfl ?c1 ?c2 ?c3 ?c4 ?c5 ?_)
      case c1 =>
        intro j u hj
        match j, hj with
        | 0, hj => simp at hj; subst hj; simp [Addr.add, go_sem]
      case c2 => intro u hu; simp at hu; subst hu; rfl
      case c3 => unfold maxLen; omega
      case c4 => omega
      case c5 => simp; omega
      intro v' w5 hown' hgrow _
      have B4 := ((Below.refl (wc.heap.size + 1) wr).alloc (by omega) _).grown hgrow (by simp; omega) (fun k hk => (hown.lt k hk).1)
      have S4 := hbel.trans (B4.mono (by omega))
      have D4 := DC.below B4 (by omega) B4.size
      obtain ⟨q', cap', rfl⟩ := own_form hown'
      clear hown hgrow d3 f3 DC hbel B4 cx
      have d3 := D4.1.2.2.2.2
      have f3 := D4.2
      have S6 := S4.setCell (p := ⟨wc.heap.size, 3, none⟩) (by dsimp only; omega) (.slice q' (k + 1) cap')
      have D6 := D4.set3 q' (k + 1) cap'
      have own6 := below_setCell_own (a := ⟨wc.heap.size, 3, none⟩) (u := .slice q' (k + 1) cap') hown' (by dsimp only; omega)
      have HD6 := hide D6
      have HO6 := hide own6
      have HS6 := hide S6
      clear D6 own6 S6 hown' D4 S4
      go_wp2
      go_roundw
      case rel => exact ⟨k + 1, cap', q', by omega, by go_num, unhide HD6, by rw [unhide Hs]; exact unhide HO6, unhide HS6⟩
      case measure => simp [intOf]; omega
    · have e : n = k := by omega
      subst e
      have cl : ¬ ((n : Int) < (n : Int)) := by omega
      have hm1 : 1 ≤ n := by rw [unhide Hn]; exact Nat.mul_pos hw.1 hh.1
      obtain ⟨qa, ca, eq⟩ := own_slice hown hm1
      cases eq
      have Hrow := hide (show Ch.Row wr qa 0 n (fun k => rcO add (px k)) from ⟨(hown.lt qa rfl).2, fun k hk => by
        rw [Nat.zero_add, hown.cellAt k (by omega)]
        simp [intsV, hk]⟩)
      have d := DC.1.2
      have S7 := btrans S5 hbel
      clear DC hown hbel hlt hk T1
      go_wp2_with fail
      clear d
      refine (unhide K4 _ qa cp (unhide Hrow)).mono ?_
      rintro e wb ⟨rfl, hb⟩
      have S8 := btrans S7 hb
      clear hb S7 Hrow K4 R5 C5 S5 n1
      have C8 := hide ((unhide HC0).keep S8)
      have HS8 := hide (btrans (unhide HB0) S8)
      have HR8 := hide ((unhide HR0).keep S8)
      have c := (unhide C8).2
      have hbz := (unhide C8).1
      clear S8 HC0 HR0 HB0 HM0
      by_cases c1 : wide < 1
      · go_wp2
        go_ret
        exact ⟨ret_bool rfl, unhide HS8⟩
      have f1 : decide (wide < 1) = false := by simp; omega
      by_cases c2 : 3 < wide
      · go_wp2
        go_ret
        exact ⟨ret_bool rfl, unhide HS8⟩
      have f2 : decide (3 < wide) = false := by simp; omega
      by_cases c3 : high < 1
      · go_wp2
        go_ret
        exact ⟨ret_bool rfl, unhide HS8⟩
      have f3 : decide (high < 1) = false := by simp; omega
      by_cases c4 : 3 < high
      · go_wp2
        go_ret
        exact ⟨ret_bool rfl, unhide HS8⟩
      have f4 : decide (3 < high) = false := by simp; omega
      have m5 := mul_range wide w (by omega) hw
      have m6 := mul_range high h (by omega) hh
      by_cases c5 : 24 < wide * (w : Int)
      · go_wp2
        go_ret
        exact ⟨ret_bool rfl, unhide HS8⟩
      have f5 : decide (24 < wide * (w : Int)) = false := by simp; omega
      by_cases c6 : 24 < high * (h : Int)
      · go_wp2
        go_ret
        exact ⟨ret_bool rfl, unhide HS8⟩
      have f6 : decide (24 < high * (h : Int)) = false := by simp; omega
      go_wp2
      clear f1 f2 f3 f4 f5 f6
      obtain ⟨ww, eww⟩ : ∃ ww : Nat, wide * (w : Int) = (ww : Int) := ⟨(wide * (w : Int)).toNat, by omega⟩
      obtain ⟨hh2, ehh⟩ : ∃ hh2 : Nat, high * (h : Int) = (hh2 : Int) := ⟨(high * (h : Int)).toNat, by omega⟩
      rw [eww, ehh]
      have HY2 := hide (fun (V : World) (q cp : Nat) => unhide K5 V q cp ww hh2 (by omega) (by omega) eww ehh (by omega) (by omega))
      obtain ⟨A, hA⟩ : ∃ A : Nat, wide = (A : Int) := ⟨wide.toNat, by omega⟩
      have hwA : ww = A * w := by rw [hA, ← Int.natCast_mul] at eww; exact (Int.ofNat.inj eww).symm
      have HwA := hide hwA
      have Heh := hide ehh
      subst hA
      have hA3 : A ≤ 3 := by omega
      have hw24 : ww ≤ 24 := by omega
      have hh24 : hh2 ≤ 24 := by omega
      have hw0 : 1 ≤ ww := by rw [hwA]; exact Nat.mul_pos (by omega) hw.1
      have hh0 : 1 ≤ hh2 := by
        have : (1 : Int) ≤ high * (h : Int) := by have := Int.mul_le_mul (a := 1) (b := 1) (c := high) (d := (h : Int)) (by omega) (by omega) (by omega) (by omega); omega
        omega
      clear hwA ehh eww m5 m6 c K5 c1 c2 c3 c4 c5 c6
      have DC := OwnE.new wb g ww hh2 none 0 0 24
      have hbel1 := bal (o := .cells #[.int .i64 g, .int .i64 ww, .int .i64 hh2, .slice none 0 0] 24) (Below.refl wb.heap.size wb)
      have C8b := hide ((unhide C8).alloc (.cells #[.int .i64 g, .int .i64 ww, .int .i64 hh2, .slice none 0 0] 24))
      go_loopw [21] (fun i wr => ∃ (r m cp : Nat) (q : Option Addr), r ≤ hh2 ∧ i = .int .i64 r ∧ m = r * ww ∧ OwnE wr wb.heap.size g ww hh2 q m cp ∧ wr.ownsRow (wb.heap.size + 1) 3 1 (.slice q m cp) m (intsV (tcl w h ww px m)) ∧ Below wb.heap.size wb wr) (fun i _ => hh2 - (intOf i).toNat)
      case atStart => exact ⟨0, 0, 0, none, Nat.zero_le _, rfl, by simp, DC, World.ownsRow_nil _ _ _ _, hbel1⟩
      case round =>
        clear DC hbel1
        obtain ⟨r, m, cp, q, hr, rfl, hm, DC, hown, hbel⟩ := hrel
        have Hm := hide hm
        have hm6 : m ≤ 576 := by rw [hm]; exact Nat.mul_le_mul (show r ≤ 24 by omega) hw24
        clear hm
        by_cases hlr : r < hh2
        · have q3 : (r : Int) < (hh2 : Int) := by omega
          have c := ((unhide C8).keep hbel).2
          have d := DC.1.2
          go_wp2
          clear c d
          obtain ⟨wi, rfl⟩ : ∃ wi : World, wi = wr := ⟨_, rfl⟩
          go_loopw [22] (fun i wr => ∃ (ii iw cp : Nat) (q : Option Addr), ii ≤ A ∧ i = .int .i64 ii ∧ iw = ii * w ∧ OwnE wr wb.heap.size g ww hh2 q (m + iw) cp ∧ wr.ownsRow (wb.heap.size + 1) 3 1 (.slice q (m + iw) cp) (m + iw) (intsV (tcl w h ww px (m + iw))) ∧ Below wb.heap.size wb wr) (fun i _ => A - (intOf i).toNat)
          case atStart => exact ⟨0, 0, cp, q, Nat.zero_le _, rfl, by simp, DC, hown, hbel⟩
          case round =>
            clear DC hown hbel
            obtain ⟨ii, iw, cp, q, hii, rfl, hiw, DC, hown, hbel⟩ := hrel
            have Hiw := hide hiw
            have hiw6 : iw ≤ 192 := by rw [hiw]; exact Nat.mul_le_mul (show ii ≤ 3 by omega) hw.2
            clear hiw
            by_cases hli : ii < A
            · have q4 : (ii : Int) < (A : Int) := by omega
              obtain ⟨rh, hrh⟩ : ∃ rh : Nat, rh = r % h := ⟨_, rfl⟩
              obtain ⟨a, ha⟩ : ∃ a : Nat, a = rh * w := ⟨_, rfl⟩
              obtain ⟨aw, haw⟩ : ∃ aw : Nat, aw = a + w := ⟨_, rfl⟩
              have l1 : rh < h := by rw [hrh]; exact Nat.mod_lt _ (by omega)
              have l2 : aw ≤ n := by
                rw [haw, ha, unhide Hn, ← mul_step, Nat.mul_comm w h]; exact Nat.mul_le_mul_right w (show rh + 1 ≤ h by omega)
              have Hiw2 := hide (show iw + w = (ii + 1) * w by rw [mul_step, unhide Hiw])
              have Hv := hide (show intsV (tcl w h ww px (m + iw + w)) = intsV (tcl w h ww px (m + iw)) ++ intsV ((List.range w).map fun j => px (a + j)) by
                rw [unhide Hm, unhide Hiw, unhide HwA, tcl_row w h A px r ii hli, ha, hrh]; simp [intsV])
              have er1 : (r : Int) % (h : Int) * (w : Int) = (a : Int) := by rw [ha, hrh, Int.natCast_mul, Int.natCast_emod]
              have er0 := rem_range (r : Int) h hh
              have er2 := mul_range ((r : Int) % (h : Int)) w er0 hw
              have h0 : (h : Int) ≠ 0 := by omega
              have e4 := hide (show IntKind.i64.wrap ((a : Int) + (w : Int)) = (aw : Int) by
                rw [haw]; exact (Go.IntWalk.i64_left _).trans (Go.IntWalk.wrap64_in _ (by omega)))
              have Hld := hide (show ∀ V, Below wb.heap.size wb V → V.cell? ⟨W.heap.size, 1, none⟩ = some (.int .i64 w) ∧ V.cell? ⟨W.heap.size, 2, none⟩ = some (.int .i64 h) ∧ V.cell? ⟨W.heap.size, 3, none⟩ = some (.slice (some ⟨b, o, none⟩) n cap) from fun V hV => ((unhide C8).keep hV).2.2)
              have Hnews := hide (show ∀ V, Below wb.heap.size wb V → ∀ j u, (intsV ((List.range w).map fun j => px (a + j)))[j]? = some u → V.cell? ((⟨b, o + a, none⟩ : Addr).add j) = some u from fun V hV j u hj => by
                have hj2 : j < w ∧ u = .int .i64 (px (a + j)) := by
                  rw [intsV, List.getElem?_map, List.getElem?_map] at hj
                  by_cases hjw : j < w
                  · rw [List.getElem?_range hjw] at hj
                    simp at hj
                    exact ⟨hjw, hj.symm⟩
                  · rw [List.getElem?_eq_none (by simp; omega)] at hj
                    simp at hj
                rw [hj2.2, ← ((unhide HR8).keep hV).2 (a + j) (by omega)]
                by_cases hj0 : j = 0
                · subst hj0; simp [Addr.add]
                · simp [Addr.add, hj0, Nat.add_assoc])
              have Hone := hide (show ∀ u ∈ intsV ((List.range w).map fun j => px (a + j)), u.oneCell' = true by
                intro u hu
                simp [intsV] at hu
                obtain ⟨j, -, rfl⟩ := hu
                rfl)
              have a0 : (0 : Int) ≤ (a : Int) := by omega
              have a1 : (a : Int) ≤ (aw : Int) := by omega
              have a2 : (aw : Int) ≤ (cap : Int) := by omega
              have a3 : ¬ cap = a := by omega
              have a4 : aw - a = w := by omega
              clear hrh ha haw
              have d3 := DC.1.2.2.2.2
              have f3 := DC.2
              have hdlt := DC.1.1
              have c := ((unhide C8).keep hbel).2
              go_wp2_with fail
              go_quiet (fail)
              go_wp2_with fail
              clear c d3 f3
              try rw [er1]
              clear er1 er0 er2
              have Sq := bdN (Below.refl wr.heap.size wr) nq
              have hownq := own_keep hown Sq
              have DCq := DC.below Sq hdlt Sq.size
              have hbelq := btrans hbel Sq
              clear hown DC hbel hdlt Sq
              generalize wr.drewN nq = wq at *
              have d3 := DCq.1.2.2.2.2
              have f3 := DCq.2
              have hdlt := DCq.1.1
              have hown := hownq
              have DC := DCq
              have hbel := hbelq
              clear hownq DCq hbelq
              refine wp_region_noPanic ?_
              refine wp_region_held_drew (S := fun V => Below wb.heap.size wb V) (by kernel_rfl) (Below.drew hbel) ?_
              intro _
              have hSd := Below.drew hbel
              refine wpAnyH_take (i := 0) (oi := _) (v := .pointer (some ⟨wb.heap.size, 3, none⟩)) g13_0 (by kernel_rfl) (by kernel_rfl) (by kernel_rfl) (fun _ _ _ h => h) (Or.inl ⟨by rfl, ?_⟩) (by assumption) ?_
              · intro V hSw
                try dsimp only at hSw
                go_simp
              simp only [Act.put, List.setIfInBounds_toArray, List.set_cons_zero, List.set_cons_succ]
              refine wpAnyH_take (i := 2) (oi := _) (v := .pointer (some ⟨W.heap.size, 3, none⟩)) g13_2 (by kernel_rfl) (by kernel_rfl) (by kernel_rfl) (fun _ _ _ h => h) (Or.inl ⟨by rfl, ?_⟩) (by assumption) ?_
              · intro V hSw
                try dsimp only at hSw
                go_simp
              simp only [Act.put, List.setIfInBounds_toArray, List.set_cons_zero, List.set_cons_succ]
              refine wpAnyH_take (i := 3) (oi := _) (v := .slice (some ⟨b, o, none⟩) n cap) g13_3 (by kernel_rfl) (by kernel_rfl) (by kernel_rfl) (fun _ _ _ h => h) (Or.inl ⟨by rfl, ?_⟩) (by assumption) ?_
              · intro V hSw
                try dsimp only at hSw
                have hl := unhide Hld V hSw
                go_simp
              simp only [Act.put, List.setIfInBounds_toArray, List.set_cons_zero, List.set_cons_succ]
              refine wpAnyH_take (i := 4) (oi := _) (v := .int .i64 a) g13_4 (by kernel_rfl) (by kernel_rfl) (by kernel_rfl) (fun _ _ _ h => h) (Or.inl ⟨by rfl, ?_⟩) (by assumption) ?_
              · intro V hSw
                try dsimp only at hSw
                go_simp
              simp only [Act.put, List.setIfInBounds_toArray, List.set_cons_zero, List.set_cons_succ]
              refine wpAnyH_take (i := 5) (oi := _) (v := .int .i64 a) g13_5 (by kernel_rfl) (by kernel_rfl) (by kernel_rfl) (fun _ _ _ h => h) (Or.inl ⟨by rfl, ?_⟩) (by assumption) ?_
              · intro V hSw
                try dsimp only at hSw
                go_simp
              simp only [Act.put, List.setIfInBounds_toArray, List.set_cons_zero, List.set_cons_succ]
              refine wpAnyH_take (i := 6) (oi := _) (v := .pointer (some ⟨W.heap.size, 1, none⟩)) g13_6 (by kernel_rfl) (by kernel_rfl) (by kernel_rfl) (fun _ _ _ h => h) (Or.inl ⟨by rfl, ?_⟩) (by assumption) ?_
              · intro V hSw
                try dsimp only at hSw
                go_simp
              simp only [Act.put, List.setIfInBounds_toArray, List.set_cons_zero, List.set_cons_succ]
              refine wpAnyH_take (i := 7) (oi := _) (v := .int .i64 w) g13_7 (by kernel_rfl) (by kernel_rfl) (by kernel_rfl) (fun _ _ _ h => h) (Or.inl ⟨by rfl, ?_⟩) (by assumption) ?_
              · intro V hSw
                try dsimp only at hSw
                have hl := unhide Hld V hSw
                go_simp
              simp only [Act.put, List.setIfInBounds_toArray, List.set_cons_zero, List.set_cons_succ]
              refine wpAnyH_take (i := 8) (oi := _) (v := .int .i64 aw) g13_8 (by kernel_rfl) (by kernel_rfl) (by kernel_rfl) (fun _ _ _ h => h) (Or.inl ⟨by rfl, ?_⟩) (by assumption) ?_
              · intro V hSw
                try dsimp only at hSw
                go_simp
                exact unhide e4
              simp only [Act.put, List.setIfInBounds_toArray, List.set_cons_zero, List.set_cons_succ]
              refine wpAnyH_take (i := 9) (oi := _) (v := .slice (some ⟨b, o + a, none⟩) w (cap - a)) g13_9 (by kernel_rfl) (by kernel_rfl) (by kernel_rfl) (fun _ _ _ h => h) (Or.inl ⟨by rfl, ?_⟩) (by assumption) ?_
              · intro V hSw
                try dsimp only at hSw
                go_simp
                first | done | exact unhide e5
              simp only [Act.put, List.setIfInBounds_toArray, List.set_cons_zero, List.set_cons_succ]
              refine wpAnyH_ready (rs := [1]) (by kernel_rfl) (by simp) ?_
              refine AllReadyH.cons (o := _) g13_1 (fun K hK => ?_) AllReadyH.nil
              go_simp
              refine hK.out _ _ (Below.drew hbel) (fun _ => ?_)
              clear hK K
              refine wpAnyH_ready (rs := [10]) (by kernel_rfl) (by simp) ?_
              refine AllReadyH.cons (o := _) g13_10 (fun K hK => ?_) AllReadyH.nil
              refine wp_append_own _ _ _ 22 rfl (wb.heap.size + 1) 3 i0 (.int .i64 0) 1 8 Try.underlying22 hi hz0 hz1 hz2 rfl (by decide) (.slice q (m + iw) cp) (m + iw) (intsV (tcl w h ww px (m + iw))) rfl hown.drew ⟨b, o + a, none⟩ w (cap - a) (intsV ((List.range w).map fun j => px (a + j))) rfl ?c1y ?c2y ?c3y ?c4y ?c5y ?c6y ?_
              case c1y => simp [intsV]
              case c2y => exact unhide Hnews _ (Below.drew hbel)
              case c3y => exact unhide Hone
              case c4y => unfold maxLen; omega
              case c5y => omega
              case c6y => simp; omega
              intro v' w4 hown' hgrow _
              have B4 := (Below.drew (Below.refl (wb.heap.size + 1) wq)).grown hgrow (by simp; omega) (fun k hk => (hown.lt k hk).1)
              have S4 := hbel.trans (B4.mono (by omega))
              have D4 := DC.below B4 (by omega) B4.size
              obtain ⟨q', cap', rfl⟩ := own_form hown'
              refine hK.out _ _ S4 (fun _ => ?_)
              clear hK K hown hgrow d3 f3 DC hbel B4 hSd
              have d3 := D4.1.2.2.2.2
              have f3 := D4.2
              refine wpAnyH_ready (rs := [11]) (by kernel_rfl) (by simp) ?_
              refine AllReadyH.cons (o := _) g13_11 (fun K hK => ?_) AllReadyH.nil
              go_simp
              refine hK.out _ _ S4 (fun _ => ?_)
              clear hK K
              refine wpAnyH_ready (rs := [12]) (by kernel_rfl) (by simp) ?_
              refine AllReadyH.cons (o := _) g13_12 (fun K hK => ?_) AllReadyH.nil
              go_simp
              have S5 := S4.setCell (p := ⟨wb.heap.size, 3, none⟩) (by dsimp only; omega) (.slice q' (m + iw + w) cap')
              have D5 := D4.set3 q' (m + iw + w) cap'
              have own5 := below_setCell_own (a := ⟨wb.heap.size, 3, none⟩) (u := .slice q' (m + iw + w) cap') hown' (by dsimp only; omega)
              refine hK.out _ _ S5 (fun _ => ?_)
              refine wpAnyH_done (by kernel_rfl) ?_ _
              refine NoPanic.normal ?_
              clear hK K
              go_wp2
              go_roundw
              case rel =>
                refine ⟨ii + 1, iw + w, cap', q', by omega, by go_num, unhide Hiw2, ?_, ?_, S5⟩
                · rw [← Nat.add_assoc]; exact D5
                · rw [← Nat.add_assoc, unhide Hv]; exact own5
              case measure => simp [intOf]; omega
            · have e : A = ii := by omega
              subst e
              have cl : ¬ ((A : Int) < (A : Int)) := by omega
              have Hs := hide (show m + iw = (r + 1) * ww by rw [mul_step, unhide Hm, unhide Hiw, unhide HwA])
              have HD1 := hide DC
              have HO1 := hide hown
              have HS2 := hide hbel
              clear DC hown hbel
              go_wp2
              go_roundw
              case rel => exact ⟨r + 1, m + iw, cp, q, by omega, by go_num, unhide Hs, unhide HD1, unhide HO1, unhide HS2⟩
              case measure => simp [intOf]; omega
        · have e : hh2 = r := by omega
          subst e
          have cl : ¬ ((hh2 : Int) < (hh2 : Int)) := by omega
          have em : m = hh2 * ww := unhide Hm
          have hm1 : 1 ≤ m := by rw [em]; exact Nat.mul_pos hh0 hw0
          obtain ⟨qa, ca, eq⟩ := own_slice hown hm1
          cases eq
          have Hrow := hide (show Ch.Row wr qa 0 (hh2 * ww) (tcx w h ww px) from by
            rw [← em]
            exact ⟨(hown.lt qa rfl).2, fun k hk => by
              rw [Nat.zero_add, hown.cellAt k (by omega)]
              simp [intsV, tcl, hk]⟩)
          obtain ⟨ky, ey, hey, hK⟩ := unhide HY2 _ qa cp (unhide Hrow)
          rw [← em] at hK
          have HKy := hide hK
          have c := ((unhide C8).keep hbel).2
          have d := DC.1.2
          have HS2 := hide (btrans (unhide HS8) hbel)
          clear DC hown hbel hK em
          go_wp2_with fail
          clear c d
          refine (unhide HKy).mono ?_
          rintro e w5 ⟨rfl, hb⟩
          have S5 := btrans (unhide HS2) hb
          clear hb
          rcases hey with rfl | ⟨rfl, rfl⟩
          · go_wp2
            go_ret
            exact ⟨ret_bool rfl, S5⟩
          · go_wp2
            go_ret
            exact ⟨ret_bool (by simp), S5⟩
end Go.Proofs.Ytpcajcgafmmlkaa

namespace Go.Proofs.Ytpcajcgafmmlkaa
open Go.RowKit

theorem mcF_or (tgt : Nat → Nat) (src : Nat → Int) (k j : Nat) : mcF tgt src k j = 0 ∨ ∃ i, mcF tgt src k j = src i := by
  induction k with
  | zero => exact Or.inl rfl
  | succ k ih =>
    simp only [mcF, put]
    split
    · exact Or.inr ⟨k, rfl⟩
    · exact ih
theorem allin_of (px : Nat → Int) (n : Nat) (h : ∀ k, 0 ≤ px k ∧ px k ≤ 61) : Ch.allin px n = true := by
  induction n with
  | zero => rfl
  | succ n ih =>
    have := h n
    simp only [Ch.allin, ih, Bool.true_and]
    simp only [this.1, this.2, decide_true, Bool.and_self]
theorem Right.colours {W : World} {g w h : Int} {p : Option Addr} {n : Nat} {px : Nat → Int} {w' h' N b o : Nat} (r : Right W g w h p n px w' h' N b o) : Ch.allin px n = true := by
  obtain ⟨_, _, _, _, hc, _⟩ := Ch.wE_zero g w h p n px W (Or.inr ⟨b, o, r.hp, r.row⟩) (toE_zero r.hE).1
  exact hc
theorem Right.moved {W : World} {g w h : Int} {p : Option Addr} {n : Nat} {px : Nat → Int} {w' h' N b o : Nat} (r : Right W g w h p n px w' h' N b o) (t : Nat) (f : Bool) (x y : Int) {V : World} {q : Nat} (hrow : Ch.Row V q 0 (N * N) (movP w' h' N px g t f x y)) :
    Right V g N N (some ⟨q, 0, none⟩) (N * N) (movP w' h' N px g t f x y) N N N q 0 := by
  have hN1 := r.hN1
  have hcol : ∀ k, 0 ≤ movP w' h' N px g t f x y k ∧ movP w' h' N px g t f x y k ≤ 61 := by
    intro k
    unfold movP
    rcases mcF_or (tgtF g t f (x % N) (y % N) N) (tcx w' h' N px) (N * N) k with e | ⟨i, e⟩
    · rw [e]; decide
    · rw [e]
      unfold tcx
      refine Ch.allin_get px n r.colours _ ?_
      rw [r.hn]
      have a := Nat.mod_lt (i / N) (show 0 < h' by have := r.hh; omega)
      have c := Nat.mod_lt (i % N) (show 0 < w' by have := r.hw; omega)
      have d := Nat.mul_le_mul_right w' (show i / N % h' + 1 ≤ h' by omega)
      rw [Nat.mul_comm w' h']
      rw [Nat.add_mul, Nat.one_mul] at d
      omega
  have hwE : Ch.wE g N N (N * N) (movP w' h' N px g t f x y) = 0 := by
    unfold Ch.wE
    rw [(Ch.okg_iff g).2 r.hg, (Ch.sw_iff _).2 (show 1 ≤ (N : Int) ∧ (N : Int) ≤ 64 by omega), allin_of _ _ hcol]
    rw [if_pos rfl, if_pos (by decide), if_pos (by rw [Int.natCast_mul]), if_pos rfl]
  have hlm : lm N N = N := by unfold lm; simp
  have hE : toE g N N (N * N) (movP w' h' N px g t f x y) = 0 := by
    unfold toE
    rw [if_pos hwE, hlm, if_pos (by omega)]
  exact { hg := r.hg, hw := ⟨rfl, by omega, by omega⟩, hh := ⟨rfl, by omega, by omega⟩, hn := rfl, hp := rfl, row := hrow, hE := hE, hN := by unfold toN; rw [if_pos hE, hlm], hN1 := hN1 }

set_option maxHeartbeats 1000000 in
set_option maxRecDepth 100000 in
theorem kmoved_err (g w h : Int) (p : Option Addr) (n cap : Nat) (t : Int) (f : Bool) (x y add wide high er : Int) (W : World) (Rc : World → Prop) (hRc : ∀ V V', Rc V → Below V.heap.size V V' → Rc V') (hc : Rc W)
    (HA : ∀ V : World, Calls Try.prog 13 #[] V fun e w' => e = .returned (.bool true) ∧ Below V.heap.size V w')
    (HB : ∀ V, Rc V → KindIs g w h p n cap V 0 er) (hp : 1 ≤ er) : KMoved g w h p n cap t f x y add wide high W := by
  have K1 := hide HA
  have K2 := hide HB
  have HRc := hide hRc
  have B0 := bal (o := .cells #[.int .i64 t, .bool f, .int .i64 x, .int .i64 y] 38) (bal (o := .cells #[.int .i64 g, .int .i64 w, .int .i64 h, .slice p n cap] 24) (Below.refl W.heap.size W))
  have Hc := hide (hRc _ _ hc B0)
  have HB0 := hide B0
  have HC0 := hide ((Ch.OwnC.new W g w h p n cap 24).alloc (.cells #[.int .i64 t, .bool f, .int .i64 x, .int .i64 y] 38))
  have he : (er != 0) = true := by simp; omega
  clear hRc hc HA HB B0 hp
  unfold KMoved
  go_enter Try.func4, Try.ntmps4
  go_wp2_with fail
  generalize (W.alloc (.cells #[.int .i64 g, .int .i64 w, .int .i64 h, .slice p n cap] 24)).alloc (.cells #[.int .i64 t, .bool f, .int .i64 x, .int .i64 y] 38) = w0 at *
  refine (unhide K1 _).mono ?_
  rintro e w1 ⟨rfl, hb⟩
  have c := ((unhide HC0).keep hb).2
  have S1 := hb
  clear hb
  go_wp2_with fail
  clear c
  refine (unhide K2 _ (unhide HRc _ _ (unhide Hc) S1)).mono ?_
  rintro e w2 ⟨rfl, hb⟩
  have S2 := btrans (unhide HB0) (btrans S1 hb)
  clear hb S1
  go_wp2
  go_ret
  exact ⟨ret_bool rfl, S2⟩

/-- the pattern of a chart, without its torus -/
theorem pat_eq (w h N : Nat) (px : Nat → Int) (x y : Int) (hN : 1 ≤ N) (hw : w ∣ N) (hh : h ∣ N) : pat w h N px x y = px ((y % (h : Int)).toNat * w + (x % (w : Int)).toNat) := by
  have a1 := Int.emod_nonneg x (show (N : Int) ≠ 0 by omega)
  have a2 := Int.emod_lt_of_pos x (show (0 : Int) < N by omega)
  have b1 := Int.emod_nonneg y (show (N : Int) ≠ 0 by omega)
  obtain ⟨X, hX⟩ := Int.eq_ofNat_of_zero_le a1
  obtain ⟨Y, hY⟩ := Int.eq_ofNat_of_zero_le b1
  have ex : x % (w : Int) = ((X % w : Nat) : Int) := by rw [Int.natCast_emod, ← hX, Int.emod_emod_of_dvd _ (Int.natCast_dvd_natCast.2 hw)]
  have ey : y % (h : Int) = ((Y % h : Nat) : Int) := by rw [Int.natCast_emod, ← hY, Int.emod_emod_of_dvd _ (Int.natCast_dvd_natCast.2 hh)]
  unfold pat
  rw [hX, hY, ex, ey, Int.toNat_natCast, Int.toNat_natCast, ← Int.natCast_mul, ← Int.natCast_add, Int.toNat_natCast, tcx_at w h N px X Y (by omega)]
theorem Right.lcm {W : World} {g w h : Int} {p : Option Addr} {n : Nat} {px : Nat → Int} {w' h' N b o : Nat} (r : Right W g w h p n px w' h' N b o) : N = Nat.lcm w' h' := by
  have h1 := r.hN
  unfold toN at h1
  rw [if_pos r.hE, r.hw.1, r.hh.1] at h1
  unfold lm at h1
  rw [Int.toNat_natCast, Int.toNat_natCast] at h1
  exact (Int.ofNat.inj h1).symm
theorem cell_lt (w h : Nat) (x y : Int) (hw : 1 ≤ w) (hh : 1 ≤ h) : (y % (h : Int)).toNat * w + (x % (w : Int)).toNat < w * h := by
  have a1 := Int.emod_nonneg x (show (w : Int) ≠ 0 by omega)
  have a2 := Int.emod_lt_of_pos x (show (0 : Int) < w by omega)
  have b1 := Int.emod_nonneg y (show (h : Int) ≠ 0 by omega)
  have b2 := Int.emod_lt_of_pos y (show (0 : Int) < h by omega)
  have := Nat.mul_le_mul_left w (show (y % (h : Int)).toNat + 1 ≤ h by omega)
  rw [Nat.mul_add, Nat.mul_comm w (y % (h : Int)).toNat] at this
  omega
theorem rcO_inj (add c d : Int) (hc : 0 ≤ c ∧ c ≤ 61) (hd : 0 ≤ d ∧ d ≤ 61) : rcO add c = rcO add d ↔ c = d := by
  unfold rcO
  constructor
  · intro e; omega
  · rintro rfl; rfl
/-- a right chart is of one kind, wherever it lies -/
theorem right_kind {W : World} {g w h : Int} {p : Option Addr} {n : Nat} {px : Nat → Int} {w' h' N b o : Nat} (cap : Nat) (r : Right W g w h p n px w' h' N b o) : ∃ s u v, Fine (pat w' h' N px) N s u v ∧ KindIs g w h p n cap W (kindO w' h' N px g s u v) 0 := by
  have hN1 := r.hN1
  obtain ⟨s, hs⟩ := side_ex (stepK w' h' N px g) N hN1.1
  obtain ⟨u, v, hu⟩ := up_ex (stepK w' h' N px g) N s hN1.1 hs.1.1
  exact ⟨s, u, v, fine_of w' h' N px g s u v hN1.1 hs hu, Kind_right g w h p n cap px w' h' N b o s u v W r hs hu⟩
theorem toE_make (g : Int) (w h n : Nat) (px : Nat → Int) (hg : g = 4 ∨ g = 6) (hw : 1 ≤ w ∧ w ≤ 64) (hh : 1 ≤ h ∧ h ≤ 64) (hn : n = w * h) (hp : Ch.allin px n = true) : Ch.wE g w h n px = 0 := by
  unfold Ch.wE
  have s1 : Ch.sw (w : Int) = true := (Ch.sw_iff _).2 (by omega)
  have s2 : Ch.sw (h : Int) = true := (Ch.sw_iff _).2 (by omega)
  have s3 : Ch.okg g = true := (Ch.okg_iff g).2 hg
  rw [s1, s2, s3, hp, hn, Int.natCast_mul]
  simp
theorem right_make {V : World} (g : Int) (w h n q : Nat) (px : Nat → Int) (hg : g = 4 ∨ g = 6) (hw : 1 ≤ w ∧ w ≤ 64) (hh : 1 ≤ h ∧ h ≤ 64) (hn : n = w * h) (hp : Ch.allin px n = true) (hl : Nat.lcm w h ≤ 24) (hr : Ch.Row V q 0 n px) : Right V g w h (some ⟨q, 0, none⟩) n px w h (Nat.lcm w h) q 0 := by
  have h0 := toE_make g w h n px hg hw hh hn hp
  have hlm : lm (w : Int) (h : Int) = (Nat.lcm w h : Nat) := by unfold lm; rw [Int.toNat_natCast, Int.toNat_natCast]
  have hE : toE g w h n px = 0 := by unfold toE; rw [if_pos h0, hlm, if_pos (by omega)]
  have hN : toN g w h n px = (Nat.lcm w h : Nat) := by unfold toN; rw [if_pos hE, hlm]
  have hpos : 0 < Nat.lcm w h := Nat.lcm_pos (by omega) (by omega)
  exact ⟨hg, ⟨rfl, hw⟩, ⟨rfl, hh⟩, hn, rfl, hr, hE, hN, by omega, hl⟩

theorem kmoved_walk (g w h : Int) (p : Option Addr) (n cap : Nat) (px : Nat → Int) (t : Int) (f : Bool) (x y add wide high : Int) (W : World) (hc : Ch.Cells W p n px) (hcap : n ≤ cap) : KMoved g w h p n cap t f x y add wide high W := by
  by_cases he : toE g w h n px = 0
  · obtain ⟨w', h', N, b, o, r⟩ := right_of hc he
    have hN1 := r.hN1
    have hg := r.hg
    have hal := r.colours
    have hlc := r.lcm
    have hwd : w' ∣ N := by rw [hlc]; exact Nat.dvd_lcm_left w' h'
    have hhd : h' ∣ N := by rw [hlc]; exact Nat.dvd_lcm_right w' h'
    have hw := r.hw.2
    have hh := r.hh.2
    have hn := r.hn
    obtain ⟨s, u, v, hF, -⟩ := right_kind cap r
    have e1 := r.hw.1
    have e2 := r.hh.1
    have e3 := r.hp
    subst e1 e2 e3
    have hpx : ∀ k, k < n → 0 ≤ px k ∧ px k ≤ 61 := fun k hk => Ch.allin_get px n hal k hk
    have RV : ∀ V, Ch.Row V b o n px → Right V g w' h' (some ⟨b, o, none⟩) n px w' h' N b o := fun V hV => { r with row := hV }
    -- two right charts whose patterns are alike are of one kind
    have same : ∀ (V : World) (w2 h2 N2 q cp n2 : Nat) (px2 : Nat → Int), Right V g w2 h2 (some ⟨q, 0, none⟩) n2 px2 w2 h2 N2 q 0 → Alike (pat w' h' N px) (pat w2 h2 N2 px2) g → KindIs g w2 h2 (some ⟨q, 0, none⟩) n2 cp V (kindO w' h' N px g s u v) 0 := by
      intro V w2 h2 N2 q cp n2 px2 r2 hA
      obtain ⟨s2, u2, v2, hF2, hK⟩ := right_kind cp r2
      rw [kindO_same w' h' N px s u v w2 h2 N2 px2 s2 u2 v2 g hg hN1.1 r2.hN1.1 hF hF2 hA] at hK
      exact hK
    refine kmoved_plain g w' h' b o n cap px t f x y add wide high (kindO w' h' N px g s u v) W hw hh hn hcap r.row hpx kalive_any ?_ ?_ ?_ ?_
    · intro V hV
      obtain ⟨s2, u2, v2, hF2, hK⟩ := right_kind cap (RV V hV)
      rw [kindO_same w' h' N px s u v w' h' N px s2 u2 v2 g hg hN1.1 hN1.1 hF hF2 (Alike.of_kp fun _ _ _ _ => Iff.rfl)] at hK
      exact hK
    · intro V hV
      by_cases hE : wE g t x y = 0
      · have ht := (wE_zero g t x y hE).2.1
        obtain ⟨t', rfl⟩ : ∃ t' : Nat, t = (t' : Int) := ⟨t.toNat, by omega⟩
        refine (moved_ok g w' h' (some ⟨b, o, none⟩) n cap px w' h' N b o t' f x y V (RV V hV) hE).mono ?_
        rintro e V' ⟨q, rfl, hrow, hb⟩
        refine ⟨g, N, N, some ⟨q, 0, none⟩, N * N, N * N, 0, rfl, fun _ V2 hb2 => ?_, hb⟩
        exact same V2 N N N q (N * N) (N * N) _ ((RV V hV).moved t' f x y (hrow.keep hb2)) (Alike.of_mov hg ht.2 (mov_movP w' h' N px g t' f x y hg ht.2 hN1.1))
      · refine (moved_err2 g w' h' (some ⟨b, o, none⟩) n cap px w' h' N b o t f x y V (RV V hV) _ rfl (wE_pos g t x y hE)).mono ?_
        rintro e V' ⟨rfl, hb⟩
        exact ⟨0, 0, 0, none, 0, 0, wE g t x y, rfl, fun h0 => absurd h0 hE, hb⟩
    · intro V q cp hrow
      have hin : Ch.allin (fun k => rcO add (px k)) n = true := allin_of _ n fun k => by unfold rcO; omega
      have r2 := right_make g w' h' n q (fun k => rcO add (px k)) hg hw hh hn hin (by rw [← hlc]; exact hN1.2) hrow
      rw [← hlc] at r2
      refine same V w' h' N q cp n _ r2 (Alike.of_kp fun t f a b => ?_)
      have hb : ∀ x y, 0 ≤ pat w' h' N px x y ∧ pat w' h' N px x y ≤ 61 := fun x y => by
        rw [pat_eq w' h' N px x y hN1.1 hwd hhd]
        exact hpx _ (by rw [hn]; exact cell_lt w' h' x y hw.1 hh.1)
      have hq : ∀ x y, pat w' h' N (fun k => rcO add (px k)) x y = rcO add (pat w' h' N px x y) := fun x y => rfl
      unfold Kp
      simp only [hq]
      exact ⟨fun H x y => (rcO_inj add _ _ (hb _ _) (hb _ _)).2 (H x y), fun H x y => (rcO_inj add _ _ (hb _ _) (hb _ _)).1 (H x y)⟩
    · intro V q cp ww hh2 c1 c2 eww ehh lw lh hrow
      obtain ⟨A, rfl⟩ : ∃ A : Nat, wide = (A : Int) := ⟨wide.toNat, by omega⟩
      obtain ⟨B, rfl⟩ : ∃ B : Nat, high = (B : Int) := ⟨high.toNat, by omega⟩
      have e1 : ww = A * w' := by rw [← Int.natCast_mul] at eww; exact (Int.ofNat.inj eww).symm
      have e2 : hh2 = B * h' := by rw [← Int.natCast_mul] at ehh; exact (Int.ofNat.inj ehh).symm
      have hw2 : 1 ≤ ww := by rw [e1]; exact Nat.mul_pos (by omega) hw.1
      have hh2' : 1 ≤ hh2 := by rw [e2]; exact Nat.mul_pos (by omega) hh.1
      have hin : Ch.allin (tcx w' h' ww px) (hh2 * ww) = true := allin_of _ _ fun k => by
        unfold tcx
        refine hpx _ ?_
        rw [hn]
        have h1 := Nat.mod_lt (k / ww) (show h' > 0 by omega)
        have h2 := Nat.mod_lt (k % ww) (show w' > 0 by omega)
        have := Nat.mul_le_mul_left w' (show k / ww % h' + 1 ≤ h' by omega)
        rw [Nat.mul_add, Nat.mul_comm w' (k / ww % h')] at this
        omega
      by_cases hl : Nat.lcm ww hh2 ≤ 24
      · have r2 := right_make g ww hh2 (hh2 * ww) q (tcx w' h' ww px) hg (by omega) (by omega) (Nat.mul_comm _ _) hin hl hrow
        refine ⟨_, 0, Or.inr ⟨rfl, rfl⟩, same V ww hh2 _ q cp (hh2 * ww) _ r2 (Alike.of_kp fun t f a b => ?_)⟩
        have hP : pat ww hh2 (Nat.lcm ww hh2) (tcx w' h' ww px) = pat w' h' N px := by
          funext x y
          have a1 := Int.emod_nonneg x (show (ww : Int) ≠ 0 by omega)
          have a2 := Int.emod_lt_of_pos x (show (0 : Int) < ww by omega)
          have b1 := Int.emod_nonneg y (show (hh2 : Int) ≠ 0 by omega)
          rw [pat_eq ww hh2 _ _ x y r2.hN1.1 (Nat.dvd_lcm_left _ _) (Nat.dvd_lcm_right _ _), pat_eq w' h' N px x y hN1.1 hwd hhd, tcx_at w' h' ww px _ _ (by omega)]
          have ex : x % (w' : Int) = (((x % (ww : Int)).toNat % w' : Nat) : Int) := by
            rw [Int.natCast_emod, Int.toNat_of_nonneg a1, Int.emod_emod_of_dvd _ (Int.natCast_dvd_natCast.2 (e1 ▸ Nat.dvd_mul_left w' A))]
          have ey : y % (h' : Int) = (((y % (hh2 : Int)).toNat % h' : Nat) : Int) := by
            rw [Int.natCast_emod, Int.toNat_of_nonneg b1, Int.emod_emod_of_dvd _ (Int.natCast_dvd_natCast.2 (e2 ▸ Nat.dvd_mul_left h' B))]
          rw [ex, ey, Int.toNat_natCast, Int.toNat_natCast]
        rw [hP]
      · refine ⟨0, 4, Or.inl rfl, Kind_bad g ww hh2 (some ⟨q, 0, none⟩) (hh2 * ww) cp (tcx w' h' ww px) V (Or.inr ⟨q, 0, rfl, hrow⟩) 4 ?_ (by decide)⟩
        have h0 := toE_make g ww hh2 (hh2 * ww) (tcx w' h' ww px) hg (by omega) (by omega) (Nat.mul_comm _ _) hin
        unfold toE lm
        rw [if_pos h0, Int.toNat_natCast, Int.toNat_natCast, if_neg (by omega)]
  · exact kmoved_err g w h p n cap t f x y add wide high _ W (fun V => Ch.Cells V p n px) (fun V V' h hb => h.keep hb) hc kalive_any (fun V hV => Kind_bad g w h p n cap px V hV _ rfl (toE_pos he)) (toE_pos he)
end Go.Proofs.Ytpcajcgafmmlkaa

namespace Go.Proofs.Ytpcajcgafmmlkaa
open Go.ChangeShapes Go.WideShapes Go.ChangeAt Go.RowKit Go.Joins Go.Deep

set_option maxRecDepth 100000 in
theorem chart_open2 {H : Type} {enc : TypeId × Value → H} {W : World} {base : Nat} {sp : Nat → Bool} {hd : Bool} {r : Reach} {b0 : Nat} {v : Value} {d : DataW H} {p : List MemPlace} (hv : Value.okWide Try.prog W r b0 24 v) (h : DataW.Trod enc Try.prog W base sp hd 24 v d p) :
    ∃ (g w h : Int) (q : Option Addr) (n cap : Nat) (px : Nat → Int), v = Ch.ch g w h q n cap ∧ Ch.Cells W q n px ∧ n ≤ cap := by
  obtain ⟨cs, rfl, hsz⟩ := okWide_struct Try.underlying24 hv
  obtain ⟨c0, c1, c2, c3, rfl⟩ := array4 (hsz.trans cells24)
  obtain ⟨fuel, hf⟩ := h
  obtain ⟨y0, y1, y2, y3, n, hx, _, h0, h1, h2, h3⟩ := trod_struct4 Try.underlying24 hf
  simp only [Value.cells, cells3, cells22, List.drop, List.take] at h0 h1 h2 h3
  obtain ⟨g, e0, rfl, wg⟩ := DataW.trod_int Try.underlying3 h0
  obtain ⟨w, e1, rfl, ww⟩ := DataW.trod_int Try.underlying3 h1
  obtain ⟨hh, e2, rfl, wh⟩ := DataW.trod_int Try.underlying3 h2
  simp at e0 e1 e2
  subst e0 e1 e2
  rcases open_ints Try.underlying22 Try.underlying3 cells3 h3 with ⟨e3, _⟩ | ⟨a, len, cap, zs, e3, _, hl, hm, hzl, _, hcell, _⟩
  · simp at e3
    subst e3
    exact ⟨g, w, hh, _, 0, 0, fun _ => 0, rfl, Or.inl rfl, Nat.le_refl _⟩
  · simp at e3
    subst e3
    refine ⟨g, w, hh, _, len, cap, fun k => zs.getD k 0, rfl, ?_, by omega⟩
    by_cases hz : len = 0
    · exact Or.inl hz
    · have hlen : len ≤ zs.length := by rw [hzl]; split <;> omega
      have hc0 := hcell 0 (by omega)
      have hsp := World.cell?_spot hc0
      obtain ⟨b, o, s⟩ := a
      simp [Addr.add] at hsp
      subst hsp
      refine Or.inr ⟨b, o, rfl, World.block_lt_of_cell? W _ hc0, fun k hk => ?_⟩
      have := hcell k (by omega)
      by_cases hk0 : k = 0
      · subst hk0
        simpa [Addr.add] using this
      · simpa [Addr.add, hk0] using this
end Go.Proofs.Ytpcajcgafmmlkaa
