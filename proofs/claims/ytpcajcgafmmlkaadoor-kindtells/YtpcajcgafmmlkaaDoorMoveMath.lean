/-
  Plain facts about moves of the two grids: two moves one behind the other are one move, each is undone by one, and all keep how far points are apart. No Go in sight but for the definitions.
-/
import Derived.Test.YtpcajcgafmmlkaaDoorCompose
namespace Go.Proofs.YtpcajcgafmmlkaaDoor
open Go.RowKit

/-- the part of a move that fixes 0 -/
def li (g : Int) (t : Nat) (f : Bool) (x y : Int) : Int × Int := tu g t (mi g f x y).1 (mi g f x y).2
theorem mv_li (g : Int) (t : Nat) (f : Bool) (bx b x y : Int) : mv g t f bx b x y = ((li g t f x y).1 + bx, (li g t f x y).2 + b) := rfl

theorem tq_add (g x y u v : Int) : tq g (x + u) (y + v) = tq g x y + tq g u v := by unfold tq; split <;> omega
theorem tq_neg (g x y : Int) : tq g (-x) (-y) = -tq g x y := by unfold tq; split <;> omega
theorem tu_add (g : Int) (k : Nat) (x y u v : Int) : tu g k (x + u) (y + v) = ((tu g k x y).1 + (tu g k u v).1, (tu g k x y).2 + (tu g k u v).2) := by
  induction k with
  | zero => rfl
  | succ k ih => simp only [tu, ih, tq_add]; exact Prod.ext (by simp; omega) rfl
theorem tu_neg (g : Int) (k : Nat) (x y : Int) : tu g k (-x) (-y) = (-(tu g k x y).1, -(tu g k x y).2) := by
  induction k with
  | zero => rfl
  | succ k ih => simp only [tu, ih, tq_neg]
theorem li_add (g : Int) (t : Nat) (f : Bool) (x y u v : Int) : li g t f (x + u) (y + v) = ((li g t f x y).1 + (li g t f u v).1, (li g t f x y).2 + (li g t f u v).2) := by
  cases f with
  | false => exact tu_add g t x y u v
  | true => simp only [li, mi]; rw [tq_add, show -(y + v) = -y + -v by omega]; exact tu_add g t _ _ _ _
theorem li_neg (g : Int) (t : Nat) (f : Bool) (x y : Int) : li g t f (-x) (-y) = (-(li g t f x y).1, -(li g t f x y).2) := by
  cases f with
  | false => exact tu_neg g t x y
  | true => simp only [li, mi]; rw [tq_neg]; exact tu_neg g t _ _
theorem li_sub (g : Int) (t : Nat) (f : Bool) (x y u v : Int) : li g t f (x - u) (y - v) = ((li g t f x y).1 - (li g t f u v).1, (li g t f x y).2 - (li g t f u v).2) := by
  have := li_add g t f x y (-u) (-v)
  rw [li_neg] at this
  simp only [← Int.sub_eq_add_neg] at this
  exact this

theorem nn_turn (g x y : Int) : nn g (-y) (tq g x y) = nn g x y := by unfold nn tq; split <;> grind
theorem nn_mirror (g x y : Int) : nn g (tq g x y) (-y) = nn g x y := by unfold nn tq; split <;> grind
theorem nn_tu (g : Int) (k : Nat) (x y : Int) : nn g (tu g k x y).1 (tu g k x y).2 = nn g x y := by
  induction k with
  | zero => rfl
  | succ k ih => simp only [tu]; rw [nn_turn, ih]
theorem nn_li (g : Int) (t : Nat) (f : Bool) (x y : Int) : nn g (li g t f x y).1 (li g t f x y).2 = nn g x y := by
  unfold li
  rw [nn_tu]
  cases f with
  | false => rfl
  | true => exact nn_mirror g x y

theorem six (t : Nat) (h : t < 6) : t = 0 ∨ t = 1 ∨ t = 2 ∨ t = 3 ∨ t = 4 ∨ t = 5 := by omega
theorem four (t : Nat) (h : t < 4) : t = 0 ∨ t = 1 ∨ t = 2 ∨ t = 3 := by omega

set_option maxHeartbeats 4000000 in
theorem li_comp6 (t t' : Nat) (f f' : Bool) (x y : Int) (ht : t < 6) (ht' : t' < 6) : li 6 t f (li 6 t' f' x y).1 (li 6 t' f' x y).2 = li 6 (cT 6 t f t').toNat (cF f f') x y := by
  rcases six t ht with rfl | rfl | rfl | rfl | rfl | rfl <;> rcases six t' ht' with rfl | rfl | rfl | rfl | rfl | rfl <;> cases f <;> cases f' <;>
    (simp [li, tu, mi, tq, cT, cF]; try omega)

set_option maxHeartbeats 4000000 in
theorem li_comp4 (t t' : Nat) (f f' : Bool) (x y : Int) (ht : t < 4) (ht' : t' < 4) : li 4 t f (li 4 t' f' x y).1 (li 4 t' f' x y).2 = li 4 (cT 4 t f t').toNat (cF f f') x y := by
  rcases four t ht with rfl | rfl | rfl | rfl <;> rcases four t' ht' with rfl | rfl | rfl | rfl <;> cases f <;> cases f' <;>
    (simp [li, tu, mi, tq, cT, cF]; try omega)

theorem cT_range (g t : Int) (f : Bool) (t' : Int) (hg : g = 4 ∨ g = 6) : 0 ≤ cT g t f t' ∧ cT g t f t' < g := by
  unfold cT
  rcases hg with rfl | rfl <;> cases f <;> simp only <;> omega
theorem cT_assoc (g t : Int) (f : Bool) (t' : Int) (f' : Bool) (t'' : Int) (hg : g = 4 ∨ g = 6) : cT g (cT g t f t') (cF f f') t'' = cT g t f (cT g t' f' t'') := by
  rcases hg with rfl | rfl <;> cases f <;> cases f' <;> simp only [cT, cF, Bool.not_true, Bool.not_false] <;> omega
theorem cF_assoc (f f' f'' : Bool) : cF (cF f f') f'' = cF f (cF f' f'') := by cases f <;> cases f' <;> cases f'' <;> rfl
theorem li_comp (g t : Int) (f : Bool) (t' : Int) (f' : Bool) (x y : Int) (hg : g = 4 ∨ g = 6) (ht : 0 ≤ t ∧ t < g) (ht' : 0 ≤ t' ∧ t' < g) :
    li g t.toNat f (li g t'.toNat f' x y).1 (li g t'.toNat f' x y).2 = li g (cT g t f t').toNat (cF f f') x y := by
  obtain ⟨n, rfl⟩ := Int.eq_ofNat_of_zero_le ht.1
  obtain ⟨n', rfl⟩ := Int.eq_ofNat_of_zero_le ht'.1
  simp only [Int.toNat_natCast]
  rcases hg with rfl | rfl
  · exact li_comp4 n n' f f' x y (by omega) (by omega)
  · exact li_comp6 n n' f f' x y (by omega) (by omega)
theorem mv_comp (g t : Int) (f : Bool) (x y t' : Int) (f' : Bool) (x' y' zx zy : Int) (hg : g = 4 ∨ g = 6) (ht : 0 ≤ t ∧ t < g) (ht' : 0 ≤ t' ∧ t' < g) :
    mv g (cT g t f t').toNat (cF f f') (mv g t.toNat f x y x' y').1 (mv g t.toNat f x y x' y').2 zx zy = mv g t.toNat f x y (mv g t'.toNat f' x' y' zx zy).1 (mv g t'.toNat f' x' y' zx zy).2 := by
  simp only [mv_li]
  rw [li_add, li_comp g t f t' f' zx zy hg ht ht']
  exact Prod.ext (by simp only; omega) (by simp only; omega)

/-! ### what the calls answer -/
def aE (g t : Int) (f : Bool) (bx b x y : Int) : Int := if wE g t bx b = 0 then (if e1 g x y = 0 then (if sm2 (mv g t.toNat f bx b x y).1 (mv g t.toNat f bx b x y).2 = true then 0 else 4) else e1 g x y) else wE g t bx b
def aP (g t : Int) (f : Bool) (bx b x y : Int) : Int × Int := if aE g t f bx b x y = 0 then mv g t.toNat f bx b x y else (0, 0)
theorem wE_zero (g t x y : Int) (h : wE g t x y = 0) : (g = 4 ∨ g = 6) ∧ (0 ≤ t ∧ t < g) ∧ sm2 x y = true := by
  unfold wE at h
  by_cases k : e1 g x y = 0
  · rw [if_pos k] at h
    by_cases l : 0 ≤ t ∧ t < g
    · exact ⟨(e1_zero _ _ _ k).1, l, (e1_zero _ _ _ k).2⟩
    · rw [if_neg l] at h; omega
  · rw [if_neg k] at h; exact absurd h k
theorem Sz.sm {g x y : Int} (h : sm2 x y = true) : Sz g 268435456 x y := (Sz.of_sm h).mono (by decide)

theorem apply_any (g t : Int) (f : Bool) (bx b x y : Int) : ApplyIs g t f bx b x y (aP g t f bx b x y).1 (aP g t f bx b x y).2 (aE g t f bx b x y) := by
  have W1 := wrong_any g t f bx b
  by_cases h : wE g t bx b = 0
  · rw [h] at W1
    obtain ⟨hg, ht, hs⟩ := wE_zero _ _ _ _ h
    by_cases k : e1 g x y = 0
    · refine apply_ok g t f bx b x y _ _ _ _ _ W1 k (movedIs g t f bx b x y hg ht (Sz.sm (e1_zero _ _ _ k).2) (Sz.sm hs)) ?_
      show _ ∨ _
      cases l : sm2 (mv g t.toNat f bx b x y).1 (mv g t.toNat f bx b x y).2 with
      | true =>
        have e : aE g t f bx b x y = 0 := by simp [aE, h, k, l]
        have p : aP g t f bx b x y = mv g t.toNat f bx b x y := by unfold aP; rw [if_pos e]
        exact Or.inl ⟨rfl, by rw [p], by rw [p], e⟩
      | false =>
        have e : aE g t f bx b x y = 4 := by simp [aE, h, k, l]
        have p : aP g t f bx b x y = (0, 0) := by unfold aP; rw [if_neg (by omega)]
        exact Or.inr ⟨rfl, by rw [p], by rw [p], e⟩
    · have e : aE g t f bx b x y = e1 g x y := by simp [aE, h, k]
      have p : aP g t f bx b x y = (0, 0) := by unfold aP; rw [if_neg (by omega)]
      rw [e, p]
      exact apply_err2 g t f bx b x y _ W1 rfl (e1_pos _ _ _ k)
  · have e : aE g t f bx b x y = wE g t bx b := by simp [aE, h]
    have p : aP g t f bx b x y = (0, 0) := by unfold aP; rw [if_neg (by omega)]
    rw [e, p]
    exact apply_err1 g t f bx b x y _ W1 (wE_pos _ _ _ _ h)
theorem aE_zero (g t : Int) (f : Bool) (bx b x y : Int) (h : aE g t f bx b x y = 0) : wE g t bx b = 0 ∧ sm2 x y = true ∧ sm2 (mv g t.toNat f bx b x y).1 (mv g t.toNat f bx b x y).2 = true ∧ aP g t f bx b x y = mv g t.toNat f bx b x y := by
  have p : aP g t f bx b x y = mv g t.toNat f bx b x y := by unfold aP; rw [if_pos h]
  unfold aE at h
  by_cases k : wE g t bx b = 0
  · rw [if_pos k] at h
    by_cases l : e1 g x y = 0
    · rw [if_pos l] at h
      by_cases m : sm2 (mv g t.toNat f bx b x y).1 (mv g t.toNat f bx b x y).2 = true
      · exact ⟨k, (e1_zero _ _ _ l).2, m, p⟩
      · rw [if_neg m] at h; omega
    · rw [if_neg l] at h; exact absurd h l
  · rw [if_neg k] at h; exact absurd h k
theorem aE_pos (g t : Int) (f : Bool) (bx b x y : Int) (h : aE g t f bx b x y ≠ 0) : 1 ≤ aE g t f bx b x y := by
  unfold aE at *
  by_cases k : wE g t bx b = 0
  · rw [if_pos k] at *
    by_cases l : e1 g x y = 0
    · rw [if_pos l] at *
      by_cases m : sm2 (mv g t.toNat f bx b x y).1 (mv g t.toNat f bx b x y).2 = true
      · rw [if_pos m] at h; omega
      · rw [if_neg m]; omega
    · rw [if_neg l]; exact e1_pos _ _ _ l
  · rw [if_neg k]; exact wE_pos _ _ _ _ k
theorem aE_of (g t : Int) (f : Bool) (bx b x y : Int) (h : wE g t bx b = 0) (k : sm2 x y = true) : aE g t f bx b x y = if sm2 (mv g t.toNat f bx b x y).1 (mv g t.toNat f bx b x y).2 = true then 0 else 4 := by
  unfold aE; rw [if_pos h, if_pos]
  have := (wE_zero _ _ _ _ h).1
  unfold e1; simp [okg, this, k]

def kE (g t : Int) (f : Bool) (x y t' x' y' : Int) : Int := if w2E g t x y t' x' y' = 0 then (if sm2 (mv g t.toNat f x y x' y').1 (mv g t.toNat f x y x' y').2 = true then 0 else 4) else w2E g t x y t' x' y'
def kT (g t : Int) (f : Bool) (x y t' x' y' : Int) : Int := if kE g t f x y t' x' y' = 0 then cT g t f t' else 0
def kF (g t : Int) (f : Bool) (x y t' : Int) (f' : Bool) (x' y' : Int) : Bool := if kE g t f x y t' x' y' = 0 then cF f f' else false
def kP (g t : Int) (f : Bool) (x y t' x' y' : Int) : Int × Int := if kE g t f x y t' x' y' = 0 then mv g t.toNat f x y x' y' else (0, 0)
theorem w2E_zero (g t x y t' x' y' : Int) (h : w2E g t x y t' x' y' = 0) : wE g t x y = 0 ∧ wE g t' x' y' = 0 := by
  unfold w2E at h
  by_cases k : wE g t x y = 0
  · rw [if_pos k] at h; exact ⟨k, h⟩
  · rw [if_neg k] at h; exact absurd h k
theorem w2E_of (g t x y t' x' y' : Int) (h : wE g t x y = 0) (k : wE g t' x' y' = 0) : w2E g t x y t' x' y' = 0 := by unfold w2E; rw [if_pos h, k]

theorem compose_any (g t : Int) (f : Bool) (x y t' : Int) (f' : Bool) (x' y' : Int) : ComposeIs g t f x y t' f' x' y' (kT g t f x y t' x' y') (kF g t f x y t' f' x' y') (kP g t f x y t' x' y').1 (kP g t f x y t' x' y').2 (kE g t f x y t' x' y') := by
  by_cases h : w2E g t x y t' x' y' = 0
  · obtain ⟨h1, h2⟩ := w2E_zero _ _ _ _ _ _ _ h
    obtain ⟨hg, ht, hs⟩ := wE_zero _ _ _ _ h1
    obtain ⟨_, ht', hs'⟩ := wE_zero _ _ _ _ h2
    refine compose_ok g t f x y t' f' x' y' _ _ _ _ _ _ _ _ _ h (composedIs g t f x y t' f' x' y' hg ht ht' (Sz.sm hs) (Sz.sm hs')) ?_
    show _ ∨ _
    cases l : sm2 (mv g t.toNat f x y x' y').1 (mv g t.toNat f x y x' y').2 with
    | true =>
      have e : kE g t f x y t' x' y' = 0 := by simp [kE, h, l]
      exact Or.inl ⟨rfl, by unfold kT; rw [if_pos e], by unfold kF; rw [if_pos e], by unfold kP; rw [if_pos e], by unfold kP; rw [if_pos e], e⟩
    | false =>
      have e : kE g t f x y t' x' y' = 4 := by simp [kE, h, l]
      have e' : ¬ kE g t f x y t' x' y' = 0 := by omega
      exact Or.inr ⟨rfl, by unfold kT; rw [if_neg e'], by unfold kF; rw [if_neg e'], by unfold kP; rw [if_neg e'], by unfold kP; rw [if_neg e'], e⟩
  · have e : kE g t f x y t' x' y' = w2E g t x y t' x' y' := by simp [kE, h]
    have e' : ¬ kE g t f x y t' x' y' = 0 := by omega
    rw [show kT g t f x y t' x' y' = 0 by unfold kT; rw [if_neg e'], show kF g t f x y t' f' x' y' = false by unfold kF; rw [if_neg e'], show kP g t f x y t' x' y' = (0, 0) by unfold kP; rw [if_neg e'], e]
    exact compose_err g t f x y t' f' x' y' _ rfl (w2E_pos _ _ _ _ _ _ _ h)
theorem kE_zero (g t : Int) (f : Bool) (x y t' : Int) (f' : Bool) (x' y' : Int) (h : kE g t f x y t' x' y' = 0) : wE g t x y = 0 ∧ wE g t' x' y' = 0 ∧ sm2 (mv g t.toNat f x y x' y').1 (mv g t.toNat f x y x' y').2 = true ∧ kT g t f x y t' x' y' = cT g t f t' ∧ kF g t f x y t' f' x' y' = cF f f' ∧ kP g t f x y t' x' y' = mv g t.toNat f x y x' y' := by
  have p1 : kT g t f x y t' x' y' = cT g t f t' := by unfold kT; rw [if_pos h]
  have p2 : kF g t f x y t' f' x' y' = cF f f' := by unfold kF; rw [if_pos h]
  have p3 : kP g t f x y t' x' y' = mv g t.toNat f x y x' y' := by unfold kP; rw [if_pos h]
  unfold kE at h
  by_cases k : w2E g t x y t' x' y' = 0
  · rw [if_pos k] at h
    obtain ⟨h1, h2⟩ := w2E_zero _ _ _ _ _ _ _ k
    by_cases m : sm2 (mv g t.toNat f x y x' y').1 (mv g t.toNat f x y x' y').2 = true
    · exact ⟨h1, h2, m, p1, p2, p3⟩
    · rw [if_neg m] at h; omega
  · rw [if_neg k] at h; exact absurd h k
theorem kE_pos (g t : Int) (f : Bool) (x y t' x' y' : Int) (h : kE g t f x y t' x' y' ≠ 0) : 1 ≤ kE g t f x y t' x' y' := by
  unfold kE at *
  by_cases k : w2E g t x y t' x' y' = 0
  · rw [if_pos k] at *
    by_cases m : sm2 (mv g t.toNat f x y x' y').1 (mv g t.toNat f x y x' y').2 = true
    · rw [if_pos m] at h; omega
    · rw [if_neg m]; omega
  · rw [if_neg k]; exact w2E_pos _ _ _ _ _ _ _ k
theorem kE_of (g t : Int) (f : Bool) (x y t' x' y' : Int) (h : wE g t x y = 0) (k : wE g t' x' y' = 0) : kE g t f x y t' x' y' = if sm2 (mv g t.toNat f x y x' y').1 (mv g t.toNat f x y x' y').2 = true then 0 else 4 := by
  unfold kE; rw [if_pos (w2E_of _ _ _ _ _ _ _ h k)]

/-- the turn that undoes a turn -/
def bt (g t : Int) (f : Bool) : Int := match f with
  | true => t
  | false => -t % g
def iP (g t : Int) (f : Bool) (x y : Int) : Int × Int := (-(li g (bt g t f).toNat f x y).1, -(li g (bt g t f).toNat f x y).2)
def iE (g t : Int) (f : Bool) (x y : Int) : Int := if wE g t x y = 0 then (if sm2 (iP g t f x y).1 (iP g t f x y).2 = true then 0 else 4) else wE g t x y
theorem bt_range (g t : Int) (f : Bool) (hg : g = 4 ∨ g = 6) (ht : 0 ≤ t ∧ t < g) : 0 ≤ bt g t f ∧ bt g t f < g := by
  cases f
  · simp only [bt]; rcases hg with rfl | rfl <;> omega
  · exact ht
end Go.Proofs.YtpcajcgafmmlkaaDoor
