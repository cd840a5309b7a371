/-
  Bands, the mathematics: which moves keep a band; a band that is begun elsewhere, turned upside down or read backwards is kept by as many.
-/
import Derived.Test.YtpcajcgafmmlkaaDoorRows
import Derived.Test.YtpcajcgafmmlkaaDoorGG
import Derived.Deep.QuietTactic
import Derived.BigQuiet
namespace Go.Proofs.YtpcajcgafmmlkaaDoor

/-- which cell a move takes a point's to -/
def bcN (w h : Nat) (back over : Bool) (t x y : Nat) : Nat := (if over = true then h - 1 - y else y) * w + ((if back = true then w - x else x) + t) % w
def okP (px : Nat → Int) (w h : Nat) (back over : Bool) (t y x : Nat) : Bool := decide (px (y * w + x) = px (bcN w h back over t x y))
def rowP (px : Nat → Int) (w h : Nat) (back over : Bool) (t y x : Nat) : Bool := (List.range x).all (okP px w h back over t y)
def allP (px : Nat → Int) (w h : Nat) (back over : Bool) (t y : Nat) : Bool := (List.range y).all fun y => rowP px w h back over t y w
/-- a move keeps a band -/
def kpBand (px : Nat → Int) (w h : Nat) (back over : Bool) (t : Nat) : Bool := allP px w h back over t h
theorem rowP_succ (px : Nat → Int) (w h : Nat) (back over : Bool) (t y x : Nat) : rowP px w h back over t y (x + 1) = (rowP px w h back over t y x && okP px w h back over t y x) := by
  unfold rowP; rw [List.range_succ, List.all_append]; simp
theorem allP_succ (px : Nat → Int) (w h : Nat) (back over : Bool) (t y : Nat) : allP px w h back over t (y + 1) = (allP px w h back over t y && rowP px w h back over t y w) := by
  unfold allP; rw [List.range_succ, List.all_append]; simp
theorem kpBand_no {px : Nat → Int} {w h : Nat} {back over : Bool} {t y x : Nat} (hy : y < h) (hx : x < w) (h0 : okP px w h back over t y x = false) : kpBand px w h back over t = false := by
  cases e : kpBand px w h back over t with
  | false => rfl
  | true =>
    unfold kpBand allP at e
    rw [List.all_eq_true] at e
    have e1 := e y (List.mem_range.2 hy)
    unfold rowP at e1
    rw [List.all_eq_true] at e1
    have e2 := e1 x (List.mem_range.2 hx)
    rw [h0] at e2
    cases e2
theorem bcN_lt (w h : Nat) (back over : Bool) (t x y : Nat) (hw : 1 ≤ w) (hy : y < h) : bcN w h back over t x y < w * h := by
  unfold bcN
  have h1 := Nat.mod_lt ((if back = true then w - x else x) + t) (show w > 0 by omega)
  have h2 : (if over = true then h - 1 - y else y) ≤ h - 1 := by split <;> omega
  have h3 := Nat.mul_le_mul_right w h2
  have h4 : (h - 1) * w = w * h - w := by rw [Nat.sub_mul, Nat.mul_comm h w, Nat.one_mul]
  have h5 : w * 1 ≤ w * h := Nat.mul_le_mul_left w (by omega)
  omega

/-- a band, as it goes on to the sides -/
def bnd (px : Nat → Int) (w : Nat) (x : Int) (y : Nat) : Int := px (y * w + (x % (w : Int)).toNat)
def PerX (P : Int → Nat → Int) (w : Nat) : Prop := ∀ x x' y, x % (w : Int) = x' % (w : Int) → P x y = P x' y
def BK (P : Int → Nat → Int) (h : Nat) (back over : Bool) (t : Int) : Prop := ∀ (x : Int) (y : Nat), y < h → P x y = P (if back = true then t - x else x + t) (if over = true then h - 1 - y else y)
theorem bnd_per (px : Nat → Int) (w : Nat) : PerX (bnd px w) w := fun x x' y e => by unfold bnd; rw [e]
theorem bnd_nat (px : Nat → Int) (w x y : Nat) (hx : x < w) : bnd px w x y = px (y * w + x) := by
  unfold bnd; rw [← Int.natCast_emod, Int.toNat_natCast, Nat.mod_eq_of_lt hx]
theorem bnd_to (px : Nat → Int) (w h : Nat) (back over : Bool) (t x y : Nat) (hx : x < w) :
    bnd px w (if back = true then (t : Int) - x else x + t) (if over = true then h - 1 - y else y) = px (bcN w h back over t x y) := by
  unfold bnd bcN
  have e : ((if back = true then (t : Int) - x else x + t) % (w : Int)).toNat = ((if back = true then w - x else x) + t) % w := by
    cases back
    · simp only [Bool.false_eq_true, if_false]
      rw [← Int.natCast_add, ← Int.natCast_emod, Int.toNat_natCast]
    · simp only [if_true]
      have : ((t : Int) - x) % (w : Int) = (((w - x + t : Nat) : Int)) % (w : Int) := by
        rw [show (((w - x + t : Nat) : Int)) = (t : Int) - x + w * 1 by omega, Int.add_mul_emod_self_left]
      rw [this, ← Int.natCast_emod, Int.toNat_natCast]
  rw [e]
theorem emod_same (x : Int) (w : Nat) : x % (w : Int) % (w : Int) = x % (w : Int) := Int.emod_emod_of_dvd _ (Int.dvd_refl _)
theorem step_same {x x' t : Int} {w : Nat} (back : Bool) (e : x % (w : Int) = x' % (w : Int)) : (if back = true then t - x else x + t) % (w : Int) = (if back = true then t - x' else x' + t) % (w : Int) := by
  have d : (w : Int) ∣ x - x' := Int.dvd_of_emod_eq_zero (Int.emod_eq_emod_iff_emod_sub_eq_zero.1 e)
  obtain ⟨k, hk⟩ := d
  cases back
  · simp only [Bool.false_eq_true, if_false]
    rw [show x + t = x' + t + w * k by omega, Int.add_mul_emod_self_left]
  · simp only [if_true]
    rw [show t - x' = t - x + w * k by omega, Int.add_mul_emod_self_left]
theorem kpBand_iff (px : Nat → Int) (w h : Nat) (back over : Bool) (t : Nat) (hw : 1 ≤ w) : kpBand px w h back over t = true ↔ BK (bnd px w) h back over t := by
  unfold kpBand allP
  rw [List.all_eq_true]
  constructor
  · intro H x y hy
    have h1 := H y (List.mem_range.2 hy)
    unfold rowP at h1
    rw [List.all_eq_true] at h1
    have hp := Int.emod_nonneg x (show (w : Int) ≠ 0 by omega)
    have hq := Int.emod_lt_of_pos x (show (0 : Int) < w by omega)
    have h2 := h1 (x % (w : Int)).toNat (List.mem_range.2 (by omega))
    unfold okP at h2
    have h3 := of_decide_eq_true h2
    rw [← bnd_to px w h back over t _ y (by omega), ← bnd_nat px w _ y (by omega), Int.toNat_of_nonneg hp] at h3
    rw [bnd_per px w x (x % (w : Int)) y (emod_same x w).symm, h3]
    exact bnd_per px w _ _ _ (step_same back (emod_same x w))
  · intro H y hy
    unfold rowP
    rw [List.all_eq_true]
    intro x hx
    rw [List.mem_range] at hy hx
    unfold okP
    rw [← bnd_to px w h back over t x y hx, ← bnd_nat px w x y hx]
    exact decide_eq_true (H x y hy)
theorem BK.ext {P Q : Int → Nat → Int} {h : Nat} {back over : Bool} {t : Int} (e : ∀ x y, y < h → P x y = Q x y) (H : BK P h back over t) : BK Q h back over t := by
  intro x y hy
  rw [← e x y hy, H x y hy]
  exact e _ _ (by split <;> omega)
theorem BK.per {P : Int → Nat → Int} {w h : Nat} {back over : Bool} {t t' : Int} (hP : PerX P w) (e : t % (w : Int) = t' % (w : Int)) (H : BK P h back over t) : BK P h back over t' := by
  intro x y hy
  rw [H x y hy]
  refine hP _ _ _ ?_
  have d : (w : Int) ∣ t - t' := Int.dvd_of_emod_eq_zero (Int.emod_eq_emod_iff_emod_sub_eq_zero.1 e)
  obtain ⟨k, hk⟩ := d
  cases back
  · simp only [Bool.false_eq_true, if_false]
    rw [show x + t = x + t' + w * k by omega, Int.add_mul_emod_self_left]
  · simp only [if_true]
    rw [show t - x = t' - x + w * k by omega, Int.add_mul_emod_self_left]
/-- begun elsewhere -/
theorem bk_begun (P : Int → Nat → Int) (h : Nat) (back over : Bool) (t a : Int) : BK (fun x y => P (x + a) y) h back over t ↔ BK P h back over (if back = true then t + 2 * a else t) := by
  constructor
  · intro H x y hy
    have h1 := H (x - a) y hy
    cases back
    · simp only [Bool.false_eq_true, if_false] at h1 ⊢
      rw [show x - a + a = x by omega, show x - a + t + a = x + t by omega] at h1
      exact h1
    · simp only [if_true] at h1 ⊢
      rw [show x - a + a = x by omega, show t - (x - a) + a = t + 2 * a - x by omega] at h1
      exact h1
  · intro H x y hy
    have h1 := H (x + a) y hy
    cases back
    · simp only [Bool.false_eq_true, if_false] at h1 ⊢
      rw [show x + a + t = x + t + a by omega] at h1
      exact h1
    · simp only [if_true] at h1 ⊢
      rw [show t + 2 * a - (x + a) = t - x + a by omega] at h1
      exact h1
/-- upside down -/
theorem bk_turned (P : Int → Nat → Int) (h : Nat) (back over : Bool) (t : Int) : BK (fun x y => P x (h - 1 - y)) h back over t ↔ BK P h back over t := by
  constructor
  · intro H x y hy
    have h1 := H x (h - 1 - y) (by omega)
    cases over
    · simp only [Bool.false_eq_true, if_false] at h1 ⊢
      rw [show h - 1 - (h - 1 - y) = y by omega] at h1
      exact h1
    · simp only [if_true] at h1 ⊢
      rw [show h - 1 - (h - 1 - y) = y by omega] at h1
      exact h1
  · intro H x y hy
    have h1 := H x (h - 1 - y) (by omega)
    cases over
    · simp only [Bool.false_eq_true, if_false] at h1 ⊢
      exact h1
    · simp only [if_true] at h1 ⊢
      exact h1
/-- backwards -/
theorem bk_back (P : Int → Nat → Int) (h : Nat) (back over : Bool) (t c : Int) : BK (fun x y => P (c - x) y) h back over t ↔ BK P h back over (if back = true then 2 * c - t else -t) := by
  constructor
  · intro H x y hy
    have h1 := H (c - x) y hy
    cases back
    · simp only [Bool.false_eq_true, if_false] at h1 ⊢
      rw [show c - (c - x) = x by omega, show c - (c - x + t) = x + -t by omega] at h1
      exact h1
    · simp only [if_true] at h1 ⊢
      rw [show c - (c - x) = x by omega, show c - (t - (c - x)) = 2 * c - t - x by omega] at h1
      exact h1
  · intro H x y hy
    have h1 := H (c - x) y hy
    cases back
    · simp only [Bool.false_eq_true, if_false] at h1 ⊢
      rw [show c - x + -t = c - (x + t) by omega] at h1
      exact h1
    · simp only [if_true] at h1 ⊢
      rw [show 2 * c - t - (c - x) = c - (t - x) by omega] at h1
      exact h1

/-- some move from t0 on below e keeps the band -/
def bkA (kB : Nat → Bool) (t0 e : Nat) : Bool := (List.range e).any fun t => decide (t0 ≤ t) && kB t
theorem bkA_all (px : Nat → Int) (w h : Nat) (over : Bool) (hw : 1 ≤ w) : bkA (kpBand px w h true over) 0 w = true ↔ ∃ t : Int, BK (bnd px w) h true over t := by
  unfold bkA
  rw [List.any_eq_true]
  constructor
  · rintro ⟨t, -, h2⟩
    rw [Bool.and_eq_true] at h2
    exact ⟨t, (kpBand_iff px w h true over t hw).1 h2.2⟩
  · rintro ⟨t, ht⟩
    have hp := Int.emod_nonneg t (show (w : Int) ≠ 0 by omega)
    have hq := Int.emod_lt_of_pos t (show (0 : Int) < w by omega)
    refine ⟨(t % (w : Int)).toNat, List.mem_range.2 (by omega), ?_⟩
    rw [Bool.and_eq_true]
    refine ⟨by simp, (kpBand_iff px w h true over _ hw).2 ?_⟩
    rw [Int.toNat_of_nonneg hp]
    exact ht.per (bnd_per px w) (emod_same t w).symm
theorem bkA_one (px : Nat → Int) (w h : Nat) (hw : 1 ≤ w) : bkA (kpBand px w h false true) 0 1 = true ↔ BK (bnd px w) h false true 0 := by
  rw [← Int.natCast_zero, ← kpBand_iff px w h false true 0 hw]
  unfold bkA
  simp [List.range_succ]
theorem bkA_step (px : Nat → Int) (w h : Nat) (hw : 1 ≤ w) : bkA (kpBand px w h false true) 1 w = true ↔ ∃ t : Int, t % (w : Int) ≠ 0 ∧ BK (bnd px w) h false true t := by
  unfold bkA
  rw [List.any_eq_true]
  constructor
  · rintro ⟨t, h1, h2⟩
    rw [Bool.and_eq_true] at h2
    rw [List.mem_range] at h1
    have h3 := of_decide_eq_true h2.1
    refine ⟨t, ?_, (kpBand_iff px w h false true t hw).1 h2.2⟩
    rw [← Int.natCast_emod, Nat.mod_eq_of_lt h1]
    omega
  · rintro ⟨t, h0, ht⟩
    have hp := Int.emod_nonneg t (show (w : Int) ≠ 0 by omega)
    have hq := Int.emod_lt_of_pos t (show (0 : Int) < w by omega)
    refine ⟨(t % (w : Int)).toNat, List.mem_range.2 (by omega), ?_⟩
    rw [Bool.and_eq_true]
    refine ⟨decide_eq_true (by omega), (kpBand_iff px w h false true _ hw).2 ?_⟩
    rw [Int.toNat_of_nonneg hp]
    exact ht.per (bnd_per px w) (emod_same t w).symm

/-- the three ways: begun elsewhere, upside down, backwards -/
def wyI (way w at_ x : Nat) : Nat := if way = 0 then (x + at_) % w else if way = 1 then x else w - 1 - x
def wyJ (way h y : Nat) : Nat := if way = 1 then h - 1 - y else y
def wyC (px : Nat → Int) (way w h at_ i : Nat) : Int := px (wyJ way h (i / w) * w + wyI way w at_ (i % w))
def wyP (P : Int → Nat → Int) (way w h at_ : Nat) (x : Int) (y : Nat) : Int := if way = 0 then P (x + at_) y else if way = 1 then P x (h - 1 - y) else P ((w : Int) - 1 - x) y
theorem wyC_at (px : Nat → Int) (way w h at_ x y : Nat) (hx : x < w) : wyC px way w h at_ (y * w + x) = px (wyJ way h y * w + wyI way w at_ x) := by
  unfold wyC
  rw [show (y * w + x) / w = y by rw [Nat.mul_comm, Nat.mul_add_div (by omega), Nat.div_eq_of_lt hx, Nat.add_zero], show (y * w + x) % w = x by rw [Nat.mul_comm, Nat.mul_add_mod, Nat.mod_eq_of_lt hx]]
theorem wy_bnd (px : Nat → Int) (way w h at_ : Nat) (hw : 1 ≤ w) (x : Int) (y : Nat) : bnd (wyC px way w h at_) w x y = wyP (bnd px w) way w h at_ x y := by
  have hp := Int.emod_nonneg x (show (w : Int) ≠ 0 by omega)
  have hq := Int.emod_lt_of_pos x (show (0 : Int) < w by omega)
  rw [bnd_per _ w x ((x % (w : Int)).toNat : Nat) y (by rw [Int.toNat_of_nonneg hp, emod_same]), bnd_nat _ w _ y (by omega), wyC_at _ _ _ _ _ _ _ (by omega)]
  have hx : x % (w : Int) = ((x % (w : Int)).toNat : Nat) := (Int.toNat_of_nonneg hp).symm
  generalize (x % (w : Int)).toNat = k at *
  have hk : x % (w : Int) = (k : Int) % (w : Int) := by rw [hx, ← Int.natCast_emod, Nat.mod_eq_of_lt (by omega)]
  unfold wyP wyJ wyI
  by_cases w0 : way = 0
  · subst w0
    simp only [if_true]
    rw [if_neg (by decide), bnd_per px w (x + at_) ((k + at_ : Nat) : Int) y (by have := step_same (t := at_) false hk; simpa using this)]
    rw [bnd_per px w ((k + at_ : Nat) : Int) (((k + at_) % w : Nat) : Int) y (by rw [Int.natCast_emod, emod_same]), bnd_nat px w _ y (Nat.mod_lt _ (by omega))]
  · by_cases w1 : way = 1
    · subst w1
      simp only [if_true]
      rw [if_neg (by decide), if_neg (by decide), bnd_per px w x k _ hk, bnd_nat px w _ _ (by omega)]
    · rw [if_neg w0, if_neg w0, if_neg w1, if_neg w1, if_neg w1, bnd_per px w ((w : Int) - 1 - x) ((w - 1 - k : Nat) : Int) y ?_, bnd_nat px w _ _ (by omega)]
      have := step_same (t := (w : Int) - 1) true hk
      simp only [if_true] at this
      rw [this, show (w : Int) - 1 - k = ((w - 1 - k : Nat) : Int) by omega]
theorem wy_bk (px : Nat → Int) (way w h at_ : Nat) (hw : 1 ≤ w) (back over : Bool) (t : Int) : BK (bnd (wyC px way w h at_) w) h back over t ↔ BK (bnd px w) h back over (if way = 0 then (if back = true then t + 2 * at_ else t) else if way = 1 then t else (if back = true then 2 * ((w : Int) - 1) - t else -t)) := by
  have e : BK (bnd (wyC px way w h at_) w) h back over t ↔ BK (wyP (bnd px w) way w h at_) h back over t := ⟨fun H => H.ext fun x y _ => wy_bnd px way w h at_ hw x y, fun H => H.ext fun x y _ => (wy_bnd px way w h at_ hw x y).symm⟩
  rw [e]
  by_cases w0 : way = 0
  · subst w0
    exact bk_begun (bnd px w) h back over t at_
  · by_cases w1 : way = 1
    · subst w1
      exact bk_turned (bnd px w) h back over t
    · rw [if_neg w0, if_neg w1, ← bk_back (bnd px w) h back over t ((w : Int) - 1)]
      unfold wyP
      simp only [w0, w1, if_false]
theorem wy_all (px : Nat → Int) (way w h at_ : Nat) (hw : 1 ≤ w) (over : Bool) : bkA (kpBand (wyC px way w h at_) w h true over) 0 w = bkA (kpBand px w h true over) 0 w := by
  rw [Bool.eq_iff_iff, bkA_all _ _ _ _ hw, bkA_all _ _ _ _ hw]
  constructor
  · rintro ⟨t, ht⟩
    exact ⟨_, (wy_bk px way w h at_ hw true over t).1 ht⟩
  · rintro ⟨t, ht⟩
    by_cases w0 : way = 0
    · exact ⟨t - 2 * at_, (wy_bk px way w h at_ hw true over _).2 (by rw [if_pos w0, if_pos rfl, show t - 2 * (at_ : Int) + 2 * at_ = t by omega]; exact ht)⟩
    · by_cases w1 : way = 1
      · exact ⟨t, (wy_bk px way w h at_ hw true over _).2 (by rw [if_neg w0, if_pos w1]; exact ht)⟩
      · exact ⟨2 * ((w : Int) - 1) - t, (wy_bk px way w h at_ hw true over _).2 (by rw [if_neg w0, if_neg w1, if_pos rfl, show 2 * ((w : Int) - 1) - (2 * ((w : Int) - 1) - t) = t by omega]; exact ht)⟩
theorem wy_one (px : Nat → Int) (way w h at_ : Nat) (hw : 1 ≤ w) : bkA (kpBand (wyC px way w h at_) w h false true) 0 1 = bkA (kpBand px w h false true) 0 1 := by
  rw [Bool.eq_iff_iff, bkA_one _ _ _ hw, bkA_one _ _ _ hw, wy_bk px way w h at_ hw false true 0]
  simp
theorem neg_mod {t : Int} {w : Nat} (h : t % (w : Int) ≠ 0) : -t % (w : Int) ≠ 0 := fun e => h (Int.emod_eq_zero_of_dvd (Int.dvd_neg.1 (Int.dvd_of_emod_eq_zero e)))
theorem wy_step (px : Nat → Int) (way w h at_ : Nat) (hw : 1 ≤ w) : bkA (kpBand (wyC px way w h at_) w h false true) 1 w = bkA (kpBand px w h false true) 1 w := by
  rw [Bool.eq_iff_iff, bkA_step _ _ _ hw, bkA_step _ _ _ hw]
  constructor
  · rintro ⟨t, h0, ht⟩
    have h1 := (wy_bk px way w h at_ hw false true t).1 ht
    by_cases w0 : way = 0
    · rw [if_pos w0, if_neg (by decide)] at h1
      exact ⟨t, h0, h1⟩
    · by_cases w1 : way = 1
      · rw [if_neg w0, if_pos w1] at h1
        exact ⟨t, h0, h1⟩
      · rw [if_neg w0, if_neg w1, if_neg (by decide)] at h1
        exact ⟨-t, neg_mod h0, h1⟩
  · rintro ⟨t, h0, ht⟩
    by_cases w0 : way = 0
    · exact ⟨t, h0, (wy_bk px way w h at_ hw false true t).2 (by rw [if_pos w0, if_neg (by decide)]; exact ht)⟩
    · by_cases w1 : way = 1
      · exact ⟨t, h0, (wy_bk px way w h at_ hw false true t).2 (by rw [if_neg w0, if_pos w1]; exact ht)⟩
      · exact ⟨-t, neg_mod h0, (wy_bk px way w h at_ hw false true (-t)).2 (by rw [if_neg w0, if_neg w1, if_neg (by decide), Int.neg_neg]; exact ht)⟩
/-- the kinds of bands -/
def bdO (side round over step : Bool) : Int :=
  if (side && over) = true then 7 else if (side && round) = true then 6 else if round = true then 5 else if side = true then 4 else if over = true then 3 else if step = true then 2 else 1
def bandO (px : Nat → Int) (w h : Nat) : Int := bdO (bkA (kpBand px w h true false) 0 w) (bkA (kpBand px w h true true) 0 w) (bkA (kpBand px w h false true) 0 1) (bkA (kpBand px w h false true) 1 w)
theorem wy_band (px : Nat → Int) (way w h at_ : Nat) (hw : 1 ≤ w) : bandO (wyC px way w h at_) w h = bandO px w h := by
  unfold bandO
  rw [wy_all _ _ _ _ _ hw, wy_all _ _ _ _ _ hw, wy_one _ _ _ _ _ hw, wy_step _ _ _ _ _ hw]
theorem bandO_range (px : Nat → Int) (w h : Nat) : 1 ≤ bandO px w h ∧ bandO px w h ≤ 7 := by
  unfold bandO bdO
  repeat' split
  all_goals decide
theorem bandO_ext (px qx : Nat → Int) (w h : Nat) (hw : 1 ≤ w) (e : ∀ i, i < w * h → px i = qx i) : bandO px w h = bandO qx w h := by
  have : ∀ back over t, kpBand px w h back over t = kpBand qx w h back over t := by
    intro back over t
    have hb : ∀ x y, y < h → bnd px w x y = bnd qx w x y := by
      intro x y hy
      unfold bnd
      have hp := Int.emod_nonneg x (show (w : Int) ≠ 0 by omega)
      have hq := Int.emod_lt_of_pos x (show (0 : Int) < w by omega)
      refine e _ ?_
      have h3 := Nat.mul_le_mul_right w (show y ≤ h - 1 by omega)
      have h4 : (h - 1) * w = w * h - w := by rw [Nat.sub_mul, Nat.mul_comm h w, Nat.one_mul]
      have h5 : w * 1 ≤ w * h := Nat.mul_le_mul_left w (by omega)
      omega
    rw [Bool.eq_iff_iff, kpBand_iff _ _ _ _ _ _ hw, kpBand_iff _ _ _ _ _ _ hw]
    exact ⟨fun H => H.ext hb, fun H => H.ext fun x y hy => (hb x y hy).symm⟩
  unfold bandO bkA
  simp only [this]
end Go.Proofs.YtpcajcgafmmlkaaDoor

namespace Go.Proofs.YtpcajcgafmmlkaaDoor
open Go.RowKit

def OwnB (W : World) (b : Nat) (x y : Bool) (t : Int) : Prop := b < W.heap.size ∧ (W.cell? ⟨b, 0, none⟩ = some (.bool x) ∧ W.cell? ⟨b, 1, none⟩ = some (.bool y) ∧ W.cell? ⟨b, 2, none⟩ = some (.int .i64 t)) ∧ W.frozen? ⟨b, 2, none⟩ = false
theorem OwnB.new (W : World) (x y : Bool) (t : Int) : OwnB (W.alloc (.cells #[.bool x, .bool y, .int .i64 t] 71)) W.heap.size x y t := ⟨by simp, ⟨by simp [go_sem], by simp [go_sem], by simp [go_sem]⟩, by simp [go_sem]⟩
theorem OwnB.keep {W w1 : World} {b : Nat} {x y : Bool} {t : Int} (h : OwnB W b x y t) (hb : Below W.heap.size W w1) : OwnB w1 b x y t :=
  ⟨Nat.lt_of_lt_of_le h.1 hb.size, ⟨keepC hb h.1 h.2.1.1, keepC hb h.1 h.2.1.2.1, keepC hb h.1 h.2.1.2.2⟩, keepF hb h.1 h.2.2⟩
theorem OwnB.set {W : World} {b : Nat} {x y : Bool} {t : Int} (h : OwnB W b x y t) (t' : Int) : OwnB (W.setCell ⟨b, 2, none⟩ (.int .i64 t')) b x y t' := by
  obtain ⟨h1, ⟨h2, h3, h4⟩, h5⟩ := h
  exact ⟨by simpa using h1, ⟨by simp [go_sem, h2], by simp [go_sem, h3], by simp [go_sem, h4]⟩, by simp [go_sem, h5]⟩

set_option maxHeartbeats 1000000 in
set_option maxRecDepth 100000 in
theorem bandKept_any (g w h : Int) (p : Option Addr) (n cap : Nat) (back over : Bool) (kB : Nat → Bool) (t0 e : Nat) (Rc : World → Prop) (W : World) (he : e ≤ 64) (ht : t0 ≤ 64) (hRc : ∀ V V', Rc V → Below V.heap.size V V' → Rc V')
    (HK : ∀ V, Rc V → ∀ t : Nat, t ≤ 64 → Calls Tryd.prog 54 #[Ch.ch g w h p n cap, .agg #[.bool back, .bool over, .int .i64 t]] V fun e w' => e = .returned (.bool (kB t)) ∧ Below V.heap.size V w') (hc : Rc W) :
    Calls Tryd.prog 37 #[Ch.ch g w h p n cap, .agg #[.bool back, .bool over, .int .i64 t0], .int .i64 e] W fun e' w' => e' = .returned (.bool (bkA kB t0 e)) ∧ Below W.heap.size W w' := by
  have HK1 := hide HK
  have HRc := hide hRc
  have B0 := bal (o := .cells #[.int .i64 g, .int .i64 w, .int .i64 h, .slice p n cap] 24) (Below.refl W.heap.size W)
  have Hc := hide (hRc _ _ hc B0)
  have HB := hide B0
  have HC0 := hide (Ch.OwnC.new W g w h p n cap 24)
  have O0 := OwnB.new (W.alloc (.cells #[.int .i64 g, .int .i64 w, .int .i64 h, .slice p n cap] 24)) back over t0
  have S0 := bal (o := .cells #[.bool back, .bool over, .int .i64 t0] 71) (Below.refl (W.alloc (.cells #[.int .i64 g, .int .i64 w, .int .i64 h, .slice p n cap] 24)).heap.size (W.alloc (.cells #[.int .i64 g, .int .i64 w, .int .i64 h, .slice p n cap] 24)))
  have HO := hide O0
  have HS0 := hide S0
  generalize hans : bkA kB t0 e = ans
  have Hans := hide hans
  clear HK hRc B0 hc O0 S0 hans
  go_enter Tryd.func37, Tryd.ntmps37
  go_wp2
  have hsz : W.heap.size + 1 = (W.alloc (.cells #[.int .i64 g, .int .i64 w, .int .i64 h, .slice p n cap] 24)).heap.size := by simp
  rw [hsz]
  clear hsz
  generalize (W.alloc (.cells #[.int .i64 g, .int .i64 w, .int .i64 h, .slice p n cap] 24)).alloc (.cells #[.bool back, .bool over, .int .i64 t0] 71) = w1 at *
  generalize W.alloc (.cells #[.int .i64 g, .int .i64 w, .int .i64 h, .slice p n cap] 24) = w0 at *
  go_loopw [13] (fun _ wr => ∃ t : Nat, t0 ≤ t ∧ t ≤ 65 ∧ bkA kB t0 (min t e) = false ∧ OwnB wr w0.heap.size back over t ∧ Below w0.heap.size w0 wr) (fun _ wr => match wr.cell? ⟨w0.heap.size, 2, none⟩ with | some (.int _ t) => 70 - t.toNat | _ => 0)
  case atStart =>
    refine ⟨t0, Nat.le_refl _, by omega, ?_, unhide HO, unhide HS0⟩
    unfold bkA
    rw [List.any_eq_false]
    intro t ht
    rw [List.mem_range] at ht
    have : ¬ t0 ≤ t := by omega
    simp [this]
  case round =>
    clear HO HS0
    obtain ⟨t, ht0, ht5, hno, hO, hbel⟩ := hrel
    by_cases hlt : t < e
    · have q2 : (t : Int) < (e : Int) := by omega
      have o := hO.2
      have c := ((unhide HC0).keep hbel).2
      have HK2 := hide (fun V hc => unhide HK1 V hc t (by omega))
      have hcV := unhide HRc _ _ (unhide Hc) hbel
      have Hl := hide hlt
      go_wp2_with fail
      clear c o
      refine (unhide HK2 _ hcV).mono ?_
      rintro e' w3 ⟨rfl, hb⟩
      have O3 := hO.keep hb
      have S3 := btrans hbel hb
      have hmeas := hO.2.1.2.2
      have o := O3.2
      clear hb hbel hcV HK2 hO
      cases hk : kB t with
      | true =>
        have hy : ans = true := by
          rw [← unhide Hans]
          unfold bkA
          exact List.any_eq_true.2 ⟨t, List.mem_range.2 (unhide Hl), by simp [hk, ht0]⟩
        subst hy
        go_wp2
        go_ret
        exact ⟨ret_bool (by simp), btrans (unhide HB) S3⟩
      | false =>
        have Hno2 := hide (show bkA kB t0 (min (t + 1) e) = false by
          have := unhide Hl
          unfold bkA at hno ⊢
          rw [show min (t + 1) e = t + 1 by omega, List.range_succ, List.any_append]
          rw [show min t e = t by omega] at hno
          rw [hno]
          simp [hk])
        have HO4 := hide (O3.set ((t : Int) + 1))
        have HS4 := hide (bset (p := ⟨w0.heap.size, 2, none⟩) (u := .int .i64 ((t : Int) + 1)) S3 (Nat.le_refl _))
        clear hk hno O3 S3
        go_wp2
        go_roundw
        case rel => exact ⟨t + 1, by omega, by have := unhide Hl; omega, unhide Hno2, by simpa using unhide HO4, unhide HS4⟩
        case measure => 
          have a1 := (unhide HO4).2.1.2.2
          rw [hmeas]
          simp only [a1]
          have := unhide Hl
          omega
    · have cl : ¬ ((t : Int) < (e : Int)) := by omega
      have o := hO.2
      have hy : ans = false := by rw [← unhide Hans, ← hno, show min t e = e by omega]
      subst hy
      have HSe := hide (btrans (unhide HB) hbel)
      clear hbel hno
      go_wp2
      go_ret
      exact ⟨ret_bool (by simp), unhide HSe⟩
end Go.Proofs.YtpcajcgafmmlkaaDoor

namespace Go.Proofs.YtpcajcgafmmlkaaDoor
open Go.RowKit

set_option maxHeartbeats 1500000 in
set_option maxRecDepth 100000 in
theorem bandKind_any (g w h : Int) (p : Option Addr) (n cap : Nat) (sd rd ov st : Bool) (Rc : World → Prop) (W : World) (hRc : ∀ V V', Rc V → Below V.heap.size V V' → Rc V')
    (H1 : ∀ V, Rc V → Calls Tryd.prog 37 #[Ch.ch g w h p n cap, .agg #[.bool true, .bool false, .int .i64 0], .int .i64 w] V fun e w' => e = .returned (.bool sd) ∧ Below V.heap.size V w')
    (H2 : ∀ V, Rc V → Calls Tryd.prog 37 #[Ch.ch g w h p n cap, .agg #[.bool true, .bool true, .int .i64 0], .int .i64 w] V fun e w' => e = .returned (.bool rd) ∧ Below V.heap.size V w')
    (H3 : ∀ V, Rc V → Calls Tryd.prog 37 #[Ch.ch g w h p n cap, .agg #[.bool false, .bool true, .int .i64 0], .int .i64 1] V fun e w' => e = .returned (.bool ov) ∧ Below V.heap.size V w')
    (H4 : ∀ V, Rc V → Calls Tryd.prog 37 #[Ch.ch g w h p n cap, .agg #[.bool false, .bool true, .int .i64 1], .int .i64 w] V fun e w' => e = .returned (.bool st) ∧ Below V.heap.size V w') (hc : Rc W) :
    Calls Tryd.prog 20 #[Ch.ch g w h p n cap] W fun e w' => e = .returned (.int .i64 (bdO sd rd ov st)) ∧ Below W.heap.size W w' := by
  have K1 := hide H1
  have K2 := hide H2
  have K3 := hide H3
  have K4 := hide H4
  have HRc := hide hRc
  have B0 := bal (o := .cells #[.int .i64 g, .int .i64 w, .int .i64 h, .slice p n cap] 24) (Below.refl W.heap.size W)
  have Hc := hide (hRc _ _ hc B0)
  have HB := hide B0
  have HC0 := hide (Ch.OwnC.new W g w h p n cap 24)
  generalize hans : bdO sd rd ov st = ans
  clear hc B0 H1 H2 H3 H4 hRc
  go_enter Tryd.func20, Tryd.ntmps20
  go_wp2_with fail
  generalize W.alloc (.cells #[.int .i64 g, .int .i64 w, .int .i64 h, .slice p n cap] 24) = w0 at *
  refine (unhide K1 _ (unhide Hc)).mono ?_
  rintro e w1 ⟨rfl, hb⟩
  have S1 := hb
  have c := ((unhide HC0).keep S1).2
  go_wp2_with fail
  clear c
  refine (unhide K2 _ (unhide HRc _ _ (unhide Hc) S1)).mono ?_
  rintro e w2 ⟨rfl, hb⟩
  have S2 := btrans S1 hb
  have c := ((unhide HC0).keep S2).2
  clear hb S1
  go_wp2_with fail
  clear c
  refine (unhide K3 _ (unhide HRc _ _ (unhide Hc) S2)).mono ?_
  rintro e w3 ⟨rfl, hb⟩
  have S3 := btrans S2 hb
  clear hb S2 K1 K2 K3
  have c := ((unhide HC0).keep S3).2
  cases sd <;> cases ov <;> cases rd
  all_goals
    first
      | (simp [bdO] at hans
         subst hans
         go_wp2
         go_ret
         exact ⟨rfl, btrans (unhide HB) S3⟩)
      | (go_wp2_with fail
         clear c
         refine (unhide K4 _ (unhide HRc _ _ (unhide Hc) S3)).mono ?_
         rintro e w4 ⟨rfl, hb⟩
         have S4 := btrans S3 hb
         clear hb S3 K4
         cases st
         all_goals
           simp [bdO] at hans
           subst hans
           go_wp2
           go_ret
           exact ⟨rfl, btrans (unhide HB) S4⟩)

def BandIs (g w h : Int) (p : Option Addr) (n cap : Nat) (W : World) (kd er : Int) : Prop :=
  Calls Tryd.prog 8 #[Ch.ch g w h p n cap] W fun e w' => e = .returned (.tuple #[.int .i64 kd, .int .i64 er]) ∧ Below W.heap.size W w'
/-- what Band says is wrong -/
def bdE (g w h : Int) (n : Nat) (px : Nat → Int) : Int := if Ch.wE g w h n px = 0 then (if g = 4 then 0 else 8) else Ch.wE g w h n px

set_option maxHeartbeats 1000000 in
set_option maxRecDepth 100000 in
theorem band_plain (g w h : Int) (p : Option Addr) (n cap : Nat) (er kd ae : Int) (hae : ae = 0 ∨ 1 ≤ ae) (Rc : World → Prop) (W : World) (hRc : ∀ V V', Rc V → Below V.heap.size V V' → Rc V')
    (H1 : ∀ V, Rc V → Ch.WrongIs 19 g w h p n cap V ae) (H2 : ae = 0 → g = 4 → ∀ V, Rc V → Calls Tryd.prog 20 #[Ch.ch g w h p n cap] V fun e w' => e = .returned (.int .i64 kd) ∧ Below V.heap.size V w')
    (her : er = if ae = 0 then (if g = 4 then 0 else 8) else ae) (hc : Rc W) : BandIs g w h p n cap W (if er = 0 then kd else 0) er := by
  have K1 := hide H1
  have HRc := hide hRc
  have B0 := bal (o := .cells #[.int .i64 g, .int .i64 w, .int .i64 h, .slice p n cap] 24) (Below.refl W.heap.size W)
  have Hc := hide (hRc _ _ hc B0)
  have HB := hide B0
  have HC0 := hide (Ch.OwnC.new W g w h p n cap 24)
  unfold BandIs
  by_cases ha : ae = 0
  · rw [if_pos ha] at her
    by_cases hg : g = 4
    · rw [if_pos hg] at her
      have K2 := hide (H2 ha hg)
      subst ha her
      rw [if_pos rfl]
      subst hg
      clear hc B0 H1 H2 hRc hae
      go_enter Tryd.func8, Tryd.ntmps8
      go_wp2_with fail
      generalize W.alloc (.cells #[.int .i64 4, .int .i64 w, .int .i64 h, .slice p n cap] 24) = w0 at *
      refine (unhide K1 _ (unhide Hc)).mono ?_
      rintro e w1 ⟨rfl, hb⟩
      have c := ((unhide HC0).keep hb).2
      go_wp2_with fail
      clear c
      refine (unhide K2 _ (unhide HRc _ _ (unhide Hc) hb)).mono ?_
      rintro e w2 ⟨rfl, hb2⟩
      have S2 := btrans (unhide HB) (btrans hb hb2)
      clear hb hb2
      go_wp2
      exact bodyPost_ret (v := .tuple #[.int .i64 kd, .int .i64 0]) (by simp [results, Tryd.results8]) rfl ⟨rfl, S2⟩
    · rw [if_neg hg] at her
      subst ha her
      rw [if_neg (by decide)]
      have hgb : (g != 4) = true := by simp [hg]
      clear hc B0 H1 H2 hRc hae hg
      go_enter Tryd.func8, Tryd.ntmps8
      go_wp2_with fail
      generalize W.alloc (.cells #[.int .i64 g, .int .i64 w, .int .i64 h, .slice p n cap] 24) = w0 at *
      refine (unhide K1 _ (unhide Hc)).mono ?_
      rintro e w1 ⟨rfl, hb⟩
      have c := ((unhide HC0).keep hb).2
      have S2 := btrans (unhide HB) hb
      clear hb
      go_wp2
      exact bodyPost_ret (v := .tuple #[.int .i64 0, .int .i64 8]) (by simp [results, Tryd.results8]) rfl ⟨rfl, S2⟩
  · rw [if_neg ha] at her
    subst her
    rw [if_neg ha]
    have hee : (er != 0) = true := by simp [ha]
    clear hc B0 H1 H2 hRc hae ha
    go_enter Tryd.func8, Tryd.ntmps8
    go_wp2_with fail
    generalize W.alloc (.cells #[.int .i64 g, .int .i64 w, .int .i64 h, .slice p n cap] 24) = w0 at *
    refine (unhide K1 _ (unhide Hc)).mono ?_
    rintro e w1 ⟨rfl, hb⟩
    have S2 := btrans (unhide HB) hb
    clear hb
    go_wp2
    exact bodyPost_ret (v := .tuple #[.int .i64 0, .int .i64 er]) (by simp [results, Tryd.results8]) rfl ⟨rfl, S2⟩
end Go.Proofs.YtpcajcgafmmlkaaDoor

namespace Go.Proofs.YtpcajcgafmmlkaaDoor
open Go.RowKit

theorem bdN {W w : World} (h : Below W.heap.size W w) (n : Nat) : Below W.heap.size W (w.drewN n) := h.trans ⟨rfl, rfl, rfl, Nat.le_refl _, fun _ _ => rfl⟩
theorem rem_range (a : Int) (w : Nat) (hw : 1 ≤ w ∧ w ≤ 64) : 0 ≤ a % (w : Int) ∧ a % (w : Int) ≤ 64 := by
  have hp := Int.emod_nonneg a (show (w : Int) ≠ 0 by omega)
  have hq := Int.emod_lt_of_pos a (show (0 : Int) < w by omega)
  omega
theorem mul_range (a : Int) (w : Nat) (ha : 0 ≤ a ∧ a ≤ 64) (hw : 1 ≤ w ∧ w ≤ 64) : 0 ≤ a * (w : Int) ∧ a * (w : Int) ≤ 4096 := by
  have b1 := Int.mul_nonneg ha.1 (show (0 : Int) ≤ w by omega)
  have b2 := Int.mul_le_mul ha.2 (show (w : Int) ≤ 64 by omega) (by omega) (by omega)
  omega

set_option maxHeartbeats 1000000 in
set_option maxRecDepth 100000 in
theorem bandCell_any (g : Int) (w h : Nat) (p : Option Addr) (n cap : Nat) (back over : Bool) (t x y : Nat) (W : World) (hw : 1 ≤ w ∧ w ≤ 64) (hh : 1 ≤ h ∧ h ≤ 64) (ht : t ≤ 64) (hx : x < w) (hy : y < h) :
    Calls Tryd.prog 69 #[Ch.ch g w h p n cap, .agg #[.bool back, .bool over, .int .i64 t], .int .i64 x, .int .i64 y] W fun e w' => e = .returned (.int .i64 (bcN w h back over t x y)) ∧ Below W.heap.size W w' := by
  generalize hans : ((bcN w h back over t x y : Nat) : Int) = ans
  have h0 : (w : Int) ≠ 0 := by omega
  have B0 := hide (bal (o := .cells #[.bool back, .bool over, .int .i64 t] 71) (bal (o := .cells #[.int .i64 g, .int .i64 w, .int .i64 h, .slice p n cap] 24) (Below.refl W.heap.size W)))
  cases back <;> cases over
  · have m := mul_range ((y : Int)) w (by omega) hw
    have r := rem_range ((x : Int) + t) w hw
    have hans' := hide (show ((y : Int)) * w + ((x : Int) + t) % w = ans by rw [← hans]; simp [bcN])
    clear hans
    go_enter Tryd.func69, Tryd.ntmps69
    go_wp2
    go_quiet (fail)
    go_wp2
    go_ret
    exact ⟨ret_int (unhide hans'), bdN (unhide B0) _⟩
  · have m := mul_range ((h : Int) - 1 - y) w (by omega) hw
    have r := rem_range ((x : Int) + t) w hw
    have hans' := hide (show ((h : Int) - 1 - y) * w + ((x : Int) + t) % w = ans by rw [← hans]; rw [show (h : Int) - 1 - y = ((h - 1 - y : Nat) : Int) by omega]; simp [bcN])
    clear hans
    go_enter Tryd.func69, Tryd.ntmps69
    go_wp2
    go_quiet (fail)
    go_wp2
    go_ret
    exact ⟨ret_int (unhide hans'), bdN (unhide B0) _⟩
  · have m := mul_range ((y : Int)) w (by omega) hw
    have r := rem_range (((w : Int) - x) + t) w hw
    have hans' := hide (show ((y : Int)) * w + (((w : Int) - x) + t) % w = ans by rw [← hans]; rw [show (w : Int) - x = ((w - x : Nat) : Int) by omega]; simp [bcN])
    clear hans
    go_enter Tryd.func69, Tryd.ntmps69
    go_wp2
    go_quiet (fail)
    go_wp2
    go_ret
    exact ⟨ret_int (unhide hans'), bdN (unhide B0) _⟩
  · have m := mul_range ((h : Int) - 1 - y) w (by omega) hw
    have r := rem_range (((w : Int) - x) + t) w hw
    have hans' := hide (show ((h : Int) - 1 - y) * w + (((w : Int) - x) + t) % w = ans by rw [← hans]; rw [show (w : Int) - x = ((w - x : Nat) : Int) by omega]; rw [show (h : Int) - 1 - y = ((h - 1 - y : Nat) : Int) by omega]; simp [bcN])
    clear hans
    go_enter Tryd.func69, Tryd.ntmps69
    go_wp2
    go_quiet (fail)
    go_wp2
    go_ret
    exact ⟨ret_int (unhide hans'), bdN (unhide B0) _⟩
end Go.Proofs.YtpcajcgafmmlkaaDoor

namespace Go.Proofs.YtpcajcgafmmlkaaDoor
open Go.RowKit

set_option maxHeartbeats 4000000 in
set_option maxRecDepth 100000 in
theorem bandKeeps_any (g : Int) (w h b o n cap : Nat) (px : Nat → Int) (back over : Bool) (t : Nat) (W : World) (hw : 1 ≤ w ∧ w ≤ 64) (hh : 1 ≤ h ∧ h ≤ 64) (ht : t ≤ 64) (hn : n = w * h) (hr : Ch.Row W b o n px) :
    Calls Tryd.prog 54 #[Ch.ch g w h (some ⟨b, o, none⟩) n cap, .agg #[.bool back, .bool over, .int .i64 t]] W fun e w' => e = .returned (.bool (kpBand px w h back over t)) ∧ Below W.heap.size W w' := by
  have HC := hide (fun V x y hx hy => bandCell_any g w h (some ⟨b, o, none⟩) n cap back over t x y V hw hh ht hx hy)
  have HCl := hide (fun x y (hy : y < h) => bcN_lt w h back over t x y hw.1 hy)
  rw [← hn] at HCl
  have Hn := hide hn
  have hn4 : n ≤ 4096 := by rw [hn]; exact Nat.mul_le_mul hw.2 hh.2
  have B0 := bal (o := .cells #[.bool back, .bool over, .int .i64 t] 71) (bal (o := .cells #[.int .i64 g, .int .i64 w, .int .i64 h, .slice (some ⟨b, o, none⟩) n cap] 24) (Below.refl W.heap.size W))
  have HC0 := hide ((Ch.OwnC.new W g w h (some ⟨b, o, none⟩) n cap 24).alloc (.cells #[.bool back, .bool over, .int .i64 t] 71))
  have O0 := OwnB.new (W.alloc (.cells #[.int .i64 g, .int .i64 w, .int .i64 h, .slice (some ⟨b, o, none⟩) n cap] 24)) back over t
  rw [World.size_alloc] at O0
  have HO0 := hide O0
  have HR0 := hide (hr.keep B0)
  have HB := hide B0
  generalize hans : kpBand px w h back over t = ans
  have Hans := hide hans
  clear hr B0 O0 hn hans
  go_enter Tryd.func54, Tryd.ntmps54
  go_wp2
  generalize (W.alloc (.cells #[.int .i64 g, .int .i64 w, .int .i64 h, .slice (some ⟨b, o, none⟩) n cap] 24)).alloc (.cells #[.bool back, .bool over, .int .i64 t] 71) = w0 at *
  go_loopw [9] (fun a wr => ∃ y : Nat, y ≤ h ∧ a = .int .i64 y ∧ allP px w h back over t y = true ∧ Below w0.heap.size w0 wr) (fun a _ => h - (intOf a).toNat)
  case atStart => exact ⟨0, by omega, rfl, rfl, Below.refl _ _⟩
  case round =>
    obtain ⟨y, hy, rfl, hall, hbel⟩ := hrel
    by_cases hlt : y < h
    · have q2 : (y : Int) < (h : Int) := by omega
      have c := ((unhide HC0).keep hbel).2
      have Hall := hide hall
      have Hbel := hide hbel
      have Hlt := hide hlt
      clear hall hbel hlt
      go_wp2
      clear c
      go_loopw [14] (fun a wr => ∃ x : Nat, x ≤ w ∧ a = .int .i64 x ∧ rowP px w h back over t y x = true ∧ Below w0.heap.size w0 wr) (fun a _ => w - (intOf a).toNat)
      case atStart => exact ⟨0, by omega, rfl, rfl, unhide Hbel⟩
      case round =>
        clear Hbel
        obtain ⟨x, hx, rfl, hrow, hbel⟩ := hrel
        by_cases hlx : x < w
        · have q3 : (x : Int) < (w : Int) := by omega
          have hA : y * w + w ≤ n := by
            rw [unhide Hn]
            have h3 := Nat.mul_le_mul_right w (show y + 1 ≤ h from unhide Hlt)
            rw [Nat.add_mul, Nat.one_mul, Nat.mul_comm h w] at h3
            exact h3
          have HC1 := hide (fun V => unhide HC V x y hlx (unhide Hlt))
          have hjk := unhide HCl x y (unhide Hlt)
          have m1 : IntKind.i64.wrap ((y : Int) * (w : Int)) = ((y * w : Nat) : Int) := by rw [← Int.natCast_mul]; exact (Go.IntWalk.i64_left _).trans (Go.IntWalk.wrap64_in _ (by omega))
          have Hno := hide (fun h0 => kpBand_no (px := px) (w := w) (h := h) (back := back) (over := over) (t := t) (y := y) (x := x) (unhide Hlt) hlx h0)
          have Hyes := hide (fun (h0 : okP px w h back over t y x = true) => show rowP px w h back over t y (x + 1) = true by rw [rowP_succ, hrow, h0]; rfl)
          have Hok := hide (show okP px w h back over t y x = decide (px (y * w + x) = px (bcN w h back over t x y)) from rfl)
          generalize okP px w h back over t y x = ok at *
          clear hrow
          have R1 := (unhide HR0).keep hbel
          have C1 := (unhide HC0).keep hbel
          have O1 := (unhide HO0).keep hbel
          generalize bcN w h back over t x y = j at *
          generalize y * w = A at *
          have m2 : IntKind.i64.wrap ((A : Int) + (x : Int)) = ((A + x : Nat) : Int) := by rw [← Int.natCast_add]; exact (Go.IntWalk.i64_left _).trans (Go.IntWalk.wrap64_in _ (by omega))
          have hI : A + x < n := by omega
          generalize A + x = I at *
          have hi0 : (0 : Int) ≤ (I : Int) := by omega
          have hi2 : (I : Int) < (n : Int) := by omega
          have hj0 : (0 : Int) ≤ (j : Int) := by omega
          have hj2 : (j : Int) < (n : Int) := by omega
          go_wp2
          have Mk := hide (show ∀ V, Below wr.heap.size wr V → Below wr.heap.size wr V ∧ (V.cell? ⟨W.heap.size, 0, none⟩ = some (.int .i64 g) ∧ V.cell? ⟨W.heap.size, 1, none⟩ = some (.int .i64 w) ∧ V.cell? ⟨W.heap.size, 2, none⟩ = some (.int .i64 h) ∧ V.cell? ⟨W.heap.size, 3, none⟩ = some (.slice (some ⟨b, o, none⟩) n cap)) ∧ (V.cell? ⟨W.heap.size + 1, 0, none⟩ = some (.bool back) ∧ V.cell? ⟨W.heap.size + 1, 1, none⟩ = some (.bool over) ∧ V.cell? ⟨W.heap.size + 1, 2, none⟩ = some (.int .i64 t)) ∧ V.cell? ⟨b, o + I, none⟩ = some (.int .i64 (px I)) ∧ V.cell? ⟨b, o + j, none⟩ = some (.int .i64 (px j)) from fun V hV =>
            ⟨hV, (C1.keep hV).2, (O1.keep hV).2.1, (R1.keep hV).2 I hI, (R1.keep hV).2 j hjk⟩)
          have S1 := hbel
          clear C1 O1 R1 hbel
          go_region_held3 (fun V => Below wr.heap.size wr V ∧ (V.cell? ⟨W.heap.size, 0, none⟩ = some (.int .i64 g) ∧ V.cell? ⟨W.heap.size, 1, none⟩ = some (.int .i64 w) ∧ V.cell? ⟨W.heap.size, 2, none⟩ = some (.int .i64 h) ∧ V.cell? ⟨W.heap.size, 3, none⟩ = some (.slice (some ⟨b, o, none⟩) n cap)) ∧ (V.cell? ⟨W.heap.size + 1, 0, none⟩ = some (.bool back) ∧ V.cell? ⟨W.heap.size + 1, 1, none⟩ = some (.bool over) ∧ V.cell? ⟨W.heap.size + 1, 2, none⟩ = some (.int .i64 t)) ∧ V.cell? ⟨b, o + I, none⟩ = some (.int .i64 (px I)) ∧ V.cell? ⟨b, o + j, none⟩ = some (.int .i64 (px j)))
            (first
              | (exact unhide Mk _ (Below.drew (Below.refl _ _)))
              | (exact unhide Mk _ (btrans (by assumption : Below wr.heap.size wr _ ∧ _).1 hb)))
            (first
              | (go_at_call 69; refine (unhide HC1 _).mono ?_; rintro e w2 ⟨rfl, hb⟩))
          have S2 := btrans S1 (by assumption : Below wr.heap.size wr _ ∧ _).1
          clear hb Mk
          by_cases hq : px I = px j
          · have hq' : (px I != px j) = false := by simp [hq]
            have Ht := hide (unhide Hyes (by rw [unhide Hok]; exact decide_eq_true hq))
            clear hq
            go_wp2
            go_roundw
            case rel => exact ⟨x + 1, by omega, by go_num, unhide Ht, S2⟩
            case measure => simp [intOf]; omega
          · have hq' : (px I != px j) = true := by simp [hq]
            have Hf := hide (unhide Hno (by rw [unhide Hok]; exact decide_eq_false hq))
            clear hq
            go_wp2
            go_ret
            exact ⟨ret_bool ((unhide Hf).symm.trans (unhide Hans)), btrans (unhide HB) S2⟩
        · have e : w = x := by omega
          subst e
          have cl : ¬ ((w : Int) < (w : Int)) := by omega
          have Hs := hide (show allP px w h back over t (y + 1) = true by rw [allP_succ, unhide Hall, hrow]; rfl)
          have HSe := hide hbel
          clear hbel hrow hlx hx
          go_wp2
          go_roundw
          case rel => exact ⟨y + 1, by have := unhide Hlt; omega, by go_num, unhide Hs, unhide HSe⟩
          case measure => have := unhide Hlt; simp [intOf]; omega
    · have e : h = y := by omega
      subst e
      have cl : ¬ ((h : Int) < (h : Int)) := by omega
      have HSe := hide (btrans (unhide HB) hbel)
      have hy : ans = true := by rw [← unhide Hans]; exact hall
      clear hbel hall hlt
      subst hy
      go_wp2
      go_ret
      exact ⟨ret_bool rfl, unhide HSe⟩
end Go.Proofs.YtpcajcgafmmlkaaDoor

namespace Go.Proofs.YtpcajcgafmmlkaaDoor
open Go.RowKit

theorem band_any (g w h : Int) (p : Option Addr) (n cap : Nat) (px : Nat → Int) (W : World) (hc : Ch.Cells W p n px) :
    BandIs g w h p n cap W (if bdE g w h n px = 0 then bandO px w.toNat h.toNat else 0) (bdE g w h n px) := by
  refine band_plain g w h p n cap (bdE g w h n px) (bandO px w.toNat h.toNat) (Ch.wE g w h n px) (by
    by_cases e : Ch.wE g w h n px = 0
    · exact Or.inl e
    · exact Or.inr (Ch.wE_pos g w h n px e)) (fun V => Ch.Cells V p n px) W (fun V V' h hb => h.keep hb) (fun V hV => Ch.wrong_any g w h p n cap px V hV) ?_ rfl hc
  intro h0 hg V hV
  obtain ⟨-, hw, hh, hn, -, b, o, hp, hr⟩ := Ch.wE_zero g w h p n px V hV h0
  obtain ⟨w', rfl⟩ : ∃ w' : Nat, w = (w' : Int) := ⟨w.toNat, by omega⟩
  obtain ⟨h', rfl⟩ : ∃ h' : Nat, h = (h' : Int) := ⟨h.toNat, by omega⟩
  subst hp
  have hn' : n = w' * h' := by rw [← Int.natCast_mul] at hn; exact Int.ofNat.inj hn
  rw [Int.toNat_natCast, Int.toNat_natCast]
  have K : ∀ (back over : Bool) (t0 e : Nat), t0 ≤ 64 → e ≤ 64 → ∀ V, Ch.Row V b o n px → Calls Tryd.prog 37 #[Ch.ch g w' h' (some ⟨b, o, none⟩) n cap, .agg #[.bool back, .bool over, .int .i64 t0], .int .i64 e] V fun e' V' => e' = .returned (.bool (bkA (kpBand px w' h' back over) t0 e)) ∧ Below V.heap.size V V' := fun back over t0 e ht he V hV =>
    bandKept_any g w' h' (some ⟨b, o, none⟩) n cap back over (kpBand px w' h' back over) t0 e (fun V => Ch.Row V b o n px) V he ht (fun V V' h hb => h.keep hb) (fun V hV t ht => bandKeeps_any g w' h' b o n cap px back over t V (by omega) (by omega) ht hn' hV) hV
  exact bandKind_any g w' h' (some ⟨b, o, none⟩) n cap _ _ _ _ (fun V => Ch.Row V b o n px) V (fun V V' h hb => h.keep hb) (K true false 0 w' (by omega) (by omega)) (K true true 0 w' (by omega) (by omega)) (K false true 0 1 (by omega) (by omega)) (K false true 1 w' (by omega) (by omega)) hr
end Go.Proofs.YtpcajcgafmmlkaaDoor
