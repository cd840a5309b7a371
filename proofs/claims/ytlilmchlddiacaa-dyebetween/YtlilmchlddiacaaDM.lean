/-
  The mathematics of dots: light that is handed on, what is lost, sums that stay.
-/
import Derived.Test.YtlilmchlddiacaaBase
namespace Go.Proofs.Ytlilmchlddiacaa

/-- the sum of m numbers from place k on -/
def ts (f : Nat → Int) (k : Nat) : Nat → Int
  | 0 => 0
  | m + 1 => ts f k m + f (k + m)
theorem ts_head (f : Nat → Int) (k m : Nat) : ts f k (m + 1) = f k + ts f (k + 1) m := by
  induction m with
  | zero => simp [ts]
  | succ m ih =>
    rw [ts, ih, ts, show k + 1 + m = k + (m + 1) by omega]
    omega
/-- so much more at one place -/
def ad (f : Nat → Int) (t : Nat) (d : Int) : Nat → Int := fun j => if j = t then f j + d else f j
theorem ts_same {f g : Nat → Int} {k m : Nat} (h : ∀ j, k ≤ j → j < k + m → f j = g j) : ts f k m = ts g k m := by
  induction m with
  | zero => rfl
  | succ m ih => rw [ts, ts, ih (fun j h1 h2 => h j h1 (by omega)), h (k + m) (by omega) (by omega)]
theorem ts_ad (f : Nat → Int) (t k m : Nat) (d : Int) (h1 : k ≤ t) (h2 : t < k + m) : ts (ad f t d) k m = ts f k m + d := by
  induction m with
  | zero => omega
  | succ m ih =>
    rw [ts, ts]
    by_cases h : t < k + m
    · rw [ih h]
      have : ad f t d (k + m) = f (k + m) := by unfold ad; rw [if_neg (by omega)]
      omega
    · obtain rfl : t = k + m := by omega
      rw [ts_same (g := f) (fun j _ h3 => by unfold ad; rw [if_neg (by omega)])]
      have : ad f (k + m) d (k + m) = f (k + m) + d := by unfold ad; rw [if_pos rfl]
      omega
theorem ts_le {f g : Nat → Int} {k m : Nat} (h : ∀ j, k ≤ j → j < k + m → f j ≤ g j) : ts f k m ≤ ts g k m := by
  induction m with
  | zero => exact Int.le_refl _
  | succ m ih =>
    have := ih (fun j h1 h2 => h j h1 (by omega))
    have := h (k + m) (by omega) (by omega)
    rw [ts, ts]; omega
/-- how great numbers are, without their signs -/
def ab (f : Nat → Int) : Nat → Int := fun j => ((f j).natAbs : Int)
theorem ts_ab_ad (f : Nat → Int) (t k m : Nat) (d : Int) (h1 : k ≤ t) (h2 : t < k + m) : ts (ab (ad f t d)) k m ≤ ts (ab f) k m + (d.natAbs : Int) := by
  have := ts_ad (ab f) t k m (d.natAbs : Int) h1 h2
  rw [← this]
  apply ts_le
  intro j _ _
  unfold ab ad
  dsimp only
  split <;> omega
theorem ts_ab_nonneg (f : Nat → Int) (k m : Nat) : 0 ≤ ts (ab f) k m := by
  induction m with
  | zero => exact Int.le_refl _
  | succ m ih => rw [ts]; unfold ab at *; omega
theorem ts_ab_one (f : Nat → Int) (k m j : Nat) (h1 : k ≤ j) (h2 : j < k + m) : ((f j).natAbs : Int) ≤ ts (ab f) k m := by
  induction m with
  | zero => omega
  | succ m ih =>
    rw [ts]
    by_cases h : j < k + m
    · have := ih h
      unfold ab at *; omega
    · obtain rfl : j = k + m := by omega
      have := ts_ab_nonneg f k m
      unfold ab at *; omega

/-- a picture: the light of each number, and what is lost -/
structure PS where
  f : Nat → Int
  lost : Int
/-- the column to which is given -/
def gC (w a : Nat) (right : Int) : Int := ((a % w : Nat) : Int) + right
/-- the place to which is given -/
def gT (w a : Nat) (down right : Int) : Int := (a : Int) + down * (w : Int) + right
def gOut (w n a : Nat) (down right : Int) : Prop := gC w a right < 0 ∨ (w : Int) ≤ gC w a right ∨ (n : Int) ≤ gT w a down right
instance (w n a : Nat) (down right : Int) : Decidable (gOut w n a down right) := by unfold gOut; infer_instance
/-- light is given to a neighbour, or lost -/
def giS (w n a : Nat) (down right d : Int) (s : PS) : PS :=
  if gOut w n a down right then ⟨s.f, s.lost + d⟩ else ⟨ad s.f (gT w a down right).toNat d, s.lost⟩
/-- so many sixteenths, towards nought -/
def sx (m l : Int) : Int := Int.tdiv (m * l) 16
/-- the dot -/
def dt (v : Int) : Int := if 4080 ≤ 2 * v then 255 else 0
/-- what is left -/
def le (v : Int) : Int := v - 16 * dt v
/-- what is left of that behind the first three -/
def sr (l : Int) : Int := l - sx 7 l - sx 3 l - sx 5 l
/-- a dot more -/
def doS (w n a : Nat) (s : PS) : PS :=
  giS w n a 1 1 (sr (le (s.f a))) (giS w n a 1 0 (sx 5 (le (s.f a))) (giS w n a 1 (-1) (sx 3 (le (s.f a))) (giS w n a 0 1 (sx 7 (le (s.f a))) s)))
/-- the picture behind the first k dots -/
def ruS (w n : Nat) (g : Nat → Int) : Nat → PS
  | 0 => ⟨fun j => 16 * g j, 0⟩
  | k + 1 => doS w n k (ruS w n g k)
/-- the dots -/
def dtF (w n : Nat) (g : Nat → Int) (k : Nat) : Int := dt ((ruS w n g k).f k)

theorem le_abs (v : Int) : ((le v).natAbs : Int) ≤ (v.natAbs : Int) + 4080 := by unfold le dt; split <;> omega
theorem sx_def (m l : Int) (hm : 0 ≤ m) : (0 ≤ l → 0 ≤ sx m l ∧ 16 * sx m l ≤ m * l ∧ m * l < 16 * sx m l + 16) ∧ (l ≤ 0 → sx m l ≤ 0 ∧ m * l ≤ 16 * sx m l ∧ 16 * sx m l < m * l + 16) := by
  unfold sx
  constructor
  · intro h
    have h0 : 0 ≤ m * l := Int.mul_nonneg hm h
    rw [Int.tdiv_eq_ediv_of_nonneg h0]
    generalize m * l = x at *
    omega
  · intro h
    have h0 : m * l ≤ 0 := by
      have := Int.mul_nonneg hm (show 0 ≤ -l by omega)
      rw [Int.mul_neg] at this
      omega
    generalize m * l = x at *
    have e : x.tdiv 16 = -((-x).tdiv 16) := by rw [Int.neg_tdiv]; omega
    rw [e, Int.tdiv_eq_ediv_of_nonneg (by omega)]
    omega
/-- the four parts are of one sign, and together all -/
theorem parts_abs (l : Int) : ((sx 7 l).natAbs : Int) + ((sx 3 l).natAbs : Int) + ((sx 5 l).natAbs : Int) + ((sr l).natAbs : Int) = (l.natAbs : Int) := by
  have h7 := sx_def 7 l (by omega)
  have h3 := sx_def 3 l (by omega)
  have h5 := sx_def 5 l (by omega)
  unfold sr
  rcases Int.le_total 0 l with h | h
  · have := h7.1 h; have := h3.1 h; have := h5.1 h; omega
  · have := h7.2 h; have := h3.2 h; have := h5.2 h; omega
theorem sr_sum (l : Int) : sx 7 l + sx 3 l + sx 5 l + sr l = l := by unfold sr; omega

/-- the four neighbours -/
def Nb (down right : Int) : Prop := (down = 0 ∧ right = 1) ∨ (down = 1 ∧ (right = -1 ∨ right = 0 ∨ right = 1))
theorem gT_ahead {w n a : Nat} {down right : Int} (hw : 0 < w) (hn : Nb down right) (ho : ¬ gOut w n a down right) : (a : Int) + 1 ≤ gT w a down right ∧ gT w a down right < (n : Int) := by
  have hm := Nat.mod_lt a hw
  unfold gOut at ho
  have h1 : ¬ gC w a right < 0 := fun h => ho (.inl h)
  have h2 : ¬ (w : Int) ≤ gC w a right := fun h => ho (.inr (.inl h))
  have h3 : ¬ (n : Int) ≤ gT w a down right := fun h => ho (.inr (.inr h))
  unfold gC at h1 h2
  unfold gT at *
  rcases hn with ⟨rfl, rfl⟩ | ⟨rfl, rfl | rfl | rfl⟩ <;> simp only [Int.zero_mul, Int.one_mul] at * <;> omega
/-- what is given stays, or is lost -/
theorem giS_sum {w n a m : Nat} {down right d : Int} {s : PS} (hw : 0 < w) (hn : Nb down right) (hm : a + 1 + m = n) :
    ts (giS w n a down right d s).f (a + 1) m + (giS w n a down right d s).lost = ts s.f (a + 1) m + s.lost + d ∧
    ts (ab (giS w n a down right d s).f) (a + 1) m + ((giS w n a down right d s).lost.natAbs : Int) ≤ ts (ab s.f) (a + 1) m + (s.lost.natAbs : Int) + (d.natAbs : Int) := by
  unfold giS
  split
  · exact ⟨by show ts s.f (a + 1) m + (s.lost + d) = _; omega, by show ts (ab s.f) (a + 1) m + ((s.lost + d).natAbs : Int) ≤ _; omega⟩
  · rename_i ho
    have h := gT_ahead hw hn ho
    have h1 : a + 1 ≤ (gT w a down right).toNat := by omega
    have h2 : (gT w a down right).toNat < a + 1 + m := by omega
    have e1 := ts_ad s.f _ (a + 1) m d h1 h2
    have e2 := ts_ab_ad s.f _ (a + 1) m d h1 h2
    exact ⟨by show ts (ad s.f (gT w a down right).toNat d) (a + 1) m + s.lost = _; omega, by show ts (ab (ad s.f (gT w a down right).toNat d)) (a + 1) m + (s.lost.natAbs : Int) ≤ _; omega⟩
/-- all that there is, without signs, from place a on -/
def ms (n a : Nat) (s : PS) : Int := ts (ab s.f) a (n - a) + (s.lost.natAbs : Int)
def sm (n a : Nat) (s : PS) : Int := ts s.f a (n - a) + s.lost
theorem giS_ms {w n a : Nat} {down right d : Int} {s : PS} (hw : 0 < w) (ha : a < n) (hn : Nb down right) : ms n (a + 1) (giS w n a down right d s) ≤ ms n (a + 1) s + (d.natAbs : Int) ∧ sm n (a + 1) (giS w n a down right d s) = sm n (a + 1) s + d := by
  have := giS_sum (w := w) (n := n) (a := a) (m := n - (a + 1)) (d := d) (s := s) hw hn (by omega)
  unfold ms sm
  omega
theorem ms_at {n a : Nat} (s : PS) (h : a < n) : ms n a s = ((s.f a).natAbs : Int) + ms n (a + 1) s ∧ sm n a s = s.f a + sm n (a + 1) s := by
  unfold ms sm
  obtain ⟨m, hm⟩ : ∃ m, n - a = m + 1 := ⟨n - a - 1, by omega⟩
  rw [hm, show n - (a + 1) = m by omega, ts_head, ts_head]
  unfold ab
  omega
theorem nb1 : Nb 0 1 := .inl ⟨rfl, rfl⟩
theorem nb2 : Nb 1 (-1) := .inr ⟨rfl, .inl rfl⟩
theorem nb3 : Nb 1 0 := .inr ⟨rfl, .inr (.inl rfl)⟩
theorem nb4 : Nb 1 1 := .inr ⟨rfl, .inr (.inr rfl)⟩
theorem doS_ms {w n a : Nat} {s : PS} (hw : 0 < w) (ha : a < n) : ms n (a + 1) (doS w n a s) ≤ ms n a s + 4080 ∧ sm n (a + 1) (doS w n a s) = sm n a s - 16 * dt (s.f a) := by
  have h0 := ms_at s ha
  unfold doS
  obtain ⟨l, hl⟩ : ∃ l, le (s.f a) = l := ⟨_, rfl⟩
  rw [hl]
  have k1 := giS_ms (w := w) (d := sx 7 l) (s := s) hw ha nb1
  have k2 := giS_ms (w := w) (d := sx 3 l) (s := giS w n a 0 1 (sx 7 l) s) hw ha nb2
  have k3 := giS_ms (w := w) (d := sx 5 l) (s := giS w n a 1 (-1) (sx 3 l) (giS w n a 0 1 (sx 7 l) s)) hw ha nb3
  have k4 := giS_ms (w := w) (d := sr l) (s := giS w n a 1 0 (sx 5 l) (giS w n a 1 (-1) (sx 3 l) (giS w n a 0 1 (sx 7 l) s))) hw ha nb4
  have p1 := parts_abs l
  have p2 := sr_sum l
  have p3 := le_abs (s.f a)
  rw [hl] at p3
  have p4 : l = s.f a - 16 * dt (s.f a) := hl.symm
  omega
/-- how great all is behind the first k dots -/
theorem ruS_ms {w n : Nat} {g : Nat → Int} (hw : 0 < w) (hg : ∀ j, j < n → 0 ≤ g j ∧ g j ≤ 255) : ∀ k, k ≤ n → ms n k (ruS w n g k) ≤ 4080 * (n : Int) + 4080 * (k : Int) := by
  intro k
  induction k with
  | zero =>
    intro _
    show ts (ab fun j => 16 * g j) 0 (n - 0) + ((0 : Int).natAbs : Int) ≤ _
    have : ∀ m, m ≤ n → ts (ab fun j => 16 * g j) 0 m ≤ 4080 * (m : Int) := by
      intro m
      induction m with
      | zero => intro _; exact Int.le_refl _
      | succ m ih =>
        intro hm
        have := ih (by omega)
        have := hg m (by omega)
        rw [ts]
        have e : ab (fun j => 16 * g j) (0 + m) = 16 * g m := by unfold ab; rw [Nat.zero_add]; show ((16 * g m).natAbs : Int) = _; omega
        omega
    have := this n (Nat.le_refl _)
    simp
    omega
  | succ k ih =>
    intro hk
    have h1 := ih (by omega)
    have h2 := (doS_ms (w := w) (s := ruS w n g k) hw (show k < n by omega)).1
    show ms n (k + 1) (doS w n k (ruS w n g k)) ≤ _
    omega
/-- no light is lost -/
theorem ruS_sm {w n : Nat} {g : Nat → Int} (hw : 0 < w) : ∀ k, k ≤ n → sm n k (ruS w n g k) + ts (fun j => 16 * dtF w n g j) 0 k = ts (fun j => 16 * g j) 0 n := by
  intro k
  induction k with
  | zero =>
    intro _
    show ts (fun j => 16 * g j) 0 (n - 0) + 0 + 0 = _
    simp
  | succ k ih =>
    intro hk
    have h1 := ih (by omega)
    have h2 := (doS_ms (w := w) (s := ruS w n g k) hw (show k < n by omega)).2
    rw [ts, Nat.zero_add]
    have h3 : sm n (k + 1) (ruS w n g (k + 1)) = sm n k (ruS w n g k) - 16 * dt ((ruS w n g k).f k) := h2
    have h4 : dtF w n g k = dt ((ruS w n g k).f k) := rfl
    rw [h4]
    omega
theorem no_light {w n : Nat} {g : Nat → Int} (hw : 0 < w) : ts (fun j => 16 * dtF w n g j) 0 n + (ruS w n g n).lost = ts (fun j => 16 * g j) 0 n := by
  have := ruS_sm (w := w) (g := g) hw n (Nat.le_refl _)
  unfold sm at this
  rw [Nat.sub_self] at this
  have e : ts (ruS w n g n).f n 0 = 0 := rfl
  omega
end Go.Proofs.Ytlilmchlddiacaa
