/-
  Plain facts about patterns: what a move that keeps one is, and which moves are told. No Go in sight but for the definitions.
-/
import Derived.Test.YtpcajcgafmmlkaaDoorGI
namespace Go.Proofs.YtpcajcgafmmlkaaDoor
open Go.RowKit

/-- the colour at a point, anywhere: as the torus has it -/
def pat (w h N : Nat) (px : Nat → Int) (x y : Int) : Int := tcx w h N px (y % N * N + x % N).toNat
/-- a pattern that comes again N to the side, and N up -/
def Per (P : Int → Int → Int) (N : Nat) : Prop := ∀ x y a b : Int, P (x + N * a) (y + N * b) = P x y
/-- a move keeps a pattern -/
def Kp (P : Int → Int → Int) (g : Int) (t : Nat) (f : Bool) (u v : Int) : Prop := ∀ x y : Int, P x y = P (mv g t f u v x y).1 (mv g t f u v x y).2

theorem pat_per (w h N : Nat) (px : Nat → Int) : Per (pat w h N px) N := by
  intro x y a b
  unfold pat
  rw [Int.add_mul_emod_self_left, Int.add_mul_emod_self_left]
theorem Per.mod {P : Int → Int → Int} {N : Nat} (h : Per P N) (x y : Int) : P (x % N) (y % N) = P x y := by
  have := h (x % N) (y % N) (x / N) (y / N)
  rw [Int.emod_add_mul_ediv, Int.emod_add_mul_ediv] at this
  exact this.symm
theorem Per.congr {P : Int → Int → Int} {N : Nat} (h : Per P N) {x y x' y' : Int} (hx : x % N = x' % N) (hy : y % N = y' % N) : P x y = P x' y' := by
  rw [← h.mod x y, ← h.mod x' y', hx, hy]

/-! ### the part of a move that fixes 0, on the torus -/
theorem tq_mul (g n x y : Int) : tq g (n * x) (n * y) = n * tq g x y := by
  unfold tq; split
  · rw [Int.mul_add]
  · rfl
theorem tu_mul (g : Int) (k : Nat) (n x y : Int) : tu g k (n * x) (n * y) = (n * (tu g k x y).1, n * (tu g k x y).2) := by
  induction k with
  | zero => rfl
  | succ k ih => simp only [tu, ih, tq_mul, Int.mul_neg]
theorem li_mul (g : Int) (t : Nat) (f : Bool) (n x y : Int) : li g t f (n * x) (n * y) = (n * (li g t f x y).1, n * (li g t f x y).2) := by
  cases f with
  | false => exact tu_mul g t n x y
  | true => simp only [li, mi]; rw [tq_mul, ← Int.mul_neg]; exact tu_mul g t n _ _
theorem li_shift (g : Int) (t : Nat) (f : Bool) (n x y a b : Int) : li g t f (x + n * a) (y + n * b) = ((li g t f x y).1 + n * (li g t f a b).1, (li g t f x y).2 + n * (li g t f a b).2) := by
  rw [li_add, li_mul]
/-- on the torus a move hangs on the point of the torus alone, and on By's -/
theorem mv_cong (g : Int) (t : Nat) (f : Bool) (n u v u' v' x y x' y' : Int) (hx : x % n = x' % n) (hy : y % n = y' % n) (hu : u % n = u' % n) (hv : v % n = v' % n) :
    (mv g t f u v x y).1 % n = (mv g t f u' v' x' y').1 % n ∧ (mv g t f u v x y).2 % n = (mv g t f u' v' x' y').2 % n := by
  have e1 := Int.emod_add_mul_ediv x n
  have e2 := Int.emod_add_mul_ediv y n
  have e3 := Int.emod_add_mul_ediv x' n
  have e4 := Int.emod_add_mul_ediv y' n
  have a := li_shift g t f n (x % n) (y % n) (x / n) (y / n)
  have b := li_shift g t f n (x' % n) (y' % n) (x' / n) (y' / n)
  rw [e1, e2] at a
  rw [e3, e4, ← hx, ← hy] at b
  simp only [mv_li]
  rw [a, b]
  simp only
  constructor
  · rw [Int.add_right_comm, Int.add_mul_emod_self_left, Int.add_right_comm, Int.add_mul_emod_self_left, Int.add_emod, hu, ← Int.add_emod]
  · rw [Int.add_right_comm, Int.add_mul_emod_self_left, Int.add_right_comm, Int.add_mul_emod_self_left, Int.add_emod, hv, ← Int.add_emod]
theorem Kp.cong {P : Int → Int → Int} {N : Nat} (hP : Per P N) {g : Int} {t : Nat} {f : Bool} {u v u' v' : Int} (hu : u % N = u' % N) (hv : v % N = v' % N) (h : Kp P g t f u v) : Kp P g t f u' v' := by
  intro x y
  rw [h x y]
  have := mv_cong g t f N u v u' v' x y x y rfl rfl hu hv
  exact hP.congr this.1 this.2
/-- looked at on the torus alone -/
theorem kp_iff {P : Int → Int → Int} {N : Nat} (hN : 1 ≤ N) (hP : Per P N) (g : Int) (t : Nat) (f : Bool) (u v : Int) :
    Kp P g t f u v ↔ ∀ x y : Int, 0 ≤ x → x < N → 0 ≤ y → y < N → P x y = P (mv g t f u v x y).1 (mv g t f u v x y).2 := by
  constructor
  · intro h x y _ _ _ _
    exact h x y
  · intro h x y
    have h1 := h (x % N) (y % N) (Int.emod_nonneg _ (by omega)) (Int.emod_lt_of_pos _ (by omega)) (Int.emod_nonneg _ (by omega)) (Int.emod_lt_of_pos _ (by omega))
    rw [hP.mod] at h1
    rw [h1]
    have := mv_cong g t f N u v u v (x % N) (y % N) x y (Int.emod_emod_of_dvd _ (Int.dvd_refl _)) (Int.emod_emod_of_dvd _ (Int.dvd_refl _)) rfl rfl
    exact hP.congr this.1 this.2

/-! ### what the program reckons -/
theorem pat_cell (w h N : Nat) (px : Nat → Int) (i : Nat) (hN : 1 ≤ N) (hi : i < N * N) : pat w h N px ((i : Int) % N) ((i : Int) / N) = tcx w h N px i := by
  unfold pat
  have h2 : i / N < N := (Nat.div_lt_iff_lt_mul (by omega)).2 hi
  rw [← Int.natCast_emod, ← Int.natCast_ediv, ← Int.natCast_emod, ← Int.natCast_emod, Nat.mod_mod, Nat.mod_eq_of_lt h2, ← Int.natCast_mul, ← Int.natCast_add, Int.toNat_natCast, Nat.mul_comm, Nat.div_add_mod]
theorem pat_cby (w h N : Nat) (px : Nat → Int) (x y u v : Int) : tcx w h N px (cby N x y u v) = pat w h N px (x + u) (y + v) := rfl
theorem kpB_iff (cx ix iy : Nat → Int) (n : Nat) (u v : Int) (k : Nat) : kpB cx ix iy n u v k = true ↔ ∀ i, i < k → cx i = cx (cby n (ix i) (iy i) u v) := by
  induction k with
  | zero => simp [kpB]
  | succ k ih =>
    simp only [kpB, Bool.and_eq_true, ih, decide_eq_true_eq]
    constructor
    · intro ⟨h1, h2⟩ i hi
      by_cases e : i = k
      · subst e; exact h2
      · exact h1 i (by omega)
    · intro h
      exact ⟨fun i hi => h i (by omega), h k (by omega)⟩
theorem kpV_iff (w h N : Nat) (px : Nat → Int) (g : Int) (t : Nat) (f : Bool) (u v : Int) (hN : 1 ≤ N) : kpV w h N px g t f u v = true ↔ Kp (pat w h N px) g t f u v := by
  have hP := pat_per w h N px
  have key : ∀ x y : Int, pat w h N px ((mv g t f 0 0 x y).1 % N + u) ((mv g t f 0 0 x y).2 % N + v) = pat w h N px (mv g t f u v x y).1 (mv g t f u v x y).2 := by
    intro x y
    refine hP.congr ?_ ?_
    · simp only [mv_li, Int.add_zero]; rw [Int.emod_add_emod]
    · simp only [mv_li, Int.add_zero]; rw [Int.emod_add_emod]
  unfold kpV
  rw [kpB_iff, kp_iff hN hP]
  constructor
  · intro hk x y hx0 hx1 hy0 hy1
    obtain ⟨a, rfl⟩ := Int.eq_ofNat_of_zero_le hx0
    obtain ⟨b, rfl⟩ := Int.eq_ofNat_of_zero_le hy0
    have ha : a < N := by omega
    have hb : b < N := by omega
    have hi : N * b + a < N * N := by
      have := Nat.mul_le_mul_left N (show b + 1 ≤ N by omega)
      rw [Nat.mul_add] at this
      omega
    have e1 : (N * b + a) % N = a := by rw [Nat.mul_add_mod, Nat.mod_eq_of_lt ha]
    have e2 : (N * b + a) / N = b := by rw [Nat.mul_add_div (by omega), Nat.div_eq_of_lt ha, Nat.add_zero]
    have e1' : ((N * b + a : Nat) : Int) % (N : Int) = (a : Int) := by rw [← Int.natCast_emod, e1]
    have e2' : ((N * b + a : Nat) : Int) / (N : Int) = (b : Int) := by rw [← Int.natCast_ediv, e2]
    have h1 := hk (N * b + a) hi
    rw [← pat_cell w h N px _ hN hi, pat_cby] at h1
    unfold imX imY at h1
    rw [key, e1', e2'] at h1
    exact h1
  · intro hk i hi
    obtain ⟨hx, hy⟩ := cell_xy i N hN hi
    rw [← pat_cell w h N px i hN hi, pat_cby]
    unfold imX imY
    rw [key]
    exact hk _ _ hx.1 hx.2 hy.1 hy.2

/-! ### which moves are told -/
theorem mem_row (K : Nat → Bool → Nat → Bool) (N t : Nat) (f : Bool) (i : Nat) (m : Mv) : m ∈ rowM K N t f i ↔ ∃ j, j < i ∧ K t f j = true ∧ m = (t, f, j % N, j / N) := by
  unfold rowM
  simp only [List.mem_map, List.mem_filter, List.mem_range]
  constructor
  · rintro ⟨j, ⟨h1, h2⟩, rfl⟩; exact ⟨j, h1, h2, rfl⟩
  · rintro ⟨j, h1, h2, rfl⟩; exact ⟨j, ⟨h1, h2⟩, rfl⟩
theorem mem_all (K : Nat → Bool → Nat → Bool) (N G : Nat) (m : Mv) : m ∈ allM K N G 2 ↔ m.1 < G ∧ ∃ j, j < N * N ∧ K m.1 m.2.1 j = true ∧ m.2.2 = (j % N, j / N) := by
  unfold allM turnsM
  simp only [List.mem_flatMap, List.mem_range, mem_row]
  constructor
  · rintro ⟨a, ha, t, ht, j, hj, hk, rfl⟩
    exact ⟨ht, j, hj, hk, rfl⟩
  · rintro ⟨ht, j, hj, hk, e⟩
    obtain ⟨t, f, x⟩ := m
    simp only at ht hk e
    refine ⟨if f then 1 else 0, by cases f <;> simp, t, ht, j, hj, ?_, ?_⟩
    · cases f <;> exact hk
    · rw [e]; cases f <;> rfl
theorem mem_moves (w h N : Nat) (px : Nat → Int) (g : Int) (t : Nat) (f : Bool) (X Y : Nat) (hN : 1 ≤ N) : (t, f, X, Y) ∈ movesL w h N px g ↔ t < g.toNat ∧ X < N ∧ Y < N ∧ Kp (pat w h N px) g t f X Y := by
  unfold movesL
  rw [mem_all]
  simp only
  constructor
  · rintro ⟨ht, j, hj, hk, e⟩
    obtain ⟨rfl, rfl⟩ := Prod.mk.inj e
    have h2 : j / N < N := (Nat.div_lt_iff_lt_mul (by omega)).2 hj
    refine ⟨ht, Nat.mod_lt _ (by omega), h2, ?_⟩
    exact (kpV_iff w h N px g t f _ _ hN).1 hk
  · rintro ⟨ht, hX, hY, hk⟩
    have hi : N * Y + X < N * N := by
      have := Nat.mul_le_mul_left N (show Y + 1 ≤ N by omega)
      rw [Nat.mul_add] at this
      omega
    have e1 : (N * Y + X) % N = X := by rw [Nat.mul_add_mod, Nat.mod_eq_of_lt hX]
    have e2 : (N * Y + X) / N = Y := by rw [Nat.mul_add_div (by omega), Nat.div_eq_of_lt hX, Nat.add_zero]
    refine ⟨ht, N * Y + X, hi, ?_, by rw [e1, e2]⟩
    unfold keepsK
    rw [e1, e2]
    exact (kpV_iff w h N px g t f _ _ hN).2 hk
theorem kp_id (P : Int → Int → Int) (g : Int) : Kp P g 0 false 0 0 := by
  intro x y
  simp [mv, tu, mi]
end Go.Proofs.YtpcajcgafmmlkaaDoor
