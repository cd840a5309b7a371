/-
  The mathematics of chapter 14: where marks stand, how many are below a place, and how rows go on.
-/
import Derived.Test.YtmblnfdadpcigaaBase
namespace Go.Proofs.Ytmblnfdadpcigaa

/-- where mark i stands -/
def sp (t m i : Nat) : Nat := (2 * i + 1) * t / (2 * m)
/-- how many marks are below a place -/
def mb (t m p : Nat) : Nat := (2 * m * p + t - 1) / (2 * t)

theorem odd_mul (n t : Nat) : (2 * n + 1) * t = 2 * (n * t) + t := by rw [Nat.add_mul, Nat.one_mul, Nat.mul_assoc]
theorem mb_lt (t m p n : Nat) (ht : 0 < t) : n < mb t m p ↔ (2 * n + 1) * t < 2 * m * p := by
  unfold mb
  rw [show n < (2 * m * p + t - 1) / (2 * t) ↔ n + 1 ≤ (2 * m * p + t - 1) / (2 * t) from Iff.rfl, Nat.le_div_iff_mul_le (by omega)]
  have e1 : (n + 1) * (2 * t) = 2 * (n * t) + 2 * t := by rw [Nat.add_mul, Nat.one_mul, Nat.mul_left_comm]
  rw [e1, odd_mul]
  generalize n * t = a
  generalize 2 * m * p = b
  omega
theorem mb_le (t m p : Nat) (ht : 0 < t) (hp : p ≤ t) : mb t m p ≤ m := by
  rcases Nat.lt_or_ge m (mb t m p) with h | h
  · rw [mb_lt _ _ _ _ ht] at h
    have := Nat.mul_le_mul_left (2 * m) hp
    rw [Nat.add_mul] at h
    omega
  · exact h
theorem mb_all (t m : Nat) (ht : 0 < t) : mb t m t = m := by
  unfold mb
  rw [show 2 * m * t + t - 1 = (t - 1) + m * (2 * t) by rw [Nat.mul_comm 2 m, Nat.mul_assoc]; omega, Nat.add_mul_div_right _ _ (by omega), Nat.div_eq_of_lt (by omega)]
  omega
theorem mb_zero (t m : Nat) (ht : 0 < t) : mb t m 0 = 0 := by
  unfold mb
  exact Nat.div_eq_of_lt (by omega)
theorem not_mb (t m p : Nat) (ht : 0 < t) : 2 * m * p ≤ (2 * mb t m p + 1) * t := by
  have h : ¬ mb t m p < mb t m p := Nat.lt_irrefl _
  rw [mb_lt _ _ _ _ ht] at h
  omega
theorem mb_mono (t m p : Nat) (ht : 0 < t) : mb t m p ≤ mb t m (p + 1) := by
  rcases Nat.lt_or_ge (mb t m (p + 1)) (mb t m p) with h | h
  · rw [mb_lt _ _ _ _ ht] at h
    have := not_mb t m (p + 1) ht
    rw [Nat.mul_add] at this
    omega
  · exact h
theorem mb_step (t m p : Nat) (ht : 0 < t) (hm : m ≤ t) : mb t m (p + 1) ≤ mb t m p + 1 := by
  rcases Nat.lt_or_ge (mb t m p + 1) (mb t m (p + 1)) with h | h
  · rw [mb_lt _ _ _ _ ht, odd_mul, Nat.add_mul, Nat.mul_add (2 * m)] at h
    have := not_mb t m p ht
    rw [odd_mul] at this
    omega
  · exact h
theorem div_two (x y d : Nat) (hd : 0 < d) : x / d + y / d ≤ (x + y) / d ∧ (x + y) / d ≤ x / d + y / d + 1 := by
  have h1 := Nat.div_add_mod x d
  have h2 := Nat.div_add_mod y d
  have h3 := Nat.mod_lt x hd
  have h4 := Nat.mod_lt y hd
  refine ⟨(Nat.le_div_iff_mul_le hd).2 ?_, Nat.le_of_lt_succ ((Nat.div_lt_iff_lt_mul hd).2 ?_)⟩
  · rw [Nat.add_mul, Nat.mul_comm (x / d), Nat.mul_comm (y / d)]; omega
  · rw [Nat.succ_mul, Nat.add_mul, Nat.add_mul, Nat.mul_comm (x / d), Nat.mul_comm (y / d)]; omega
theorem mb_add (t m a l : Nat) (ht : 0 < t) : mb t m a + 2 * m * l / (2 * t) ≤ mb t m (a + l) ∧ mb t m (a + l) ≤ mb t m a + 2 * m * l / (2 * t) + 1 := by
  unfold mb
  rw [show 2 * m * (a + l) + t - 1 = (2 * m * a + t - 1) + 2 * m * l by rw [Nat.mul_add]; omega]
  exact div_two _ _ _ (by omega)
/-- in two stretches as many, or one more, or one less -/
theorem balanced (t m a b l : Nat) (ht : 0 < t) : -1 ≤ ((mb t m (a + l) : Nat) : Int) - (mb t m a : Nat) - ((mb t m (b + l) : Nat) - (mb t m b : Nat)) ∧ ((mb t m (a + l) : Nat) : Int) - (mb t m a : Nat) - ((mb t m (b + l) : Nat) - (mb t m b : Nat)) ≤ 1 := by
  have h1 := mb_add t m a l ht
  have h2 := mb_add t m b l ht
  omega

theorem sp_lo (t m i : Nat) : 2 * m * sp t m i ≤ (2 * i + 1) * t := by unfold sp; exact Nat.mul_div_le _ _
theorem sp_hi (t m i : Nat) (hm : 0 < m) : (2 * i + 1) * t < 2 * m * sp t m i + 2 * m := by
  have := Nat.lt_mul_div_succ ((2 * i + 1) * t) (show 0 < 2 * m by omega)
  rw [Nat.mul_add, Nat.mul_one] at this
  exact this
theorem sp_lt (t m i : Nat) (ht : 0 < t) (hi : i < m) : sp t m i < t := by
  unfold sp
  rw [Nat.div_lt_iff_lt_mul (by omega)]
  have := Nat.mul_le_mul_right t (show (2 * i + 1) + 1 ≤ 2 * m by omega)
  rw [Nat.add_mul, Nat.one_mul] at this
  rw [Nat.mul_comm t]
  omega
theorem sp_step (t m i : Nat) (hm : 0 < m) (hmt : m ≤ t) : sp t m i < sp t m (i + 1) := by
  rcases Nat.lt_or_ge (sp t m i) (sp t m (i + 1)) with h | h
  · exact h
  · have h1 := sp_hi t m (i + 1) hm
    have h2 := sp_lo t m i
    have h3 := Nat.mul_le_mul_left (2 * m) h
    rw [odd_mul, Nat.add_mul] at h1
    rw [odd_mul] at h2
    omega
theorem mb_sp (t m i : Nat) (ht : 0 < t) (hm : 0 < m) (hmt : m ≤ t) : mb t m (sp t m i) = i := by
  have h1 : ¬ i < mb t m (sp t m i) := by
    rw [mb_lt _ _ _ _ ht]
    have := sp_lo t m i
    omega
  rcases Nat.eq_zero_or_pos i with h0 | h0
  · omega
  · have h2 : i - 1 < mb t m (sp t m i) := by
      rw [mb_lt _ _ _ _ ht]
      have := sp_hi t m i hm
      rw [odd_mul] at this ⊢
      have e : i * t = (i - 1) * t + t := by rw [← Nat.succ_mul]; congr 1; omega
      omega
    omega
theorem sp_is (t m p : Nat) (ht : 0 < t) (hm : 0 < m) (h : mb t m p < mb t m (p + 1)) : sp t m (mb t m p) = p := by
  have h1 := not_mb t m p ht
  rw [mb_lt _ _ _ _ ht] at h
  have h2 := sp_lo t m (mb t m p)
  have h3 := sp_hi t m (mb t m p) hm
  have a1 : 2 * m * sp t m (mb t m p) < 2 * m * (p + 1) := by omega
  have a2 : 2 * m * p < 2 * m * (sp t m (mb t m p) + 1) := by rw [Nat.mul_add]; omega
  have b1 := Nat.lt_of_mul_lt_mul_left a1
  have b2 := Nat.lt_of_mul_lt_mul_left a2
  omega

/-- how far row r has come -/
def rf (n q m r : Nat) : Nat := (r + 1) * q + mb n m (r + 1)
theorem rf_last (n d : Nat) (hn : 0 < n) : rf n (d / n) (d % n) (n - 1) = d := by
  unfold rf
  rw [show n - 1 + 1 = n by omega, mb_all n _ hn]
  exact Nat.div_add_mod d n
theorem rf_le (n d r : Nat) (hr : r < n) : rf n (d / n) (d % n) r ≤ d := by
  unfold rf
  have h1 := mb_le n (d % n) (r + 1) (by omega) (by omega)
  have h2 := Nat.mul_le_mul_right (d / n) (show r + 1 ≤ n by omega)
  have h3 := Nat.div_add_mod d n
  omega
/-- how far the row ahead of row r has come -/
def rb (n q m r : Nat) : Nat := r * q + mb n m r
theorem rb_zero (n q m : Nat) (hn : 0 < n) : rb n q m 0 = 0 := by unfold rb; rw [mb_zero n m hn]; omega
theorem rb_step (n q m r : Nat) (hn : 0 < n) (hm : m ≤ n) : rb n q m r + q ≤ rf n q m r ∧ rf n q m r ≤ rb n q m r + q + 1 := by
  unfold rf rb
  have := mb_mono n m r hn
  have := mb_step n m r hn hm
  rw [Nat.add_mul]
  omega
end Go.Proofs.Ytmblnfdadpcigaa
