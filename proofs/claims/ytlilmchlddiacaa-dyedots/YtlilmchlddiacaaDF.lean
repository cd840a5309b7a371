/-
  Dots, each asking who gives to it: the same light.
-/
import Derived.Test.YtlilmchlddiacaaDM
namespace Go.Proofs.Ytlilmchlddiacaa

theorem mod_succ (k w : Nat) (hw : 0 < w) : (k + 1) % w = if k % w + 1 = w then 0 else k % w + 1 := by
  have hm := Nat.mod_lt k hw
  rw [Nat.add_mod]
  by_cases h1 : w = 1
  · subst h1; simp [Nat.mod_one]
  · rw [Nat.mod_eq_of_lt (show 1 < w by omega)]
    split
    · rename_i h; rw [h, Nat.mod_self]
    · exact Nat.mod_eq_of_lt (by omega)
theorem giS_f (w n a : Nat) (down right d : Int) (s : PS) (j : Nat) : (giS w n a down right d s).f j = s.f j + (if ¬ gOut w n a down right ∧ (gT w a down right).toNat = j then d else 0) := by
  unfold giS
  split
  · rename_i h; rw [if_neg (fun k => k.1 h)]; simp
  · rename_i h
    show ad s.f _ d j = _
    unfold ad
    by_cases hj : j = (gT w a down right).toNat
    · rw [if_pos hj, if_pos ⟨h, hj.symm⟩]
    · rw [if_neg hj, if_neg (fun k => hj k.2.symm)]; simp
theorem giS_lost (w n a : Nat) (down right d : Int) (s : PS) : (giS w n a down right d s).lost = s.lost + (if gOut w n a down right then d else 0) := by
  unfold giS
  split <;> simp
/-- what is left at a number, when its turn has come -/
def lf (w n : Nat) (g : Nat → Int) (k : Nat) : Int := le ((ruS w n g k).f k)
/-- who gives, and whether there is one -/
def t0 (w n : Nat) (g : Nat → Int) (j : Nat) (P : Nat → Prop) [DecidablePred P] : Int := if 0 < j % w ∧ P (j - 1) then sx 7 (lf w n g (j - 1)) else 0
def t1 (w n : Nat) (g : Nat → Int) (j : Nat) (P : Nat → Prop) [DecidablePred P] : Int := if (w ≤ j ∧ j % w + 1 < w) ∧ P (j - w + 1) then sx 3 (lf w n g (j - w + 1)) else 0
def t2 (w n : Nat) (g : Nat → Int) (j : Nat) (P : Nat → Prop) [DecidablePred P] : Int := if w ≤ j ∧ P (j - w) then sx 5 (lf w n g (j - w)) else 0
def t3 (w n : Nat) (g : Nat → Int) (j : Nat) (P : Nat → Prop) [DecidablePred P] : Int := if (w ≤ j ∧ 0 < j % w) ∧ P (j - w - 1) then sr (lf w n g (j - w - 1)) else 0
theorem split_step {A : Prop} [Decidable A] {p k : Nat} {T : Nat → Int} : (if A ∧ p < k + 1 then T p else 0) = (if A ∧ p < k then T p else 0) + (if A ∧ p = k then T p else 0) := by
  by_cases hA : A
  · rcases Nat.lt_trichotomy p k with h | h | h
    · rw [if_pos ⟨hA, by omega⟩, if_pos ⟨hA, h⟩, if_neg (fun q => by omega)]; simp
    · rw [if_pos ⟨hA, by omega⟩, if_neg (fun q => by omega), if_pos ⟨hA, h⟩]; simp
    · rw [if_neg (fun q => by omega), if_neg (fun q => by omega), if_neg (fun q => by omega)]; simp
  · rw [if_neg (fun q => hA q.1), if_neg (fun q => hA q.1), if_neg (fun q => hA q.1)]; simp
theorem swap_if {A B : Prop} [Decidable A] [Decidable B] {x y : Int} (h : A ↔ B) (e : B → x = y) : (if A then x else 0) = (if B then y else 0) := by
  by_cases hB : B
  · rw [if_pos (h.2 hB), if_pos hB, e hB]
  · rw [if_neg (fun q => hB (h.1 q)), if_neg hB]

theorem w0 {w n k j : Nat} (hw : 0 < w) (hj : j < n) : (¬ gOut w n k 0 1 ∧ (gT w k 0 1).toNat = j) ↔ (0 < j % w ∧ j - 1 = k) := by
  have hm := mod_succ k w hw
  have hl := Nat.mod_lt k hw
  unfold gOut gC gT
  simp only [Int.zero_mul]
  constructor
  · rintro ⟨h1, h2⟩
    obtain rfl : j = k + 1 := by omega
    rw [if_neg (by omega)] at hm
    omega
  · rintro ⟨h1, h2⟩
    by_cases hj0 : j = 0
    · subst hj0; simp at h1
    · obtain rfl : j = k + 1 := by omega
      rw [hm] at h1
      split at h1
      · omega
      · omega
theorem w2 {w n k j : Nat} (hw : 0 < w) (hj : j < n) : (¬ gOut w n k 1 0 ∧ (gT w k 1 0).toNat = j) ↔ (w ≤ j ∧ j - w = k) := by
  have hl := Nat.mod_lt k hw
  unfold gOut gC gT
  simp only [Int.one_mul]
  omega
theorem w1 {w n k j : Nat} (hw : 0 < w) (hj : j < n) : (¬ gOut w n k 1 (-1) ∧ (gT w k 1 (-1)).toNat = j) ↔ ((w ≤ j ∧ j % w + 1 < w) ∧ j - w + 1 = k) := by
  have hm := mod_succ j w hw
  have hl := Nat.mod_lt k hw
  have hl2 := Nat.mod_lt j hw
  unfold gOut gC gT
  simp only [Int.one_mul]
  constructor
  · rintro ⟨h1, h2⟩
    have e : j + 1 = k + w := by omega
    rw [e, Nat.add_mod_right] at hm
    have hk : 1 ≤ k := by
      rcases Nat.eq_zero_or_pos k with h0 | h0
      · subst h0; simp at h1 hm
      · exact h0
    split at hm <;> omega
  · rintro ⟨⟨h1, h3⟩, h2⟩
    have e : j + 1 = k + w := by omega
    rw [e, Nat.add_mod_right, if_neg (by omega)] at hm
    omega
theorem w3 {w n k j : Nat} (hw : 0 < w) (hj : j < n) : (¬ gOut w n k 1 1 ∧ (gT w k 1 1).toNat = j) ↔ ((w ≤ j ∧ 0 < j % w) ∧ j - w - 1 = k) := by
  have hm := mod_succ k w hw
  have hl := Nat.mod_lt k hw
  unfold gOut gC gT
  simp only [Int.one_mul]
  constructor
  · rintro ⟨h1, h2⟩
    have e : j = k + 1 + w := by omega
    rw [e, Nat.add_mod_right, hm, if_neg (by omega)]
    omega
  · rintro ⟨⟨h1, h3⟩, h2⟩
    by_cases hj0 : j = w
    · subst hj0; simp at h3
    · have e : j = k + 1 + w := by omega
      rw [e, Nat.add_mod_right, hm] at h3
      split at h3 <;> omega
/-- the light of each number, behind the first k dots -/
theorem light (w n : Nat) (g : Nat → Int) (hw : 0 < w) : ∀ k, k ≤ n → ∀ j, j < n → (ruS w n g k).f j = 16 * g j + t0 w n g j (· < k) + t1 w n g j (· < k) + t2 w n g j (· < k) + t3 w n g j (· < k) := by
  intro k
  induction k with
  | zero =>
    intro _ j hj
    unfold t0 t1 t2 t3
    simp
    rfl
  | succ k ih =>
    intro hk j hj
    have h := ih (by omega) j hj
    have e0 : t0 w n g j (· < k + 1) = t0 w n g j (· < k) + (if ¬ gOut w n k 0 1 ∧ (gT w k 0 1).toNat = j then sx 7 (lf w n g k) else 0) := by
      unfold t0
      rw [split_step (T := fun p => sx 7 (lf w n g p)), swap_if (w0 hw hj) (y := sx 7 (lf w n g (j - 1))) (fun q => by rw [q.2])]
    have e1 : t1 w n g j (· < k + 1) = t1 w n g j (· < k) + (if ¬ gOut w n k 1 (-1) ∧ (gT w k 1 (-1)).toNat = j then sx 3 (lf w n g k) else 0) := by
      unfold t1
      rw [split_step (T := fun p => sx 3 (lf w n g p)), swap_if (w1 hw hj) (y := sx 3 (lf w n g (j - w + 1))) (fun q => by rw [q.2])]
    have e2 : t2 w n g j (· < k + 1) = t2 w n g j (· < k) + (if ¬ gOut w n k 1 0 ∧ (gT w k 1 0).toNat = j then sx 5 (lf w n g k) else 0) := by
      unfold t2
      rw [split_step (T := fun p => sx 5 (lf w n g p)), swap_if (w2 hw hj) (y := sx 5 (lf w n g (j - w))) (fun q => by rw [q.2])]
    have e3 : t3 w n g j (· < k + 1) = t3 w n g j (· < k) + (if ¬ gOut w n k 1 1 ∧ (gT w k 1 1).toNat = j then sr (lf w n g k) else 0) := by
      unfold t3
      rw [split_step (T := fun p => sr (lf w n g p)), swap_if (w3 hw hj) (y := sr (lf w n g (j - w - 1))) (fun q => by rw [q.2])]
    show (doS w n k (ruS w n g k)).f j = _
    unfold doS
    rw [giS_f, giS_f, giS_f, giS_f, h, e0, e1, e2, e3]
    show _ + (if _ then sx 7 (lf w n g k) else 0) + (if _ then sx 3 (lf w n g k) else 0) + (if _ then sx 5 (lf w n g k) else 0) + (if _ then sr (lf w n g k) else 0) = _
    omega
/-- the four parts of a number's light, by its column and its row -/
def s0 (w n : Nat) (g : Nat → Int) (k : Nat) : Int := if 0 < k % w then sx 7 (lf w n g (k - 1)) else 0
def s1 (w n : Nat) (g : Nat → Int) (k : Nat) : Int := if k % w + 1 < w then sx 3 (lf w n g (k - w + 1)) else 0
def s2 (w n : Nat) (g : Nat → Int) (k : Nat) : Int := sx 5 (lf w n g (k - w))
def s3 (w n : Nat) (g : Nat → Int) (k : Nat) : Int := if 0 < k % w then sr (lf w n g (k - w - 1)) else 0
def up (w n : Nat) (g : Nat → Int) (k : Nat) : Int := if 0 < k / w then s2 w n g k + s1 w n g k + s3 w n g k else 0
theorem div_pos {k w : Nat} (hw : 0 < w) : 0 < k / w ↔ w ≤ k := by
  constructor
  · intro h
    rcases Nat.lt_or_ge k w with h1 | h1
    · rw [Nat.div_eq_of_lt h1] at h; omega
    · exact h1
  · exact fun h => Nat.div_pos h hw
theorem light_at (w n : Nat) (g : Nat → Int) (hw : 0 < w) (k : Nat) (hk : k < n) : (ruS w n g k).f k = 16 * g k + s0 w n g k + up w n g k := by
  rw [light w n g hw k (by omega) k hk]
  have hd := div_pos (k := k) hw
  have hm : 0 < k % w → 0 < k := fun h => by rcases Nat.eq_zero_or_pos k with h0 | h0; subst h0; simp at h; exact h0
  have e0 : t0 w n g k (· < k) = s0 w n g k := by
    unfold t0 s0
    exact swap_if ⟨fun q => q.1, fun q => ⟨q, by have := hm q; omega⟩⟩ (fun _ => rfl)
  by_cases hy : w ≤ k
  · have e1 : t1 w n g k (· < k) = s1 w n g k := by
      unfold t1 s1
      exact swap_if ⟨fun q => q.1.2, fun q => ⟨⟨hy, q⟩, by omega⟩⟩ (fun _ => rfl)
    have e2 : t2 w n g k (· < k) = s2 w n g k := by
      unfold t2 s2
      rw [if_pos ⟨hy, by omega⟩]
    have e3 : t3 w n g k (· < k) = s3 w n g k := by
      unfold t3 s3
      exact swap_if ⟨fun q => q.1.2, fun q => ⟨⟨hy, q⟩, by have := hm q; omega⟩⟩ (fun _ => rfl)
    rw [e0, e1, e2, e3]
    unfold up
    rw [if_pos (hd.2 hy)]
    omega
  · have e1 : t1 w n g k (· < k) = 0 := by unfold t1; rw [if_neg (fun q => hy q.1.1)]
    have e2 : t2 w n g k (· < k) = 0 := by unfold t2; rw [if_neg (fun q => hy q.1)]
    have e3 : t3 w n g k (· < k) = 0 := by unfold t3; rw [if_neg (fun q => hy q.1.1)]
    rw [e0, e1, e2, e3]
    unfold up
    rw [if_neg (fun q => hy (hd.1 q))]
    omega
/-- what is lost at a number -/
def z0 (w n : Nat) (g : Nat → Int) (k : Nat) : Int := if k % w + 1 = w then sx 7 (lf w n g k) else 0
def z1 (w n : Nat) (g : Nat → Int) (k : Nat) : Int := if k % w = 0 ∨ k / w + 1 = n / w then sx 3 (lf w n g k) else 0
def z2 (w n : Nat) (g : Nat → Int) (k : Nat) : Int := if k / w + 1 = n / w then sx 5 (lf w n g k) else 0
def z3 (w n : Nat) (g : Nat → Int) (k : Nat) : Int := if k % w + 1 = w ∨ k / w + 1 = n / w then sr (lf w n g k) else 0
theorem last_row {w n k : Nat} (hd : n % w = 0) (hk : k < n) : (k / w + 1 = n / w ∧ n = k / w * w + w) ∨ (k / w + 1 < n / w ∧ k / w * w + w + w ≤ n) := by
  have h1 : w * (n / w) = n := by have := Nat.div_add_mod n w; omega
  have h2 := Nat.div_add_mod k w
  have h3 : k / w < n / w := by
    rcases Nat.lt_or_ge (k / w) (n / w) with h | h
    · exact h
    · have := Nat.mul_le_mul_left w h; omega
  rw [Nat.mul_comm] at h1
  rcases Nat.lt_or_ge (k / w + 1) (n / w) with h | h
  · have h4 := Nat.mul_le_mul_right w (show k / w + 1 + 1 ≤ n / w by omega)
    rw [Nat.add_mul, Nat.add_mul, Nat.one_mul] at h4
    exact .inr ⟨h, by omega⟩
  · have e : k / w + 1 = n / w := by omega
    rw [← e, Nat.add_mul, Nat.one_mul] at h1
    exact .inl ⟨e, by omega⟩
theorem lost_at (w n : Nat) (g : Nat → Int) (hw : 0 < w) (hd : n % w = 0) (k : Nat) (hk : k < n) : (ruS w n g (k + 1)).lost = (ruS w n g k).lost + z0 w n g k + z1 w n g k + z2 w n g k + z3 w n g k := by
  show (doS w n k (ruS w n g k)).lost = _
  unfold doS
  rw [giS_lost, giS_lost, giS_lost, giS_lost]
  have h1 := last_row hd hk
  have h2 := Nat.div_add_mod k w
  rw [Nat.mul_comm] at h2
  have h3 := Nat.mod_lt k hw
  have e0 : (if gOut w n k 0 1 then sx 7 (le ((ruS w n g k).f k)) else 0) = z0 w n g k := by
    unfold z0
    refine swap_if ?_ (fun _ => rfl)
    unfold gOut gC gT
    simp only [Int.zero_mul]
    generalize k / w * w = yw at *
    omega
  have e1 : (if gOut w n k 1 (-1) then sx 3 (le ((ruS w n g k).f k)) else 0) = z1 w n g k := by
    unfold z1
    refine swap_if ?_ (fun _ => rfl)
    unfold gOut gC gT
    simp only [Int.one_mul]
    generalize k / w * w = yw at *
    omega
  have e2 : (if gOut w n k 1 0 then sx 5 (le ((ruS w n g k).f k)) else 0) = z2 w n g k := by
    unfold z2
    refine swap_if ?_ (fun _ => rfl)
    unfold gOut gC gT
    simp only [Int.one_mul]
    generalize k / w * w = yw at *
    omega
  have e3 : (if gOut w n k 1 1 then sr (le ((ruS w n g k).f k)) else 0) = z3 w n g k := by
    unfold z3
    refine swap_if ?_ (fun _ => rfl)
    unfold gOut gC gT
    simp only [Int.one_mul]
    generalize k / w * w = yw at *
    omega
  rw [e0, e1, e2, e3]
/-- how great they are -/
theorem lf_bd {w n : Nat} {g : Nat → Int} (hw : 0 < w) (hn : n ≤ 65536) (hg : ∀ j, j < n → 0 ≤ g j ∧ g j ≤ 255) (k : Nat) (hk : k < n) : -1000000000 ≤ lf w n g k ∧ lf w n g k ≤ 1000000000 := by
  have h1 := ruS_ms (w := w) hw hg k (by omega)
  have h2 := (ms_at (ruS w n g k) hk).1
  have h3 := ts_ab_nonneg (ruS w n g k).f (k + 1) (n - (k + 1))
  have h4 := le_abs ((ruS w n g k).f k)
  unfold ms at h1 h2
  unfold lf
  omega
theorem lost_bd {w n : Nat} {g : Nat → Int} (hw : 0 < w) (hn : n ≤ 65536) (hg : ∀ j, j < n → 0 ≤ g j ∧ g j ≤ 255) (k : Nat) (hk : k ≤ n) : -1000000000 ≤ (ruS w n g k).lost ∧ (ruS w n g k).lost ≤ 1000000000 := by
  have h1 := ruS_ms (w := w) hw hg k hk
  have h3 := ts_ab_nonneg (ruS w n g k).f k (n - k)
  unfold ms at h1
  omega
theorem sx_bd {l : Int} (h : -1000000000 ≤ l ∧ l ≤ 1000000000) : (-1000000000 ≤ sx 7 l ∧ sx 7 l ≤ 1000000000) ∧ (-1000000000 ≤ sx 3 l ∧ sx 3 l ≤ 1000000000) ∧ (-1000000000 ≤ sx 5 l ∧ sx 5 l ≤ 1000000000) ∧ (-1000000000 ≤ sr l ∧ sr l ≤ 1000000000) := by
  have := parts_abs l
  omega
end Go.Proofs.Ytlilmchlddiacaa
