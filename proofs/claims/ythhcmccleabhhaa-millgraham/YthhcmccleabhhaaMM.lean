/-
  Jobs on looms, each on the one that is free first: the mathematics (on no seat).
-/
namespace Go.Proofs.Ythhcmccleabhhaa

/-- the first place below n + 1 where f is least -/
def am (f : Nat → Nat) : Nat → Nat
  | 0 => 0
  | n + 1 => if f (n + 1) < f (am f n) then n + 1 else am f n
theorem am_le (f : Nat → Nat) : ∀ n, am f n ≤ n
  | 0 => Nat.le_refl _
  | n + 1 => by
    have := am_le f n
    unfold am
    split <;> omega
theorem am_min (f : Nat → Nat) : ∀ n k, k ≤ n → f (am f n) ≤ f k
  | 0, k, hk => by obtain rfl : k = 0 := by omega
                   exact Nat.le_refl _
  | n + 1, k, hk => by
    unfold am
    by_cases c : f (n + 1) < f (am f n)
    · rw [if_pos c]
      by_cases e : k = n + 1
      · rw [e]; exact Nat.le_refl _
      · have := am_min f n k (by omega); omega
    · rw [if_neg c]
      by_cases e : k = n + 1
      · rw [e]; omega
      · exact am_min f n k (by omega)
theorem am_first (f : Nat → Nat) : ∀ n k, k < am f n → f (am f n) < f k
  | 0, k, hk => by simp [am] at hk
  | n + 1, k, hk => by
    unfold am at hk ⊢
    by_cases c : f (n + 1) < f (am f n)
    · rw [if_pos c] at hk ⊢
      have := am_min f n k (by omega)
      omega
    · rw [if_neg c] at hk ⊢
      exact am_first f n k hk
/-- the least is first: what is known of a place says which one it is -/
theorem am_is {f : Nat → Nat} {n m : Nat} (hm : m ≤ n) (h1 : ∀ k, k ≤ n → f m ≤ f k) (h2 : ∀ k, k < m → f m < f k) : am f n = m := by
  have a1 := am_min f n m hm
  have a2 := h1 (am f n) (am_le f n)
  rcases Nat.lt_trichotomy (am f n) m with c | c | c
  · have := h2 _ c; omega
  · exact c
  · have := am_first f n m c; omega

/-- how long each of the looms 0 to L works, when so many jobs are given out -/
def ld (L : Nat) (p : Nat → Nat) : Nat → Nat → Nat
  | 0, _ => 0
  | i + 1, k => if k = am (ld L p i) L then ld L p i k + p i else ld L p i k
/-- a job's loom, and from when on -/
def lo (L : Nat) (p : Nat → Nat) (i : Nat) : Nat := am (ld L p i) L
def fr (L : Nat) (p : Nat → Nat) (i : Nat) : Nat := ld L p i (lo L p i)
theorem lo_le (L : Nat) (p : Nat → Nat) (i : Nat) : lo L p i ≤ L := am_le _ _
theorem ld_own (L : Nat) (p : Nat → Nat) (i : Nat) : ld L p (i + 1) (lo L p i) = fr L p i + p i := by
  rw [ld, if_pos (show lo L p i = am (ld L p i) L from rfl)]; rfl
theorem ld_else {L : Nat} {p : Nat → Nat} {i k : Nat} (h : k ≠ lo L p i) : ld L p (i + 1) k = ld L p i k := by rw [ld, if_neg (show ¬ k = am (ld L p i) L from h)]
theorem ld_up (L : Nat) (p : Nat → Nat) (i k : Nat) : ld L p i k ≤ ld L p (i + 1) k := by
  by_cases c : k = lo L p i
  · subst c; rw [ld_own]; exact Nat.le_add_right _ _
  · rw [ld_else c]; exact Nat.le_refl _
theorem ld_mono (L : Nat) (p : Nat → Nat) (k : Nat) {i j : Nat} (h : i ≤ j) : ld L p i k ≤ ld L p j k := by
  induction j with
  | zero => obtain rfl : i = 0 := by omega
            exact Nat.le_refl _
  | succ j ih =>
    by_cases e : i = j + 1
    · rw [e]; exact Nat.le_refl _
    · exact Nat.le_trans (ih (by omega)) (ld_up L p j k)
theorem fr_min (L : Nat) (p : Nat → Nat) (i k : Nat) (hk : k ≤ L) : fr L p i ≤ ld L p i k := am_min _ _ _ hk
/-- no loom weaves two jobs at once -/
theorem one_job {L : Nat} {p : Nat → Nat} {i j : Nat} (h : i < j) (e : lo L p i = lo L p j) : fr L p i + p i ≤ fr L p j := by
  have := ld_mono L p (lo L p i) (show i + 1 ≤ j by omega)
  rw [ld_own] at this
  rw [show fr L p j = ld L p j (lo L p j) from rfl, ← e]
  exact this
/-- jobs begin one behind the other -/
theorem fr_mono (L : Nat) (p : Nat → Nat) {i j : Nat} (h : i ≤ j) : fr L p i ≤ fr L p j :=
  Nat.le_trans (fr_min L p i (lo L p j) (lo_le L p j)) (ld_mono L p _ h)

/-- sums, and the greatest -/
def sm (f : Nat → Nat) : Nat → Nat
  | 0 => 0
  | n + 1 => sm f n + f n
def mx (f : Nat → Nat) : Nat → Nat
  | 0 => 0
  | n + 1 => if mx f n < f n then f n else mx f n
theorem mx_ge {f : Nat → Nat} : ∀ n k, k < n → f k ≤ mx f n
  | 0, k, hk => by omega
  | n + 1, k, hk => by
    have := fun h => mx_ge (f := f) n k h
    unfold mx
    by_cases e : k = n
    · subst e; split <;> omega
    · have := this (by omega)
      split <;> omega
theorem mx_le {f : Nat → Nat} {c : Nat} : ∀ n, (∀ k, k < n → f k ≤ c) → mx f n ≤ c
  | 0, _ => Nat.zero_le _
  | n + 1, h => by
    have h1 := mx_le n (fun k hk => h k (by omega))
    have h2 := h n (by omega)
    unfold mx
    split <;> omega
theorem mx_some {f : Nat → Nat} : ∀ n, mx f n = 0 ∨ ∃ k, k < n ∧ mx f n = f k
  | 0 => .inl rfl
  | n + 1 => by
    unfold mx
    by_cases c : mx f n < f n
    · rw [if_pos c]; exact .inr ⟨n, by omega, rfl⟩
    · rw [if_neg c]
      rcases mx_some (f := f) n with e | ⟨k, h1, h2⟩
      · exact .inl e
      · exact .inr ⟨k, by omega, h2⟩
theorem sm_least {f : Nat → Nat} {c : Nat} : ∀ n, (∀ k, k < n → c ≤ f k) → n * c ≤ sm f n
  | 0, _ => by simp [sm]
  | n + 1, h => by
    have h1 := sm_least n (fun k hk => h k (by omega))
    have h2 := h n (by omega)
    rw [Nat.add_mul, Nat.one_mul, sm]
    omega
theorem sm_most {f : Nat → Nat} {c : Nat} : ∀ n, (∀ k, k < n → f k ≤ c) → sm f n ≤ n * c
  | 0, _ => by simp [sm]
  | n + 1, h => by
    have h1 := sm_most n (fun k hk => h k (by omega))
    have h2 := h n (by omega)
    rw [Nat.add_mul, Nat.one_mul, sm]
    omega
theorem sm_put {f g : Nat → Nat} {m d : Nat} : ∀ n, m < n → g m = f m + d → (∀ k, k < n → k ≠ m → g k = f k) → sm g n = sm f n + d
  | 0, hm, _, _ => by omega
  | n + 1, hm, h1, h2 => by
    unfold sm
    by_cases e : m = n
    · subst e
      have : ∀ j, j ≤ m → sm g j = sm f j := fun j => by
        induction j with
        | zero => intro _; rfl
        | succ j ih => intro hj; unfold sm; rw [ih (by omega), h2 j (by omega) (by omega)]
      rw [this m (Nat.le_refl _), h1]
      omega
    · rw [sm_put n (by omega) h1 (fun k hk hne => h2 k (by omega) hne), h2 n (by omega) (fun q => e q.symm)]
      omega
/-- all looms together work as long as all jobs take -/
theorem ld_all (L : Nat) (p : Nat → Nat) : ∀ i, sm (ld L p i) (L + 1) = sm p i
  | 0 => by
    have h1 : ∀ n, sm (ld L p 0) n = 0 := fun n => by
      induction n with
      | zero => rfl
      | succ n ih => unfold sm; rw [ih]; rfl
    rw [h1]; rfl
  | i + 1 => by
    rw [sm_put (f := ld L p i) (m := lo L p i) (d := p i) (L + 1) (by have := lo_le L p i; omega) (ld_own L p i) (fun k _ hne => ld_else hne), ld_all L p i]
    rfl
/-- Graham: every loom's time, so often as there are looms, is at most what all jobs take, and the longest one once more for all looms but one -/
theorem graham (L : Nat) (p : Nat → Nat) {M : Nat} : ∀ i, (∀ k, k < i → p k ≤ M) → ∀ k, k ≤ L → (L + 1) * ld L p i k ≤ sm p i + L * M
  | 0, _, k, _ => by simp [ld]
  | i + 1, hM, k, hk => by
    have ih := graham L p i (fun k hk => hM k (by omega))
    have hp := hM i (by omega)
    have hp2 : L * p i ≤ L * M := Nat.mul_le_mul_left _ hp
    have es : sm p (i + 1) = sm p i + p i := rfl
    by_cases c : k = lo L p i
    · subst c
      rw [ld_own, es]
      have h1 := sm_least (f := ld L p i) (c := fr L p i) (L + 1) (fun k hk => fr_min L p i k (by omega))
      rw [ld_all] at h1
      rw [Nat.mul_add, Nat.add_mul L 1 (p i), Nat.one_mul]
      omega
    · rw [ld_else c, es]
      have := ih k hk
      omega
/-- when the last job is done -/
def la (L : Nat) (p : Nat → Nat) (n : Nat) : Nat := mx (ld L p n) (L + 1)
theorem la_graham (L : Nat) (p : Nat → Nat) {n M : Nat} (hM : ∀ k, k < n → p k ≤ M) : (L + 1) * la L p n ≤ sm p n + L * M := by
  unfold la
  rcases mx_some (f := ld L p n) (L + 1) with e | ⟨k, h1, h2⟩
  · rw [e]; simp
  · rw [h2]; exact graham L p n hM k (by omega)
theorem la_all (L : Nat) (p : Nat → Nat) (n : Nat) : sm p n ≤ (L + 1) * la L p n := by
  rw [← ld_all L p n]
  exact sm_most (L + 1) (fun k hk => mx_ge (L + 1) k hk)
theorem la_each {L : Nat} {p : Nat → Nat} {n i : Nat} (hi : i < n) : fr L p i + p i ≤ la L p n := by
  rw [← ld_own]
  exact Nat.le_trans (ld_mono L p (lo L p i) (show i + 1 ≤ n by omega)) (mx_ge (L + 1) _ (by have := lo_le L p i; omega))
theorem la_most {L : Nat} {p : Nat → Nat} {n : Nat} : mx p n ≤ la L p n := by
  rcases mx_some (f := p) n with e | ⟨k, h1, h2⟩
  · omega
  · rw [h2]; have := la_each (L := L) (p := p) h1; omega
/-- a loom works as long as its jobs take: how the document says it -/
def un (L : Nat) (p : Nat → Nat) (k : Nat) : Nat → Nat
  | 0 => 0
  | i + 1 => if lo L p i = k then un L p k i + p i else un L p k i
theorem un_ld (L : Nat) (p : Nat → Nat) (k : Nat) : ∀ i, un L p k i = ld L p i k
  | 0 => rfl
  | i + 1 => by
    unfold un
    by_cases c : lo L p i = k
    · rw [if_pos c, un_ld L p k i, ← c, ld_own]; rfl
    · rw [if_neg c, un_ld L p k i, ld_else (fun q => c q.symm)]
end Go.Proofs.Ythhcmccleabhhaa
