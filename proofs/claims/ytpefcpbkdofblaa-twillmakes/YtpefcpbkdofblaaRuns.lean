/-
  The mathematics of runs.
-/
namespace Go.Proofs.Ytpefcpbkdofblaa

/-- a place more: the longest run so far, and the run that ends here -/
def lgStep (s : Nat × Nat) (b : Bool) : Nat × Nat := if b then (max s.1 (s.2 + 1), s.2 + 1) else (max s.1 0, 0)
def lgS (so : Nat → Bool) (n : Nat) : Nat → Nat × Nat
  | 0 => (0, 0)
  | k + 1 => lgStep (lgS so n k) (so (k % n))
def allN (so : Nat → Bool) (n : Nat) : Bool := (List.range n).all so
/-- the longest run of a row, as the program finds it -/
def lgI (so : Nat → Bool) (n : Nat) : Nat := if allN so n then 65 else (lgS so n (2 * n)).1
/-- somewhere so many are so, side by side, going round -/
def Rn (so : Nat → Bool) (n L : Nat) : Prop := ∃ x, ∀ i, i < L → so ((x + i) % n) = true
/-- v is the length of the longest run -/
def IsLg (so : Nat → Bool) (n v : Nat) : Prop := (allN so n = true → v = 65) ∧ (allN so n = false → Rn so n v ∧ ¬ Rn so n (v + 1))
theorem allN_iff (so : Nat → Bool) (n : Nat) : allN so n = true ↔ ∀ x, x < n → so x = true := by simp [allN]
theorem Rn.less {so : Nat → Bool} {n L M : Nat} (h : Rn so n L) (hm : M ≤ L) : Rn so n M := by
  obtain ⟨x, hx⟩ := h
  exact ⟨x, fun i hi => hx i (by omega)⟩
theorem isLg_unique {so : Nat → Bool} {n u v : Nat} (h : IsLg so n u) (k : IsLg so n v) : u = v := by
  cases e : allN so n with
  | true => rw [h.1 e, k.1 e]
  | false =>
    have h1 := h.2 e
    have k1 := k.2 e
    rcases Nat.lt_trichotomy u v with c | c | c
    · exact absurd (k1.1.less c) h1.2
    · exact c
    · exact absurd (h1.1.less c) k1.2
theorem lg_le (so : Nat → Bool) (n k : Nat) : (lgS so n k).2 ≤ (lgS so n k).1 ∧ (lgS so n k).1 ≤ k ∧ (lgS so n k).2 ≤ k := by
  induction k with
  | zero => simp [lgS]
  | succ k ih =>
    unfold lgS lgStep
    split
    · dsimp only; omega
    · dsimp only; omega
theorem lg_mono (so : Nat → Bool) (n k m : Nat) (h : k ≤ m) : (lgS so n k).1 ≤ (lgS so n m).1 := by
  induction m with
  | zero => have : k = 0 := by omega
            subst this; exact Nat.le_refl _
  | succ m ih =>
    by_cases e : k = m + 1
    · subst e; exact Nat.le_refl _
    · have := ih (by omega)
      refine Nat.le_trans this ?_
      show _ ≤ (lgStep (lgS so n m) (so (m % n))).1
      unfold lgStep
      split
      · dsimp only; omega
      · dsimp only; omega
theorem lg_run (so : Nat → Bool) (n k : Nat) : (∃ x, x + (lgS so n k).2 = k ∧ ∀ i, i < (lgS so n k).2 → so ((x + i) % n) = true) ∧ Rn so n (lgS so n k).1 := by
  induction k with
  | zero => exact ⟨⟨0, rfl, fun i hi => by simp [lgS] at hi⟩, ⟨0, fun i hi => by simp [lgS] at hi⟩⟩
  | succ k ih =>
    obtain ⟨⟨x, hx, hr⟩, hR⟩ := ih
    show (∃ x, x + (lgStep (lgS so n k) (so (k % n))).2 = k + 1 ∧ ∀ i, i < (lgStep (lgS so n k) (so (k % n))).2 → so ((x + i) % n) = true) ∧ Rn so n (lgStep (lgS so n k) (so (k % n))).1
    unfold lgStep
    by_cases e : so (k % n) = true
    · rw [if_pos e]
      have hr' : ∀ i, i < (lgS so n k).2 + 1 → so ((x + i) % n) = true := fun i hi => by
        by_cases c : i = (lgS so n k).2
        · subst c; rw [hx]; exact e
        · exact hr i (by omega)
      refine ⟨⟨x, by dsimp only; omega, hr'⟩, ?_⟩
      dsimp only
      rcases Nat.le_total (lgS so n k).1 ((lgS so n k).2 + 1) with c | c
      · rw [Nat.max_eq_right c]; exact ⟨x, hr'⟩
      · rw [Nat.max_eq_left c]; exact hR
    · rw [if_neg e]
      refine ⟨⟨k + 1, rfl, fun i hi => by simp at hi⟩, ?_⟩
      dsimp only
      rw [Nat.max_eq_left (Nat.zero_le _)]; exact hR
theorem lg_ge (so : Nat → Bool) (n k : Nat) : ∀ x L, x + L = k → (∀ i, i < L → so ((x + i) % n) = true) → L ≤ (lgS so n k).2 := by
  induction k with
  | zero => intro x L h _; omega
  | succ k ih =>
    intro x L h hr
    by_cases e : L = 0
    · omega
    · have := ih x (L - 1) (by omega) (fun i hi => hr i (by omega))
      have hl := hr (L - 1) (by omega)
      rw [show x + (L - 1) = k by omega] at hl
      show L ≤ (lgStep (lgS so n k) (so (k % n))).2
      unfold lgStep
      rw [if_pos hl]
      dsimp only
      omega
theorem rn_short {so : Nat → Bool} {n L : Nat} (hn : 0 < n) (ha : allN so n = false) (h : Rn so n L) : L < n := by
  refine Nat.lt_of_not_le fun hle => ?_
  obtain ⟨x, hx⟩ := h
  have : allN so n = true := (allN_iff so n).2 fun y hy => by
    have hm := Nat.mod_lt x hn
    by_cases c : x % n ≤ y
    · have := hx (y - x % n) (by omega)
      rwa [Nat.add_mod, show (x % n + (y - x % n) % n) % n = y by
        rw [Nat.mod_eq_of_lt (show y - x % n < n by omega), Nat.mod_eq_of_lt (show x % n + (y - x % n) < n by omega)]; omega] at this
    · have := hx (n + y - x % n) (by omega)
      rwa [Nat.add_mod, show (x % n + (n + y - x % n) % n) % n = y by
        rw [Nat.mod_eq_of_lt (show n + y - x % n < n by omega), show x % n + (n + y - x % n) = n + y by omega, Nat.add_mod_left, Nat.mod_eq_of_lt hy]] at this
  rw [this] at ha
  cases ha
theorem rn_first {so : Nat → Bool} {n L : Nat} (hn : 0 < n) (h : Rn so n L) : ∃ x, x < n ∧ ∀ i, i < L → so ((x + i) % n) = true := by
  obtain ⟨x, hx⟩ := h
  refine ⟨x % n, Nat.mod_lt _ hn, fun i hi => ?_⟩
  have := hx i hi
  rwa [show (x % n + i) % n = (x + i) % n by rw [Nat.add_mod, Nat.mod_mod, ← Nat.add_mod]]
theorem lgI_is (so : Nat → Bool) (n : Nat) (hn : 0 < n) : IsLg so n (lgI so n) := by
  unfold lgI
  refine ⟨fun e => by rw [if_pos e], fun e => ?_⟩
  rw [if_neg (by rw [e]; exact Bool.false_ne_true)]
  refine ⟨(lg_run so n (2 * n)).2, fun h => ?_⟩
  have hs := rn_short hn e h
  obtain ⟨x, hx, hr⟩ := rn_first hn h
  have h1 := lg_ge so n _ x _ rfl hr
  have h2 := (lg_le so n (x + ((lgS so n (2 * n)).1 + 1))).1
  have h3 := lg_mono so n (x + ((lgS so n (2 * n)).1 + 1)) (2 * n) (by omega)
  omega

/-- the greatest of the first k -/
def mxN (g : Nat → Nat) : Nat → Nat
  | 0 => 0
  | k + 1 => max (mxN g k) (g k)
theorem mxN_le (g : Nat → Nat) (k y : Nat) (h : y < k) : g y ≤ mxN g k := by
  induction k with
  | zero => omega
  | succ k ih =>
    show g y ≤ max (mxN g k) (g k)
    by_cases e : y = k
    · subst e; exact Nat.le_max_right _ _
    · exact Nat.le_trans (ih (by omega)) (Nat.le_max_left _ _)
theorem mxN_some (g : Nat → Nat) (k : Nat) : mxN g k = 0 ∨ ∃ y, y < k ∧ mxN g k = g y := by
  induction k with
  | zero => exact .inl rfl
  | succ k ih =>
    show max (mxN g k) (g k) = 0 ∨ ∃ y, y < k + 1 ∧ max (mxN g k) (g k) = g y
    rcases Nat.le_total (mxN g k) (g k) with c | c
    · rw [Nat.max_eq_right c]; exact .inr ⟨k, by omega, rfl⟩
    · rw [Nat.max_eq_left c]
      rcases ih with h | ⟨y, hy, h⟩
      · exact .inl h
      · exact .inr ⟨y, by omega, h⟩
theorem mxN_bound (g : Nat → Nat) (k B : Nat) (h : ∀ y, y < k → g y ≤ B) : mxN g k ≤ B := by
  rcases mxN_some g k with e | ⟨y, hy, e⟩
  · omega
  · rw [e]; exact h y hy
theorem mxN_congr {g g' : Nat → Nat} {k : Nat} (h : ∀ y, y < k → g y = g' y) : mxN g k = mxN g' k := by
  induction k with
  | zero => rfl
  | succ k ih =>
    show max (mxN g k) (g k) = max (mxN g' k) (g' k)
    rw [ih (fun y hy => h y (by omega)), h k (by omega)]
/-- the greatest is the same in another order -/
theorem mxN_perm {g g' : Nat → Nat} {k : Nat} (s t : Nat → Nat) (hs : ∀ y, y < k → s y < k ∧ g y = g' (s y)) (ht : ∀ y, y < k → t y < k ∧ g' y = g (t y)) : mxN g k = mxN g' k := by
  apply Nat.le_antisymm
  · exact mxN_bound _ _ _ fun y hy => by rw [(hs y hy).2]; exact mxN_le _ _ _ (hs y hy).1
  · exact mxN_bound _ _ _ fun y hy => by rw [(ht y hy).2]; exact mxN_le _ _ _ (ht y hy).1
theorem lgI_le (so : Nat → Bool) (n : Nat) (hn : n ≤ 64) : lgI so n ≤ 128 := by
  unfold lgI
  split
  · omega
  · have := (lg_le so n (2 * n)).2.1; omega
theorem lgI_congr {so so' : Nat → Bool} {n : Nat} (hn : 0 < n) (h : ∀ x, x < n → so x = so' x) : lgI so n = lgI so' n := by
  have e : allN so n = allN so' n := by
    rw [Bool.eq_iff_iff, allN_iff, allN_iff]
    exact ⟨fun k x hx => by rw [← h x hx]; exact k x hx, fun k x hx => by rw [h x hx]; exact k x hx⟩
  have e2 : ∀ L, Rn so n L ↔ Rn so' n L := fun L =>
    ⟨fun ⟨x, k⟩ => ⟨x, fun i hi => by rw [← h _ (Nat.mod_lt _ hn)]; exact k i hi⟩, fun ⟨x, k⟩ => ⟨x, fun i hi => by rw [h _ (Nat.mod_lt _ hn)]; exact k i hi⟩⟩
  have k := lgI_is so' n hn
  refine isLg_unique (lgI_is so n hn) ⟨fun c => k.1 (by rw [← e]; exact c), fun c => ?_⟩
  rw [e2, e2]
  exact k.2 (by rw [← e]; exact c)
/-- begun elsewhere a row's longest run is as long -/
theorem lgI_moved (so : Nat → Bool) (n at' : Nat) (hn : 0 < n) : lgI (fun x => so ((x + at') % n)) n = lgI so n := by
  have e2 : ∀ L, Rn (fun x => so ((x + at') % n)) n L ↔ Rn so n L := fun L => by
    have step : ∀ x i, ((x + i) % n + at') % n = (x + at' + i) % n := fun x i => by
      rw [Nat.add_mod, Nat.mod_mod, ← Nat.add_mod]; congr 1; omega
    constructor
    · rintro ⟨x, k⟩
      exact ⟨x + at', fun i hi => by rw [← step]; exact k i hi⟩
    · rintro ⟨x, k⟩
      refine ⟨x + (n - at' % n), fun i hi => ?_⟩
      show so (((x + (n - at' % n) + i) % n + at') % n) = true
      rw [step]
      have := k i hi
      have hm := Nat.mod_lt at' hn
      have hd := Nat.div_add_mod at' n
      rwa [show x + (n - at' % n) + at' + i = x + i + n * (at' / n + 1) by rw [Nat.mul_add]; omega, Nat.add_mul_mod_self_left]
  have e : allN (fun x => so ((x + at') % n)) n = allN so n := by
    cases c : allN so n with
    | true =>
      rw [allN_iff] at c ⊢
      exact fun x hx => c _ (Nat.mod_lt _ hn)
    | false =>
      cases d : allN (fun x => so ((x + at') % n)) n with
      | false => rfl
      | true =>
        exfalso
        rw [allN_iff] at d
        have : Rn (fun x => so ((x + at') % n)) n n := ⟨0, fun i hi => by rw [Nat.zero_add, Nat.mod_eq_of_lt hi]; exact d i hi⟩
        have := rn_short hn c ((e2 n).1 this)
        omega
  have k := lgI_is so n hn
  refine isLg_unique (lgI_is _ n hn) ⟨fun c => k.1 (by rw [← e]; exact c), fun c => ?_⟩
  rw [e2, e2]
  exact k.2 (by rw [← e]; exact c)
/-- the run from a place on, going round, at most 65 -/
def rnF (so : Nat → Bool) (n x : Nat) : Nat → Nat
  | 0 => 0
  | k + 1 => if rnF so n x k = k ∧ so ((x + k) % n) = true then k + 1 else rnF so n x k
theorem rnF_le (so : Nat → Bool) (n x k : Nat) : rnF so n x k ≤ k := by
  induction k with
  | zero => exact Nat.le_refl _
  | succ k ih =>
    unfold rnF
    split <;> omega
theorem rnF_run (so : Nat → Bool) (n x k : Nat) : ∀ i, i < rnF so n x k → so ((x + i) % n) = true := by
  induction k with
  | zero => intro i hi; simp [rnF] at hi
  | succ k ih =>
    intro i hi
    unfold rnF at hi
    split at hi
    · rename_i c
      by_cases e : i = k
      · subst e; exact c.2
      · exact ih i (by omega)
    · exact ih i hi
theorem rnF_ge (so : Nat → Bool) (n x k L : Nat) (hL : L ≤ k) (h : ∀ i, i < L → so ((x + i) % n) = true) : L ≤ rnF so n x k := by
  induction k with
  | zero => omega
  | succ k ih =>
    unfold rnF
    split
    · omega
    · rename_i c
      by_cases e : L = k + 1
      · exfalso
        subst e
        have : rnF so n x k = k := by
          have := rnF_le so n x k
          have : k ≤ rnF so n x k := by
            clear c ih
            have hh : ∀ m, m ≤ k → m ≤ rnF so n x m := fun m => by
              induction m with
              | zero => intro _; exact Nat.zero_le _
              | succ m ih2 =>
                intro hm
                have h1 := ih2 (by omega)
                have h2 := rnF_le so n x m
                unfold rnF
                rw [if_pos ⟨by omega, h m (by omega)⟩]
                exact Nat.le_refl _
            exact hh k (Nat.le_refl _)
          omega
        exact c ⟨this, h k (by omega)⟩
      · exact ih (by omega)
/-- what the document's runs are is what the program's are -/
theorem lgI_ref (so : Nat → Bool) (n : Nat) (hn : 0 < n) (hn2 : n ≤ 64) : mxN (fun x => rnF so n x 65) n = lgI so n := by
  refine isLg_unique ⟨fun e => ?_, fun e => ⟨?_, ?_⟩⟩ (lgI_is so n hn)
  · rw [allN_iff] at e
    apply Nat.le_antisymm
    · exact mxN_bound _ _ _ fun x _ => rnF_le _ _ _ _
    · refine Nat.le_trans (rnF_ge so n 0 65 65 (Nat.le_refl _) (fun i _ => e _ (Nat.mod_lt _ hn))) (mxN_le (fun x => rnF so n x 65) n 0 hn)
  · rcases mxN_some (fun x => rnF so n x 65) n with c | ⟨x, hx, c⟩
    · rw [c]; exact ⟨0, fun i hi => by omega⟩
    · rw [c]; exact ⟨x, rnF_run so n x 65⟩
  · intro h
    have hs := rn_short hn e h
    obtain ⟨x, hx, hr⟩ := rn_first hn h
    have h1 := rnF_ge so n x 65 _ (by omega) hr
    have h2 := mxN_le (fun x => rnF so n x 65) n x hx
    omega
end Go.Proofs.Ytpefcpbkdofblaa
