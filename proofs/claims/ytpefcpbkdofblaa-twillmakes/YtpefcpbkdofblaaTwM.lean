/-
  The mathematics of twills: runs and their sums, picks that are moved, how many hold, moves without a divisor.
-/
import Derived.Test.YtpefcpbkdofblaaLFloatM
namespace Go.Proofs.Ytpefcpbkdofblaa

/-- how long the first runs are together -/
def sN (k : Nat → Nat) : Nat → Nat
  | 0 => 0
  | i + 1 => sN k i + k i
theorem sN_mono (k : Nat → Nat) {i j : Nat} (h : i ≤ j) : sN k i ≤ sN k j := by
  induction j with
  | zero => obtain rfl : i = 0 := by omega
            exact Nat.le_refl _
  | succ j ih =>
    by_cases e : i = j + 1
    · subst e; exact Nat.le_refl _
    · have := ih (by omega)
      show sN k i ≤ sN k j + k j
      omega
/-- the pick that the first runs say -/
def upF (k : Nat → Nat) : Nat → Nat → Bool
  | 0, _ => false
  | i + 1, j => if j < sN k i then upF k i j else decide (i % 2 = 0)
theorem upF_at (k : Nat → Nat) (n i j : Nat) (hi : i < n) (h1 : sN k i ≤ j) (h2 : j < sN k (i + 1)) : upF k n j = decide (i % 2 = 0) := by
  induction n with
  | zero => omega
  | succ n ih =>
    unfold upF
    by_cases e : i = n
    · subst e; rw [if_neg (by omega)]
    · have := sN_mono k (show i + 1 ≤ n by omega)
      rw [if_pos (by omega)]
      exact ih (by omega)
theorem run_of (k : Nat → Nat) (n j : Nat) (h : j < sN k n) : ∃ i, i < n ∧ sN k i ≤ j ∧ j < sN k (i + 1) := by
  induction n with
  | zero => simp [sN] at h
  | succ n ih =>
    by_cases e : j < sN k n
    · obtain ⟨i, hi, h1, h2⟩ := ih e
      exact ⟨i, by omega, h1, h2⟩
    · exact ⟨n, by omega, by omega, h⟩

/-- the place x of the pick y, moved back -/
def bk (n m y x : Nat) : Nat := (x + (n - y * m % n)) % n
theorem bk_lt (n m y x : Nat) (hn : 0 < n) : bk n m y x < n := Nat.mod_lt _ hn
theorem bk_eq (n m y x : Nat) (hx : x < n) : bk n m y x = if y * m % n ≤ x then x - y * m % n else x + n - y * m % n := by
  have hu := Nat.mod_lt (y * m) (show 0 < n by omega)
  unfold bk
  generalize y * m % n = u at *
  split
  · rw [show x + (n - u) = (x - u) + n by omega, Nat.add_mod_right, Nat.mod_eq_of_lt (by omega)]
  · rw [show x + (n - u) = x + n - u by omega, Nat.mod_eq_of_lt (by omega)]
theorem to_eq (n m y x : Nat) (hx : x < n) : (x + y * m) % n = if x + y * m % n < n then x + y * m % n else x + y * m % n - n := by
  have hu := Nat.mod_lt (y * m) (show 0 < n by omega)
  rw [show (x + y * m) % n = (x + y * m % n) % n by rw [Nat.add_mod x, Nat.add_mod x (y * m % n), Nat.mod_mod]]
  generalize y * m % n = u at *
  split
  · rw [Nat.mod_eq_of_lt (by omega)]
  · rw [show x + u = (x + u - n) + n by omega, Nat.add_mod_right, Nat.mod_eq_of_lt (by omega)]; omega
theorem bk_to (n m y x : Nat) (hx : x < n) : bk n m y ((x + y * m) % n) = x := by
  have hu := Nat.mod_lt (y * m) (show 0 < n by omega)
  rw [bk_eq _ _ _ _ (Nat.mod_lt _ (by omega)), to_eq _ _ _ _ hx]
  generalize y * m % n = u at *
  split <;> split <;> omega
theorem to_bk (n m y x : Nat) (hx : x < n) : (bk n m y x + y * m) % n = x := by
  have hu := Nat.mod_lt (y * m) (show 0 < n by omega)
  rw [to_eq _ _ _ _ (bk_lt _ _ _ _ (by omega)), bk_eq _ _ _ _ hx]
  generalize y * m % n = u at *
  split <;> split <;> omega
theorem to_inj (n m y x x' : Nat) (hx : x < n) (hx' : x' < n) (h : (x + y * m) % n = (x' + y * m) % n) : x = x' := by
  rw [← bk_to n m y x hx, h, bk_to n m y x' hx']
theorem bk_inj (n m y x x' : Nat) (hx : x < n) (hx' : x' < n) (h : bk n m y x = bk n m y x') : x = x' := by
  rw [← to_bk n m y x hx, h, to_bk n m y x' hx']
/-- truths woven of a pick -/
def wvF (f : Nat → Bool) (n m j : Nat) : Bool := f (bk n m (j / n) (j % n))
theorem wv_at (f : Nat → Bool) (n m y x : Nat) (hx : x < n) : wvF f n m (y * n + x) = f (bk n m y x) := by
  unfold wvF
  rw [dm_div _ _ _ hx, dm_mod _ _ _ hx]
/-- what is woven when some picks are, and some places of the next one -/
def wvH (f : Nat → Bool) (n m y x j : Nat) : Bool := if j / n < y ∨ (j / n = y ∧ bk n m y (j % n) < x) then wvF f n m j else false
theorem wvH_zero (f : Nat → Bool) (n m : Nat) : wvH f n m 0 0 = fun _ => false := by funext j; simp [wvH]
theorem wvH_full (f : Nat → Bool) (n m y : Nat) (hn : 0 < n) : wvH f n m y n = wvH f n m (y + 1) 0 := by
  funext j
  have := bk_lt n m y (j % n) hn
  unfold wvH
  congr 1
  apply propext
  constructor
  · rintro (h | h)
    · exact .inl (by omega)
    · exact .inl (by omega)
  · rintro (h | h)
    · by_cases e : j / n = y
      · exact .inr ⟨e, this⟩
      · exact .inl (by omega)
    · omega
theorem wvH_done (f : Nat → Bool) (n m j : Nat) (hj : j < n * n) : wvH f n m n 0 j = wvF f n m j := by
  have : j / n < n := Nat.div_lt_of_lt_mul hj
  simp [wvH, this]
theorem wvH_succ (f : Nat → Bool) (n m y x : Nat) (hx : x < n) : (fun j => if j = y * n + (x + y * m) % n then f x else wvH f n m y x j) = wvH f n m y (x + 1) := by
  have hn : 0 < n := by omega
  funext j
  by_cases k : j = y * n + (x + y * m) % n
  · rw [if_pos k]
    subst k
    have hl := Nat.mod_lt (x + y * m) hn
    unfold wvH
    rw [dm_div _ _ _ hl, dm_mod _ _ _ hl, bk_to _ _ _ _ hx, if_pos (.inr ⟨rfl, by omega⟩), wv_at _ _ _ _ _ hl, bk_to _ _ _ _ hx]
  · rw [if_neg k]
    have : ¬ (j / n = y ∧ bk n m y (j % n) = x) := fun q => k (by
      rw [← q.2, to_bk _ _ _ _ (Nat.mod_lt _ hn), ← q.1, Nat.mul_comm]
      exact (Nat.div_add_mod j n).symm)
    unfold wvH
    congr 1
    apply propext
    constructor
    · rintro (q | q)
      · exact .inl q
      · exact .inr ⟨q.1, by omega⟩
    · rintro (q | q)
      · exact .inl q
      · exact .inr ⟨q.1, by have := fun r => this ⟨q.1, r⟩; omega⟩

/-- of how many of the first it holds -/
def cnt (P : Nat → Bool) : Nat → Nat
  | 0 => 0
  | k + 1 => cnt P k + (if P k then 1 else 0)
theorem cnt_le (P : Nat → Bool) (k : Nat) : cnt P k ≤ k := by
  induction k with
  | zero => exact Nat.le_refl _
  | succ k ih => unfold cnt; split <;> omega
theorem cnt_range (P : Nat → Bool) (k : Nat) : cnt P k = (List.range k).countP P := by
  induction k with
  | zero => rfl
  | succ k ih =>
    rw [List.range_succ, List.countP_append, ← ih]
    show cnt P k + (if P k then 1 else 0) = cnt P k + List.countP P [k]
    cases h : P k <;> simp [h]
theorem cnt_congr {P R : Nat → Bool} {k : Nat} (h : ∀ j, j < k → P j = R j) : cnt P k = cnt R k := by
  induction k with
  | zero => rfl
  | succ k ih =>
    unfold cnt
    rw [ih (fun j hj => h j (by omega)), h k (by omega)]
theorem cnt_none {P : Nat → Bool} {k : Nat} (h : ∀ j, j < k → P j = false) : cnt P k = 0 := by
  induction k with
  | zero => rfl
  | succ k ih =>
    unfold cnt
    rw [ih (fun j hj => h j (by omega)), h k (by omega)]; rfl
theorem cnt_add (P : Nat → Bool) (a b : Nat) : cnt P (a + b) = cnt P a + cnt (fun i => P (a + i)) b := by
  induction b with
  | zero => rfl
  | succ b ih =>
    show cnt P (a + b) + (if P (a + b) then 1 else 0) = cnt P a + (cnt (fun i => P (a + i)) b + (if P (a + b) then 1 else 0))
    rw [ih, Nat.add_assoc]
theorem cnt_one (P : Nat → Bool) (a k : Nat) (ha : a < k) : cnt (fun x => P x && (x == a)) k = if P a then 1 else 0 := by
  rw [show k = a + (1 + (k - a - 1)) by omega, cnt_add, cnt_add, cnt_none (k := a) (fun j hj => by
    rw [show (j == a) = false by simp; omega, Bool.and_false]), cnt_none (k := k - a - 1) (fun j hj => by
    rw [show (a + (1 + j) == a) = false by simp, Bool.and_false])]
  simp [cnt]
theorem all_there {l : List Nat} {n : Nat} (h1 : l.Nodup) (h2 : ∀ a ∈ l, a < n) (h3 : l.length = n) (a : Nat) (ha : a < n) : a ∈ l := by
  refine Classical.byContradiction fun hno => ?_
  have hd : (a :: l).Nodup := List.nodup_cons.2 ⟨hno, h1⟩
  have := List.Nodup.length_le_of_subset (l₂ := List.range n) hd (fun x hx => by
    rcases List.mem_cons.1 hx with e | e
    · subst e; simpa using ha
    · simpa using h2 x e)
  simp at this
  omega
/-- in another order as many hold -/
theorem cnt_perm (P : Nat → Bool) (s : Nat → Nat) (n : Nat) (hs : ∀ i, i < n → s i < n) (hi : ∀ i j, i < n → j < n → s i = s j → i = j) : cnt (fun i => P (s i)) n = cnt P n := by
  have hd : ((List.range n).map s).Nodup := by
    unfold List.Nodup
    rw [List.pairwise_map]
    refine List.Pairwise.imp_of_mem ?_ (List.nodup_range (n := n))
    intro a b ha hb hne e
    exact hne (hi a b (by simpa using ha) (by simpa using hb) e)
  have hm : ∀ a ∈ (List.range n).map s, a < n := fun a ha => by
    obtain ⟨i, h1, h2⟩ := List.mem_map.1 ha
    subst h2
    exact hs i (by simpa using h1)
  have hp : ((List.range n).map s).Perm (List.range n) := (List.perm_ext_iff_of_nodup hd List.nodup_range).2 fun a =>
    ⟨fun h => by simpa using hm a h, fun h => all_there hd hm (by simp) a (by simpa using h)⟩
  rw [cnt_range, cnt_range, ← hp.countP_eq P, List.countP_map]
  rfl
/-- what holds in a row, or in a column -/
def inF (f : Nat → Bool) (w : Nat) (c : Bool) (a j : Nat) : Bool := f j && (if c then j % w == a else j / w == a)
abbrev inN (f : Nat → Bool) (w : Nat) (c : Bool) (a k : Nat) : Nat := cnt (inF f w c a) k
theorem in_row (f : Nat → Bool) (w h a : Nat) (ha : a < h) : inN f w false a (w * h) = cnt (fun x => f (a * w + x)) w := by
  have low : ∀ y, y ≤ a → inN f w false a (w * y) = 0 := fun y hy => cnt_none fun j hj => by
    have : j / w < y := Nat.div_lt_of_lt_mul hj
    simp [inF]; intro _; omega
  induction h with
  | zero => omega
  | succ h ih =>
    unfold inN
    rw [show w * (h + 1) = w * h + w from rfl, cnt_add]
    by_cases e : a = h
    · subst e
      have := low a (Nat.le_refl _)
      unfold inN at this
      rw [this, Nat.zero_add]
      refine cnt_congr fun x hx => ?_
      rw [Nat.mul_comm w a]
      simp [inF, dm_div _ _ _ hx]
    · have i1 := ih (by omega)
      unfold inN at i1
      rw [i1, cnt_none (P := fun i => inF f w false a (w * h + i)) (k := w) (fun x hx => by
        rw [Nat.mul_comm w h]
        simp [inF, dm_div _ _ _ hx]
        intro _; omega), Nat.add_zero]
theorem in_col (f : Nat → Bool) (w h a : Nat) (ha : a < w) : inN f w true a (w * h) = cnt (fun y => f (y * w + a)) h := by
  induction h with
  | zero => rfl
  | succ h ih =>
    unfold inN at *
    rw [show w * (h + 1) = w * h + w from rfl, cnt_add, ih]
    show _ = cnt (fun y => f (y * w + a)) h + (if f (h * w + a) then 1 else 0)
    congr 1
    rw [← cnt_one (fun x => f (h * w + x)) a w ha]
    refine cnt_congr fun x hx => ?_
    rw [Nat.mul_comm w h]
    simp [inF, dm_mod _ _ _ hx]
/-- as many hold in each row, and as many in each column -/
def evB (f : Nat → Bool) (w h : Nat) : Bool := ((List.range h).all fun y => inN f w false y (w * h) == inN f w false 0 (w * h)) && ((List.range w).all fun x => inN f w true x (w * h) == inN f w true 0 (w * h))

theorem mul_inj (n m y z : Nat) (hg : Nat.gcd n m = 1) (hy : y < n) (hz : z < n) (h : y * m % n = z * m % n) : y = z := by
  have key : ∀ y z, y < n → z < y → y * m % n = z * m % n → False := fun y z hy hz h => by
    have h1 := Nat.sub_mod_eq_zero_of_mod_eq h
    rw [← Nat.sub_mul] at h1
    have h2 : n ∣ y - z := Nat.Coprime.dvd_of_dvd_mul_right hg (Nat.dvd_of_mod_eq_zero h1)
    have := Nat.le_of_dvd (by omega) h2
    omega
  rcases Nat.lt_trichotomy y z with c | c | c
  · exact (key z y hz c h.symm).elim
  · exact c
  · exact (key y z hy c h).elim
theorem bk_inj2 (n m y z a : Nat) (hg : Nat.gcd n m = 1) (ha : a < n) (hy : y < n) (hz : z < n) (h : bk n m y a = bk n m z a) : y = z := by
  refine mul_inj n m y z hg hy hz ?_
  have h1 := Nat.mod_lt (y * m) (show 0 < n by omega)
  have h2 := Nat.mod_lt (z * m) (show 0 < n by omega)
  rw [bk_eq _ _ _ _ ha, bk_eq _ _ _ _ ha] at h
  generalize y * m % n = u at *
  generalize z * m % n = v at *
  split at h <;> split at h <;> omega
/-- a twill whose move has no divisor with its width goes on evenly -/
theorem even_twill (p : Nat → Bool) (n m : Nat) (hg : Nat.gcd n m = 1) : evB (wvF p n m) n n = true := by
  have hr : ∀ a, a < n → inN (wvF p n m) n false a (n * n) = cnt p n := fun a ha => by
    rw [in_row _ _ _ _ ha, cnt_congr (R := fun x => p (bk n m a x)) (fun x hx => wv_at p n m a x hx)]
    exact cnt_perm p _ n (fun i hi => bk_lt _ _ _ _ (by omega)) (fun i j hi hj e => bk_inj n m a i j hi hj e)
  have hc : ∀ a, a < n → inN (wvF p n m) n true a (n * n) = cnt p n := fun a ha => by
    rw [in_col _ _ _ _ ha, cnt_congr (R := fun y => p (bk n m y a)) (fun y hy => wv_at p n m y a ha)]
    exact cnt_perm p (fun y => bk n m y a) n (fun i hi => bk_lt _ _ _ _ (by omega)) (fun i j hi hj e => bk_inj2 n m i j a hg ha hi hj e)
  unfold evB
  simp only [Bool.and_eq_true, List.all_eq_true, beq_iff_eq]
  refine ⟨fun y hy => ?_, fun x hx => ?_⟩
  · have hy' : y < n := by simpa using hy
    rw [hr y hy', hr 0 (by omega)]
  · have hx' : x < n := by simpa using hx
    rw [hc x hx', hc 0 (by omega)]

/-- the moves of satins, up to a bound -/
def mvP (e k : Nat) : List Nat := (List.range k).filter fun m => decide (2 ≤ m) && decide (Nat.gcd e m = 1)
abbrev mvL (e : Nat) : List Nat := mvP e (max 2 (e - 1))
theorem mvP_two (e : Nat) : mvP e 2 = [] := by simp [mvP, List.range_succ]
theorem mvP_yes (e k : Nat) (h2 : 2 ≤ k) (h : Nat.gcd e k = 1) : mvP e (k + 1) = mvP e k ++ [k] := by
  unfold mvP; rw [List.range_succ, List.filter_append]; simp [h2, h]
theorem mvP_no (e k : Nat) (h : ¬ Nat.gcd e k = 1) : mvP e (k + 1) = mvP e k := by
  unfold mvP; rw [List.range_succ, List.filter_append]; simp [h]
theorem mvP_len (e k : Nat) : (mvP e k).length ≤ k := by
  have := List.length_filter_le (fun m => decide (2 ≤ m) && decide (Nat.gcd e m = 1)) (List.range k)
  unfold mvP; simpa using this
theorem mem_mvL (e m : Nat) : m ∈ mvL e ↔ 2 ≤ m ∧ m + 2 ≤ e ∧ Nat.gcd e m = 1 := by
  unfold mvL mvP
  simp only [List.mem_filter, List.mem_range, Bool.and_eq_true, decide_eq_true_eq]
  omega
/-- a satin's move -/
def saB (e m : Int) : Bool := decide (2 ≤ m) && decide (m + 2 ≤ e) && decide (Nat.gcd e.toNat m.toNat = 1)
theorem saB_nat (e m : Nat) : saB e m = decide (m ∈ mvL e) := by
  rw [Bool.eq_iff_iff]
  simp only [saB, Bool.and_eq_true, decide_eq_true_eq, mem_mvL, Int.toNat_natCast]
  omega
theorem saB_any (e : Nat) (m : Int) : ((mvL e).any fun u => m == (u : Int)) = saB e m := by
  rw [Bool.eq_iff_iff, List.any_eq_true]
  constructor
  · rintro ⟨u, hu, h⟩
    rw [beq_iff_eq] at h
    subst h
    rw [saB_nat]; simpa using hu
  · intro h
    have h2 : 2 ≤ m := by simp [saB] at h; omega
    obtain ⟨u, rfl⟩ := Int.eq_ofNat_of_zero_le (show 0 ≤ m by omega)
    rw [saB_nat] at h
    exact ⟨u, by simpa using h, by simp⟩
end Go.Proofs.Ytpefcpbkdofblaa
