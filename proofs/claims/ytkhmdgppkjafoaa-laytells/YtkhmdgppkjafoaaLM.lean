/-
  Pieces in shelves: the mathematics of chapter 16.
-/
import Derived.Test.YtkhmdgppkjafoaaStM
namespace Go.Proofs.Ytkhmdgppkjafoaa

/-- may such a piece be laid on cloth so wide? -/
def PcOk (wide a b : Int) : Prop := 1 ≤ a ∧ a ≤ wide ∧ 1 ≤ b ∧ b ≤ 1048576
instance (wide a b : Int) : Decidable (PcOk wide a b) := inferInstanceAs (Decidable (_ ∧ _ ∧ _ ∧ _))
/-- what is wrong -/
def wE (wide : Int) (n : Nat) (a b : Nat → Int) : Int := if wide < 1 ∨ 1048576 < wide then 3 else if 256 < n then 5 else if ∀ k, k < n → PcOk wide (a k) (b k) then 0 else 3
/-- right cloth, right pieces -/
structure Rg (W n : Nat) (w h : Nat → Nat) : Prop where
  wide : 1 ≤ W ∧ W ≤ 1048576
  many : n ≤ 256
  each : ∀ k, k < n → 1 ≤ w k ∧ w k ≤ W ∧ 1 ≤ h k ∧ h k ≤ 1048576
theorem wE_ok {wide : Int} {n : Nat} {a b : Nat → Int} (h : wE wide n a b = 0) : ∃ (W : Nat) (w l : Nat → Nat), wide = (W : Int) ∧ (∀ k, k < n → a k = (w k : Int) ∧ b k = (l k : Int)) ∧ Rg W n w l := by
  unfold wE at h
  split at h
  · omega
  · rename_i h1
    split at h
    · omega
    · rename_i h2
      split at h
      · rename_i h3
        refine ⟨wide.toNat, fun k => (a k).toNat, fun k => (b k).toNat, by omega, fun k hk => ?_, ⟨by omega, by omega, fun k hk => ?_⟩⟩
        · have := h3 k hk
          obtain ⟨p1, p2, p3, p4⟩ := this
          exact ⟨(Int.toNat_of_nonneg (by omega)).symm, (Int.toNat_of_nonneg (by omega)).symm⟩
        · have := h3 k hk
          obtain ⟨p1, p2, p3, p4⟩ := this
          show 1 ≤ (a k).toNat ∧ (a k).toNat ≤ wide.toNat ∧ 1 ≤ (b k).toNat ∧ (b k).toNat ≤ 1048576
          omega
      · omega
theorem wE_rg {W n : Nat} {w l : Nat → Nat} (r : Rg W n w l) : wE (W : Int) n (fun k => (w k : Int)) (fun k => (l k : Int)) = 0 := by
  unfold wE
  have h1 := r.wide
  have h2 := r.many
  rw [if_neg (by omega), if_neg (by omega), if_pos]
  intro k hk
  have := r.each k hk
  show (1 : Int) ≤ (w k : Int) ∧ (w k : Int) ≤ (W : Int) ∧ (1 : Int) ≤ (l k : Int) ∧ (l k : Int) ≤ 1048576
  omega
theorem wE_congr {wide : Int} {n : Nat} {a b a' b' : Nat → Int} (h : ∀ k, k < n → a k = a' k ∧ b k = b' k) : wE wide n a b = wE wide n a' b' := by
  have e : (∀ k, k < n → PcOk wide (a k) (b k)) ↔ (∀ k, k < n → PcOk wide (a' k) (b' k)) :=
    ⟨fun q k hk => by rw [← (h k hk).1, ← (h k hk).2]; exact q k hk, fun q k hk => by rw [(h k hk).1, (h k hk).2]; exact q k hk⟩
  unfold wE
  by_cases c : ∀ k, k < n → PcOk wide (a k) (b k)
  · rw [if_pos c, if_pos (e.1 c)]
  · rw [if_neg c, if_neg (fun q => c (e.2 q))]

/-- an order of pieces: the highest first, as high ones in their order -/
structure Srt (n : Nat) (h g : Nat → Nat) : Prop where
  lt : ∀ k, k < n → g k < n
  up : ∀ i j, i < j → j < n → h (g j) < h (g i) ∨ (h (g i) = h (g j) ∧ g i < g j)
theorem Srt.inj {n : Nat} {h g : Nat → Nat} (s : Srt n h g) {i j : Nat} (hi : i < n) (hj : j < n) (e : g i = g j) : i = j := by
  rcases Nat.lt_trichotomy i j with c | c | c
  · have := s.up i j c hj; rw [e] at this; omega
  · exact c
  · have := s.up j i c hi; rw [e] at this; omega
theorem Srt.mono {n : Nat} {h g : Nat → Nat} (s : Srt n h g) {i j : Nat} (hij : i ≤ j) (hj : j < n) : h (g j) ≤ h (g i) := by
  rcases Nat.eq_or_lt_of_le hij with c | c
  · rw [c]; exact Nat.le_refl _
  · have := s.up i j c hj; omega
/-- numbers below n, as many as n and no two alike, are all of them -/
theorem full {l : List Nat} {n : Nat} (h1 : l.Nodup) (h2 : ∀ x ∈ l, x < n) (h3 : n ≤ l.length) (a : Nat) (ha : a < n) : a ∈ l := by
  by_cases c : a ∈ l
  · exact c
  · have := List.Nodup.length_le_of_subset (l₂ := List.range n) (List.nodup_cons.2 ⟨c, h1⟩) (fun x hx => by
      rcases List.mem_cons.1 hx with e | e
      · subst e; simpa using ha
      · simpa using h2 x e)
    simp at this
    omega
theorem Srt.nodup {n : Nat} {h g : Nat → Nat} (s : Srt n h g) : ((List.range n).map g).Nodup := by
  unfold List.Nodup
  rw [List.pairwise_map]
  refine List.Pairwise.imp_of_mem ?_ (List.nodup_range (n := n))
  intro a b ha hb hne e
  exact hne (s.inj (by simpa using ha) (by simpa using hb) e)
theorem Srt.lts {n : Nat} {h g : Nat → Nat} (s : Srt n h g) : ∀ a ∈ (List.range n).map g, a < n := fun a ha => by
  obtain ⟨i, h1, h2⟩ := List.mem_map.1 ha
  subst h2
  exact s.lt i (by simpa using h1)
/-- every piece has its turn -/
theorem Srt.onto {n : Nat} {h g : Nat → Nat} (s : Srt n h g) {i : Nat} (hi : i < n) : ∃ k, k < n ∧ g k = i := by
  obtain ⟨k, h1, h2⟩ := List.mem_map.1 (full s.nodup s.lts (by simp) i hi)
  exact ⟨k, by simpa using h1, h2⟩

/-- shelves: what is used of the last one, where it begins, where the next one would -/
structure Sh where
  x : Nat
  f : Nat
  t : Nat
def Sh.lay (W w h : Nat) (s : Sh) : Sh := if W < s.x + w then ⟨w, s.t, s.t + h⟩ else ⟨s.x + w, s.f, s.t⟩
/-- the shelves when so many pieces are laid -/
def shs (W : Nat) (w h g : Nat → Nat) : Nat → Sh
  | 0 => ⟨W, 0, 0⟩
  | k + 1 => (shs W w h g k).lay W (w (g k)) (h (g k))
/-- where each one begins, of the first so many -/
def aX (W : Nat) (w h g : Nat → Nat) : Nat → Nat → Nat
  | 0, _ => 0
  | k + 1, i => if i = g k then (shs W w h g (k + 1)).x - w (g k) else aX W w h g k i
def aY (W : Nat) (w h g : Nat → Nat) : Nat → Nat → Nat
  | 0, _ => 0
  | k + 1, i => if i = g k then (shs W w h g (k + 1)).f else aY W w h g k i
theorem aXY_at {W n : Nat} {w h g : Nat → Nat} (s : Srt n h g) {m k : Nat} (hk : k < m) (hm : m ≤ n) : aX W w h g m (g k) = (shs W w h g (k + 1)).x - w (g k) ∧ aY W w h g m (g k) = (shs W w h g (k + 1)).f := by
  induction m with
  | zero => omega
  | succ m ih =>
    by_cases e : k = m
    · subst e; simp [aX, aY]
    · have hne : ¬ g k = g m := fun q => e (s.inj (by omega) (by omega) q)
      simp only [aX, aY, if_neg hne]
      exact ih (by omega) (by omega)

/-- what is known of shelves -/
structure Gd (W : Nat) (w h g : Nat → Nat) (k : Nat) : Prop where
  x : (shs W w h g k).x ≤ W
  last : k = 0 ∨ (shs W w h g k).f + h (g (k - 1)) ≤ (shs W w h g k).t
  top : ∀ j, j < k → (shs W w h g (j + 1)).f + h (g j) ≤ (shs W w h g k).t
  past : ∀ j, j < k → (shs W w h g (j + 1)).f + h (g j) ≤ (shs W w h g k).f ∨ ((shs W w h g (j + 1)).f = (shs W w h g k).f ∧ (shs W w h g (j + 1)).x ≤ (shs W w h g k).x)
  own : ∀ j, j < k → w (g j) ≤ (shs W w h g (j + 1)).x ∧ (shs W w h g (j + 1)).x ≤ W
  high : (shs W w h g k).f ≤ (shs W w h g k).t ∧ (shs W w h g k).t ≤ k * 1048576
theorem gd_any {W n : Nat} {w h g : Nat → Nat} (r : Rg W n w h) (s : Srt n h g) : ∀ k, k ≤ n → Gd W w h g k
  | 0, _ => ⟨Nat.le_refl _, .inl rfl, fun j hj => by omega, fun j hj => by omega, fun j hj => by omega, ⟨Nat.le_refl _, Nat.zero_le _⟩⟩
  | k + 1, hk => by
    have G := gd_any r s k (by omega)
    have hp := r.each (g k) (s.lt k (by omega))
    have hw := r.wide
    have h1 := G.x
    have h2 := G.high
    by_cases c : W < (shs W w h g k).x + w (g k)
    · have e : shs W w h g (k + 1) = ⟨w (g k), (shs W w h g k).t, (shs W w h g k).t + h (g k)⟩ := by rw [shs, Sh.lay, if_pos c]
      refine ⟨by rw [e]; exact hp.2.1, .inr (by rw [e]; simp), fun j hj => ?_, fun j hj => ?_, fun j hj => ?_, by rw [e]; simp only []; omega⟩
      · by_cases ej : j = k
        · subst ej; rw [e]; exact Nat.le_refl _
        · have := G.top j (by omega)
          rw [e]; simp only []; omega
      · by_cases ej : j = k
        · subst ej; exact .inr ⟨rfl, Nat.le_refl _⟩
        · have := G.top j (by omega)
          rw [e]; exact .inl this
      · by_cases ej : j = k
        · subst ej; rw [e]; exact ⟨Nat.le_refl _, hp.2.1⟩
        · exact G.own j (by omega)
    · have e : shs W w h g (k + 1) = ⟨(shs W w h g k).x + w (g k), (shs W w h g k).f, (shs W w h g k).t⟩ := by rw [shs, Sh.lay, if_neg c]
      have hl : (shs W w h g k).f + h (g k) ≤ (shs W w h g k).t := by
        rcases G.last with q | q
        · subst q; simp [shs] at c; omega
        · by_cases q0 : k = 0
          · subst q0; simp [shs] at c; omega
          · have := s.mono (i := k - 1) (j := k) (by omega) (by omega)
            omega
      refine ⟨by rw [e]; simp only []; omega, .inr (by rw [e]; simpa using hl), fun j hj => ?_, fun j hj => ?_, fun j hj => ?_, by rw [e]; exact ⟨h2.1, Nat.le_trans h2.2 (Nat.mul_le_mul_right _ (Nat.le_succ _))⟩⟩
      · by_cases ej : j = k
        · subst ej; rw [e]; exact hl
        · have := G.top j (by omega)
          rw [e]; exact this
      · by_cases ej : j = k
        · subst ej; exact .inr ⟨rfl, Nat.le_refl _⟩
        · rcases G.past j (by omega) with q | q
          · rw [e]; exact .inl q
          · rw [e]; exact .inr ⟨q.1, by simp only []; omega⟩
      · by_cases ej : j = k
        · subst ej; rw [e]; simp only []; omega
        · exact G.own j (by omega)
/-- of two pieces the one that is laid later lies behind, or on a higher shelf -/
theorem gd_pair {W n : Nat} {w h g : Nat → Nat} (r : Rg W n w h) (s : Srt n h g) {i j : Nat} (hij : i < j) (hj : j < n) :
    (shs W w h g (i + 1)).f + h (g i) ≤ (shs W w h g (j + 1)).f ∨ (shs W w h g (i + 1)).x + w (g j) ≤ (shs W w h g (j + 1)).x := by
  have G := gd_any r s j (by omega)
  by_cases c : W < (shs W w h g j).x + w (g j)
  · have e : shs W w h g (j + 1) = ⟨w (g j), (shs W w h g j).t, (shs W w h g j).t + h (g j)⟩ := by rw [shs, Sh.lay, if_pos c]
    rw [e]; exact .inl (G.top i hij)
  · have e : shs W w h g (j + 1) = ⟨(shs W w h g j).x + w (g j), (shs W w h g j).f, (shs W w h g j).t⟩ := by rw [shs, Sh.lay, if_neg c]
    rw [e]
    rcases G.past i hij with q | q
    · exact .inl q
    · exact .inr (by simp only []; omega)

/-- does a piece lie on the cloth? -/
def InP (wide high a b x y : Int) : Prop := (0 ≤ x ∧ x < wide ∧ a ≤ wide - x) ∧ (0 ≤ y ∧ y < high ∧ b ≤ high - y)
instance (wide high a b x y : Int) : Decidable (InP wide high a b x y) := inferInstanceAs (Decidable ((_ ∧ _ ∧ _) ∧ (_ ∧ _ ∧ _)))
/-- do two pieces have a place in common? -/
def MtP (a b x y a' b' x' y' : Int) : Prop := x < x' + a' ∧ x' < x + a ∧ y < y' + b' ∧ y' < y + b
instance (a b x y a' b' x' y' : Int) : Decidable (MtP a b x y a' b' x' y') := inferInstanceAs (Decidable (_ ∧ _ ∧ _ ∧ _))
/-- do the pieces fit? -/
def FitP (wide high : Int) (n : Nat) (a b X Y : Nat → Int) : Prop := ∀ i, i < n → InP wide high (a i) (b i) (X i) (Y i) ∧ ∀ j, j < i → ¬ MtP (a i) (b i) (X i) (Y i) (a j) (b j) (X j) (Y j)
instance (wide high : Int) (n : Nat) (a b X Y : Nat → Int) : Decidable (FitP wide high n a b X Y) := inferInstanceAs (Decidable (∀ i, i < n → _))
theorem MtP.symm {a b x y a' b' x' y' : Int} (h : MtP a b x y a' b' x' y') : MtP a' b' x' y' a b x y := ⟨h.2.1, h.1, h.2.2.2, h.2.2.1⟩

theorem lay_in {W n : Nat} {w h g : Nat → Nat} (r : Rg W n w h) (s : Srt n h g) {i : Nat} (hi : i < n) : aX W w h g n i + w i ≤ W ∧ aY W w h g n i + h i ≤ (shs W w h g n).t := by
  obtain ⟨k, hk, rfl⟩ := s.onto hi
  have G := gd_any r s n (Nat.le_refl _)
  obtain ⟨e1, e2⟩ := aXY_at (W := W) (w := w) s hk (Nat.le_refl n)
  rw [e1, e2]
  have := G.own k hk
  exact ⟨by omega, G.top k hk⟩
theorem lay_apart {W n : Nat} {w h g : Nat → Nat} (r : Rg W n w h) (s : Srt n h g) {i j : Nat} (hi : i < n) (hj : j < n) (hne : i ≠ j) :
    aY W w h g n i + h i ≤ aY W w h g n j ∨ aY W w h g n j + h j ≤ aY W w h g n i ∨ aX W w h g n i + w i ≤ aX W w h g n j ∨ aX W w h g n j + w j ≤ aX W w h g n i := by
  obtain ⟨k, hk, rfl⟩ := s.onto hi
  obtain ⟨l, hl, rfl⟩ := s.onto hj
  have G := gd_any r s n (Nat.le_refl _)
  obtain ⟨e1, e2⟩ := aXY_at (W := W) (w := w) s hk (Nat.le_refl n)
  obtain ⟨e3, e4⟩ := aXY_at (W := W) (w := w) s hl (Nat.le_refl n)
  rw [e1, e2, e3, e4]
  have o1 := G.own k hk
  have o2 := G.own l hl
  rcases Nat.lt_trichotomy k l with c | c | c
  · have := gd_pair r s c hl
    omega
  · exact absurd (by rw [c]) hne
  · have := gd_pair r s c hk
    omega
/-- what is laid fits -/
theorem lay_fits {W n : Nat} {w h g : Nat → Nat} (r : Rg W n w h) (s : Srt n h g) : FitP (W : Int) ((shs W w h g n).t : Int) n (fun i => (w i : Int)) (fun i => (h i : Int)) (fun i => (aX W w h g n i : Int)) (fun i => (aY W w h g n i : Int)) := by
  intro i hi
  have h1 := lay_in r s hi
  have h2 := r.each i hi
  refine ⟨?_, fun j hj => ?_⟩
  · show (0 ≤ (aX W w h g n i : Int) ∧ (aX W w h g n i : Int) < (W : Int) ∧ (w i : Int) ≤ (W : Int) - (aX W w h g n i : Int)) ∧ (0 ≤ (aY W w h g n i : Int) ∧ (aY W w h g n i : Int) < ((shs W w h g n).t : Int) ∧ (h i : Int) ≤ ((shs W w h g n).t : Int) - (aY W w h g n i : Int))
    omega
  · have h3 := lay_apart r s hi (show j < n by omega) (by omega)
    rintro ⟨k1, k2, k3, k4⟩
    simp only at k1 k2 k3 k4
    omega

/-- sums -/
def sm (f : Nat → Nat) : Nat → Nat
  | 0 => 0
  | n + 1 => sm f n + f n
theorem sm_list (f : Nat → Nat) (n : Nat) : sm f n = ((List.range n).map f).sum := by
  induction n with
  | zero => rfl
  | succ n ih => rw [List.range_succ, List.map_append, List.sum_append, ← ih]; simp [sm]
theorem sm_perm {n : Nat} {h g : Nat → Nat} (s : Srt n h g) (f : Nat → Nat) : sm (fun k => f (g k)) n = sm f n := by
  have hp : ((List.range n).map g).Perm (List.range n) := (List.perm_ext_iff_of_nodup s.nodup List.nodup_range).2 fun a =>
    ⟨fun q => by simpa using s.lts a q, fun q => full s.nodup s.lts (by simp) a (by simpa using q)⟩
  rw [sm_list, sm_list]
  have := (hp.map f).sum_nat
  rw [List.map_map] at this
  exact this
theorem sm_le {f : Nat → Nat} {c : Nat} : ∀ n, (∀ k, k < n → f k ≤ c) → sm f n ≤ n * c
  | 0, _ => by simp [sm]
  | n + 1, h => by
    have h1 := sm_le n (fun k hk => h k (by omega))
    have h2 := h n (by omega)
    rw [Nat.add_mul, Nat.one_mul, sm]
    omega

/-- what the shelves have, against what the pieces have -/
structure Bd (W M : Nat) (w h g : Nat → Nat) (k : Nat) : Prop where
  ex : ∃ C, (shs W w h g (k + 1)).x * h (g k) ≤ C ∧ (shs W w h g (k + 1)).t * W + C ≤ M * W + 2 * sm (fun j => w (g j) * h (g j)) (k + 1) ∧
    sm (fun j => w (g j) * h (g j)) (k + 1) ≤ (shs W w h g (k + 1)).f * W + C ∧ C ≤ (shs W w h g (k + 1)).x * ((shs W w h g (k + 1)).t - (shs W w h g (k + 1)).f)
theorem bd_any {W n M : Nat} {w h g : Nat → Nat} (r : Rg W n w h) (s : Srt n h g) (hM : ∀ k, k < n → h k ≤ M) : ∀ k, k < n → Bd W M w h g k
  | 0, hk => by
    have hp := r.each (g 0) (s.lt 0 hk)
    have e : shs W w h g 1 = ⟨w (g 0), 0, h (g 0)⟩ := by
      rw [show shs W w h g 1 = Sh.lay W (w (g 0)) (h (g 0)) ⟨W, 0, 0⟩ from rfl, Sh.lay, if_pos (show W < W + w (g 0) by omega)]
      simp
    have h1 : h (g 0) * W ≤ M * W := Nat.mul_le_mul_right _ (hM _ (s.lt 0 hk))
    refine ⟨w (g 0) * h (g 0), ?_⟩
    rw [show 0 + 1 = 1 from rfl, e]
    simp only [sm, Nat.sub_zero]
    omega
  | k + 1, hk => by
    obtain ⟨C, c1, c2, c3, c4⟩ := (bd_any r s hM k (by omega)).ex
    have hp := r.each (g (k + 1)) (s.lt _ hk)
    have hm := s.mono (i := k) (j := k + 1) (by omega) hk
    have G := gd_any r s (k + 1) (by omega)
    have hx := G.x
    have hft := G.high.1
    have hl : (shs W w h g (k + 1)).f + h (g k) ≤ (shs W w h g (k + 1)).t := by
      rcases G.last with q | q
      · omega
      · simpa using q
    have es : sm (fun j => w (g j) * h (g j)) (k + 1 + 1) = sm (fun j => w (g j) * h (g j)) (k + 1) + w (g (k + 1)) * h (g (k + 1)) := rfl
    have eS : shs W w h g (k + 1 + 1) = (shs W w h g (k + 1)).lay W (w (g (k + 1))) (h (g (k + 1))) := rfl
    refine ⟨?_⟩
    rw [es, eS]
    clear es eS
    generalize sm (fun j => w (g j) * h (g j)) (k + 1) = A at *
    generalize shs W w h g (k + 1) = S at *
    obtain ⟨x, f, t⟩ := S
    simp only at c1 c2 c3 c4 hx hft hl
    generalize w (g (k + 1)) = a at *
    generalize h (g (k + 1)) = b at *
    generalize h (g k) = p at *
    have m1 : x * b ≤ x * p := Nat.mul_le_mul_left _ hm
    by_cases c : W < x + a
    · rw [Sh.lay, if_pos c]
      refine ⟨a * b, ?_⟩
      simp only
      have m2 : W * b ≤ (x + a) * b := Nat.mul_le_mul_right _ (by omega)
      have m3 : x * (t - f) ≤ W * (t - f) := Nat.mul_le_mul_right _ hx
      have m4 : W * (t - f) + f * W = t * W := by rw [Nat.mul_comm f W, ← Nat.mul_add, Nat.sub_add_cancel hft, Nat.mul_comm]
      rw [Nat.add_mul] at m2
      rw [Nat.add_mul, Nat.add_sub_cancel_left, Nat.mul_comm b W]
      omega
    · rw [Sh.lay, if_neg c]
      refine ⟨C + a * b, ?_⟩
      simp only
      have m2 : a * b ≤ a * (t - f) := Nat.mul_le_mul_left _ (by omega)
      rw [Nat.add_mul, Nat.add_mul]
      omega
/-- never much cloth is lost -/
theorem lay_bound {W n M : Nat} {w h g : Nat → Nat} (r : Rg W n w h) (s : Srt n h g) (hM : ∀ k, k < n → h k ≤ M) :
    (shs W w h g n).t * W ≤ 2 * sm (fun i => w i * h i) n + M * W ∧ sm (fun i => w i * h i) n ≤ (shs W w h g n).t * W := by
  rw [← sm_perm s]
  rcases n with _ | k
  · simp [shs, sm]
  · obtain ⟨C, c1, c2, c3, c4⟩ := (bd_any r s hM k (by omega)).ex
    have G := gd_any r s (k + 1) (Nat.le_refl _)
    have hx := G.x
    have hft := G.high.1
    generalize shs W w h g (k + 1) = S at *
    obtain ⟨x, f, t⟩ := S
    simp only at *
    have m3 : x * (t - f) ≤ W * (t - f) := Nat.mul_le_mul_right _ hx
    have m4 : W * (t - f) + f * W = t * W := by rw [Nat.mul_comm f W, ← Nat.mul_add, Nat.sub_add_cancel hft, Nat.mul_comm]
    omega
end Go.Proofs.Ytkhmdgppkjafoaa
