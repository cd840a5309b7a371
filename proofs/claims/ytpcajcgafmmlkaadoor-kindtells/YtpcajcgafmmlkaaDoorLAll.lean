/-
  Plain facts about the steps that keep a pattern: the two finest ones make them all. No Go in sight but for the definitions.
-/
import Derived.Test.YtpcajcgafmmlkaaDoorHB
import Derived.Test.YtpcajcgafmmlkaaDoorMA
import Derived.Test.YtpcajcgafmmlkaaDoorHC
import Derived.Test.YtpcajcgafmmlkaaDoorGJ
import Derived.Test.YtpcajcgafmmlkaaDoorGL
namespace Go.Proofs.YtpcajcgafmmlkaaDoor
open Go.RowKit

/-- a step keeps a pattern -/
def St (P : Int → Int → Int) (u v : Int) : Prop := ∀ x y : Int, P x y = P (x + u) (y + v)
theorem mv_step (g u v x y : Int) : mv g 0 false u v x y = (x + u, y + v) := by simp [mv, tu, mi]
theorem kp_step (P : Int → Int → Int) (g u v : Int) : Kp P g 0 false u v ↔ St P u v := by
  unfold Kp St
  simp only [mv_step]
theorem St.add {P : Int → Int → Int} {u v u' v' : Int} (h : St P u v) (k : St P u' v') : St P (u + u') (v + v') := by
  intro x y
  rw [h x y, k (x + u) (y + v)]
  congr 1 <;> omega
theorem St.neg {P : Int → Int → Int} {u v : Int} (h : St P u v) : St P (-u) (-v) := by
  intro x y
  rw [h (x + -u) (y + -v)]
  congr 1 <;> omega
theorem St.zero (P : Int → Int → Int) : St P 0 0 := by intro x y; simp
theorem St.nmul {P : Int → Int → Int} {u v : Int} (h : St P u v) (n : Nat) : St P (n * u) (n * v) := by
  induction n with
  | zero => simpa using St.zero P
  | succ n ih =>
    have := ih.add h
    rwa [show (n : Int) * u + u = ((n + 1 : Nat) : Int) * u by rw [Int.natCast_add, Int.add_mul]; simp, show (n : Int) * v + v = ((n + 1 : Nat) : Int) * v by rw [Int.natCast_add, Int.add_mul]; simp] at this
theorem St.mul {P : Int → Int → Int} {u v : Int} (h : St P u v) (a : Int) : St P (a * u) (a * v) := by
  obtain ⟨n, rfl | rfl⟩ := Int.eq_nat_or_neg a
  · exact h.nmul n
  · have := (h.nmul n).neg
    rwa [← Int.neg_mul, ← Int.neg_mul] at this
theorem St.per {P : Int → Int → Int} {N : Nat} (hP : Per P N) (a b : Int) : St P (N * a) (N * b) := fun x y => (hP x y a b).symm
theorem St.mod {P : Int → Int → Int} {N : Nat} (hP : Per P N) (u v : Int) : St P (u % N) (v % N) ↔ St P u v := by
  have e1 := Int.emod_add_mul_ediv u N
  have e2 := Int.emod_add_mul_ediv v N
  constructor
  · intro h
    have := h.add (St.per hP (u / N) (v / N))
    rwa [e1, e2] at this
  · intro h
    have := h.add (St.per hP (-(u / N)) (-(v / N)))
    rwa [show u + N * -(u / N) = u % N by rw [Int.mul_neg]; omega, show v + N * -(v / N) = v % N by rw [Int.mul_neg]; omega] at this
theorem stepK_iff (w h N : Nat) (px : Nat → Int) (g : Int) (x y : Nat) (hN : 1 ≤ N) : stepK w h N px g x y = true ↔ St (pat w h N px) x y := by
  unfold stepK
  rw [kpV_iff w h N px g 0 false _ _ hN, kp_step]

/-- what the two finest steps are -/
structure Fine (P : Int → Int → Int) (N s u v : Nat) : Prop where
  hs : 1 ≤ s ∧ s ≤ N
  hv : 1 ≤ v ∧ v ≤ N
  hu : u < s
  st1 : St P s 0
  st2 : St P u v
  no1 : ∀ x : Nat, 1 ≤ x → x < s → ¬ St P x 0
  no2 : ∀ y : Nat, 1 ≤ y → y < v → ∀ x : Nat, x < s → ¬ St P x y
theorem fine_of (w h N : Nat) (px : Nat → Int) (g : Int) (s u v : Nat) (hN : 1 ≤ N) (h1 : SideIs (stepK w h N px g) N s) (h2 : UpIs (stepK w h N px g) N s u v) : Fine (pat w h N px) N s u v := by
  have hP := pat_per w h N px
  obtain ⟨a1, a2, a3⟩ := h1
  obtain ⟨b1, b2, -, b4⟩ := h2
  refine ⟨a1, ⟨b1.1, b1.2.1⟩, b1.2.2, ?_, ?_, fun x hx hs k => ?_, fun y hy hv x hx k => ?_⟩
  · rcases a3 with rfl | a3
    · have := St.per hP 1 0
      simpa using this
    · exact (stepK_iff w h N px g s 0 hN).1 a3
  · rcases b4 with ⟨-, b4⟩ | ⟨rfl, rfl⟩
    · exact (stepK_iff w h N px g u v hN).1 b4
    · have := St.per hP 0 1
      simpa using this
  · have := (stepK_iff w h N px g x 0 hN).2 k
    rw [a2 x hx hs] at this
    cases this
  · have := (stepK_iff w h N px g x y hN).2 k
    rw [b2 y hy hv x hx] at this
    cases this
/-- the two finest steps make all steps -/
theorem Fine.all {P : Int → Int → Int} {N s u v : Nat} (h : Fine P N s u v) (x y : Int) : St P x y ↔ y % v = 0 ∧ (x - y / v * u) % s = 0 := by
  have hs := h.hs
  have hv := h.hv
  constructor
  · intro k
    have ey := Int.emod_add_mul_ediv y v
    have ex := Int.emod_add_mul_ediv (x - y / v * u) s
    have k1 := k.add (h.st2.mul (-(y / v)))
    have k2 := k1.add (h.st1.mul (-((x - y / v * u) / s)))
    rw [show x + -(y / v) * u + -((x - y / v * u) / s) * s = (x - y / v * u) % s by rw [Int.neg_mul, Int.neg_mul, Int.mul_comm _ (s : Int)]; omega, show y + -(y / v) * v + -((x - y / v * u) / s) * 0 = y % v by rw [Int.neg_mul, Int.mul_comm _ (v : Int)]; omega] at k2
    have n1 := Int.emod_nonneg (x - y / v * u) (show (s : Int) ≠ 0 by omega)
    have n2 := Int.emod_nonneg y (show (v : Int) ≠ 0 by omega)
    have l1 := Int.emod_lt_of_pos (x - y / v * u) (show (0 : Int) < s by omega)
    have l2 := Int.emod_lt_of_pos y (show (0 : Int) < v by omega)
    generalize (x - y / v * u) % s = a at *
    generalize y % v = b at *
    obtain ⟨a, rfl⟩ := Int.eq_ofNat_of_zero_le n1
    obtain ⟨b, rfl⟩ := Int.eq_ofNat_of_zero_le n2
    have hb : b = 0 := by
      rcases Nat.eq_zero_or_pos b with e | e
      · exact e
      · exact absurd k2 (h.no2 b e (by omega) a (by omega))
    subst hb
    refine ⟨rfl, ?_⟩
    rcases Nat.eq_zero_or_pos a with e | e
    · rw [e]; rfl
    · exact absurd k2 (h.no1 a e (by omega))
  · rintro ⟨h1, h2⟩
    have ey := Int.emod_add_mul_ediv y v
    have ex := Int.emod_add_mul_ediv (x - y / v * u) s
    have := (h.st2.mul (y / v)).add (h.st1.mul ((x - y / v * u) / s))
    rwa [show y / v * u + (x - y / v * u) / s * s = x by rw [Int.mul_comm _ (s : Int)]; omega, show y / v * v + (x - y / v * u) / s * 0 = y by rw [Int.mul_comm _ (v : Int)]; omega] at this
theorem Fine.dvd {P : Int → Int → Int} {N s u v : Nat} (hP : Per P N) (h : Fine P N s u v) : v ∣ N ∧ s ∣ N := by
  have a := (h.all 0 N).1 (by have := St.per hP 0 1; simpa using this)
  have b := (h.all N 0).1 (by have := St.per hP 1 0; simpa using this)
  have b2 := b.2
  simp at b2
  exact ⟨by have := Int.dvd_of_emod_eq_zero a.1; exact Int.natCast_dvd_natCast.1 this, Int.natCast_dvd_natCast.1 (Int.dvd_of_emod_eq_zero b2)⟩
end Go.Proofs.YtpcajcgafmmlkaaDoor

namespace Go.Proofs.YtpcajcgafmmlkaaDoor
open Go.RowKit

/-- how many numbers below M are such -/
def Cn (p : Nat → Bool) (M : Nat) : Nat := ((List.range M).filter p).length
theorem Cn_succ (p : Nat → Bool) (M : Nat) : Cn p (M + 1) = Cn p M + (if p M = true then 1 else 0) := by
  unfold Cn
  rw [List.range_succ, List.filter_append, List.length_append]
  by_cases h : p M = true <;> simp [h]
theorem Cn_add (p : Nat → Bool) (a b : Nat) : Cn p (a + b) = Cn p a + Cn (fun i => p (a + i)) b := by
  induction b with
  | zero => simp [Cn]
  | succ b ih => rw [← Nat.add_assoc, Cn_succ, Cn_succ, ih]; omega
theorem Cn_congr (p q : Nat → Bool) (M : Nat) (h : ∀ i, i < M → p i = q i) : Cn p M = Cn q M := by
  induction M with
  | zero => simp [Cn]
  | succ M ih => rw [Cn_succ, Cn_succ, ih (fun i hi => h i (by omega)), h M (by omega)]
theorem Cn_none (M : Nat) : Cn (fun _ => false) M = 0 := by simp [Cn]
theorem Cn_one (i0 M : Nat) : Cn (fun i => i == i0) M = if i0 < M then 1 else 0 := by
  induction M with
  | zero => simp [Cn]
  | succ M ih =>
    rw [Cn_succ, ih]
    simp only [beq_iff_eq]
    split <;> split <;> split <;> omega
/-- of s numbers in a row one is what another one is, but for s -/
theorem Cn_res (s : Nat) (c : Int) (hs : 1 ≤ s) : Cn (fun i => decide (((i : Int) - c) % s = 0)) s = 1 := by
  have n1 := Int.emod_nonneg c (show (s : Int) ≠ 0 by omega)
  have l1 := Int.emod_lt_of_pos c (show (0 : Int) < s by omega)
  rw [Cn_congr _ (fun i => i == (c % s).toNat) s ?_, Cn_one, if_pos (by omega)]
  intro i hi
  rw [Bool.eq_iff_iff]
  simp only [decide_eq_true_eq, beq_iff_eq]
  rw [← Int.emod_eq_emod_iff_emod_sub_eq_zero, Int.emod_eq_of_lt (by omega) (by omega)]
  omega
theorem Cn_row (s d : Nat) (c : Int) (hs : 1 ≤ s) : Cn (fun i => decide (((i : Int) - c) % s = 0)) (s * d) = d := by
  induction d with
  | zero => simp [Cn]
  | succ d ih =>
    rw [Nat.mul_succ, Cn_add, ih, Cn_congr _ (fun i => decide (((i : Int) - c) % s = 0)) s ?_, Cn_res s c hs]
    intro i _
    congr 2
    rw [show (((s * d + i : Nat) : Int) - c) = (i - c) + s * d by push_cast; omega, Int.add_mul_emod_self_left]
/-- the steps on the torus -/
theorem Fine.count {P : Int → Int → Int} {N s u v : Nat} (hN : 1 ≤ N) (hP : Per P N) (h : Fine P N s u v) (p : Nat → Bool) (hp : ∀ j, p j = true ↔ St P ((j % N : Nat) : Int) ((j / N : Nat) : Int)) : Cn p (N * N) * s * v = N * N := by
  obtain ⟨⟨e, he⟩, ⟨d, hd⟩⟩ := h.dvd hP
  have row : ∀ Y, Cn (fun i => p (N * Y + i)) N = if Y % v = 0 then d else 0 := by
    intro Y
    have key : ∀ i, i < N → (p (N * Y + i) = true ↔ ((Y : Int) % v = 0 ∧ ((i : Int) - (Y : Int) / v * u) % s = 0)) := by
      intro i hi
      rw [hp, h.all, Nat.mul_add_mod, Nat.mod_eq_of_lt hi, Nat.mul_add_div (by omega), Nat.div_eq_of_lt hi, Nat.add_zero]
    by_cases hy : Y % v = 0
    · rw [if_pos hy, Cn_congr _ (fun i => decide (((i : Int) - (Y : Int) / v * u) % s = 0)) N ?_]
      · have := Cn_row s d ((Y : Int) / v * u) h.hs.1
        rwa [← hd] at this
      · intro i hi
        rw [Bool.eq_iff_iff, key i hi, decide_eq_true_eq]
        exact ⟨fun k => k.2, fun k => ⟨by rw [← Int.natCast_emod, hy]; rfl, k⟩⟩
    · rw [if_neg hy, Cn_congr _ (fun _ => false) N ?_, Cn_none]
      intro i hi
      rw [Bool.eq_iff_iff, key i hi]
      constructor
      · intro k
        have := k.1
        rw [← Int.natCast_emod] at this
        omega
      · intro k; cases k
  have tot : ∀ Y, Cn p (N * Y) = d * Cn (fun y => decide (((y : Int) - 0) % v = 0)) Y := by
    intro Y
    induction Y with
    | zero => simp [Cn]
    | succ Y ih =>
      rw [Nat.mul_succ, Cn_add, ih, row Y, Cn_succ, Nat.mul_add]
      congr 1
      by_cases hy : Y % v = 0
      · rw [if_pos hy, if_pos (by simp only [Int.sub_zero, decide_eq_true_eq]; rw [← Int.natCast_emod, hy]; rfl), Nat.mul_one]
      · rw [if_neg hy, if_neg (by simp only [Int.sub_zero, decide_eq_true_eq]; rw [← Int.natCast_emod]; omega), Nat.mul_zero]
  have c1 := Cn_row v e 0 h.hv.1
  rw [← he] at c1
  rw [tot N, c1]
  calc d * e * s * v = (s * d) * (v * e) := by rw [Nat.mul_comm s d, Nat.mul_comm v e, Nat.mul_assoc d e s, Nat.mul_comm e s, ← Nat.mul_assoc d s e, Nat.mul_assoc (d * s) e v]
    _ = N * N := by rw [← hd, ← he]

/-! ### one coset for each turn and flip -/
theorem kp_apart {P : Int → Int → Int} {g : Int} {t : Nat} {f : Bool} {u v u' v' : Int} (hg : g = 4 ∨ g = 6) (ht : (t : Int) < g) (h : Kp P g t f u v) (k : Kp P g t f u' v') : St P (u' - u) (v' - v) := by
  intro x y
  have a := mv_back g t f u v x y hg ⟨by omega, ht⟩
  rw [Int.toNat_natCast] at a
  have b := h (mv g (bt g t f).toNat f (iP g t f u v).1 (iP g t f u v).2 x y).1 (mv g (bt g t f).toNat f (iP g t f u v).1 (iP g t f u v).2 x y).2
  have c := k (mv g (bt g t f).toNat f (iP g t f u v).1 (iP g t f u v).2 x y).1 (mv g (bt g t f).toNat f (iP g t f u v).1 (iP g t f u v).2 x y).2
  rw [a] at b
  rw [b] at c
  rw [c]
  rw [mv_li] at a ⊢
  have a1 := congrArg Prod.fst a
  have a2 := congrArg Prod.snd a
  simp only at a1 a2
  simp only
  congr 1 <;> omega
theorem kp_then {P : Int → Int → Int} {g : Int} {t : Nat} {f : Bool} {u v a b : Int} (h : Kp P g t f u v) (k : St P a b) : Kp P g t f (u + a) (v + b) := by
  intro x y
  rw [h x y, k, mv_li, mv_li]
  simp only
  congr 1 <;> omega
theorem keepsK_iff (w h N : Nat) (px : Nat → Int) (g : Int) (t : Nat) (f : Bool) (j : Nat) (hN : 1 ≤ N) : keepsK w h N px g t f j = true ↔ Kp (pat w h N px) g t f ((j % N : Nat) : Int) ((j / N : Nat) : Int) := by
  unfold keepsK
  exact kpV_iff w h N px g t f _ _ hN
theorem nat_mod {a b N : Nat} (h : ((a : Nat) : Int) % N = ((b : Nat) : Int) % N) (ha : a < N) (hb : b < N) : a = b := by
  rw [← Int.natCast_emod, ← Int.natCast_emod, Nat.mod_eq_of_lt ha, Nat.mod_eq_of_lt hb] at h
  omega
theorem coset_le {N : Nat} (hN : 1 ≤ N) (p q : Nat → Bool) (a b : Int)
    (h : ∀ x y : Int, ∀ j, p j = true → ((j % N : Nat) : Int) + a = x → ((j / N : Nat) : Int) + b = y → q (cby N x y 0 0) = true) : Cn p (N * N) ≤ Cn q (N * N) := by
  unfold Cn
  refine inj_len (fun j => cby N (((j % N : Nat) : Int) + a) (((j / N : Nat) : Int) + b) 0 0) _ _ (List.nodup_range.filter _) ?_ ?_
  · intro j hj
    rw [List.mem_filter, List.mem_range] at hj ⊢
    exact ⟨(cby_lt N _ _ 0 0 hN).1, h _ _ j hj.2 rfl rfl⟩
  · intro i hi j hj e
    rw [List.mem_filter, List.mem_range] at hi hj
    have k1 := cby_mod N (((i % N : Nat) : Int) + a) (((i / N : Nat) : Int) + b) hN
    have k2 := cby_mod N (((j % N : Nat) : Int) + a) (((j / N : Nat) : Int) + b) hN
    rw [e] at k1
    have m1 := k1.1.symm.trans k2.1
    have m2 := k1.2.symm.trans k2.2
    rw [Int.emod_eq_emod_iff_emod_sub_eq_zero, show ((i % N : Nat) : Int) + a - (((j % N : Nat) : Int) + a) = ((i % N : Nat) : Int) - ((j % N : Nat) : Int) by omega, ← Int.emod_eq_emod_iff_emod_sub_eq_zero] at m1
    rw [Int.emod_eq_emod_iff_emod_sub_eq_zero, show ((i / N : Nat) : Int) + b - (((j / N : Nat) : Int) + b) = ((i / N : Nat) : Int) - ((j / N : Nat) : Int) by omega, ← Int.emod_eq_emod_iff_emod_sub_eq_zero] at m2
    have i1 := Nat.mod_lt i (show 0 < N by omega)
    have j1 := Nat.mod_lt j (show 0 < N by omega)
    have i2 : i / N < N := (Nat.div_lt_iff_lt_mul (by omega)).2 hi.1
    have j2 : j / N < N := (Nat.div_lt_iff_lt_mul (by omega)).2 hj.1
    rw [← Nat.div_add_mod i N, ← Nat.div_add_mod j N, nat_mod m1 i1 j1, nat_mod m2 i2 j2]
theorem coset (w h N : Nat) (px : Nat → Int) (g : Int) (t : Nat) (f : Bool) (hg : g = 4 ∨ g = 6) (ht : (t : Int) < g) (hN : 1 ≤ N) : Cn (keepsK w h N px g t f) (N * N) = 0 ∨ Cn (keepsK w h N px g t f) (N * N) = Cn (keepsK w h N px g 0 false) (N * N) := by
  have hP := pat_per w h N px
  by_cases hz : Cn (keepsK w h N px g t f) (N * N) = 0
  · exact Or.inl hz
  · right
    obtain ⟨j0, hj0⟩ : ∃ j0, keepsK w h N px g t f j0 = true := by
      unfold Cn at hz
      obtain ⟨j, hj⟩ := List.exists_mem_of_ne_nil (List.filter (keepsK w h N px g t f) (List.range (N * N))) (fun e => hz (by rw [e]; rfl))
      exact ⟨j, (List.mem_filter.1 hj).2⟩
    have k0 := (keepsK_iff w h N px g t f j0 hN).1 hj0
    refine Nat.le_antisymm (coset_le hN _ _ (-((j0 % N : Nat) : Int)) (-((j0 / N : Nat) : Int)) ?_) (coset_le hN _ _ ((j0 % N : Nat) : Int) ((j0 / N : Nat) : Int) ?_)
    · intro x y j hj hx hy
      have k := (keepsK_iff w h N px g t f j hN).1 hj
      have s := kp_apart hg ht k0 k
      rw [keepsK_iff w h N px g 0 false _ hN, kp_step]
      have m := cby_mod N x y hN
      rw [Int.natCast_emod, Int.natCast_ediv, m.1, m.2, St.mod hP, ← hx, ← hy]
      exact s
    · intro x y j hj hx hy
      have k := (keepsK_iff w h N px g 0 false j hN).1 hj
      rw [kp_step] at k
      have s := kp_then k0 k
      rw [keepsK_iff w h N px g t f _ hN]
      have m := cby_mod N x y hN
      rw [Int.natCast_emod, Int.natCast_ediv, m.1, m.2, ← hx, ← hy]
      refine Kp.cong hP ?_ ?_ s
      · rw [mod_mod]; congr 1; omega
      · rw [mod_mod]; congr 1; omega

/-! ### how many turns and flips there are, as they are counted one after another -/
def key (m : Mv) : Nat × Bool := (m.1, m.2.1)
/-- how often the turn or the flip is another one than just before -/
def kd (prev : Option (Nat × Bool)) : List Mv → Nat
  | [] => 0
  | m :: l => (if prev = some (key m) then 0 else 1) + kd (some (key m)) l
theorem kd_same (c : Nat × Bool) (B R : List Mv) (h : ∀ m ∈ B, key m = c) : kd (some c) (B ++ R) = kd (some c) R := by
  induction B with
  | nil => rfl
  | cons m B ih =>
    have hm := h m (by simp)
    simp only [List.cons_append, kd, hm]
    rw [ih (fun a ha => h a (by simp [ha]))]
    simp
theorem kd_block (prev : Option (Nat × Bool)) (c : Nat × Bool) (B R : List Mv) (h : ∀ m ∈ B, key m = c) (hB : B ≠ []) (hp : prev ≠ some c) : kd prev (B ++ R) = 1 + kd (some c) R := by
  cases B with
  | nil => exact absurd rfl hB
  | cons m B =>
    have hm := h m (by simp)
    simp only [List.cons_append, kd, hm]
    rw [kd_same c B R (fun a ha => h a (by simp [ha])), if_neg hp]
theorem kd_all (blk : Nat × Bool → List Mv) (c0 : Nat) (hc : 1 ≤ c0) : ∀ (ks : List (Nat × Bool)) (prev : Option (Nat × Bool)), ks.Nodup → (∀ c ∈ ks, prev ≠ some c) → (∀ c ∈ ks, ∀ m ∈ blk c, key m = c) → (∀ c ∈ ks, (blk c).length = 0 ∨ (blk c).length = c0) → kd prev (ks.flatMap blk) * c0 = (ks.flatMap blk).length := by
  intro ks
  induction ks with
  | nil => intro prev _ _ _ _; simp [kd]
  | cons c ks ih =>
    intro prev hn hp hk hl
    have hn' := List.nodup_cons.1 hn
    rw [List.flatMap_cons, List.length_append]
    rcases hl c (by simp) with e | e
    · rw [List.length_eq_zero_iff.1 e, List.nil_append, List.length_nil, Nat.zero_add]
      exact ih prev hn'.2 (fun d hd => hp d (by simp [hd])) (fun d hd => hk d (by simp [hd])) (fun d hd => hl d (by simp [hd]))
    · rw [kd_block prev c _ _ (hk c (by simp)) (fun k => by rw [k] at e; simp at e; omega) (hp c (by simp)), Nat.add_mul, Nat.one_mul, e]
      congr 1
      exact ih (some c) hn'.2 (fun d hd k => hn'.1 (by cases k; exact hd)) (fun d hd => hk d (by simp [hd])) (fun d hd => hl d (by simp [hd]))
theorem moves_count (w h N : Nat) (px : Nat → Int) (g : Int) (hg : g = 4 ∨ g = 6) (hN : 1 ≤ N) : kd none (movesL w h N px g) * Cn (keepsK w h N px g 0 false) (N * N) = (movesL w h N px g).length := by
  have e : movesL w h N px g = ((List.range 2).flatMap fun a => (List.range g.toNat).map fun t => (t, flipOf a)).flatMap fun c => rowM (keepsK w h N px g) N c.1 c.2 (N * N) := by
    unfold movesL allM turnsM
    rw [List.flatMap_assoc]
    simp only [List.flatMap_map]
  rw [e]
  have hpos : 1 ≤ Cn (keepsK w h N px g 0 false) (N * N) := by
    have hm : 0 ∈ (List.range (N * N)).filter (keepsK w h N px g 0 false) := by
      rw [List.mem_filter, List.mem_range]
      refine ⟨Nat.mul_pos hN hN, (keepsK_iff w h N px g 0 false 0 hN).2 ?_⟩
      rw [Nat.zero_mod, Nat.zero_div]
      exact kp_id _ g
    exact List.length_pos_of_mem hm
  refine kd_all _ _ hpos _ none ?_ (fun c _ k => by cases k) ?_ ?_
  · rcases hg with rfl | rfl <;> decide
  · rintro ⟨t, f⟩ _ m hm
    unfold rowM at hm
    rw [List.mem_map] at hm
    obtain ⟨j, _, rfl⟩ := hm
    rfl
  · rintro ⟨t, f⟩ hc
    simp only [List.mem_flatMap, List.mem_map, List.mem_range] at hc
    obtain ⟨a, _, t', ht', e'⟩ := hc
    cases e'
    have := coset w h N px g t (flipOf a) hg (by omega) hN
    unfold rowM
    rw [List.length_map]
    exact this
theorem lattice_count (w h N : Nat) (px : Nat → Int) (g : Int) (s u v : Nat) (hg : g = 4 ∨ g = 6) (hN : 1 ≤ N) (hf : Fine (pat w h N px) N s u v) : (movesL w h N px g).length * s * v = kd none (movesL w h N px g) * N * N := by
  have c := hf.count hN (pat_per w h N px) (keepsK w h N px g 0 false) (fun j => by rw [keepsK_iff w h N px g 0 false j hN, kp_step])
  have m := moves_count w h N px g hg hN
  generalize Cn (keepsK w h N px g 0 false) (N * N) = c0 at *
  rw [← m, Nat.mul_assoc (kd none (movesL w h N px g)) N N, ← c, Nat.mul_assoc, Nat.mul_assoc, Nat.mul_assoc]
end Go.Proofs.YtpcajcgafmmlkaaDoor

namespace Go.Proofs.YtpcajcgafmmlkaaDoor
open Go.RowKit

/-- turn and flip of the move ahead of the k-th -/
def pv (L : List Mv) : Nat → Option (Nat × Bool)
  | 0 => none
  | k + 1 => (L[k]?).map key

theorem kd_new (prev : Option (Nat × Bool)) (m : Mv) (l : List Mv) (h : prev ≠ some (key m)) : kd prev (m :: l) = 1 + kd (some (key m)) l := by simp [kd, h]
theorem kd_old (m : Mv) (l : List Mv) : kd (some (key m)) (m :: l) = kd (some (key m)) l := by simp [kd]

end Go.Proofs.YtpcajcgafmmlkaaDoor

namespace Go.Proofs.YtpcajcgafmmlkaaDoor
open Go.RowKit

theorem least (p : Nat → Prop) (h : ∃ n, p n) : ∃ n, p n ∧ ∀ m, m < n → ¬ p m := by
  obtain ⟨n, hn⟩ := h
  induction n using Nat.strongRecOn with
  | ind n ih =>
    by_cases hh : ∃ m, m < n ∧ p m
    · obtain ⟨m, hm, pm⟩ := hh
      exact ih m hm pm
    · exact ⟨n, hn, fun m hm pm => hh ⟨m, hm, pm⟩⟩
theorem bfalse {b : Bool} (h : ¬ b = true) : b = false := by cases b <;> simp_all
theorem side_ex (K : Nat → Nat → Bool) (N : Nat) (hN : 1 ≤ N) : ∃ s, SideIs K N s := by
  obtain ⟨s, hs, hl⟩ := least (fun s => 1 ≤ s ∧ (s = N ∨ K s 0 = true)) ⟨N, hN, Or.inl rfl⟩
  have h2 : s ≤ N := by
    rcases Nat.lt_or_ge N s with h | h
    · exact absurd ⟨hN, Or.inl rfl⟩ (hl N h)
    · exact h
  exact ⟨s, ⟨hs.1, h2⟩, fun x hx hxs => bfalse (fun k => hl x hxs ⟨hx, Or.inr k⟩), hs.2⟩
theorem up_ex (K : Nat → Nat → Bool) (N s : Nat) (hN : 1 ≤ N) (hs : 1 ≤ s) : ∃ u v, UpIs K N s u v := by
  obtain ⟨v, hv, hl⟩ := least (fun v => 1 ≤ v ∧ (v = N ∨ ∃ x, x < s ∧ K x v = true)) ⟨N, hN, Or.inl rfl⟩
  have h2 : v ≤ N := by
    rcases Nat.lt_or_ge N v with h | h
    · exact absurd ⟨hN, Or.inl rfl⟩ (hl N h)
    · exact h
  have no : ∀ y, 1 ≤ y → y < v → ∀ x, x < s → K x y = false := fun y hy hyv x hx => bfalse (fun k => hl y hyv ⟨hy, Or.inr ⟨x, hx, k⟩⟩)
  by_cases hvN : v < N
  · obtain ⟨u, hu, hul⟩ := least (fun x => x < s ∧ K x v = true) (by
      rcases hv.2 with e | e
      · omega
      · exact e)
    exact ⟨u, v, ⟨hv.1, h2, hu.1⟩, no, fun _ x hx => bfalse (fun k => hul x hx ⟨by have := hu.1; omega, k⟩), Or.inl ⟨hvN, hu.2⟩⟩
  · exact ⟨0, v, ⟨hv.1, h2, hs⟩, no, fun h => absurd h hvN, Or.inr ⟨by omega, rfl⟩⟩
theorem side_one {K : Nat → Nat → Bool} {N s s' : Nat} (h : SideIs K N s) (k : SideIs K N s') : s = s' := by
  have key : ∀ {s s' : Nat}, SideIs K N s → SideIs K N s' → ¬ s < s' := by
    intro s s' h k hlt
    rcases h.2.2 with e | e
    · have := k.1.2; omega
    · rw [k.2.1 s h.1.1 hlt] at e; cases e
  have := key h k
  have := key k h
  omega
theorem up_one {K : Nat → Nat → Bool} {N s u v u' v' : Nat} (h : UpIs K N s u v) (k : UpIs K N s u' v') : u = u' ∧ v = v' := by
  have key : ∀ {u v u' v' : Nat}, UpIs K N s u v → UpIs K N s u' v' → ¬ v < v' := by
    intro u v u' v' h k hlt
    rcases h.2.2.2 with ⟨e, e2⟩ | ⟨e, -⟩
    · rw [k.2.1 v h.1.1 hlt u h.1.2.2] at e2; cases e2
    · have := k.1.2.1; omega
  have e1 := key h k
  have e2 := key k h
  have ev : v = v' := by omega
  subst ev
  refine ⟨?_, rfl⟩
  have key2 : ∀ {u u' : Nat}, UpIs K N s u v → UpIs K N s u' v → ¬ u < u' := by
    intro u u' h k hlt
    rcases h.2.2.2 with ⟨e, e2⟩ | ⟨e, e2⟩
    · rw [k.2.2.1 e u hlt] at e2; cases e2
    · rcases k.2.2.2 with ⟨e3, -⟩ | ⟨-, e3⟩ <;> omega
  have := key2 h k
  have := key2 k h
  omega

end Go.Proofs.YtpcajcgafmmlkaaDoor
