/-
  Plain facts about the steps that keep a pattern: the two finest ones make them all. No Go in sight but for the definitions.
-/
import Derived.Test.YtpcajcgafmmlkaaHB
import Derived.Test.YtpcajcgafmmlkaaMA
namespace Go.Proofs.Ytpcajcgafmmlkaa
open Go.RowKit

/-- a step keeps a pattern -/
def St (P : Int → Int → Int) (u v : Int) : Prop := ∀ x y : Int, P x y = P (x + u) (y + v)
theorem mv_step (g u v x y : Int) : mv g 0 false u v x y = (x + u, y + v) := by simp [mv, tu, mi]
theorem kp_step (P : Int → Int → Int) (g u v : Int) : Kp P g 0 false u v ↔ St P u v := by
  unfold Kp St
  simp only [mv_step]
theorem St.add {P : Int → Int → Int} {u v u' v' : Int} (h : St P u v) (k : St P u' v') : St P (u + u') (v + v') := by
  intro x y
  rw [h x y, k (x + u) (y + v)]
  congr 1 <;> omega
theorem St.neg {P : Int → Int → Int} {u v : Int} (h : St P u v) : St P (-u) (-v) := by
  intro x y
  rw [h (x + -u) (y + -v)]
  congr 1 <;> omega
theorem St.zero (P : Int → Int → Int) : St P 0 0 := by intro x y; simp
theorem St.nmul {P : Int → Int → Int} {u v : Int} (h : St P u v) (n : Nat) : St P (n * u) (n * v) := by
  induction n with
  | zero => simpa using St.zero P
  | succ n ih =>
    have := ih.add h
    rwa [show (n : Int) * u + u = ((n + 1 : Nat) : Int) * u by rw [Int.natCast_add, Int.add_mul]; simp, show (n : Int) * v + v = ((n + 1 : Nat) : Int) * v by rw [Int.natCast_add, Int.add_mul]; simp] at this
theorem St.mul {P : Int → Int → Int} {u v : Int} (h : St P u v) (a : Int) : St P (a * u) (a * v) := by
  obtain ⟨n, rfl | rfl⟩ := Int.eq_nat_or_neg a
  · exact h.nmul n
  · have := (h.nmul n).neg
    rwa [← Int.neg_mul, ← Int.neg_mul] at this
theorem St.per {P : Int → Int → Int} {N : Nat} (hP : Per P N) (a b : Int) : St P (N * a) (N * b) := fun x y => (hP x y a b).symm
theorem St.mod {P : Int → Int → Int} {N : Nat} (hP : Per P N) (u v : Int) : St P (u % N) (v % N) ↔ St P u v := by
  have e1 := Int.emod_add_mul_ediv u N
  have e2 := Int.emod_add_mul_ediv v N
  constructor
  · intro h
    have := h.add (St.per hP (u / N) (v / N))
    rwa [e1, e2] at this
  · intro h
    have := h.add (St.per hP (-(u / N)) (-(v / N)))
    rwa [show u + N * -(u / N) = u % N by rw [Int.mul_neg]; omega, show v + N * -(v / N) = v % N by rw [Int.mul_neg]; omega] at this
theorem stepK_iff (w h N : Nat) (px : Nat → Int) (g : Int) (x y : Nat) (hN : 1 ≤ N) : stepK w h N px g x y = true ↔ St (pat w h N px) x y := by
  unfold stepK
  rw [kpV_iff w h N px g 0 false _ _ hN, kp_step]

/-- what the two finest steps are -/
structure Fine (P : Int → Int → Int) (N s u v : Nat) : Prop where
  hs : 1 ≤ s ∧ s ≤ N
  hv : 1 ≤ v ∧ v ≤ N
  hu : u < s
  st1 : St P s 0
  st2 : St P u v
  no1 : ∀ x : Nat, 1 ≤ x → x < s → ¬ St P x 0
  no2 : ∀ y : Nat, 1 ≤ y → y < v → ∀ x : Nat, x < s → ¬ St P x y
theorem fine_of (w h N : Nat) (px : Nat → Int) (g : Int) (s u v : Nat) (hN : 1 ≤ N) (h1 : SideIs (stepK w h N px g) N s) (h2 : UpIs (stepK w h N px g) N s u v) : Fine (pat w h N px) N s u v := by
  have hP := pat_per w h N px
  obtain ⟨a1, a2, a3⟩ := h1
  obtain ⟨b1, b2, -, b4⟩ := h2
  refine ⟨a1, ⟨b1.1, b1.2.1⟩, b1.2.2, ?_, ?_, fun x hx hs k => ?_, fun y hy hv x hx k => ?_⟩
  · rcases a3 with rfl | a3
    · have := St.per hP 1 0
      simpa using this
    · exact (stepK_iff w h N px g s 0 hN).1 a3
  · rcases b4 with ⟨-, b4⟩ | ⟨rfl, rfl⟩
    · exact (stepK_iff w h N px g u v hN).1 b4
    · have := St.per hP 0 1
      simpa using this
  · have := (stepK_iff w h N px g x 0 hN).2 k
    rw [a2 x hx hs] at this
    cases this
  · have := (stepK_iff w h N px g x y hN).2 k
    rw [b2 y hy hv x hx] at this
    cases this
/-- the two finest steps make all steps -/
theorem Fine.all {P : Int → Int → Int} {N s u v : Nat} (h : Fine P N s u v) (x y : Int) : St P x y ↔ y % v = 0 ∧ (x - y / v * u) % s = 0 := by
  have hs := h.hs
  have hv := h.hv
  constructor
  · intro k
    have ey := Int.emod_add_mul_ediv y v
    have ex := Int.emod_add_mul_ediv (x - y / v * u) s
    have k1 := k.add (h.st2.mul (-(y / v)))
    have k2 := k1.add (h.st1.mul (-((x - y / v * u) / s)))
    rw [show x + -(y / v) * u + -((x - y / v * u) / s) * s = (x - y / v * u) % s by rw [Int.neg_mul, Int.neg_mul, Int.mul_comm _ (s : Int)]; omega, show y + -(y / v) * v + -((x - y / v * u) / s) * 0 = y % v by rw [Int.neg_mul, Int.mul_comm _ (v : Int)]; omega] at k2
    have n1 := Int.emod_nonneg (x - y / v * u) (show (s : Int) ≠ 0 by omega)
    have n2 := Int.emod_nonneg y (show (v : Int) ≠ 0 by omega)
    have l1 := Int.emod_lt_of_pos (x - y / v * u) (show (0 : Int) < s by omega)
    have l2 := Int.emod_lt_of_pos y (show (0 : Int) < v by omega)
    generalize (x - y / v * u) % s = a at *
    generalize y % v = b at *
    obtain ⟨a, rfl⟩ := Int.eq_ofNat_of_zero_le n1
    obtain ⟨b, rfl⟩ := Int.eq_ofNat_of_zero_le n2
    have hb : b = 0 := by
      rcases Nat.eq_zero_or_pos b with e | e
      · exact e
      · exact absurd k2 (h.no2 b e (by omega) a (by omega))
    subst hb
    refine ⟨rfl, ?_⟩
    rcases Nat.eq_zero_or_pos a with e | e
    · rw [e]; rfl
    · exact absurd k2 (h.no1 a e (by omega))
  · rintro ⟨h1, h2⟩
    have ey := Int.emod_add_mul_ediv y v
    have ex := Int.emod_add_mul_ediv (x - y / v * u) s
    have := (h.st2.mul (y / v)).add (h.st1.mul ((x - y / v * u) / s))
    rwa [show y / v * u + (x - y / v * u) / s * s = x by rw [Int.mul_comm _ (s : Int)]; omega, show y / v * v + (x - y / v * u) / s * 0 = y by rw [Int.mul_comm _ (v : Int)]; omega] at this
theorem Fine.dvd {P : Int → Int → Int} {N s u v : Nat} (hP : Per P N) (h : Fine P N s u v) : v ∣ N ∧ s ∣ N := by
  have a := (h.all 0 N).1 (by have := St.per hP 0 1; simpa using this)
  have b := (h.all N 0).1 (by have := St.per hP 1 0; simpa using this)
  have b2 := b.2
  simp at b2
  exact ⟨by have := Int.dvd_of_emod_eq_zero a.1; exact Int.natCast_dvd_natCast.1 this, Int.natCast_dvd_natCast.1 (Int.dvd_of_emod_eq_zero b2)⟩
end Go.Proofs.Ytpcajcgafmmlkaa
