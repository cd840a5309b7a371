/-
  How far dyes are apart, and the nearest of them: the mathematics.
-/
import Derived.Test.YtlilmchlddiacaaFE
namespace Go.Proofs.Ytlilmchlddiacaa
open Go.RowKit Ieee

def dfF (p q : Nat → Nat) (j : Nat) : Nat := (double.sub (p j) (q j)).getD 0
def sqF (p q : Nat → Nat) (j : Nat) : Nat := (double.mul (dfF p q j) (dfF p q j)).getD 0
def a1F (p q : Nat → Nat) : Nat := (double.add (sqF p q 0) (sqF p q 1)).getD 0
/-- how far two dyes are apart -/
def zF (p q : Nat → Nat) : Nat := (double.add (a1F p q) (sqF p q 2)).getD 0
theorem fr_at {p q : Nat → Nat} (hp : faB p = true) (hq : faB q = true) : Fr p q (dfF p q) (sqF p q) (a1F p q) (zF p q) ∧ Fi (zF p q) ∧ sg (zF p q) = false ∧ ((∀ j, j < 3 → mv (p j) = mv (q j)) → mv (zF p q) = 0) := by
  have K : ∀ j, j < 3 → double.sub (p j) (q j) = some (dfF p q j) ∧ double.mul (dfF p q j) (dfF p q j) = some (sqF p q j) ∧ Fi (sqF p q j) ∧ sg (sqF p q j) = false ∧ mv (sqF p q j) ≤ 16 * fO ∧ (mv (p j) = mv (q j) → mv (sqF p q j) = 0) := by
    intro j hj
    obtain ⟨h1, h2, h3⟩ := unB_fi (faB_at hp j hj)
    obtain ⟨k1, k2, k3⟩ := unB_fi (faB_at hq j hj)
    obtain ⟨r, s, r0, s0, -, -, t1, t2, t3, t4⟩ := sq_fi h1 h2 h3 k1 k2 k3
    have e1 : dfF p q j = r := by unfold dfF; rw [r0]; rfl
    have e2 : sqF p q j = s := by unfold sqF; rw [e1, s0]; rfl
    rw [e2, e1]
    exact ⟨r0, s0, t1, t2, t3, t4⟩
  obtain ⟨x1, x2, x3, x4, x5, x6⟩ := K 0 (by omega)
  obtain ⟨y1, y2, y3, y4, y5, y6⟩ := K 1 (by omega)
  obtain ⟨z1, z2, z3, z4, z5, z6⟩ := K 2 (by omega)
  obtain ⟨a, b, a0, b0, -, -, b1, b2, b3⟩ := far_fi x3 x4 x5 y3 y4 y5 z3 z4 z5
  have e1 : a1F p q = a := by unfold a1F; rw [a0]; rfl
  have e2 : zF p q = b := by unfold zF; rw [e1, b0]; rfl
  rw [e1, e2]
  exact ⟨⟨fun j hj => (K j hj).1, fun j hj => (K j hj).2.1, a0, b0⟩, b1, b2, fun h => b3 (x6 (h 0 (by omega))) (y6 (h 1 (by omega))) (z6 (h 2 (by omega)))⟩

/-- the first of the least -/
def IsNear (n : Nat) (v : Nat → Int) (k : Nat) : Prop := k < n ∧ (∀ i, i < n → v k ≤ v i) ∧ ∀ i, i < k → v k < v i
theorem IsNear.one (v : Nat → Int) : IsNear 1 v 0 := ⟨by omega, fun i hi => by rw [show i = 0 by omega]; exact Int.le_refl _, fun i hi => by omega⟩
theorem IsNear.less {n k : Nat} {v : Nat → Int} (h : IsNear n v k) (hl : v n < v k) : IsNear (n + 1) v n := by
  refine ⟨by omega, fun i hi => ?_, fun i hi => by have := h.2.1 i hi; omega⟩
  rcases (show i < n ∨ i = n by omega) with h1 | rfl
  · have := h.2.1 i h1
    omega
  · exact Int.le_refl _
theorem IsNear.stay {n k : Nat} {v : Nat → Int} (h : IsNear n v k) (hl : ¬ v n < v k) : IsNear (n + 1) v k := by
  refine ⟨by have := h.1; omega, fun i hi => ?_, h.2.2⟩
  rcases (show i < n ∨ i = n by omega) with h1 | rfl
  · exact h.2.1 i h1
  · omega
theorem near_ex (v : Nat → Int) : ∀ n, ∃ k, IsNear (n + 1) v k := by
  intro n
  induction n with
  | zero => exact ⟨0, IsNear.one v⟩
  | succ n ih =>
    obtain ⟨k, hk⟩ := ih
    by_cases h : v (n + 1) < v k
    · exact ⟨_, hk.less h⟩
    · exact ⟨_, hk.stay h⟩
theorem IsNear.same {n k l : Nat} {v : Nat → Int} (h : IsNear n v k) (h' : IsNear n v l) : k = l := by
  rcases Nat.lt_trichotomy k l with a | a | a
  · have := h'.2.2 k a
    have := h.2.1 l h'.1
    omega
  · exact a
  · have := h.2.2 l a
    have := h'.2.1 k h.1
    omega
/-- does one put another one out? -/
def bt (v : Nat → Int) (i y : Nat) : Bool := (decide (y < i) && decide (v y ≤ v i)) || decide (v y < v i)
def bst (v : Nat → Int) (i : Nat) : Nat → Bool
  | 0 => true
  | y + 1 => bst v i y && !bt v i y
theorem bst_true {n i : Nat} {v : Nat → Int} (h : IsNear n v i) : ∀ y, y ≤ n → bst v i y = true := by
  intro y
  induction y with
  | zero => exact fun _ => rfl
  | succ y ih =>
    intro hy
    have h1 := h.2.1 y (by omega)
    have e : bt v i y = false := by
      unfold bt
      rw [decide_eq_false (show ¬ v y < v i by omega), Bool.or_false]
      by_cases hl : y < i
      · have := h.2.2 y hl
        rw [decide_eq_false (show ¬ v y ≤ v i by omega), Bool.and_false]
      · rw [decide_eq_false hl, Bool.false_and]
    rw [bst, ih (by omega), e]
    rfl
theorem bst_stays {i : Nat} {v : Nat → Int} {y : Nat} (h : bst v i y = false) : ∀ k, bst v i (y + k) = false := by
  intro k
  induction k with
  | zero => exact h
  | succ k ih => rw [← Nat.add_assoc, bst, ih, Bool.false_and]
theorem bst_false {n i K : Nat} {v : Nat → Int} (h : IsNear n v K) (hi : i < K) : bst v i n = false := by
  have e : bt v i K = true := by
    unfold bt
    rw [decide_eq_true (h.2.2 i hi), Bool.or_true]
  have e2 : bst v i (K + 1) = false := by rw [bst, e]; simp
  have := bst_stays e2 (n - (K + 1))
  rw [show K + 1 + (n - (K + 1)) = n by have := h.1; omega] at this
  exact this

/-- how far each is from one -/
def fv (d : Nat → Nat → Nat) (p : Nat → Nat) (i : Nat) : Int := sv (zF (d i) p)
theorem cmp3 (a b : Int) : (compare a b = .lt ∧ a < b) ∨ (compare a b = .eq ∧ a = b) ∨ (compare a b = .gt ∧ b < a) := by
  rcases Int.lt_trichotomy a b with h | h | h
  · exact .inl ⟨by simp [compare, compareOfLessAndEq, h], h⟩
  · exact .inr (.inl ⟨by subst h; simp [compare, compareOfLessAndEq], h⟩)
  · exact .inr (.inr ⟨by simp [compare, compareOfLessAndEq]; rw [if_neg (by omega), if_neg (by omega)], h⟩)
theorem ord_at {d : Nat → Nat → Nat} {p : Nat → Nat} {i j : Nat} (hp : faB p = true) (hi : faB (d i) = true) (hj : faB (d j) = true) :
    (FloatKind.f64.format.order (zF (d i) p) (zF (d j) p) = some .lt ∧ fv d p i < fv d p j) ∨ (FloatKind.f64.format.order (zF (d i) p) (zF (d j) p) = some .eq ∧ fv d p i = fv d p j) ∨ (FloatKind.f64.format.order (zF (d i) p) (zF (d j) p) = some .gt ∧ fv d p j < fv d p i) := by
  have e : FloatKind.f64.format.order (zF (d i) p) (zF (d j) p) = some (compare (fv d p i) (fv d p j)) := order_fi (fr_at hi hp).2.1 (fr_at hj hp).2.1
  rcases cmp3 (fv d p i) (fv d p j) with h | h | h
  · exact .inl ⟨by rw [e, h.1], h.2⟩
  · exact .inr (.inl ⟨by rw [e, h.1], h.2⟩)
  · exact .inr (.inr ⟨by rw [e, h.1], h.2⟩)

/-- what is nearest, of anything -/
def NearIs (n : Nat) (d : Nat → Nat → Nat) (p : Nat → Nat) (k : Nat) (er : Int) : Prop :=
  (¬ (1 ≤ n ∧ n ≤ 256) ∧ k = 0 ∧ er = 5) ∨ ((1 ≤ n ∧ n ≤ 256) ∧ faB p = false ∧ k = 0 ∧ er = 3) ∨ ((1 ≤ n ∧ n ≤ 256) ∧ faB p = true ∧ (∃ j, j < n ∧ (∀ i, i < j → faB (d i) = true) ∧ faB (d j) = false) ∧ k = 0 ∧ er = 3) ∨ ((1 ≤ n ∧ n ≤ 256) ∧ faB p = true ∧ (∀ i, i < n → faB (d i) = true) ∧ IsNear n (fv d p) k ∧ er = 0)
theorem near_split (n : Nat) (d : Nat → Nat → Nat) (p : Nat → Nat) : ∃ k er, NearIs n d p k er := by
  by_cases hn : 1 ≤ n ∧ n ≤ 256
  · cases hp : faB p with
    | false => exact ⟨_, _, .inr (.inl ⟨hn, hp, rfl, rfl⟩)⟩
    | true =>
      rcases first_bad (fun i => faB (d i)) n with h | h
      · obtain ⟨k, hk⟩ := near_ex (fv d p) (n - 1)
        rw [show n - 1 + 1 = n by omega] at hk
        exact ⟨_, _, .inr (.inr (.inr ⟨hn, hp, h, hk, rfl⟩))⟩
      · exact ⟨_, _, .inr (.inr (.inl ⟨hn, hp, h, rfl, rfl⟩))⟩
  · exact ⟨_, _, .inl ⟨hn, rfl, rfl⟩⟩
/-- a place and an error are answered -/
def PN (W : World) (k : Nat) (er : Int) (e : Ending) (V : World) : Prop := e = .returned (.tuple #[.int .i64 (k : Int), .int .i64 er]) ∧ Below W.heap.size W V
def AnsN (F : Nat) (args : Array Value) (W : World) (k : Nat) (er : Int) : Prop := Calls Try.prog F args W (PN W k er)
end Go.Proofs.Ytlilmchlddiacaa
