/-
  Mixes of many drops; how far dyes are apart.
-/
import Derived.Test.YtlilmchlddiacaaFx
namespace Go.Proofs.Ytlilmchlddiacaa
open Ieee

/-- the products, their sum, and the sum of the shares -/
def pF (s x : Nat → Nat) (k : Nat) : Nat := (double.mul (s k) (x k)).getD 0
def SF (s x : Nat → Nat) : Nat → Nat
  | 0 => 0
  | k + 1 => (double.add (SF s x k) (pF s x k)).getD 0
def TF (s : Nat → Nat) : Nat → Nat
  | 0 => 0
  | k + 1 => (double.add (TF s k) (s k)).getD 0
/-- shares and parts that may be; l and h what the least and the greatest part are worth -/
def ShOk (s : Nat) : Prop := Fi s ∧ sg s = false ∧ shL ≤ mv s ∧ mv s ≤ Bd 0
def PtOk (l h x : Nat) : Prop := Fi x ∧ (sg x = true → mv x = 0) ∧ l ≤ mv x ∧ mv x ≤ h
theorem mx_nought (l h : Nat) : Mx l h 0 0 0 0 := by
  obtain ⟨h1, h2, h3⟩ := word_nought
  refine ⟨h1, h2, h1, h2, ?_, ?_, ?_⟩
  · rw [h3]; simp
  · rw [h3]; simp
  · rw [h3]; exact Nat.zero_le _
theorem mix_all {n l h : Nat} {s x : Nat → Nat} (hn : n ≤ 64) (hs : ∀ i, i < n → ShOk (s i)) (hx : ∀ i, i < n → PtOk l h (x i)) (hh : h ≤ fO) : ∀ k, k ≤ n → Mx l h (12 * k) k (SF s x k) (TF s k) ∧ (k ≠ 0 → 0 < mv (TF s k)) ∧ SF s x k < 2 ^ 64 ∧ TF s k < 2 ^ 64 := by
  intro k
  induction k with
  | zero => exact fun _ => ⟨mx_nought l h, fun h => absurd rfl h, by unfold SF; omega, by unfold TF; omega⟩
  | succ k ih =>
    intro hk
    obtain ⟨m, -, -, -⟩ := ih (by omega)
    obtain ⟨s1, s2, s3, s4⟩ := hs k (by omega)
    obtain ⟨x1, x2, x3, x4⟩ := hx k (by omega)
    obtain ⟨p, S', T', e1, e2, e3, b1, b2, b3, m', ht⟩ := mix_step m hh (by omega) (by omega) s1 s2 s3 s4 x1 x2 x3 x4
    have hp : pF s x k = p := by unfold pF; rw [e1]; rfl
    have hS : SF s x (k + 1) = S' := by show (double.add (SF s x k) (pF s x k)).getD 0 = S'; rw [hp, e2]; rfl
    have hT : TF s (k + 1) = T' := by show (double.add (TF s k) (s k)).getD 0 = T'; rw [e3]; rfl
    rw [hS, hT]
    refine ⟨m', fun _ => ?_, b2, b3⟩
    have : 0 < shL := pw_pos _
    omega
/-- each step is one that the language fixes -/
theorem mix_steps {n l h : Nat} {s x : Nat → Nat} (hn : n ≤ 64) (hs : ∀ i, i < n → ShOk (s i)) (hx : ∀ i, i < n → PtOk l h (x i)) (hh : h ≤ fO) (k : Nat) (hk : k < n) :
    double.mul (s k) (x k) = some (pF s x k) ∧ double.add (SF s x k) (pF s x k) = some (SF s x (k + 1)) ∧ double.add (TF s k) (s k) = some (TF s (k + 1)) ∧ pF s x k < 2 ^ 64 := by
  obtain ⟨m, -, -, -⟩ := mix_all hn hs hx hh k (by omega)
  obtain ⟨s1, s2, s3, s4⟩ := hs k hk
  obtain ⟨x1, x2, x3, x4⟩ := hx k hk
  obtain ⟨p, S', T', e1, e2, e3, b1, b2, b3, m', ht⟩ := mix_step m hh (by omega) (by omega) s1 s2 s3 s4 x1 x2 x3 x4
  have hp : pF s x k = p := by unfold pF; rw [e1]; rfl
  have hS : SF s x (k + 1) = S' := by show (double.add (SF s x k) (pF s x k)).getD 0 = S'; rw [hp, e2]; rfl
  have hT : TF s (k + 1) = T' := by show (double.add (TF s k) (s k)).getD 0 = T'; rw [e3]; rfl
  rw [hS, hT, hp]
  exact ⟨e1, e2, e3, b1⟩
/-- the part of a mix: it is fixed, and not far from what is mixed -/
theorem mix_part {n l h : Nat} {s x : Nat → Nat} (hn : n ≤ 64) (h0 : n ≠ 0) (hs : ∀ i, i < n → ShOk (s i)) (hx : ∀ i, i < n → PtOk l h (x i)) (hh : h ≤ fO) :
    ∃ d, double.div (SF s x n) (TF s n) = some d ∧ d < 2 ^ 64 ∧ Fi d ∧ sg d = false ∧ fU * mv d ≤ fU * h + (12 * n + 5) * fO ∧ fU * l ≤ fU * mv d + (12 * n + 5) * fO := by
  obtain ⟨m, ht, -, -⟩ := mix_all hn hs hx hh n (Nat.le_refl _)
  exact mix_end m hh (by omega) (ht h0)
theorem slk_fO : slk ≤ fO := pw_le (by omega)
/-- .. against the greatest and the slack -/
theorem mix_above {n l h hi d : Nat} (hn : n ≤ 64) (fh : PtOk l h hi) (hw : mv hi = h) (hh : h ≤ fO) (gd : sg d = false) (hd : fU * mv d ≤ fU * h + (12 * n + 5) * fO) :
    ∃ r, double.add hi 4427038433705197568 = some r ∧ r < 2 ^ 64 ∧ Fi r ∧ sv d ≤ sv r := by
  obtain ⟨w1, w2, w3⟩ := word_slk
  obtain ⟨q, q0, q1, -⟩ := add_fi fh.1 w1 (by
    rw [sv_of_zero fh.2.1, sv_nonneg w2, w3, hw]
    have := slk_fO
    have h1 : fO ≤ Bd 0 := pw_le (by omega)
    have h2 := Bd_succ 0
    have h3 := Bd_lid (show 0 + 1 ≤ 300 by omega)
    omega)
  obtain ⟨t1, t2, t3, t4, t5, t6, t7⟩ := q1
  have e : sv hi + sv 4427038433705197568 = ((h + slk : Nat) : Int) := by rw [sv_of_zero fh.2.1, sv_nonneg w2, w3, hw]; simp
  have hp : 0 < slk := pw_pos _
  rw [e, Int.natAbs_natCast] at t4
  have gq : sg q = false := t6 (by rw [e]; omega)
  refine ⟨q, q0, t1, t2, ?_⟩
  rw [sv_nonneg gd, sv_nonneg gq]
  have := not_above (sl := slk) (a := 12 * n) hd t4 fU_slk hh slk_fO fU_fO (by omega) (by decide)
  omega
/-- .. against the least and the slack -/
theorem mix_below {n l h lo d : Nat} (hn : n ≤ 64) (fl : PtOk l h lo) (lw : mv lo = l) (hl : l ≤ fO) (gd : sg d = false) (hd : fU * l ≤ fU * mv d + (12 * n + 5) * fO) :
    ∃ r, double.sub lo 4427038433705197568 = some r ∧ r < 2 ^ 64 ∧ Fi r ∧ sv r ≤ sv d := by
  obtain ⟨w1, w2, w3⟩ := word_slk
  have e : sv lo - sv 4427038433705197568 = (l : Int) - (slk : Int) := by rw [sv_of_zero fl.2.1, sv_nonneg w2, w3, lw]
  obtain ⟨q, q0, q1, -⟩ := sub_fi fl.1 w1 (by
    rw [e]
    have := slk_fO
    have h1 : fO ≤ Bd 0 := pw_le (by omega)
    have h2 := Bd_succ 0
    have h3 := Bd_lid (show 0 + 1 ≤ 300 by omega)
    omega)
  obtain ⟨t1, t2, t3, t4, t5, t6, t7⟩ := q1
  refine ⟨q, q0, t1, t2, ?_⟩
  rw [e] at t3 t6 t7
  rw [sv_nonneg gd]
  by_cases hlt : l < slk
  · have g := t7 (by omega)
    unfold sv
    rw [g]
    simp
  · obtain ⟨t, ht⟩ : ∃ t, l = t + slk := ⟨l - slk, by omega⟩
    rw [show ((l : Int) - (slk : Int)).natAbs = t by omega] at t3
    have := not_below (sl := slk) (a := 12 * n) hd ht t3 fU_slk hl fU_fO (by omega) (by decide)
    have : sv q ≤ (mv q : Int) := by unfold sv; split <;> omega
    omega

/-- a difference of parts, times itself -/
theorem sq_fi {x y : Nat} (fx : Fi x) (gx : sg x = true → mv x = 0) (x2 : mv x ≤ fO) (fy : Fi y) (gy : sg y = true → mv y = 0) (y2 : mv y ≤ fO) :
    ∃ r q, double.sub x y = some r ∧ double.mul r r = some q ∧ r < 2 ^ 64 ∧ q < 2 ^ 64 ∧ Fi q ∧ sg q = false ∧ mv q ≤ 16 * fO ∧ (mv x = mv y → mv q = 0) := by
  have e : sv x - sv y = (mv x : Int) - (mv y : Int) := by rw [sv_of_zero gx, sv_of_zero gy]
  have hl : fO < Lid 0 := pw_lt (by omega)
  obtain ⟨r, r0, ⟨t1, t2, t3, -, t5, -, -⟩, -⟩ := sub_fi fx fy (by rw [e]; omega)
  rw [e] at t3 t5
  have hr : mv r ≤ 2 * fO := by
    have k1 : fU * mv r ≤ fU * (2 * fO) := by
      have k2 : ((mv x : Int) - (mv y : Int)).natAbs ≤ fO := by omega
      have k3 := Nat.mul_le_mul_left fU k2
      have k4 := fU_fO
      have k5 : 2 * fO ≤ fU * fO := Nat.mul_le_mul_right _ (by decide)
      rw [Nat.mul_left_comm]
      omega
    exact Nat.le_of_mul_le_mul_left k1 (by decide)
  have hm : mv r * mv r ≤ 4 * (fO * fO) := by
    have := Nat.mul_le_mul hr hr
    have e2 : 2 * fO * (2 * fO) = 4 * (fO * fO) := by generalize fO = o; grind
    omega
  obtain ⟨q, q0, q1, q2, q3, q4, -, q6⟩ := mul_fi t2 t2 (by
    have h1 : 4 * (fO * fO) < Lid 1074 := by
      rw [fO.eq_1, Lid.eq_1, ← pw_add, show (4 : Nat) = pw 2 from rfl, ← pw_add]
      exact pw_lt (by omega)
    omega)
  refine ⟨r, q, r0, q0, t1, q1, q2, by rw [q3]; simp, ?_, fun h => q6 ?_⟩
  · have hO := fO_pos
    have k1 : fU * (mv q * fO) ≤ fU * (16 * fO * fO) := by
      have k3 := Nat.mul_le_mul_left fU hm
      have k4 : fU * fO ≤ fU * (fO * fO) := Nat.mul_le_mul_left _ (Nat.le_mul_of_pos_left _ hO)
      have k5 : fO * fO ≤ fU * (fO * fO) := Nat.le_mul_of_pos_left _ (by decide)
      have e1 : fU * (16 * fO * fO) = 16 * (fU * (fO * fO)) := by rw [Nat.mul_assoc 16, Nat.mul_left_comm]
      have e2 : fU * (4 * (fO * fO)) = 4 * (fU * (fO * fO)) := by rw [Nat.mul_left_comm]
      omega
    exact Nat.le_of_mul_le_mul_right (Nat.le_of_mul_le_mul_left k1 (by decide)) hO
  · rw [t5 (by omega)]
/-- how far dyes are apart: three squares, the first two added, then the third one -/
theorem far_fi {q1 q2 q3 : Nat} (f1 : Fi q1) (g1 : sg q1 = false) (b1 : mv q1 ≤ 16 * fO) (f2 : Fi q2) (g2 : sg q2 = false) (b2 : mv q2 ≤ 16 * fO) (f3 : Fi q3) (g3 : sg q3 = false) (b3 : mv q3 ≤ 16 * fO) :
    ∃ a b, double.add q1 q2 = some a ∧ double.add a q3 = some b ∧ a < 2 ^ 64 ∧ b < 2 ^ 64 ∧ Fi b ∧ sg b = false ∧ (mv q1 = 0 → mv q2 = 0 → mv q3 = 0 → mv b = 0) := by
  have hl : 256 * fO < Lid 0 := by
    rw [fO.eq_1, Lid.eq_1, show (256 : Nat) = pw 8 from rfl, ← pw_add]
    exact pw_lt (by omega)
  have n2 : sg q2 = true → mv q2 = 0 := fun e => by rw [g2] at e; cases e
  have n3 : sg q3 = true → mv q3 = 0 := fun e => by rw [g3] at e; cases e
  obtain ⟨a, a0, a1, a2, a3, a4, -⟩ := add_up f1 g1 f2 n2 (by omega)
  have ha : mv a ≤ 128 * fO := by
    have k1 : fU * mv a ≤ fU * (128 * fO) := by
      have k2 : fU * (mv q1 + mv q2) ≤ fU * (32 * fO) := Nat.mul_le_mul_left _ (by omega)
      have k3 := fU_fO
      have k4 : fO ≤ fU * fO := Nat.le_mul_of_pos_left _ (by decide)
      have e1 : fU * (128 * fO) = 128 * (fU * fO) := by rw [Nat.mul_left_comm]
      have e2 : fU * (32 * fO) = 32 * (fU * fO) := by rw [Nat.mul_left_comm]
      omega
    exact Nat.le_of_mul_le_mul_left k1 (by decide)
  obtain ⟨b, c0, c1, c2, c3, -, -⟩ := add_up a2 a3 f3 n3 (by omega)
  refine ⟨a, b, a0, c0, a1, c1, c2, c3, fun z1 z2 z3 => ?_⟩
  have za : mv a = 0 := by
    obtain ⟨r, r0, ⟨-, -, -, -, r5, -, -⟩, -⟩ := add_fi f1 f2 (by rw [sv_nonneg g1, sv_nonneg g2]; omega)
    rw [a0] at r0
    cases r0
    exact r5 (by rw [sv_nonneg g1, sv_nonneg g2, z1, z2]; rfl)
  obtain ⟨r, r0, ⟨-, -, -, -, r5, -, -⟩, -⟩ := add_fi a2 f3 (by rw [sv_nonneg a3, sv_nonneg g3]; omega)
  rw [c0] at r0
  cases r0
  exact r5 (by rw [sv_nonneg a3, sv_nonneg g3, za, z3]; rfl)
end Go.Proofs.Ytlilmchlddiacaa
