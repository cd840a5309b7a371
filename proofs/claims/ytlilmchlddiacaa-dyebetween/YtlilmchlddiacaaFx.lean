/-
  A mix lies between what is mixed: step by step over words.
-/
import Derived.Test.YtlilmchlddiacaaFm
namespace Go.Proofs.Ytlilmchlddiacaa
open Ieee

/-- how great a sum of k shares may be -/
def Bd (k : Nat) : Nat := pw (1095 + 2 * k)
theorem Bd_succ (k : Nat) : Bd (k + 1) = 4 * Bd k := by
  unfold Bd
  rw [show 1095 + 2 * (k + 1) = 1095 + 2 * k + 2 by omega, pw_add _ 2, Nat.mul_comm]
  rfl
theorem Bd_le {i k : Nat} (h : i ≤ k) : Bd i ≤ Bd k := pw_le (by omega)
theorem Bd_lid {k : Nat} (h : k ≤ 300) : Bd k < Lid 0 := pw_lt (by omega)
theorem Bd_fO {k : Nat} (h : k ≤ 300) : Bd k * fO < Lid 1074 := by
  rw [Bd.eq_1, fO.eq_1, Lid.eq_1, ← pw_add]
  exact pw_lt (by omega)
theorem fO_pos : 0 < fO := pw_pos _
theorem fU_pw : fU = pw 52 := by decide
theorem fU_fO : fU ≤ fO := by rw [fO.eq_1, fU_pw]; exact pw_le (by omega)
/-- the least share -/
def shL : Nat := pw 1054
theorem fU_shL : fU * fU ≤ shL := by rw [shL.eq_1, fU_pw, ← pw_add]; exact pw_le (by omega)
theorem half_of {u o v w h a : Nat} (h1 : u * (v * o) ≤ u * (h * w) + a * (o * w)) (h2 : h ≤ o) (h3 : a ≤ u) (hu : 0 < u) (ho : 0 < o) : v ≤ 2 * w := by
  have k1 : u * (h * w) ≤ u * (o * w) := Nat.mul_le_mul_left _ (Nat.mul_le_mul_right _ h2)
  have k2 : a * (o * w) ≤ u * (o * w) := Nat.mul_le_mul_right _ h3
  have k3 : u * o * v ≤ u * o * (2 * w) := by grind
  exact Nat.le_of_mul_le_mul_left k3 (Nat.mul_pos hu ho)

/-- what stands between two drops: l and h are what the least and the greatest part are worth -/
structure Mx (l h a k S T : Nat) : Prop where
  fS : Fi S
  gS : sg S = false
  fT : Fi T
  gT : sg T = false
  up : fU * (mv S * fO) ≤ (fU * h + a * fO) * mv T
  lo : fU * (l * mv T) ≤ fU * (mv S * fO) + a * (fO * mv T)
  bd : mv T ≤ Bd k
theorem Mx.twice {l h a k S T : Nat} (m : Mx l h a k S T) (hh : h ≤ fO) (ha : a ≤ fU) : mv S ≤ 2 * mv T := by
  refine half_of (u := fU) (o := fO) (h := h) (a := a) ?_ hh ha (by decide) fO_pos
  have := m.up
  rw [Nat.add_mul, Nat.mul_assoc, Nat.mul_assoc] at this
  exact this
theorem sv_of_zero {x : Nat} (h : sg x = true → mv x = 0) : sv x = (mv x : Int) := by
  unfold sv
  cases e : sg x with
  | false => rfl
  | true => rw [h e]; rfl

/-- a sum of what is not below nought -/
theorem add_up {x y : Nat} (hx : Fi x) (gx : sg x = false) (hy : Fi y) (gy : sg y = true → mv y = 0) (hb : mv x + mv y < Lid 0) : ∃ r, double.add x y = some r ∧ r < 2 ^ 64 ∧ Fi r ∧ sg r = false ∧ fU * mv r ≤ fU * (mv x + mv y) + (mv x + mv y) + fU ∧ fU * (mv x + mv y) ≤ fU * mv r + (mv x + mv y) + fU := by
  have e : sv x + sv y = ((mv x + mv y : Nat) : Int) := by rw [sv_nonneg gx, sv_of_zero gy]; simp
  have en : (sv x + sv y).natAbs = mv x + mv y := by rw [e]; exact Int.natAbs_natCast _
  obtain ⟨r, h1, h2, h3⟩ := add_fi hx hy (by rw [en]; exact hb)
  obtain ⟨r1, r2, r3, r4, r5, r6, r7⟩ := h2
  rw [en] at r3 r4
  refine ⟨r, h1, r1, r2, ?_, r3, r4⟩
  rcases Nat.eq_zero_or_pos (mv x + mv y) with h0 | h0
  · rw [h3 (by rw [e, h0]; rfl), gx]; rfl
  · exact r6 (by rw [e]; omega)

/-- one drop more -/
theorem mix_step {l h a k S T s x : Nat} (m : Mx l h a k S T) (hh : h ≤ fO) (ha : a + 20 ≤ 1000) (hk : k ≤ 100) (fs : Fi s) (gs : sg s = false) (s1 : shL ≤ mv s) (s2 : mv s ≤ Bd 0) (fx : Fi x) (gx : sg x = true → mv x = 0) (x1 : l ≤ mv x) (x2 : mv x ≤ h) :
    ∃ p S' T', double.mul s x = some p ∧ double.add S p = some S' ∧ double.add T s = some T' ∧ p < 2 ^ 64 ∧ S' < 2 ^ 64 ∧ T' < 2 ^ 64 ∧ Mx l h (a + 12) (k + 1) S' T' ∧ shL ≤ 2 * mv T' := by
  have hU : fU * fU ≤ mv s := Nat.le_trans fU_shL s1
  have hUs : fU ≤ mv s := Nat.le_trans (by decide) hU
  have hxO : mv x ≤ fO := Nat.le_trans x2 hh
  obtain ⟨p, p0, p9, p1, p2, p3, p4, p5⟩ := mul_fi fs fx (Nat.lt_of_le_of_lt (Nat.mul_le_mul s2 hxO) (Bd_fO (by omega)))
  have gp : sg p = true → mv p = 0 := fun e => p5 (by
    rw [p2, gs] at e
    rw [gx (by simpa using e), Nat.mul_zero])
  have hS2 := m.twice hh (Nat.le_trans (show a ≤ 1000 by omega) (by decide))
  -- the product is no greater than twice the share
  have hp2 : mv p ≤ 3 * mv s := by
    have hO := fO_pos
    have k1 : mv s * mv x ≤ mv s * fO := Nat.mul_le_mul_left _ hxO
    have k2 : fU * fO ≤ mv s * fO := Nat.mul_le_mul_right _ hUs
    have k3 : fU * (mv p * fO) ≤ fU * (3 * mv s * fO) := by
      have k4 := Nat.mul_le_mul_left fU k1
      have k5 : mv s * fO ≤ fU * (mv s * fO) := Nat.le_mul_of_pos_left _ (by decide)
      rw [Nat.mul_assoc 3, Nat.mul_left_comm fU 3]
      omega
    exact Nat.le_of_mul_le_mul_right (Nat.le_of_mul_le_mul_left k3 (by decide)) hO
  have hB0 := Bd_le (show 0 ≤ k by omega)
  have hB1 := Bd_succ k
  have hB2 : Bd (k + 2) = 4 * Bd (k + 1) := Bd_succ (k + 1)
  have hB := m.bd
  obtain ⟨S', a0, a9, a1, a2, a3, a4⟩ := add_up m.fS m.gS p1 gp (by have := Bd_lid (show k + 2 ≤ 300 by omega); omega)
  obtain ⟨T', b0, b9, b1, b2, b3, b4⟩ := add_up m.fT m.gT fs (fun e => by rw [gs] at e; cases e) (by have := Bd_lid (show k + 2 ≤ 300 by omega); omega)
  have hMU : fU ≤ mv T + mv s := by omega
  refine ⟨p, S', T', p0, a0, b0, p9, a9, b9, ⟨a1, a2, b1, b2, ?_, ?_, ?_⟩, ?_⟩
  · exact mix_up m.up p3 a3 b4 x2 hh hU (by have : (1020 : Nat) ≤ fU := by decide
                                            omega)
  · have q1 := lo1 m.lo p4 x1 hxO hUs
    have q2 := lo2 q1 a4 (half_of (up1 m.up p3 x2 hh hUs) hh (Nat.le_trans (show a + 2 ≤ 1000 by omega) (by decide)) (by decide) fO_pos) hMU
    exact lo3 q2 b4 b3 hMU (by omega) (by have : (8000 : Nat) ≤ fU := by decide
                                          omega)
  · have : fU * mv T' ≤ fU * (2 * (mv T + mv s)) := by
      have : mv T + mv s + fU ≤ fU * (mv T + mv s) := by
        have : 2 * (mv T + mv s) ≤ fU * (mv T + mv s) := Nat.mul_le_mul_right _ (by decide)
        omega
      rw [Nat.mul_left_comm]
      omega
    have := Nat.le_of_mul_le_mul_left this (by decide)
    omega
  · have := (tw b4 hMU (by decide)).2
    omega

theorem quo_up {u o h a d S T : Nat} (h1 : u * (S * o) ≤ (u * h + a * o) * T) (hd : u * (d * T) ≤ u * (S * o) + 2 * (S * o) + u * T) (h2 : S ≤ 2 * T) (hu : u ≤ o) (hT : 0 < T) : u * d ≤ u * h + (a + 5) * o := by
  have k1 := Nat.mul_le_mul_right o h2
  have k2 := Nat.mul_le_mul_right T hu
  have k3 : u * d * T ≤ (u * h + (a + 5) * o) * T := by grind
  exact Nat.le_of_mul_le_mul_right k3 hT
theorem quo_lo {u o l a d S T : Nat} (h1 : u * (l * T) ≤ u * (S * o) + a * (o * T)) (hd : u * (S * o) ≤ u * (d * T) + 2 * (S * o) + u * T) (h2 : S ≤ 2 * T) (hu : u ≤ o) (hT : 0 < T) : u * l ≤ u * d + (a + 5) * o := by
  have k1 := Nat.mul_le_mul_right o h2
  have k2 := Nat.mul_le_mul_right T hu
  have k3 : u * l * T ≤ (u * d + (a + 5) * o) * T := by grind
  exact Nat.le_of_mul_le_mul_right k3 hT
/-- the part of a mix -/
theorem mix_end {l h a k S T : Nat} (m : Mx l h a k S T) (hh : h ≤ fO) (ha : a ≤ 1000) (hT : 0 < mv T) : ∃ d, double.div S T = some d ∧ d < 2 ^ 64 ∧ Fi d ∧ sg d = false ∧ fU * mv d ≤ fU * h + (a + 5) * fO ∧ fU * l ≤ fU * mv d + (a + 5) * fO := by
  have h2 := m.twice hh (Nat.le_trans ha (by decide))
  obtain ⟨d, d0, d1, d2, d3, d4, d5, -⟩ := div_fi m.fS m.fT (by omega) (by omega)
  exact ⟨d, d0, d1, d2, by rw [d3, m.gS, m.gT]; rfl, quo_up m.up d4 h2 fU_fO hT, quo_lo m.lo d5 h2 fU_fO hT⟩
/-- what is let by: two to the power of -40 -/
def slk : Nat := pw 1034
theorem fU_slk : fU * slk = 4096 * fO := by
  rw [slk.eq_1, fO.eq_1, fU_pw, ← pw_add, show (4096 : Nat) = pw 12 from rfl, ← pw_add]
/-- not far above -/
theorem not_above {u d h sl r a o : Nat} (h1 : u * d ≤ u * h + (a + 5) * o) (h2 : u * (h + sl) ≤ u * r + (h + sl) + u) (h3 : u * sl = 4096 * o) (hh : h ≤ o) (hs : sl ≤ o) (hu : u ≤ o) (ha : a ≤ 1000) (hu0 : 0 < u) : d ≤ r := by
  have k1 : (a + 5) * o ≤ 1005 * o := Nat.mul_le_mul_right _ (by omega)
  have k2 : u * d ≤ u * r := by rw [Nat.mul_add] at h2; omega
  exact Nat.le_of_mul_le_mul_left k2 hu0
/-- not far below -/
theorem not_below {u d l t r a o sl : Nat} (h1 : u * l ≤ u * d + (a + 5) * o) (ht : l = t + sl) (h2 : u * r ≤ u * t + t + u) (h3 : u * sl = 4096 * o) (hl : l ≤ o) (hu : u ≤ o) (ha : a ≤ 1000) (hu0 : 0 < u) : r ≤ d := by
  have k1 : (a + 5) * o ≤ 1005 * o := Nat.mul_le_mul_right _ (by omega)
  have k2 : u * r ≤ u * d := by rw [ht, Nat.mul_add] at h1; omega
  exact Nat.le_of_mul_le_mul_left k2 hu0

/-- powers of two as words -/
theorem word_pw (e : Nat) (h : e < 2046) : Fi ((e + 1) * 2 ^ 52) ∧ sg ((e + 1) * 2 ^ 52) = false ∧ mv ((e + 1) * 2 ^ 52) = pw (52 + e) := by
  have hr : ru ((e + 1) * 2 ^ 52) = (e + 1) * 2 ^ 52 := by unfold ru; omega
  refine ⟨by unfold Fi; rw [hr]; omega, ?_, ?_⟩
  · unfold sg
    rw [show (e + 1) * 2 ^ 52 / 2 ^ 63 = 0 by omega]
    rfl
  · unfold mv
    rw [hr, show (e + 1) * 2 ^ 52 = e * 2 ^ 52 + 2 ^ 52 by omega, rv_at e (2 ^ 52) (by decide) (.inr (Nat.le_refl _)), pw_add]
    rfl
theorem word_one : Fi 4607182418800017408 ∧ sg 4607182418800017408 = false ∧ mv 4607182418800017408 = fO := word_pw 1022 (by omega)
theorem word_slk : Fi 4427038433705197568 ∧ sg 4427038433705197568 = false ∧ mv 4427038433705197568 = slk := word_pw 982 (by omega)
theorem word_least : Fi 4517110426252607488 ∧ sg 4517110426252607488 = false ∧ mv 4517110426252607488 = shL := word_pw 1002 (by omega)
theorem word_most : Fi 4697254411347427328 ∧ sg 4697254411347427328 = false ∧ mv 4697254411347427328 = pw 1094 := word_pw 1042 (by omega)
theorem word_nought : Fi 0 ∧ sg 0 = false ∧ mv 0 = 0 := by unfold Fi sg mv ru rv; decide
/-- a share that may be -/
theorem share_fi {s : Nat} (h1 : (double.order s 4517110426252607488 == some .gt || double.order s 4517110426252607488 == some .eq) = true) (h2 : (double.order s 4697254411347427328 == some .lt || double.order s 4697254411347427328 == some .eq) = true) : Fi s ∧ sg s = false ∧ shL ≤ mv s ∧ mv s ≤ Bd 0 := by
  obtain ⟨h3, h4, h5⟩ := between_fi word_least.1 word_most.1 h1 h2
  rw [sv_nonneg word_least.2.1, word_least.2.2] at h4
  rw [sv_nonneg word_most.2.1, word_most.2.2] at h5
  have h0 : 0 < shL := pw_pos _
  have hb : pw 1094 ≤ Bd 0 := pw_le (by omega)
  have hs : sg s = false := by
    cases e : sg s with
    | false => rfl
    | true => unfold sv at h4; rw [e] at h4; simp at h4; omega
  rw [sv_nonneg hs] at h4 h5
  exact ⟨h3, hs, by omega, by omega⟩
/-- a part that may be -/
theorem part_fi {x : Nat} (h1 : (double.order x 0 == some .gt || double.order x 0 == some .eq) = true) (h2 : (double.order x 4607182418800017408 == some .lt || double.order x 4607182418800017408 == some .eq) = true) : Fi x ∧ (sg x = true → mv x = 0) ∧ mv x ≤ fO := by
  obtain ⟨h3, h4, h5⟩ := between_fi word_nought.1 word_one.1 h1 h2
  rw [sv_nonneg word_nought.2.1, word_nought.2.2] at h4
  rw [sv_nonneg word_one.2.1, word_one.2.2] at h5
  have hz : sg x = true → mv x = 0 := fun e => by unfold sv at h4; rw [e] at h4; simp at h4; omega
  rw [sv_of_zero hz] at h5
  exact ⟨h3, hz, by omega⟩
end Go.Proofs.Ytlilmchlddiacaa
