/-
  Floats of 64 bits as whole numbers of the last place of all: what sums, products and quotients are worth, and how far rounding goes.
-/
import Ieee.Arith
import Derived.Laws.FloatBits
namespace Go.Proofs.Ytlilmchlddiacaa
open Ieee

/-- one place of a fraction -/
abbrev fU : Nat := 4503599627370496
theorem fU_eq : fU = 2 ^ 52 := by decide

/-- powers of two -/
def pw (i : Nat) : Nat := 2 ^ i
theorem pw_lt {i j : Nat} (h : i < j) : pw i < pw j := Nat.pow_lt_pow_right (by decide) h
theorem pw_le {i j : Nat} (h : i ≤ j) : pw i ≤ pw j := Nat.pow_le_pow_right (by decide) h
theorem pw_pos (i : Nat) : 0 < pw i := Nat.two_pow_pos i
theorem pw_add (i j : Nat) : pw (i + j) = pw i * pw j := Nat.pow_add 2 i j
/-- too great, with so many places more -/
def Lid (K : Nat) : Nat := pw (2000 + K)
/-- one, in places of the last one -/
def fO : Nat := pw 1074
/-- what a rung is worth -/
def rv (R : Nat) : Nat := if R < 2 ^ 52 then R else (2 ^ 52 + R % 2 ^ 52) * 2 ^ (R / 2 ^ 52 - 1)
/-- a word's rung, its sign, what it is worth -/
def ru (x : Nat) : Nat := x % 2 ^ 63
def sg (x : Nat) : Bool := x / 2 ^ 63 % 2 == 1
def mv (x : Nat) : Nat := rv (ru x)
def sv (x : Nat) : Int := if sg x then -(mv x : Int) else (mv x : Int)
/-- a number -/
def Fi (x : Nat) : Prop := ru x < 2047 * 2 ^ 52
theorem sv_abs (x : Nat) : (sv x).natAbs = mv x := by unfold sv; split <;> simp
theorem sv_nonneg {x : Nat} (h : sg x = false) : sv x = (mv x : Int) := by unfold sv; rw [h]; rfl

theorem rv_at (e k : Nat) (hk : k ≤ 2 ^ 53) (h : e = 0 ∨ 2 ^ 52 ≤ k) : rv (e * 2 ^ 52 + k) = k * 2 ^ e := by
  unfold rv
  by_cases h1 : k < 2 ^ 52
  · obtain rfl : e = 0 := by omega
    rw [if_pos (by omega)]
    simp
  · rw [if_neg (by omega)]
    by_cases h2 : k = 2 ^ 53
    · subst h2
      rw [show e * 2 ^ 52 + 2 ^ 53 = (e + 2) * 2 ^ 52 by omega, Nat.mul_mod_left, Nat.mul_div_cancel _ (by decide)]
      rw [show e + 2 - 1 = e + 1 by omega, Nat.pow_succ 2 e, Nat.add_zero]
      generalize 2 ^ e = y
      omega
    · have e1 : (e * 2 ^ 52 + k) / 2 ^ 52 = e + 1 := by
        omega
      have e2 : 2 ^ 52 + (e * 2 ^ 52 + k) % 2 ^ 52 = k := by
        have := Nat.div_add_mod (e * 2 ^ 52 + k) (2 ^ 52)
        rw [e1] at this
        omega
      rw [e1, e2]
      simp

theorem read_fi {x : Nat} (h : Fi x) : ∃ (m p : Nat), double.read x = .number (sg x) m (-1074 + (p : Int)) ∧ m * 2 ^ p = mv x := by
  unfold Fi ru at h
  have hs : double.signWeight = 2 ^ 63 := by decide
  have hb : double.binade = 2 ^ 52 := by decide
  have hi : double.infRung = 2047 * 2 ^ 52 := by decide
  have hl : double.leastPlace = -1074 := by decide
  unfold Format.read mv ru rv sg
  simp only [hs, hb, hi, hl]
  by_cases h1 : x % 2 ^ 63 < 2 ^ 52
  · rw [if_pos h1, if_pos h1]
    exact ⟨x % 2 ^ 63, 0, by simp, by simp⟩
  · rw [if_neg h1, if_neg h1, if_pos h]
    exact ⟨_, _, rfl, rfl⟩

theorem cut_near (neg : Bool) (n drop : Nat) : Toward.even.cut neg n drop * 2 ^ drop ≤ n + 2 ^ drop ∧ n < Toward.even.cut neg n drop * 2 ^ drop + 2 ^ drop := by
  unfold Toward.cut
  simp only [Nat.shiftLeft_eq, Nat.one_mul]
  by_cases h : drop ≤ n.log2 + 2
  · rw [Nat.min_eq_left h]
    have h1 := Nat.div_add_mod n (2 ^ drop)
    have h2 := Nat.mod_lt n (Nat.two_pow_pos drop)
    generalize (decide (2 ^ drop < 2 * (n % 2 ^ drop)) || 2 ^ drop == 2 * (n % 2 ^ drop) && n / 2 ^ drop % 2 == 1) = b
    rw [Nat.add_mul, Nat.mul_comm (n / 2 ^ drop)]
    cases b
    · simp; omega
    · simp; omega
  · rw [Nat.min_eq_right (by omega)]
    have h3 : n < 2 ^ (n.log2 + 1) := Nat.lt_log2_self
    have h4 : 2 ^ (n.log2 + 2) = 2 * 2 ^ (n.log2 + 1) := by rw [Nat.pow_succ]; omega
    have h5 : 2 ^ (n.log2 + 1) ≤ 2 ^ drop := Nat.pow_le_pow_right (by decide) (by omega)
    have e1 : n / 2 ^ (n.log2 + 2) = 0 := Nat.div_eq_of_lt (by omega)
    have e2 : n % 2 ^ (n.log2 + 2) = n := Nat.mod_eq_of_lt (by omega)
    rw [e1, e2]
    have c1 : decide (2 ^ (n.log2 + 2) < 2 * n) = false := decide_eq_false (by omega)
    have c2 : (2 ^ (n.log2 + 2) == 2 * n) = false := by simp; omega
    rw [c1, c2]
    simp
    omega
theorem cut_none (neg : Bool) (n : Nat) : Toward.even.cut neg n 0 = n := by
  unfold Toward.cut
  simp [Nat.mod_one]

theorem word_parts (neg : Bool) (R : Nat) (h : R < 2 ^ 63) : ru (double.word neg R) = R ∧ sg (double.word neg R) = neg ∧ double.word neg R < 2 ^ 64 := by
  have hs : double.signWeight = 2 ^ 63 := by decide
  unfold Format.word ru sg
  rw [hs]
  cases neg
  · simp only [Bool.false_eq_true, if_false]
    refine ⟨Nat.mod_eq_of_lt h, ?_, by omega⟩
    rw [Nat.div_eq_of_lt h]; rfl
  · simp only [if_true]
    refine ⟨by omega, ?_, by omega⟩
    rw [show (2 ^ 63 + R) / 2 ^ 63 = 1 by omega]; rfl

/-- what the nearest word of a number is worth: K places more than the last one of all make it whole -/
theorem near_spec (neg : Bool) (mag : Nat) (place : Int) (K V c : Nat) (hm : mag ≠ 0) (hc : place + 1074 + (K : Int) = (c : Int)) (hV : mag * 2 ^ c = V) (hb : V < Lid K) :
    ∃ r, double.nearest neg mag place = r ∧ r < 2 ^ 64 ∧ Fi r ∧ sg r = neg ∧ fU * (mv r * 2 ^ K) ≤ fU * V + V + fU * 2 ^ K ∧ fU * V ≤ fU * (mv r * 2 ^ K) + V + fU * 2 ^ K := by
  unfold Lid pw at hb
  have hs : double.signWeight = 2 ^ 63 := by decide
  have hbn : double.binade = 2 ^ 52 := by decide
  have hi : double.infRung = 2047 * 2 ^ 52 := by decide
  have hl : double.leastPlace = -1074 := by decide
  have hf : double.fractionBits = 52 := by decide
  have l1 := Nat.log2_self_le hm
  have l2 : mag < 2 ^ (mag.log2 + 1) := Nat.lt_log2_self
  have hlog : mag.log2 + c < 2000 + K := by
    rcases Nat.lt_or_ge (mag.log2 + c) (2000 + K) with h | h
    · exact h
    · have h1 : 2 ^ (2000 + K) ≤ 2 ^ (mag.log2 + c) := Nat.pow_le_pow_right (by decide) h
      rw [Nat.pow_add 2 mag.log2 c] at h1
      have h2 := Nat.mul_le_mul_right (2 ^ c) l1
      omega
  unfold Format.nearest
  rw [if_neg hm]
  simp only [hl, hf, hbn, hi, Nat.shiftLeft_eq]
  obtain ⟨last, hlast⟩ : ∃ last : Int, last = max (place + (mag.log2 : Int) - (52 : Nat)) (-1074) := ⟨_, rfl⟩
  rw [← hlast]
  obtain ⟨e, he⟩ : ∃ e : Nat, last = -1074 + (e : Int) := ⟨(last + 1074).toNat, by omega⟩
  have e1 : (last - -1074).toNat = e := by omega
  rw [e1]
  -- what is kept
  obtain ⟨k, hk, hkl, hkh, hk53, hk52⟩ : ∃ k : Nat, Toward.even.cut neg (mag * 2 ^ (place - last).toNat) (last - place).toNat = k ∧ k * 2 ^ (e + K) ≤ V + 2 ^ (e + K) ∧ V ≤ k * 2 ^ (e + K) + 2 ^ (e + K) ∧ k ≤ 2 ^ 53 ∧ (e = 0 ∨ 2 ^ 52 ≤ k) := by
    refine ⟨_, rfl, ?_⟩
    rcases Int.le_total last place with h | h
    · -- nothing is dropped
      obtain ⟨u, hu⟩ : ∃ u : Nat, place = last + (u : Int) := ⟨(place - last).toNat, by omega⟩
      rw [show (last - place).toNat = 0 by omega, cut_none, show (place - last).toNat = u by omega]
      have hcu : c = u + (e + K) := by omega
      have hVu : mag * 2 ^ u * 2 ^ (e + K) = V := by rw [← hV, hcu, Nat.pow_add 2 u, Nat.mul_assoc]
      refine ⟨by rw [hVu]; exact Nat.le_add_right _ _, by rw [hVu]; exact Nat.le_add_right _ _, ?_, ?_⟩
      · have h1 : mag.log2 + u ≤ 52 := by omega
        have h2 : mag * 2 ^ u ≤ 2 ^ (mag.log2 + 1) * 2 ^ u := Nat.mul_le_mul_right _ (Nat.le_of_lt l2)
        rw [← Nat.pow_add] at h2
        exact Nat.le_trans h2 (Nat.pow_le_pow_right (by decide) (by omega))
      · rcases Nat.eq_zero_or_pos e with h0 | h0
        · exact .inl h0
        · refine .inr ?_
          have h1 : mag.log2 + u = 52 := by omega
          have h2 := Nat.mul_le_mul_right (2 ^ u) l1
          rw [← Nat.pow_add, h1] at h2
          exact h2
    · -- the last digits are dropped
      obtain ⟨u, hu⟩ : ∃ u : Nat, last = place + (u : Int) := ⟨(last - place).toNat, by omega⟩
      rw [show (place - last).toNat = 0 by omega, show (last - place).toNat = u by omega, Nat.pow_zero, Nat.mul_one]
      have hcu : e + K = u + c := by omega
      obtain ⟨h1, h2⟩ := cut_near neg mag u
      rw [hcu, Nat.pow_add 2 u, ← hV]
      generalize Toward.even.cut neg mag u = k at *
      have a1 := Nat.mul_le_mul_right (2 ^ c) h1
      have a2 := Nat.mul_le_mul_right (2 ^ c) (Nat.le_of_lt h2)
      rw [Nat.add_mul, Nat.mul_assoc] at a1 a2
      refine ⟨a1, a2, ?_, ?_⟩
      · -- not too many digits
        have h3 : mag.log2 ≤ 52 + u := by omega
        have h4 : mag < 2 ^ (53 + u) := Nat.lt_of_lt_of_le l2 (Nat.pow_le_pow_right (by decide) (by omega))
        rw [Nat.pow_add] at h4
        have h5 : k * 2 ^ u < (2 ^ 53 + 1) * 2 ^ u := by rw [Nat.add_mul, Nat.one_mul]; omega
        have := Nat.lt_of_mul_lt_mul_right h5
        omega
      · rcases Nat.eq_zero_or_pos e with h0 | h0
        · exact .inl h0
        · refine .inr ?_
          have h3 : mag.log2 = 52 + u := by omega
          rw [h3, Nat.pow_add] at l1
          have h5 : 2 ^ 52 * 2 ^ u < (k + 1) * 2 ^ u := by rw [Nat.add_mul, Nat.one_mul]; omega
          have := Nat.lt_of_mul_lt_mul_right h5
          omega
  rw [hk]
  have he9 : e < 2045 := by omega
  have hR : e * 2 ^ 52 + k < 2047 * 2 ^ 52 := by omega
  rw [Nat.min_eq_left (by omega)]
  obtain ⟨w1, w2, w3⟩ := word_parts neg (e * 2 ^ 52 + k) (by omega)
  refine ⟨_, rfl, w3, by unfold Fi; rw [w1]; exact hR, w2, ?_⟩
  have hmv : mv (double.word neg (e * 2 ^ 52 + k)) * 2 ^ K = k * 2 ^ (e + K) := by
    unfold mv
    rw [w1, rv_at e k hk53 hk52, Nat.pow_add, Nat.mul_assoc]
  rw [hmv]
  have hun : fU * 2 ^ (e + K) ≤ V + fU * 2 ^ K := by
    rcases Nat.eq_zero_or_pos e with h0 | h0
    · rw [h0, Nat.zero_add]; exact Nat.le_add_left _ _
    · have h1 : 52 + (e + K) = mag.log2 + c := by omega
      have h2 : fU * 2 ^ (e + K) ≤ V := by
        rw [fU_eq, ← Nat.pow_add, h1, Nat.pow_add, ← hV]
        exact Nat.mul_le_mul_right _ l1
      omega
  have a1 := Nat.mul_le_mul_left fU hkl
  have a2 := Nat.mul_le_mul_left fU hkh
  rw [Nat.mul_add] at a1 a2
  generalize 2 ^ (e + K) = y at *
  generalize 2 ^ K = x at *
  omega

theorem near_any (neg : Bool) (mag : Nat) (place : Int) (K V c P : Nat) (hP : 2 ^ K = P) (hc : place + 1074 + (K : Int) = (c : Int)) (hV : mag * 2 ^ c = V) (hb : V < Lid K) :
    ∃ r, double.nearest neg mag place = r ∧ r < 2 ^ 64 ∧ Fi r ∧ sg r = neg ∧ fU * (mv r * P) ≤ fU * V + V + fU * P ∧ fU * V ≤ fU * (mv r * P) + V + fU * P ∧ (V = 0 → mv r = 0) := by
  subst hP
  by_cases hm : mag = 0
  · subst hm
    obtain ⟨w1, w2, w3⟩ := word_parts neg 0 (by decide)
    have hz : mv (double.word neg 0) = 0 := by unfold mv; rw [w1]; rfl
    refine ⟨double.word neg 0, by unfold Format.nearest; rw [if_pos rfl], w3, by unfold Fi; rw [w1]; decide, w2, ?_, ?_, fun _ => hz⟩
    · rw [hz]; simp
    · rw [← hV]; simp
  · obtain ⟨r, h1, h2, h3, h4, h5, h6⟩ := near_spec neg mag place K V c hm hc hV hb
    refine ⟨r, h1, h2, h3, h4, h5, h6, fun h0 => ?_⟩
    rw [← hV] at h0
    have := Nat.mul_pos (Nat.pos_of_ne_zero hm) (Nat.two_pow_pos c)
    omega

/-- a number with its sign -/
def sI (s : Bool) (v : Nat) : Int := if s then -(v : Int) else (v : Int)
theorem sv_sI (x : Nat) : sv x = sI (sg x) (mv x) := rfl
theorem signed_up (s : Bool) (m a b : Nat) : Ieee.signed s m a * ((2 ^ b : Nat) : Int) = sI s (m * 2 ^ (a + b)) := by
  unfold Ieee.signed sI
  rw [Nat.shiftLeft_eq]
  have h : ((m * 2 ^ a : Nat) : Int) * ((2 ^ b : Nat) : Int) = ((m * 2 ^ (a + b) : Nat) : Int) := by
    rw [← Int.natCast_mul, Nat.pow_add, Nat.mul_assoc]
  split
  · rw [Int.neg_mul, h]
  · exact h
/-- two numbers added -/
theorem sum_num (s t : Bool) (m n p q : Nat) (S : Int) (hS : S = sI s (m * 2 ^ p) + sI t (n * 2 ^ q)) :
    ∃ (neg : Bool) (mag c : Nat), Datum.sum (.number s m (-1074 + (p : Int))) (.number t n (-1074 + (q : Int))) = some (.number neg mag (-1074 + (c : Int))) ∧ mag * 2 ^ c = S.natAbs ∧ (0 < S → neg = false) ∧ (S < 0 → neg = true) ∧ (S = 0 → neg = (s && t)) := by
  obtain ⟨c, hc⟩ : ∃ c, c = min p q := ⟨_, rfl⟩
  have hb : min (-1074 + (p : Int)) (-1074 + (q : Int)) = -1074 + (c : Int) := by omega
  have h1 : (-1074 + (p : Int) - (-1074 + (c : Int))).toNat = p - c := by omega
  have h2 : (-1074 + (q : Int) - (-1074 + (c : Int))).toNat = q - c := by omega
  unfold Datum.sum
  simp only [hb, h1, h2]
  obtain ⟨tot, ht⟩ : ∃ tot, tot = Ieee.signed s m (p - c) + Ieee.signed t n (q - c) := ⟨_, rfl⟩
  rw [← ht]
  have hT : tot * ((2 ^ c : Nat) : Int) = S := by
    rw [ht, Int.add_mul, signed_up, signed_up, hS, show p - c + c = p by omega, show q - c + c = q by omega]
  have hpos : (0 : Int) < ((2 ^ c : Nat) : Int) := by have := Nat.two_pow_pos c; omega
  refine ⟨_, tot.natAbs, c, rfl, ?_, ?_, ?_, ?_⟩
  · rw [← hT, Int.natAbs_mul, Int.natAbs_natCast]
  · intro h
    have : 0 < tot := by
      rcases Int.lt_or_le 0 tot with k | k
      · exact k
      · have := Int.mul_le_mul_of_nonneg_right k (Int.le_of_lt hpos)
        rw [hT, Int.zero_mul] at this
        omega
    rw [if_neg (by omega)]
    exact decide_eq_false (by omega)
  · intro h
    have : tot < 0 := by
      rcases Int.lt_or_le tot 0 with k | k
      · exact k
      · have := Int.mul_nonneg k (Int.le_of_lt hpos)
        rw [hT] at this
        omega
    rw [if_neg (by omega)]
    exact decide_eq_true (by omega)
  · intro h
    have : tot = 0 := by
      rw [h] at hT
      rcases Int.mul_eq_zero.1 hT with k | k
      · exact k
      · omega
    rw [if_pos this]
/-- a sum of numbers: what it is worth -/
def Sum (S : Int) (r : Nat) : Prop := r < 2 ^ 64 ∧ Fi r ∧ fU * mv r ≤ fU * S.natAbs + S.natAbs + fU ∧ fU * S.natAbs ≤ fU * mv r + S.natAbs + fU ∧ (S = 0 → mv r = 0) ∧ (0 < S → sg r = false) ∧ (S < 0 → sg r = true)
theorem add_fi {x y : Nat} (hx : Fi x) (hy : Fi y) (hb : (sv x + sv y).natAbs < Lid 0) : ∃ r, double.add x y = some r ∧ Sum (sv x + sv y) r ∧ (sv x + sv y = 0 → sg r = (sg x && sg y)) := by
  obtain ⟨m, p, e1, h1⟩ := read_fi hx
  obtain ⟨n, q, e2, h2⟩ := read_fi hy
  obtain ⟨neg, mag, c, e3, h3, s1, s2, s3⟩ := sum_num (sg x) (sg y) m n p q (sv x + sv y) (by rw [h1, h2]; rfl)
  obtain ⟨r, g1, g2, g3, g4, g5, g6, g7⟩ := near_any neg mag (-1074 + (c : Int)) 0 (sv x + sv y).natAbs c 1 rfl (by omega) h3 hb
  refine ⟨r, ?_, ⟨g2, g3, by simpa using g5, by simpa using g6, fun h => g7 (by rw [h]; rfl), fun h => by rw [g4]; exact s1 h, fun h => by rw [g4]; exact s2 h⟩, fun h => by rw [g4]; exact s3 h⟩
  unfold Format.add
  rw [e1, e2, e3]
  simp only [Option.map_some, Format.write]
  rw [g1]
theorem sub_fi {x y : Nat} (hx : Fi x) (hy : Fi y) (hb : (sv x - sv y).natAbs < Lid 0) : ∃ r, double.sub x y = some r ∧ Sum (sv x - sv y) r ∧ (sv x - sv y = 0 → sg r = (sg x && !sg y)) := by
  obtain ⟨m, p, e1, h1⟩ := read_fi hx
  obtain ⟨n, q, e2, h2⟩ := read_fi hy
  obtain ⟨neg, mag, c, e3, h3, s1, s2, s3⟩ := sum_num (sg x) (!sg y) m n p q (sv x - sv y) (by
    rw [h1, h2]
    show sI _ _ - sI _ _ = _
    unfold sI
    cases sg y <;> simp <;> omega)
  obtain ⟨r, g1, g2, g3, g4, g5, g6, g7⟩ := near_any neg mag (-1074 + (c : Int)) 0 (sv x - sv y).natAbs c 1 rfl (by omega) h3 hb
  refine ⟨r, ?_, ⟨g2, g3, by simpa using g5, by simpa using g6, fun h => g7 (by rw [h]; rfl), fun h => by rw [g4]; exact s1 h, fun h => by rw [g4]; exact s2 h⟩, fun h => by rw [g4]; exact s3 h⟩
  unfold Format.sub
  rw [e1, e2]
  simp only [Datum.opposite]
  rw [e3]
  simp only [Option.map_some, Format.write]
  rw [g1]
theorem mul_fi {x y : Nat} (hx : Fi x) (hy : Fi y) (hb : mv x * mv y < Lid 1074) : ∃ r, double.mul x y = some r ∧ r < 2 ^ 64 ∧ Fi r ∧ sg r = (sg x ^^ sg y) ∧ fU * (mv r * fO) ≤ fU * (mv x * mv y) + mv x * mv y + fU * fO ∧ fU * (mv x * mv y) ≤ fU * (mv r * fO) + mv x * mv y + fU * fO ∧ (mv x * mv y = 0 → mv r = 0) := by
  obtain ⟨m, p, e1, h1⟩ := read_fi hx
  obtain ⟨n, q, e2, h2⟩ := read_fi hy
  obtain ⟨r, g1, g2, g3, g4, g5, g6, g7⟩ := near_any (sg x ^^ sg y) (m * n) (-1074 + (p : Int) + (-1074 + (q : Int))) 1074 (mv x * mv y) (p + q) fO (by rw [fO.eq_1, pw.eq_1]) (by omega) (by rw [← h1, ← h2, Nat.pow_add]; generalize 2 ^ p = a; generalize 2 ^ q = b; rw [Nat.mul_mul_mul_comm]) hb
  refine ⟨r, ?_, g2, g3, g4, g5, g6, g7⟩
  unfold Format.mul
  rw [e1, e2]
  simp only [Datum.product, Option.map_some, Format.write]
  rw [g1]

theorem quo_num (m n : Nat) (hm : m ≠ 0) (hn : n ≠ 0) (more D Q : Nat) (hmore : more = 54 + n.log2 - m.log2) (hD : D = m * 2 ^ more) (hQ : Q = 2 * (D / n) + (D % n != 0).toNat) :
    18014398509481984 * (Q * n) ≤ 18014398509481984 * (2 * D) + 2 * D ∧ 18014398509481984 * (2 * D) ≤ 18014398509481984 * (Q * n) + 2 * D := by
  have h1 := Nat.div_add_mod D n
  have h2 := Nat.mod_lt D (Nat.pos_of_ne_zero hn)
  have h3 : 9007199254740992 * n ≤ D := by
    have a1 := Nat.log2_self_le hm
    have a2 : n < 2 ^ (n.log2 + 1) := Nat.lt_log2_self
    have a3 : 2 ^ m.log2 * 2 ^ more ≤ D := by rw [hD]; exact Nat.mul_le_mul_right _ a1
    rw [← Nat.pow_add] at a3
    have a4 : 2 ^ (53 + (n.log2 + 1)) ≤ 2 ^ (m.log2 + more) := Nat.pow_le_pow_right (by decide) (by omega)
    rw [Nat.pow_add 2 53] at a4
    generalize 2 ^ (n.log2 + 1) = y at *
    omega
  have h4 : Q * n = 2 * (n * (D / n)) + (D % n != 0).toNat * n := by
    rw [hQ, Nat.add_mul, Nat.mul_assoc, Nat.mul_comm (D / n)]
  rw [h4]
  generalize n * (D / n) = u at *
  by_cases h5 : D % n = 0
  · rw [h5] at h1 ⊢
    simp
    omega
  · have h6 : (D % n != 0) = true := by simpa using h5
    rw [h6]
    simp only [Bool.toNat_true, Nat.one_mul]
    generalize D % n = v at *
    omega
theorem pow8 (a K : Nat) : 8 * pw a * 2 ^ K = pw (3 + a + K) := by rw [pw_add, pw_add]; rfl
theorem eight (a o k : Nat) : 2 * (4 * a * o * k) = (8 * o * k) * a := by grind
/-- a quotient of numbers: what it is worth -/
theorem div_fi {x y : Nat} (hx : Fi x) (hy : Fi y) (hy0 : mv y ≠ 0) (hb : mv x ≤ 4 * mv y) : ∃ r, double.div x y = some r ∧ r < 2 ^ 64 ∧ Fi r ∧ sg r = (sg x ^^ sg y) ∧ fU * (mv r * mv y) ≤ fU * (mv x * fO) + 2 * (mv x * fO) + fU * mv y ∧ fU * (mv x * fO) ≤ fU * (mv r * mv y) + 2 * (mv x * fO) + fU * mv y ∧ (mv x = 0 → mv r = 0) := by
  obtain ⟨m, p, e1, h1⟩ := read_fi hx
  obtain ⟨n, q, e2, h2⟩ := read_fi hy
  have hn : n ≠ 0 := fun k => hy0 (by rw [← h2, k, Nat.zero_mul])
  obtain ⟨more, hmore⟩ : ∃ more, more = 54 + n.log2 - m.log2 := ⟨_, rfl⟩
  obtain ⟨D, hD⟩ : ∃ D, D = m * 2 ^ more := ⟨_, rfl⟩
  obtain ⟨Q, hQ⟩ : ∃ Q, Q = 2 * (D / n) + (D % n != 0).toNat := ⟨_, rfl⟩
  have hdiv : double.div x y = some (double.nearest (sg x ^^ sg y) Q (-1074 + (p : Int) - (-1074 + (q : Int)) - (more : Int) - 1)) := by
    have hf : double.fractionBits = 52 := by decide
    unfold Format.div
    rw [e1, e2]
    simp only [Datum.quotient, if_neg hn, Option.map_some, Format.write, hf, Nat.shiftLeft_eq]
    rw [hQ, hD, hmore]
  by_cases hm : m = 0
  · have hx0 : mv x = 0 := by rw [← h1, hm, Nat.zero_mul]
    have hQ0 : Q = 0 := by rw [hQ, hD, hm]; simp
    rw [hQ0] at hdiv
    obtain ⟨w1, w2, w3⟩ := word_parts (sg x ^^ sg y) 0 (by decide)
    have hz : mv (double.word (sg x ^^ sg y) 0) = 0 := by unfold mv; rw [w1]; rfl
    refine ⟨double.word (sg x ^^ sg y) 0, ?_, w3, by unfold Fi; rw [w1]; decide, w2, ?_, ?_, fun _ => hz⟩
    · rw [hdiv]; unfold Format.nearest; rw [if_pos rfl]
    · rw [hz]; simp
    · rw [hx0]; simp
  · obtain ⟨b1, b2⟩ := quo_num m n hm hn more D Q hmore hD hQ
    obtain ⟨K, hK⟩ : ∃ K, K = q + more + 1 := ⟨_, rfl⟩
    obtain ⟨k, hk⟩ : ∃ k, 2 ^ K = k := ⟨_, rfl⟩
    obtain ⟨V, hV⟩ : ∃ V, Q * 2 ^ (p + 1074) = V := ⟨_, rfl⟩
    have hk0 : 0 < k := by rw [← hk]; exact Nat.two_pow_pos _
    -- V times y is x times one, nearly
    have hX : 2 * D * 2 ^ (p + 1074) * 2 ^ q = mv x * fO * k := by
      have e : 2 ^ (p + 1074) = 2 ^ p * fO := by rw [Nat.pow_add, fO.eq_1, pw.eq_1]
      rw [e, hD, ← h1, ← hk, hK, Nat.pow_add, Nat.pow_add, Nat.pow_one]
      clear e hV hdiv
      generalize fO = o
      generalize 2 ^ p = a
      generalize 2 ^ q = b
      generalize 2 ^ more = d
      grind
    have hY : Q * n * 2 ^ (p + 1074) * 2 ^ q = V * mv y := by
      rw [← hV, ← h2]
      clear hV hX hdiv
      generalize 2 ^ (p + 1074) = z
      generalize 2 ^ q = b
      grind
    have c1 : 18014398509481984 * (V * mv y) ≤ 18014398509481984 * (mv x * fO * k) + mv x * fO * k := by
      have := Nat.mul_le_mul_right (2 ^ (p + 1074) * 2 ^ q) b1
      rw [← hX, ← hY]
      clear hV hX hY hdiv
      generalize 2 ^ (p + 1074) = z at *
      generalize 2 ^ q = b at *
      grind
    have c2 : 18014398509481984 * (mv x * fO * k) ≤ 18014398509481984 * (V * mv y) + mv x * fO * k := by
      have := Nat.mul_le_mul_right (2 ^ (p + 1074) * 2 ^ q) b2
      rw [← hX, ← hY]
      clear hV hX hY hdiv
      generalize 2 ^ (p + 1074) = z at *
      generalize 2 ^ q = b at *
      grind
    have hlid : V < Lid K := by
      have d1 : V * mv y ≤ 2 * (mv x * fO * k) := by
        generalize V * mv y = a at *
        generalize mv x * fO * k = b at *
        omega
      have d2 : mv x * fO * k ≤ 4 * mv y * fO * k := Nat.mul_le_mul_right _ (Nat.mul_le_mul_right _ hb)
      have d3 : V * mv y ≤ (8 * fO * k) * mv y := by
        have := eight (mv y) fO k
        omega
      have d4 : V ≤ 8 * fO * k := Nat.le_of_mul_le_mul_right d3 (Nat.pos_of_ne_zero hy0)
      have d5 : 8 * fO * k < Lid K := by
        rw [fO.eq_1, ← hk, pow8 1074 K, Lid.eq_1]
        exact pw_lt (by omega)
      omega
    obtain ⟨r, g1, g2, g3, g4, g5, g6, -⟩ := near_any (sg x ^^ sg y) Q (-1074 + (p : Int) - (-1074 + (q : Int)) - (more : Int) - 1) K V (p + 1074) k hk (by omega) hV hlid
    have k5 := Nat.mul_le_mul_right (mv y) g5
    have k6 := Nat.mul_le_mul_right (mv y) g6
    clear hlid hV hX hY b1 b2
    refine ⟨r, by rw [hdiv, g1], g2, g3, g4, ?_, ?_, fun h0 => ?_⟩
    · refine Nat.le_of_mul_le_mul_right ?_ hk0
      have f1 : fU * (mv r * k) * mv y = fU * (mv r * mv y) * k := by grind
      have f2 : (fU * V + V + fU * k) * mv y = fU * (V * mv y) + V * mv y + fU * mv y * k := by grind
      have f3 : (fU * (mv x * fO) + 2 * (mv x * fO) + fU * mv y) * k = fU * (mv x * fO * k) + 2 * (mv x * fO * k) + fU * mv y * k := by grind
      rw [f1, f2] at k5
      rw [f3]
      generalize V * mv y = a at *
      generalize mv x * fO * k = b at *
      generalize fU * mv y * k = d at *
      generalize fU * (mv r * mv y) * k = t at *
      clear f1 f2 f3 k6 g5 g6
      unfold fU at *
      omega
    · refine Nat.le_of_mul_le_mul_right ?_ hk0
      have f1 : (fU * (mv r * k) + V + fU * k) * mv y = fU * (mv r * mv y) * k + V * mv y + fU * mv y * k := by grind
      have f2 : fU * V * mv y = fU * (V * mv y) := by grind
      have f3 : (fU * (mv r * mv y) + 2 * (mv x * fO) + fU * mv y) * k = fU * (mv r * mv y) * k + 2 * (mv x * fO * k) + fU * mv y * k := by grind
      have f4 : fU * (mv x * fO) * k = fU * (mv x * fO * k) := by grind
      rw [f1, f2] at k6
      rw [f3, f4]
      generalize V * mv y = a at *
      generalize mv x * fO * k = b at *
      generalize fU * mv y * k = d at *
      generalize fU * (mv r * mv y) * k = t at *
      clear f1 f2 f3 f4 k5 g5 g6
      unfold fU at *
      omega
    · exfalso
      rw [← h1] at h0
      have := Nat.mul_pos (Nat.pos_of_ne_zero hm) (Nat.two_pow_pos p)
      omega

theorem compare_scale (a b P : Int) (hP : 0 < P) : compare (a * P) (b * P) = compare a b := by
  have h1 : a * P < b * P ↔ a < b := Int.mul_lt_mul_right hP
  have h2 : a * P = b * P ↔ a = b := Int.mul_eq_mul_right_iff (by omega)
  unfold compare instOrdInt compareOfLessAndEq
  simp only [h1, h2]
/-- numbers stand to each other as what they are worth -/
theorem order_fi {x y : Nat} (hx : Fi x) (hy : Fi y) : double.order x y = some (compare (sv x) (sv y)) := by
  obtain ⟨m, p, e1, h1⟩ := read_fi hx
  obtain ⟨n, q, e2, h2⟩ := read_fi hy
  obtain ⟨c, hc⟩ : ∃ c, c = min p q := ⟨_, rfl⟩
  have hb : min (-1074 + (p : Int)) (-1074 + (q : Int)) = -1074 + (c : Int) := by omega
  have g1 : (-1074 + (p : Int) - (-1074 + (c : Int))).toNat = p - c := by omega
  have g2 : (-1074 + (q : Int) - (-1074 + (c : Int))).toNat = q - c := by omega
  unfold Format.order
  rw [e1, e2]
  simp only [Datum.order, hb, g1, g2]
  rw [← compare_scale _ _ ((2 ^ c : Nat) : Int) (by have := Nat.two_pow_pos c; omega), signed_up, signed_up, show p - c + c = p by omega, show q - c + c = q by omega, h1, h2]
  rfl
/-- what is no number is without end, or none at all -/
theorem read_not {x : Nat} (h : ¬ Fi x) : (double.read x = .infinity (sg x)) ∨ ∃ t, double.read x = .nan (sg x) t := by
  unfold Fi ru at h
  have hs : double.signWeight = 2 ^ 63 := by decide
  have hb : double.binade = 2 ^ 52 := by decide
  have hi : double.infRung = 2047 * 2 ^ 52 := by decide
  unfold Format.read sg
  simp only [hs, hb, hi]
  rw [if_neg (by omega), if_neg h]
  by_cases h1 : x % 2 ^ 63 = 2047 * 2 ^ 52
  · rw [if_pos h1]; exact .inl rfl
  · rw [if_neg h1]; exact .inr ⟨_, rfl⟩
/-- between two numbers there are numbers alone -/
theorem between_fi {x a b : Nat} (ha : Fi a) (hb : Fi b) (h1 : (double.order x a == some .gt || double.order x a == some .eq) = true) (h2 : (double.order x b == some .lt || double.order x b == some .eq) = true) : Fi x ∧ sv a ≤ sv x ∧ sv x ≤ sv b := by
  by_cases hx : Fi x
  · rw [order_fi hx ha] at h1
    rw [order_fi hx hb] at h2
    refine ⟨hx, ?_, ?_⟩
    · rcases Int.lt_or_le (sv x) (sv a) with k | k
      · rw [show compare (sv x) (sv a) = .lt from by unfold compare instOrdInt compareOfLessAndEq; simp [k]] at h1
        simp at h1
      · exact k
    · rcases Int.lt_or_le (sv b) (sv x) with k | k
      · rw [show compare (sv x) (sv b) = .gt from by unfold compare instOrdInt compareOfLessAndEq; simp [show ¬ sv x < sv b by omega, show ¬ sv x = sv b by omega]] at h2
        simp at h2
      · exact k
  · exfalso
    obtain ⟨m, p, e1, -⟩ := read_fi ha
    obtain ⟨n, q, e2, -⟩ := read_fi hb
    unfold Format.order at h1 h2
    rw [e1] at h1
    rw [e2] at h2
    rcases read_not hx with e | ⟨t, e⟩
    · rw [e] at h1 h2
      simp only [Datum.order] at h1 h2
      cases hs : sg x <;> simp [hs] at h1 h2
    · rw [e] at h1
      simp [Datum.order] at h1
end Go.Proofs.Ytlilmchlddiacaa
