/-
  ShapeRows.
-/
import Derived.Test.YtmblnfdadpcigaaC
import Derived.Test.YtmblnfdadpcigaaD
namespace Go.Proofs.Ytmblnfdadpcigaa
open Go.RowKit

/-- how wide it is ahead of row x -/
def pv (a b n x : Nat) : Int := (a : Int) + wy a b * (rb n (fr a b / n) (fr a b % n) x : Nat)
theorem pv_zero (a b n : Nat) (hn : 0 < n) : pv a b n 0 = (a : Int) := by unfold pv; rw [rb_zero n _ _ hn]; simp
theorem pv_succ (a b n x : Nat) : pv a b n (x + 1) = wd a b n x := rfl
theorem wd_last (a b n : Nat) (hn : 0 < n) : wd a b n (n - 1) = (b : Int) := by
  unfold wd
  rw [rf_last n (fr a b) hn]
  unfold wy fr
  split <;> omega
theorem rb_le (n d x : Nat) (hn : 0 < n) (hx : x ≤ n) : rb n (d / n) (d % n) x ≤ d := by
  unfold rb
  have h1 := mb_le n (d % n) x hn hx
  have h2 := Nat.mul_le_mul_right (d / n) hx
  have h3 := Nat.div_add_mod d n
  omega
theorem pv_in (a b n x : Nat) (ha : a ≤ 1048576) (hb : b ≤ 1048576) (hn : 0 < n) (hx : x ≤ n) : 0 ≤ pv a b n x ∧ pv a b n x ≤ 1048576 := by
  have := rb_le n (fr a b) x hn hx
  unfold pv
  generalize rb n (fr a b / n) (fr a b % n) x = r at *
  unfold fr at this
  unfold wy
  split at this
  · rename_i h; rw [if_pos h]; omega
  · rename_i h; rw [if_neg h]; omega
/-- what changes at row x -/
theorem chg (a b n x : Nat) (ha : a ≤ 1048576) (hb : b ≤ 1048576) (hx : x < n) : ∃ (q d : Nat) (u v : Int), q = fr a b / n ∧ u = pv a b n x ∧ v = wd a b n x ∧ v - u = wy a b * (d : Int) ∧ q ≤ d ∧ d ≤ q + 1 ∧ d ≤ 1048576 ∧ 0 ≤ u ∧ u ≤ 1048576 ∧ 0 ≤ v ∧ v ≤ 1048576 := by
  have h1 := pv_in a b n x ha hb (by omega) (by omega)
  have h2 := pv_in a b n (x + 1) ha hb (by omega) (by omega)
  have h3 := rb_step n (fr a b / n) (fr a b % n) x (by omega) (Nat.le_of_lt (Nat.mod_lt _ (by omega)))
  have h0 : (0 : Int) ≤ ((fr a b / n : Nat) : Int) := Int.natCast_nonneg _
  refine ⟨_, rf n (fr a b / n) (fr a b % n) x - rb n (fr a b / n) (fr a b % n) x, _, _, rfl, rfl, rfl, ?_, by omega, by omega, ?_, h1.1, h1.2, h2.1, h2.2⟩
  · unfold wd pv wy
    split <;> omega
  · have h4 := rf_le n (fr a b) x hx
    have : fr a b ≤ 1048576 := by unfold fr; split <;> omega
    omega

/-- the least and the greatest change so far -/
def LM (q x lo hi : Nat) : Prop := (x = 0 ∧ lo = 0 ∧ hi = 0) ∨ (1 ≤ x ∧ q ≤ lo ∧ lo ≤ hi ∧ hi ≤ q + 1 ∧ hi ≤ 1048577)

set_option maxRecDepth 100000 in
set_option maxHeartbeats 1000000 in
theorem srows_err (a b n : Int) (h : roB a b n = false) (W : World) : Calls Try.prog 5 #[.int .i64 a, .int .i64 b, .int .i64 n] W fun e w' => e = .returned (.bool true) ∧ Below W.heap.size W w' := by
  have HA := hide (fun V => alive_any V)
  have HS := hide (fun V => rows_err a b n h V)
  clear h
  go_enter Try.func5, Try.ntmps5
  go_wp2_with fail
  refine (unhide HA _).mono ?_
  rintro e w1 ⟨rfl, hb1⟩
  go_wp2_with fail
  refine (unhide HS _).mono ?_
  rintro e w2 ⟨q, cp, rfl, -, hb2⟩
  have Hb := hide (btrans hb1 hb2)
  clear hb1 hb2 HA HS
  go_wp2
  go_ret
  exact ⟨rfl, unhide Hb⟩

set_option maxRecDepth 100000 in
set_option maxHeartbeats 4000000 in
theorem srows_neg (a b n : Nat) (ha : a ≤ 1048576) (hb : b ≤ 1048576) (hn0 : 1 ≤ n) (hn : n ≤ 4096) (hd : b < a) (W : World) : Calls Try.prog 5 #[.int .i64 a, .int .i64 b, .int .i64 n] W fun e w' => e = .returned (.bool true) ∧ Below W.heap.size W w' := by
  have HA := hide (fun V => alive_any V)
  have HS := hide (fun V => rows_ok a b n ha hb hn0 hn V)
  have HC := hide (fun (x : Nat) (hx : x < n) => chg a b n x ha hb hx)
  have Hw := hide (show wy a b = -1 by unfold wy; rw [if_pos hd])
  rw [unhide Hw] at HC
  have HL := hide (wd_last a b n (by omega))
  have H0 := hide (pv_zero a b n (by omega))
  have H1 := hide (fun x => pv_succ a b n x)
  obtain ⟨q, hq⟩ : ∃ q, q = fr a b / n := ⟨_, rfl⟩
  rw [← hq] at HC
  generalize wd a b n = g at *
  generalize pv a b n = pf at *
  clear hq Hw
  have emm : ((n : Int) != (n : Int)) = false := by simp
  have ebb : ((b : Int) != (b : Int)) = false := by simp
  have eb2 : (b : Int) = (b : Int) := rfl
  obtain ⟨y, hy⟩ : ∃ y, n = y + 1 := ⟨n - 1, by omega⟩
  have ey : (n : Int) - 1 = (y : Int) := by omega
  have ey2 : (y : Int) < (n : Int) := by omega
  have ey3 : (0 : Int) ≤ (y : Int) := by omega
  have Hy := hide hy
  have cd : (b : Int) < (a : Int) := by omega
  clear hy eb2 hd
  go_enter Try.func5, Try.ntmps5
  go_wp2_with fail
  refine (unhide HA _).mono ?_
  rintro e w1 ⟨rfl, hb1⟩
  go_wp2_with fail
  refine (unhide HS _).mono ?_
  rintro e w2 ⟨qs, cp, rfl, hI, hb2⟩
  have Hb := hide (btrans hb1 hb2)
  have HI := hide hI
  obtain ⟨ad, rfl, hl, hk⟩ := hI.at (x := y) (by have := unhide Hy; omega)
  have ky : w2.cell? ⟨ad, y, none⟩ = some (.int .i64 (b : Int)) := by
    rw [hk y (by have := unhide Hy; omega), ← unhide HL, show n - 1 = y by have := unhide Hy; omega]
  clear hb1 hb2 HA HS hI hk HL
  go_wp2
  clear ky ey
  go_loopw [9, 10, 11, 42] (fun last least most i wr => ∃ (x lo hi : Nat), x ≤ n ∧ i = .int .i64 x ∧ last = .int .i64 (pf x) ∧ least = .int .i64 lo ∧ most = .int .i64 hi ∧ LM q x lo hi ∧ Below w2.heap.size w2 wr) (fun _ _ _ i _ => n - (intOf i).toNat)
  case atStart => exact ⟨0, 0, 0, Nat.zero_le _, rfl, by rw [unhide H0], rfl, rfl, .inl ⟨rfl, rfl, rfl⟩, Below.refl _ _⟩
  case round =>
    obtain ⟨x, lo, hi, hx, rfl, rfl, rfl, rfl, hLM, hb⟩ := hrel
    have HLM := hide hLM
    clear hLM
    by_cases hlt : x < n
    · obtain ⟨ad', had, hl', hk⟩ := ((unhide HI).keep hb).at (x := x) hlt
      obtain rfl : ad = ad' := by simpa using had
      have kx := hk x hlt
      obtain ⟨q', d, u, v, hq', hu, hv, c1, c2, c3, c4, c5, c6, c7, c8⟩ := unhide HC x hlt
      subst hq'
      rw [← hv] at kx
      have Hu := hide hu
      have Hn := hide (show pf (x + 1) = v by rw [unhide H1, hv])
      rw [← hu]
      have q0 : (x : Int) < (n : Int) := by omega
      have q1 : (0 : Int) ≤ (x : Int) := by omega
      simp only [Int.neg_mul, Int.one_mul] at c1
      have c9 : -(v - u) = (d : Int) := by omega
      clear hk hu hv had
      have Hbb := hide hb
      clear hb
      by_cases h0 : x = 0
      · have z0 : ((x : Int) == 0) = true := by simp [h0]
        have z1 : (x : Int) = 0 := by omega
        have HR := hide (show LM q' (x + 1) d d from .inr ⟨by omega, c2, Nat.le_refl _, c3, by omega⟩)
        clear z1 h0 HLM
        go_wp2
        go_roundw
        case rel => exact ⟨x + 1, d, d, by omega, by go_num, by rw [unhide Hn], rfl, rfl, unhide HR, unhide Hbb⟩
        case measure => simp [intOf]; omega
      · have z0 : ((x : Int) == 0) = false := by simp; omega
        have hLM := (unhide HLM).resolve_left (fun h => h0 h.1)
        clear h0
        have hlo : (lo : Int) ≤ 1048577 := by omega
        have hhi : (hi : Int) ≤ 1048577 := by omega
        by_cases g1 : (d : Int) < (lo : Int)
        · have g2 : ¬ ((hi : Int) < (d : Int)) := by omega
          have g1' : decide ((d : Int) < (lo : Int)) = true := decide_eq_true g1
          have g2' : decide ((hi : Int) < (d : Int)) = false := decide_eq_false g2
          have HR := hide (show LM q' (x + 1) d hi from .inr ⟨by omega, c2, by omega, by omega, by omega⟩)
          clear hLM HLM
          go_wp2
          go_roundw
          case rel => exact ⟨x + 1, d, hi, by omega, by go_num, by rw [unhide Hn], rfl, rfl, unhide HR, unhide Hbb⟩
          case measure => simp [intOf]; omega
        · have g1' : decide ((d : Int) < (lo : Int)) = false := decide_eq_false g1
          by_cases g2 : (hi : Int) < (d : Int)
          · have g2' : decide ((hi : Int) < (d : Int)) = true := decide_eq_true g2
            have HR := hide (show LM q' (x + 1) lo d from .inr ⟨by omega, by omega, by omega, by omega, by omega⟩)
            clear hLM HLM
            go_wp2
            go_roundw
            case rel => exact ⟨x + 1, lo, d, by omega, by go_num, by rw [unhide Hn], rfl, rfl, unhide HR, unhide Hbb⟩
            case measure => simp [intOf]; omega
          · have g2' : decide ((hi : Int) < (d : Int)) = false := decide_eq_false g2
            have HR := hide (show LM q' (x + 1) lo hi from .inr ⟨by omega, by omega, by omega, by omega, by omega⟩)
            clear hLM HLM
            go_wp2
            go_roundw
            case rel => exact ⟨x + 1, lo, hi, by omega, by go_num, by rw [unhide Hn], rfl, rfl, unhide HR, unhide Hbb⟩
            case measure => simp [intOf]; omega
    · obtain rfl : n = x := by omega
      have cl : ¬ ((n : Int) < (n : Int)) := by omega
      have hLM := (unhide HLM).resolve_left (fun h => by omega)
      have k1 : (0 : Int) ≤ (lo : Int) := by omega
      have k2 : (hi : Int) - (lo : Int) ≤ 1 := by omega
      have k4 : (hi : Int) ≤ 1048577 := by omega
      have k5 : (lo : Int) ≤ 1048577 := by omega
      have k3 : decide ((0 : Int) ≤ (lo : Int)) = true := decide_eq_true k1
      have Hbb := hide (btrans (unhide Hb) hb)
      clear hLM HLM hb Hb
      go_wp2
      go_ret
      exact ⟨rfl, unhide Hbb⟩

set_option maxRecDepth 100000 in
set_option maxHeartbeats 4000000 in
theorem srows_pos (a b n : Nat) (ha : a ≤ 1048576) (hb : b ≤ 1048576) (hn0 : 1 ≤ n) (hn : n ≤ 4096) (hd : ¬ b < a) (W : World) : Calls Try.prog 5 #[.int .i64 a, .int .i64 b, .int .i64 n] W fun e w' => e = .returned (.bool true) ∧ Below W.heap.size W w' := by
  have HA := hide (fun V => alive_any V)
  have HS := hide (fun V => rows_ok a b n ha hb hn0 hn V)
  have HC := hide (fun (x : Nat) (hx : x < n) => chg a b n x ha hb hx)
  have Hw := hide (show wy a b = 1 by unfold wy; rw [if_neg hd])
  rw [unhide Hw] at HC
  have HL := hide (wd_last a b n (by omega))
  have H0 := hide (pv_zero a b n (by omega))
  have H1 := hide (fun x => pv_succ a b n x)
  obtain ⟨q, hq⟩ : ∃ q, q = fr a b / n := ⟨_, rfl⟩
  rw [← hq] at HC
  generalize wd a b n = g at *
  generalize pv a b n = pf at *
  clear hq Hw
  have emm : ((n : Int) != (n : Int)) = false := by simp
  have ebb : ((b : Int) != (b : Int)) = false := by simp
  have eb2 : (b : Int) = (b : Int) := rfl
  obtain ⟨y, hy⟩ : ∃ y, n = y + 1 := ⟨n - 1, by omega⟩
  have ey : (n : Int) - 1 = (y : Int) := by omega
  have ey2 : (y : Int) < (n : Int) := by omega
  have ey3 : (0 : Int) ≤ (y : Int) := by omega
  have Hy := hide hy
  have cd : ¬ ((b : Int) < (a : Int)) := by omega
  clear hy eb2 hd
  go_enter Try.func5, Try.ntmps5
  go_wp2_with fail
  refine (unhide HA _).mono ?_
  rintro e w1 ⟨rfl, hb1⟩
  go_wp2_with fail
  refine (unhide HS _).mono ?_
  rintro e w2 ⟨qs, cp, rfl, hI, hb2⟩
  have Hb := hide (btrans hb1 hb2)
  have HI := hide hI
  obtain ⟨ad, rfl, hl, hk⟩ := hI.at (x := y) (by have := unhide Hy; omega)
  have ky : w2.cell? ⟨ad, y, none⟩ = some (.int .i64 (b : Int)) := by
    rw [hk y (by have := unhide Hy; omega), ← unhide HL, show n - 1 = y by have := unhide Hy; omega]
  clear hb1 hb2 HA HS hI hk HL
  go_wp2
  clear ky ey
  go_loopw [9, 10, 11, 42] (fun last least most i wr => ∃ (x lo hi : Nat), x ≤ n ∧ i = .int .i64 x ∧ last = .int .i64 (pf x) ∧ least = .int .i64 lo ∧ most = .int .i64 hi ∧ LM q x lo hi ∧ Below w2.heap.size w2 wr) (fun _ _ _ i _ => n - (intOf i).toNat)
  case atStart => exact ⟨0, 0, 0, Nat.zero_le _, rfl, by rw [unhide H0], rfl, rfl, .inl ⟨rfl, rfl, rfl⟩, Below.refl _ _⟩
  case round =>
    obtain ⟨x, lo, hi, hx, rfl, rfl, rfl, rfl, hLM, hb⟩ := hrel
    have HLM := hide hLM
    clear hLM
    by_cases hlt : x < n
    · obtain ⟨ad', had, hl', hk⟩ := ((unhide HI).keep hb).at (x := x) hlt
      obtain rfl : ad = ad' := by simpa using had
      have kx := hk x hlt
      obtain ⟨q', d, u, v, hq', hu, hv, c1, c2, c3, c4, c5, c6, c7, c8⟩ := unhide HC x hlt
      subst hq'
      rw [← hv] at kx
      have Hu := hide hu
      have Hn := hide (show pf (x + 1) = v by rw [unhide H1, hv])
      rw [← hu]
      have q0 : (x : Int) < (n : Int) := by omega
      have q1 : (0 : Int) ≤ (x : Int) := by omega
      simp only [Int.one_mul] at c1
      clear hk hu hv had
      have Hbb := hide hb
      clear hb
      by_cases h0 : x = 0
      · have z0 : ((x : Int) == 0) = true := by simp [h0]
        have z1 : (x : Int) = 0 := by omega
        have HR := hide (show LM q' (x + 1) d d from .inr ⟨by omega, c2, Nat.le_refl _, c3, by omega⟩)
        clear z1 h0 HLM
        go_wp2
        go_roundw
        case rel => exact ⟨x + 1, d, d, by omega, by go_num, by rw [unhide Hn], rfl, rfl, unhide HR, unhide Hbb⟩
        case measure => simp [intOf]; omega
      · have z0 : ((x : Int) == 0) = false := by simp; omega
        have hLM := (unhide HLM).resolve_left (fun h => h0 h.1)
        clear h0
        have hlo : (lo : Int) ≤ 1048577 := by omega
        have hhi : (hi : Int) ≤ 1048577 := by omega
        by_cases g1 : (d : Int) < (lo : Int)
        · have g2 : ¬ ((hi : Int) < (d : Int)) := by omega
          have g1' : decide ((d : Int) < (lo : Int)) = true := decide_eq_true g1
          have g2' : decide ((hi : Int) < (d : Int)) = false := decide_eq_false g2
          have HR := hide (show LM q' (x + 1) d hi from .inr ⟨by omega, c2, by omega, by omega, by omega⟩)
          clear hLM HLM
          go_wp2
          go_roundw
          case rel => exact ⟨x + 1, d, hi, by omega, by go_num, by rw [unhide Hn], rfl, rfl, unhide HR, unhide Hbb⟩
          case measure => simp [intOf]; omega
        · have g1' : decide ((d : Int) < (lo : Int)) = false := decide_eq_false g1
          by_cases g2 : (hi : Int) < (d : Int)
          · have g2' : decide ((hi : Int) < (d : Int)) = true := decide_eq_true g2
            have HR := hide (show LM q' (x + 1) lo d from .inr ⟨by omega, by omega, by omega, by omega, by omega⟩)
            clear hLM HLM
            go_wp2
            go_roundw
            case rel => exact ⟨x + 1, lo, d, by omega, by go_num, by rw [unhide Hn], rfl, rfl, unhide HR, unhide Hbb⟩
            case measure => simp [intOf]; omega
          · have g2' : decide ((hi : Int) < (d : Int)) = false := decide_eq_false g2
            have HR := hide (show LM q' (x + 1) lo hi from .inr ⟨by omega, by omega, by omega, by omega, by omega⟩)
            clear hLM HLM
            go_wp2
            go_roundw
            case rel => exact ⟨x + 1, lo, hi, by omega, by go_num, by rw [unhide Hn], rfl, rfl, unhide HR, unhide Hbb⟩
            case measure => simp [intOf]; omega
    · obtain rfl : n = x := by omega
      have cl : ¬ ((n : Int) < (n : Int)) := by omega
      have hLM := (unhide HLM).resolve_left (fun h => by omega)
      have k1 : (0 : Int) ≤ (lo : Int) := by omega
      have k2 : (hi : Int) - (lo : Int) ≤ 1 := by omega
      have k4 : (hi : Int) ≤ 1048577 := by omega
      have k5 : (lo : Int) ≤ 1048577 := by omega
      have k3 : decide ((0 : Int) ≤ (lo : Int)) = true := decide_eq_true k1
      have Hbb := hide (btrans (unhide Hb) hb)
      clear hLM HLM hb Hb
      go_wp2
      go_ret
      exact ⟨rfl, unhide Hbb⟩

theorem srows_any (a b n : Int) (W : World) : Calls Try.prog 5 #[.int .i64 a, .int .i64 b, .int .i64 n] W fun e w' => e = .returned (.bool true) ∧ Below W.heap.size W w' := by
  cases h : roB a b n with
  | false => exact srows_err a b n h W
  | true =>
    have := (roB_iff a b n).1 h
    obtain ⟨A, rfl⟩ : ∃ A : Nat, a = (A : Int) := ⟨a.toNat, by omega⟩
    obtain ⟨B, rfl⟩ : ∃ B : Nat, b = (B : Int) := ⟨b.toNat, by omega⟩
    obtain ⟨R, rfl⟩ : ∃ R : Nat, n = (R : Int) := ⟨n.toNat, by omega⟩
    by_cases hd : B < A
    · exact srows_neg A B R (by omega) (by omega) (by omega) (by omega) hd W
    · exact srows_pos A B R (by omega) (by omega) (by omega) (by omega) hd W
end Go.Proofs.Ytmblnfdadpcigaa
