/-
  TwillSatin: the mathematics.
-/
import Derived.Test.YtpefcpbkdofblaaTwC
namespace Go.Proofs.Ytpefcpbkdofblaa
open Go.RowKit Go.Shelf

/-- so far no two points stand at one place -/
def gdP (e m y z : Nat) : Bool := decide (1 < e) && (List.range y).all (fun y' => (List.range y').all fun z' => z' * m % e != y' * m % e) && (List.range z).all fun z' => z' * m % e != y * m % e
theorem gd_start (e m : Nat) : gdP e m 0 0 = decide (1 < e) := by simp [gdP]
theorem gd_step (e m y z : Nat) : gdP e m y (z + 1) = (gdP e m y z && (z * m % e != y * m % e)) := by
  unfold gdP
  rw [List.range_succ (n := z), List.all_append]
  simp [Bool.and_assoc]
theorem gd_row (e m y : Nat) : gdP e m y y = gdP e m (y + 1) 0 := by
  unfold gdP
  rw [List.range_succ (n := y), List.all_append]
  simp [Bool.and_assoc]
theorem gd_iff (e m : Nat) (he : 0 < e) : gdP e m e 0 = (decide (1 < e) && decide (Nat.gcd e m = 1)) := by
  rw [Bool.eq_iff_iff]
  simp only [gdP, List.range_zero, List.all_nil, Bool.and_true, Bool.and_eq_true, decide_eq_true_eq, List.all_eq_true, List.mem_range, bne_iff_ne]
  refine and_congr_right fun h1 => ⟨fun h => ?_, fun hg y hy z hz c => ?_⟩
  · have hd := Nat.gcd_dvd_left e m
    obtain ⟨m', hm'⟩ := Nat.gcd_dvd_right e m
    have hp : 0 < Nat.gcd e m := Nat.gcd_pos_of_pos_left m he
    refine Classical.byContradiction fun hne => ?_
    have hlt : e / Nat.gcd e m < e := Nat.div_lt_self he (by omega)
    have hpos : 0 < e / Nat.gcd e m := Nat.div_pos (Nat.le_of_dvd he hd) hp
    refine h _ hlt 0 hpos ?_
    have e1 : e / Nat.gcd e m * m = e * m' := by
      have : e / Nat.gcd e m * m = e / Nat.gcd e m * (Nat.gcd e m * m') := by rw [← hm']
      rw [this, ← Nat.mul_assoc, Nat.div_mul_cancel hd]
    rw [e1, Nat.mul_mod_right, Nat.zero_mul, Nat.zero_mod]
  · have := mul_inj e m z y hg (by omega) hy c
    omega
/-- a satin's points never touch: just those moves -/
theorem good_satin (e m : Nat) (he : 0 < e) : (gdP e m e 0 && (decide (1 < m) && decide (m < e - 1))) = saB e m := by
  rw [gd_iff e m he, Bool.eq_iff_iff]
  simp only [saB, Bool.and_eq_true, decide_eq_true_eq, Int.toNat_natCast]
  omega
/-- the places that are reckoned -/
def atF (e m y j : Nat) : Nat := if j < y then j * m % e else 0
theorem atF_zero (e m : Nat) : atF e m 0 = fun _ => 0 := by funext j; simp [atF]
theorem atF_succ (e m y : Nat) : (fun i => if i = y then y * m % e else atF e m y i) = atF e m (y + 1) := by
  funext j
  unfold atF
  by_cases c : j = y
  · subst c; simp
  · rw [if_neg c]
    by_cases d : j < y
    · rw [if_pos d, if_pos (by omega)]
    · rw [if_neg d, if_neg (by omega)]
theorem sat_st (e m y : Nat) (he : e ≤ 64) (hm : m < e) (hy : y < e) : ∃ ym u : Nat, u = y * m % e ∧ wrap64 ((y : Int) * (m : Int)) = (ym : Int) ∧ (ym : Int) % (e : Int) = (u : Int) ∧ (0 : Int) ≤ (ym : Int) ∧ (ym : Int) ≤ 4096 ∧ (u : Int) < (e : Int) ∧ ((e : Int) == 0) = false := by
  have h1 : y * m ≤ 4096 := Nat.mul_le_mul (show y ≤ 64 by omega) (show m ≤ 64 by omega)
  have h3 := Nat.mod_lt (y * m) (show 0 < e by omega)
  refine ⟨y * m, y * m % e, rfl, ?_, by simp, by omega, by omega, by omega, by simp; omega⟩
  rw [← Int.natCast_mul]; exact Go.IntWalk.wrap64_in _ (by omega)
theorem sat_d (e m y : Nat) (he : e ≤ 64) (hm : m < e) (hy : y < e) : ∃ (yy a0 a1 : Nat) (t t2 : Int), yy < e ∧ a0 = y * m % e ∧ a1 = yy * m % e ∧ ((y : Int) + 1) % (e : Int) = (yy : Int) ∧ (a1 : Int) - (a0 : Int) = t ∧ t + (e : Int) = t2 ∧ t2 % (e : Int) = (m : Int) ∧ (a0 : Int) ≤ 64 ∧ (a1 : Int) ≤ 64 ∧ -64 ≤ t ∧ t ≤ 64 ∧ 0 ≤ t2 ∧ t2 ≤ 128 ∧ (0 : Int) ≤ (yy : Int) ∧ (yy : Int) < (e : Int) ∧ ((e : Int) == 0) = false := by
  have hp : 0 < e := by omega
  have h0 := Nat.mod_lt (y * m) hp
  have hyy := Nat.mod_lt (y + 1) hp
  have h1 := Nat.mod_lt ((y + 1) % e * m) hp
  have key : (y + 1) % e * m % e = (m + y * m) % e := by
    rw [Nat.mul_mod, Nat.mod_mod, ← Nat.mul_mod, Nat.add_mul, Nat.one_mul, Nat.add_comm]
  rw [to_eq e m y m hm] at key
  refine ⟨(y + 1) % e, y * m % e, (y + 1) % e * m % e, (((y + 1) % e * m % e : Nat) : Int) - ((y * m % e : Nat) : Int), (((y + 1) % e * m % e : Nat) : Int) - ((y * m % e : Nat) : Int) + (e : Int), hyy, rfl, rfl, by simp, rfl, rfl, ?_, by omega, by omega, by omega, by omega, by omega, by omega, by omega, by omega, by simp; omega⟩
  rw [key]
  generalize y * m % e = u at *
  split
  · rw [show (((m + u : Nat) : Int) - (u : Int) + (e : Int)) = (m : Int) + (e : Int) by omega, Int.add_emod_right, Int.emod_eq_of_lt (by omega) (by omega)]
  · rw [show (((m + u - e : Nat) : Int) - (u : Int) + (e : Int)) = (m : Int) by omega, Int.emod_eq_of_lt (by omega) (by omega)]
end Go.Proofs.Ytpefcpbkdofblaa
