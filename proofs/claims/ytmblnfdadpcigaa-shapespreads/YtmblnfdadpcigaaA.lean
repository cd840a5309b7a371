/-
  Package shape: within, canSpread, marksBelow.
-/
import Derived.Test.YtmblnfdadpcigaaM
namespace Go.Proofs.Ytmblnfdadpcigaa
open Go.RowKit

/-- is a number one from here to there? -/
def wiB (n lo hi : Int) : Bool := decide (lo ≤ n) && decide (n ≤ hi)
theorem wiB_iff (n lo hi : Int) : wiB n lo hi = true ↔ lo ≤ n ∧ n ≤ hi := by simp [wiB]
set_option maxHeartbeats 1000000 in
theorem within_any (n lo hi : Int) (W : World) : Calls Try.prog 16 #[.int .i64 n, .int .i64 lo, .int .i64 hi] W fun e w' => e = .returned (.bool (wiB n lo hi)) ∧ Below W.heap.size W w' := by
  by_cases h : lo ≤ n
  · have h' : decide (lo ≤ n) = true := by simpa using h
    go_enter Try.func16, Try.ntmps16
    go_wp2
    go_ret
    exact ⟨ret_bool (by simp [wiB, h]), Below.refl _ _⟩
  · have h' : decide (lo ≤ n) = false := by simpa using h
    go_enter Try.func16, Try.ntmps16
    go_wp2
    go_ret
    exact ⟨ret_bool (by unfold wiB; rw [h']; rfl), Below.refl _ _⟩

/-- may there be so many places, and marks? -/
def caB (t m : Int) : Bool := wiB t 1 1048576 && wiB m 0 t
theorem caB_iff (t m : Int) : caB t m = true ↔ (1 ≤ t ∧ t ≤ 1048576) ∧ 0 ≤ m ∧ m ≤ t := by simp [caB, wiB]
set_option maxHeartbeats 1000000 in
theorem can_any (t m : Int) (W : World) : Calls Try.prog 14 #[.int .i64 t, .int .i64 m] W fun e w' => e = .returned (.bool (caB t m)) ∧ Below W.heap.size W w' := by
  cases h : wiB t 1 1048576 with
  | true =>
    have h1 := hide (fun V => within_any t 1 1048576 V)
    rw [h] at h1
    have h2 := hide (fun V => within_any m 0 t V)
    have Hc := hide (show caB t m = wiB m 0 t by simp [caB, h])
    rw [unhide Hc]
    generalize wiB m 0 t = b at *
    clear h Hc
    go_enter Try.func14, Try.ntmps14
    go_wp2_with fail
    refine (unhide h1 _).mono ?_
    rintro e w1 ⟨rfl, hb1⟩
    go_wp2_with fail
    refine (unhide h2 _).mono ?_
    rintro e w2 ⟨rfl, hb2⟩
    have Hb := hide (btrans hb1 hb2)
    clear hb1 hb2
    go_wp2
    go_ret
    exact ⟨rfl, unhide Hb⟩
  | false =>
    have h1 := hide (fun V => within_any t 1 1048576 V)
    rw [h] at h1
    have Hc := hide (show caB t m = false by simp [caB, h])
    rw [unhide Hc]
    clear h Hc
    go_enter Try.func14, Try.ntmps14
    go_wp2_with fail
    refine (unhide h1 _).mono ?_
    rintro e w1 ⟨rfl, hb1⟩
    go_wp2
    go_ret
    exact ⟨rfl, hb1⟩

theorem wnat (a : Nat) (h : a ≤ 4611686018427387904) : wrap64 ((a : Nat) : Int) = (a : Int) := Go.IntWalk.wrap64_in _ (by omega)
theorem mb_nums (t m p : Nat) (ht : 0 < t) (ht2 : t ≤ 1048576) (hm : m ≤ 1048576) (hp : p ≤ 1048576) : ∃ m2 a b c t2 r : Nat, r = mb t m p ∧ 2 * (m : Int) = (m2 : Int) ∧ wrap64 ((m2 : Int) * (p : Int)) = (a : Int) ∧ (a : Int) + (t : Int) = (b : Int) ∧ (b : Int) - 1 = (c : Int) ∧ 2 * (t : Int) = (t2 : Int) ∧ (c : Int) / (t2 : Int) = (r : Int) ∧
    (m2 : Int) ≤ 2097152 ∧ (a : Int) ≤ 2199023255552 ∧ (b : Int) ≤ 2199024304128 ∧ (0 : Int) ≤ (c : Int) ∧ (c : Int) ≤ 2199024304128 ∧ (t2 : Int) ≤ 2097152 ∧ ((t2 : Int) == 0) = false ∧ (r : Int) ≤ 2199024304128 := by
  have h1 : 2 * m * p ≤ 2097152 * 1048576 := Nat.mul_le_mul (by omega) hp
  have h2 : mb t m p ≤ 2 * m * p + t - 1 := Nat.div_le_self _ _
  refine ⟨2 * m, 2 * m * p, 2 * m * p + t, 2 * m * p + t - 1, 2 * t, mb t m p, rfl, by simp, ?_, by simp, by omega, by simp, ?_, by omega, by omega, by omega, by omega, by omega, by omega, by simp; omega, by omega⟩
  · rw [← Int.natCast_mul]; exact wnat _ (by omega)
  · unfold mb; simp

set_option maxHeartbeats 1000000 in
theorem below_any (t m p : Nat) (ht : 0 < t) (ht2 : t ≤ 1048576) (hm : m ≤ 1048576) (hp : p ≤ 1048576) (W : World) :
    Calls Try.prog 17 #[.int .i64 t, .int .i64 m, .int .i64 p] W fun e w' => e = .returned (.int .i64 (mb t m p : Nat)) ∧ Below W.heap.size W w' := by
  obtain ⟨m2, a, b, c, t2, r, hr, e1, e2, e3, e4, e5, e6, b1, b2, b3, b4, b5, b6, b7, b8⟩ := mb_nums t m p ht ht2 hm hp
  rw [← hr]
  clear hr
  go_enter Try.func17, Try.ntmps17
  go_wp2
  go_ret
  exact ⟨rfl, Below.refl _ _⟩
end Go.Proofs.Ytmblnfdadpcigaa
