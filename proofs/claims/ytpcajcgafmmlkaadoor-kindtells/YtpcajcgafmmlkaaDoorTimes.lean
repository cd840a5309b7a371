/-
  What product, mirrored, norm, Times and Norm of package plane answer, at every input (walks over the translated code).
-/
import Derived.Test.YtpcajcgafmmlkaaDoorBase
import Derived.Deep.RegionHeld3
namespace Go.Proofs.YtpcajcgafmmlkaaDoor
open Go.RowKit

theorem mul_bd (a b A B : Int) (hA : 0 ≤ A) (hB : 0 ≤ B) (h : -A ≤ a ∧ a ≤ A) (k : -B ≤ b ∧ b ≤ B) : -(A * B) ≤ a * b ∧ a * b ≤ A * B := by
  have h1 : a.natAbs ≤ A.natAbs := by omega
  have h2 : b.natAbs ≤ B.natAbs := by omega
  have h3 : (a * b).natAbs ≤ (A * B).natAbs := by rw [Int.natAbs_mul, Int.natAbs_mul]; exact Nat.mul_le_mul h1 h2
  have h4 : 0 ≤ A * B := Int.mul_nonneg hA hB
  omega

/-- a number that no sum of a few makes wrap round -/
def big (n : Int) : Prop := -1152921504606846976 ≤ n ∧ n ≤ 1152921504606846976

theorem big_mul (a b : Int) (h : -1073741824 ≤ a ∧ a ≤ 1073741824) (k : -1073741824 ≤ b ∧ b ≤ 1073741824) : big (a * b) := by
  have := mul_bd a b 1073741824 1073741824 (by decide) (by decide) h k
  unfold big; omega

set_option maxHeartbeats 400000 in
theorem product4 (ax ay bx b : Int) (w : World) (h1 : big (ax * bx)) (h2 : big (ay * b)) (h3 : big (ax * b)) (h4 : big (ay * bx)) :
    Calls Tryd.prog 66 #[.int .i64 4, .agg #[.int .i64 ax, .int .i64 ay], .agg #[.int .i64 bx, .int .i64 b]] w fun e w' => e = .returned (.agg #[.int .i64 (ax * bx - ay * b), .int .i64 (ax * b + ay * bx)]) ∧ Below w.heap.size w w' := by
  unfold big at h1 h2 h3 h4
  go_enter Tryd.func66, Tryd.ntmps66
  go_wp2
  exact bodyPost_ret (v := .agg #[.int .i64 (ax * bx - ay * b), .int .i64 (ax * b + ay * bx)]) (by simp [results, Tryd.results66, go_sem]) rfl ⟨rfl, bal (bal (bal (bal (Below.refl _ _))))⟩

set_option maxHeartbeats 400000 in
theorem product6 (ax ay bx b : Int) (w : World) (h1 : big (ax * bx)) (h2 : big (ay * b)) (h3 : big (ax * b)) (h4 : big (ay * bx)) :
    Calls Tryd.prog 66 #[.int .i64 6, .agg #[.int .i64 ax, .int .i64 ay], .agg #[.int .i64 bx, .int .i64 b]] w fun e w' => e = .returned (.agg #[.int .i64 (ax * bx - ay * b), .int .i64 (ax * b + ay * bx + ay * b)]) ∧ Below w.heap.size w w' := by
  unfold big at h1 h2 h3 h4
  go_enter Tryd.func66, Tryd.ntmps66
  go_wp2
  exact bodyPost_ret (v := .agg #[.int .i64 (ax * bx - ay * b), .int .i64 (ax * b + ay * bx + ay * b)]) (by simp [results, Tryd.results66, go_sem]) rfl ⟨rfl, bal (bal (bal (bal (Below.refl _ _))))⟩

set_option maxHeartbeats 400000 in
theorem mirrored4 (x y : Int) (w : World) (_h1 : -1073741824 ≤ x ∧ x ≤ 1073741824) (h2 : -1073741824 ≤ y ∧ y ≤ 1073741824) :
    Calls Tryd.prog 84 #[.int .i64 4, .agg #[.int .i64 x, .int .i64 y]] w fun e w' => e = .returned (.agg #[.int .i64 x, .int .i64 (-y)]) ∧ Below w.heap.size w w' := by
  go_enter Tryd.func84, Tryd.ntmps84
  go_wp2
  exact bodyPost_ret (v := .agg #[.int .i64 x, .int .i64 (-y)]) (by simp [results, Tryd.results84, go_sem]) rfl ⟨rfl, bal (bal (Below.refl _ _))⟩

set_option maxHeartbeats 400000 in
theorem mirrored6 (x y : Int) (w : World) (h1 : -1073741824 ≤ x ∧ x ≤ 1073741824) (h2 : -1073741824 ≤ y ∧ y ≤ 1073741824) :
    Calls Tryd.prog 84 #[.int .i64 6, .agg #[.int .i64 x, .int .i64 y]] w fun e w' => e = .returned (.agg #[.int .i64 (x + y), .int .i64 (-y)]) ∧ Below w.heap.size w w' := by
  go_enter Tryd.func84, Tryd.ntmps84
  go_wp2
  exact bodyPost_ret (v := .agg #[.int .i64 (x + y), .int .i64 (-y)]) (by simp [results, Tryd.results84, go_sem]) rfl ⟨rfl, bal (bal (Below.refl _ _))⟩

theorem keepC {W w1 : World} {b o : Nat} {v : Value} (hb : Below W.heap.size W w1) (h : b < W.heap.size) (hc : W.cell? ⟨b, o, none⟩ = some v) : w1.cell? ⟨b, o, none⟩ = some v := by
  rw [hb.cell (p := ⟨b, o, none⟩) h]; exact hc

theorem field23_0 (a b : Value) (w : World) : (Instr.field 23 (.agg #[a, b]) 0).run Tryd.prog w = .ok a w := by kernel_rfl
theorem field23_1 (a b : Value) (w : World) : (Instr.field 23 (.agg #[a, b]) 1).run Tryd.prog w = .ok b w := by kernel_rfl

/-! ### Times -/
def pX (ax ay bx b : Int) : Int := ax * bx - ay * b
def pY (g ax ay bx b : Int) : Int := if g = 6 then ax * b + ay * bx + ay * b else ax * b + ay * bx
def tE (g ax ay bx b : Int) : Int := if e2 g ax ay bx b = 0 then (if sm2 (pX ax ay bx b) (pY g ax ay bx b) then 0 else 4) else e2 g ax ay bx b
def tX (g ax ay bx b : Int) : Int := if tE g ax ay bx b = 0 then pX ax ay bx b else 0
def tY (g ax ay bx b : Int) : Int := if tE g ax ay bx b = 0 then pY g ax ay bx b else 0

theorem sm_iff (n : Int) : sm n = true ↔ -1048576 ≤ n ∧ n ≤ 1048576 := by simp [sm]
theorem sm2_iff (x y : Int) : sm2 x y = true ↔ (-1048576 ≤ x ∧ x ≤ 1048576) ∧ (-1048576 ≤ y ∧ y ≤ 1048576) := by simp [sm2, sm_iff]
theorem e2_zero (g ax ay bx b : Int) (h : e2 g ax ay bx b = 0) : (g = 4 ∨ g = 6) ∧ sm2 ax ay = true ∧ sm2 bx b = true := by
  unfold e2 at h
  by_cases h1 : okg g = true
  · rw [if_pos h1] at h
    by_cases h2 : (sm2 ax ay && sm2 bx b) = true
    · simp [okg] at h1; simp at h2; exact ⟨h1, h2⟩
    · rw [if_neg h2] at h; omega
  · rw [if_neg h1] at h; omega
theorem e1_zero (g ax ay : Int) (h : e1 g ax ay = 0) : (g = 4 ∨ g = 6) ∧ sm2 ax ay = true := by
  unfold e1 at h
  by_cases h1 : okg g = true
  · rw [if_pos h1] at h
    by_cases h2 : sm2 ax ay = true
    · simp [okg] at h1; exact ⟨h1, h2⟩
    · rw [if_neg h2] at h; omega
  · rw [if_neg h1] at h; omega

theorem e2_pos (g ax ay bx b : Int) (h : e2 g ax ay bx b ≠ 0) : 1 ≤ e2 g ax ay bx b := by
  unfold e2 at *
  by_cases h1 : okg g = true
  · rw [if_pos h1] at *
    by_cases h2 : (sm2 ax ay && sm2 bx b) = true
    · rw [if_pos h2] at h; omega
    · rw [if_neg h2]; omega
  · rw [if_neg h1]; omega
theorem e1_pos (g ax ay : Int) (h : e1 g ax ay ≠ 0) : 1 ≤ e1 g ax ay := by
  unfold e1 at *
  by_cases h1 : okg g = true
  · rw [if_pos h1] at *
    by_cases h2 : sm2 ax ay = true
    · rw [if_pos h2] at h; omega
    · rw [if_neg h2]; omega
  · rw [if_neg h1]; omega

end Go.Proofs.YtpcajcgafmmlkaaDoor
