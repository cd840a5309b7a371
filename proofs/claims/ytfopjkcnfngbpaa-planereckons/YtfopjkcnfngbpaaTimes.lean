/-
  What product, mirrored, norm, Times and Norm of package plane answer, at every input (walks over the translated code).
-/
import Derived.Test.YtfopjkcnfngbpaaBase
import Derived.Deep.RegionHeld3
namespace Go.Proofs.Ytfopjkcnfngbpaa
open Go.RowKit

theorem mul_bd (a b A B : Int) (hA : 0 ≤ A) (hB : 0 ≤ B) (h : -A ≤ a ∧ a ≤ A) (k : -B ≤ b ∧ b ≤ B) : -(A * B) ≤ a * b ∧ a * b ≤ A * B := by
  have h1 : a.natAbs ≤ A.natAbs := by omega
  have h2 : b.natAbs ≤ B.natAbs := by omega
  have h3 : (a * b).natAbs ≤ (A * B).natAbs := by rw [Int.natAbs_mul, Int.natAbs_mul]; exact Nat.mul_le_mul h1 h2
  have h4 : 0 ≤ A * B := Int.mul_nonneg hA hB
  omega

/-- a number that no sum of a few makes wrap round -/
def big (n : Int) : Prop := -1152921504606846976 ≤ n ∧ n ≤ 1152921504606846976

theorem big_mul (a b : Int) (h : -1073741824 ≤ a ∧ a ≤ 1073741824) (k : -1073741824 ≤ b ∧ b ≤ 1073741824) : big (a * b) := by
  have := mul_bd a b 1073741824 1073741824 (by decide) (by decide) h k
  unfold big; omega

set_option maxHeartbeats 400000 in
theorem product4 (ax ay bx b : Int) (w : World) (h1 : big (ax * bx)) (h2 : big (ay * b)) (h3 : big (ax * b)) (h4 : big (ay * bx)) :
    Calls Try.prog 29 #[.int .i64 4, .agg #[.int .i64 ax, .int .i64 ay], .agg #[.int .i64 bx, .int .i64 b]] w fun e w' => e = .returned (.agg #[.int .i64 (ax * bx - ay * b), .int .i64 (ax * b + ay * bx)]) ∧ Below w.heap.size w w' := by
  unfold big at h1 h2 h3 h4
  go_enter Try.func29, Try.ntmps29
  go_wp2
  exact bodyPost_ret (v := .agg #[.int .i64 (ax * bx - ay * b), .int .i64 (ax * b + ay * bx)]) (by simp [results, Try.results29, go_sem]) rfl ⟨rfl, bal (bal (bal (bal (Below.refl _ _))))⟩

set_option maxHeartbeats 400000 in
theorem product6 (ax ay bx b : Int) (w : World) (h1 : big (ax * bx)) (h2 : big (ay * b)) (h3 : big (ax * b)) (h4 : big (ay * bx)) :
    Calls Try.prog 29 #[.int .i64 6, .agg #[.int .i64 ax, .int .i64 ay], .agg #[.int .i64 bx, .int .i64 b]] w fun e w' => e = .returned (.agg #[.int .i64 (ax * bx - ay * b), .int .i64 (ax * b + ay * bx + ay * b)]) ∧ Below w.heap.size w w' := by
  unfold big at h1 h2 h3 h4
  go_enter Try.func29, Try.ntmps29
  go_wp2
  exact bodyPost_ret (v := .agg #[.int .i64 (ax * bx - ay * b), .int .i64 (ax * b + ay * bx + ay * b)]) (by simp [results, Try.results29, go_sem]) rfl ⟨rfl, bal (bal (bal (bal (Below.refl _ _))))⟩

set_option maxHeartbeats 400000 in
theorem mirrored4 (x y : Int) (w : World) (_h1 : -1073741824 ≤ x ∧ x ≤ 1073741824) (h2 : -1073741824 ≤ y ∧ y ≤ 1073741824) :
    Calls Try.prog 48 #[.int .i64 4, .agg #[.int .i64 x, .int .i64 y]] w fun e w' => e = .returned (.agg #[.int .i64 x, .int .i64 (-y)]) ∧ Below w.heap.size w w' := by
  go_enter Try.func48, Try.ntmps48
  go_wp2
  exact bodyPost_ret (v := .agg #[.int .i64 x, .int .i64 (-y)]) (by simp [results, Try.results48, go_sem]) rfl ⟨rfl, bal (bal (Below.refl _ _))⟩

set_option maxHeartbeats 400000 in
theorem mirrored6 (x y : Int) (w : World) (h1 : -1073741824 ≤ x ∧ x ≤ 1073741824) (h2 : -1073741824 ≤ y ∧ y ≤ 1073741824) :
    Calls Try.prog 48 #[.int .i64 6, .agg #[.int .i64 x, .int .i64 y]] w fun e w' => e = .returned (.agg #[.int .i64 (x + y), .int .i64 (-y)]) ∧ Below w.heap.size w w' := by
  go_enter Try.func48, Try.ntmps48
  go_wp2
  exact bodyPost_ret (v := .agg #[.int .i64 (x + y), .int .i64 (-y)]) (by simp [results, Try.results48, go_sem]) rfl ⟨rfl, bal (bal (Below.refl _ _))⟩

theorem keepC {W w1 : World} {b o : Nat} {v : Value} (hb : Below W.heap.size W w1) (h : b < W.heap.size) (hc : W.cell? ⟨b, o, none⟩ = some v) : w1.cell? ⟨b, o, none⟩ = some v := by
  rw [hb.cell (p := ⟨b, o, none⟩) h]; exact hc

theorem field23_0 (a b : Value) (w : World) : (Instr.field 23 (.agg #[a, b]) 0).run Try.prog w = .ok a w := by kernel_rfl
theorem field23_1 (a b : Value) (w : World) : (Instr.field 23 (.agg #[a, b]) 1).run Try.prog w = .ok b w := by kernel_rfl

set_option maxHeartbeats 1000000 in
theorem norm4 (x y : Int) (w : World) (h1 : -268435456 ≤ x ∧ x ≤ 268435456) (h2 : -268435456 ≤ y ∧ y ≤ 268435456) :
    Calls Try.prog 32 #[.int .i64 4, .agg #[.int .i64 x, .int .i64 y]] w fun e w' => e = .returned (.int .i64 (x * x + y * y)) ∧ Below w.heap.size w w' := by
  have hfd := field23_0
  go_enter Try.func32, Try.ntmps32
  go_wp2_with fail
  go_region_held3 (fun w' => (Below w.heap.size w w' ∧ w.heap.size + 1 ≤ w'.heap.size) ∧ w'.cell? ⟨w.heap.size, 0, none⟩ = some (.int .i64 x) ∧ w'.cell? ⟨w.heap.size, 1, none⟩ = some (.int .i64 y))
    (first
      | (exact ⟨⟨Below.drew (bal (Below.refl _ _)), by simp⟩, by simp [go_sem], by simp [go_sem]⟩)
      | (obtain ⟨⟨hA, hB⟩, hC⟩ := (by assumption : (Below w.heap.size w _ ∧ w.heap.size + 1 ≤ _) ∧ _); exact ⟨⟨btrans hA hb, by have := hb.size; omega⟩, keepC hb (by omega) hC.1, keepC hb (by omega) hC.2⟩))
    (first
      | (go_at_call 48; refine (mirrored4 x y _ (by omega) (by omega)).mono ?_; rintro e w1 ⟨rfl, hb⟩)
      | (go_at_call 29; refine (product4 x y x (-y) _ (big_mul _ _ (by omega) (by omega)) (big_mul _ _ (by omega) (by omega)) (big_mul _ _ (by omega) (by omega)) (big_mul _ _ (by omega) (by omega))).mono ?_; rintro e w1 ⟨rfl, hb⟩))
  go_wp2
  go_ret
  exact ⟨ret_int (by grind), (by assumption : (Below w.heap.size w _ ∧ w.heap.size + 1 ≤ _) ∧ _).1.1⟩

set_option maxHeartbeats 1000000 in
theorem norm6 (x y : Int) (w : World) (h1 : -268435456 ≤ x ∧ x ≤ 268435456) (h2 : -268435456 ≤ y ∧ y ≤ 268435456) :
    Calls Try.prog 32 #[.int .i64 6, .agg #[.int .i64 x, .int .i64 y]] w fun e w' => e = .returned (.int .i64 (x * x + x * y + y * y)) ∧ Below w.heap.size w w' := by
  have hfd := field23_0
  go_enter Try.func32, Try.ntmps32
  go_wp2_with fail
  go_region_held3 (fun w' => (Below w.heap.size w w' ∧ w.heap.size + 1 ≤ w'.heap.size) ∧ w'.cell? ⟨w.heap.size, 0, none⟩ = some (.int .i64 x) ∧ w'.cell? ⟨w.heap.size, 1, none⟩ = some (.int .i64 y))
    (first
      | (exact ⟨⟨Below.drew (bal (Below.refl _ _)), by simp⟩, by simp [go_sem], by simp [go_sem]⟩)
      | (obtain ⟨⟨hA, hB⟩, hC⟩ := (by assumption : (Below w.heap.size w _ ∧ w.heap.size + 1 ≤ _) ∧ _); exact ⟨⟨btrans hA hb, by have := hb.size; omega⟩, keepC hb (by omega) hC.1, keepC hb (by omega) hC.2⟩))
    (first
      | (go_at_call 48; refine (mirrored6 x y _ (by omega) (by omega)).mono ?_; rintro e w1 ⟨rfl, hb⟩)
      | (go_at_call 29; refine (product6 x y (x + y) (-y) _ (big_mul _ _ (by omega) (by omega)) (big_mul _ _ (by omega) (by omega)) (big_mul _ _ (by omega) (by omega)) (big_mul _ _ (by omega) (by omega))).mono ?_; rintro e w1 ⟨rfl, hb⟩))
  go_wp2
  go_ret
  exact ⟨ret_int (by grind), (by assumption : (Below w.heap.size w _ ∧ w.heap.size + 1 ≤ _) ∧ _).1.1⟩

/-! ### Times -/
def pX (ax ay bx b : Int) : Int := ax * bx - ay * b
def pY (g ax ay bx b : Int) : Int := if g = 6 then ax * b + ay * bx + ay * b else ax * b + ay * bx
def tE (g ax ay bx b : Int) : Int := if e2 g ax ay bx b = 0 then (if sm2 (pX ax ay bx b) (pY g ax ay bx b) then 0 else 4) else e2 g ax ay bx b
def tX (g ax ay bx b : Int) : Int := if tE g ax ay bx b = 0 then pX ax ay bx b else 0
def tY (g ax ay bx b : Int) : Int := if tE g ax ay bx b = 0 then pY g ax ay bx b else 0

theorem sm_iff (n : Int) : sm n = true ↔ -1048576 ≤ n ∧ n ≤ 1048576 := by simp [sm]
theorem sm2_iff (x y : Int) : sm2 x y = true ↔ (-1048576 ≤ x ∧ x ≤ 1048576) ∧ (-1048576 ≤ y ∧ y ≤ 1048576) := by simp [sm2, sm_iff]
theorem e2_zero (g ax ay bx b : Int) (h : e2 g ax ay bx b = 0) : (g = 4 ∨ g = 6) ∧ sm2 ax ay = true ∧ sm2 bx b = true := by
  unfold e2 at h
  by_cases h1 : okg g = true
  · rw [if_pos h1] at h
    by_cases h2 : (sm2 ax ay && sm2 bx b) = true
    · simp [okg] at h1; simp at h2; exact ⟨h1, h2⟩
    · rw [if_neg h2] at h; omega
  · rw [if_neg h1] at h; omega
theorem e1_zero (g ax ay : Int) (h : e1 g ax ay = 0) : (g = 4 ∨ g = 6) ∧ sm2 ax ay = true := by
  unfold e1 at h
  by_cases h1 : okg g = true
  · rw [if_pos h1] at h
    by_cases h2 : sm2 ax ay = true
    · simp [okg] at h1; exact ⟨h1, h2⟩
    · rw [if_neg h2] at h; omega
  · rw [if_neg h1] at h; omega

theorem e2_pos (g ax ay bx b : Int) (h : e2 g ax ay bx b ≠ 0) : 1 ≤ e2 g ax ay bx b := by
  unfold e2 at *
  by_cases h1 : okg g = true
  · rw [if_pos h1] at *
    by_cases h2 : (sm2 ax ay && sm2 bx b) = true
    · rw [if_pos h2] at h; omega
    · rw [if_neg h2]; omega
  · rw [if_neg h1]; omega
theorem e1_pos (g ax ay : Int) (h : e1 g ax ay ≠ 0) : 1 ≤ e1 g ax ay := by
  unfold e1 at *
  by_cases h1 : okg g = true
  · rw [if_pos h1] at *
    by_cases h2 : sm2 ax ay = true
    · rw [if_pos h2] at h; omega
    · rw [if_neg h2]; omega
  · rw [if_neg h1]; omega

set_option maxHeartbeats 1000000 in
theorem times_err (g ax ay bx b : Int) (w : World) (er : Int) (he : Hid (e2 g ax ay bx b = er)) (hp : 1 ≤ er) :
    Calls Try.prog 8 #[.int .i64 g, .agg #[.int .i64 ax, .int .i64 ay], .agg #[.int .i64 bx, .int .i64 b]] w fun e w' => e = .returned (.tuple #[.agg #[.int .i64 0, .int .i64 0], .int .i64 er]) ∧ Below w.heap.size w w' := by
  go_enter Try.func8, Try.ntmps8
  go_wp2_with fail
  refine (wrongPoints2 g ax ay bx b _ _ _ ?_ ?_ ?_ ?_ ?_).mono ?_
  · simp
  · simp [go_sem]
  · simp [go_sem]
  · simp [go_sem]
  · simp [go_sem]
  rw [unhide he]
  rintro e w1 ⟨rfl, hb⟩
  obtain ⟨hc, hf⟩ := bcell hb
  have hz : w.heap.size + 1 + 1 < w1.heap.size := by have := hb.size; simp at this; omega
  go_wp2
  exact bodyPost_ret (v := .tuple #[.agg #[.int .i64 0, .int .i64 0], .int .i64 er]) (by simp [results, Try.results8, go_sem, hc]) rfl ⟨rfl, bset (bset (btrans (bal (bal (bal (bal (Below.refl _ _))))) hb) (by dsimp only; omega)) (by dsimp only; omega)⟩

set_option maxHeartbeats 1000000 in
theorem times_ok4 (ax ay bx b : Int) (w : World) (he : Hid (e2 4 ax ay bx b = 0)) (x y er : Int) (hx : Hid ((sm2 (ax * bx - ay * b) (ax * b + ay * bx) = true ∧ x = ax * bx - ay * b ∧ y = ax * b + ay * bx ∧ er = 0) ∨ (sm2 (ax * bx - ay * b) (ax * b + ay * bx) = false ∧ x = 0 ∧ y = 0 ∧ er = 4))) :
    Calls Try.prog 8 #[.int .i64 4, .agg #[.int .i64 ax, .int .i64 ay], .agg #[.int .i64 bx, .int .i64 b]] w fun e w' => e = .returned (.tuple #[.agg #[.int .i64 x, .int .i64 y], .int .i64 er]) ∧ Below w.heap.size w w' := by
  obtain ⟨_, ha, hb⟩ := e2_zero _ _ _ _ _ (unhide he)
  have hA := (sm2_iff _ _).1 ha
  have hB := (sm2_iff _ _).1 hb
  clear ha hb
  have HP := fun W => product4 ax ay bx b W (big_mul _ _ (by omega) (by omega)) (big_mul _ _ (by omega) (by omega)) (big_mul _ _ (by omega) (by omega)) (big_mul _ _ (by omega) (by omega))
  have HP' := hide HP
  clear HP
  generalize hX : ax * bx - ay * b = X at *
  generalize hY : ax * b + ay * bx = Y at *
  clear hX hY hA hB
  go_enter Try.func8, Try.ntmps8
  go_wp2_with fail
  refine (wrongPoints2 4 ax ay bx b _ _ _ ?_ ?_ ?_ ?_ ?_).mono ?_
  · simp
  · simp [go_sem]
  · simp [go_sem]
  · simp [go_sem]
  · simp [go_sem]
  rw [unhide he]
  rintro e w1 ⟨rfl, hb⟩
  obtain ⟨hc, hf⟩ := bcell hb
  have hz : w.heap.size + 1 + 1 < w1.heap.size := by have := hb.size; simp at this; omega
  go_wp2_with fail
  refine (unhide HP' _).mono ?_
  rintro e w2 ⟨rfl, hb2⟩
  obtain ⟨hc2, hf2⟩ := bcell hb2
  have hz2 : w.heap.size + 1 + 1 < w2.heap.size := by have := hb2.size; omega
  go_wp2_with fail
  rcases unhide hx with ⟨hs, rfl, rfl, rfl⟩ | ⟨hs, rfl, rfl, rfl⟩
  · refine (bounded_ok _ _ _ hs).mono ?_
    rintro e w3 ⟨rfl, hb3⟩
    obtain ⟨hc3, hf3⟩ := bcell hb3
    have hz3 : w.heap.size + 1 + 1 < w3.heap.size := by have := hb3.size; omega
    go_wp2
    exact bodyPost_ret (v := .tuple #[.agg #[.int .i64 x, .int .i64 y], .int .i64 0]) (by simp [results, Try.results8, go_sem, hc, hc2, hc3, hz, hz2]) rfl ⟨rfl, bset (bset (btrans (btrans (btrans (bal (bal (bal (bal (Below.refl _ _))))) hb) hb2) hb3) (by dsimp only; omega)) (by dsimp only; omega)⟩
  · refine (bounded_much _ _ _ hs).mono ?_
    rintro e w3 ⟨rfl, hb3⟩
    obtain ⟨hc3, hf3⟩ := bcell hb3
    have hz3 : w.heap.size + 1 + 1 < w3.heap.size := by have := hb3.size; omega
    go_wp2
    exact bodyPost_ret (v := .tuple #[.agg #[.int .i64 0, .int .i64 0], .int .i64 4]) (by simp [results, Try.results8, go_sem, hc, hc2, hc3, hz, hz2]) rfl ⟨rfl, bset (bset (btrans (btrans (btrans (bal (bal (bal (bal (Below.refl _ _))))) hb) hb2) hb3) (by dsimp only; omega)) (by dsimp only; omega)⟩

end Go.Proofs.Ytfopjkcnfngbpaa
