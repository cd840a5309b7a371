/-
  What Times and Norm of package plane answer, at every input, in one line each.
-/
import Derived.Test.YtfopjkcnfngbpaaTimes
namespace Go.Proofs.Ytfopjkcnfngbpaa
open Go.RowKit

set_option maxHeartbeats 1000000 in
theorem times_ok6 (ax ay bx b : Int) (w : World) (he : Hid (e2 6 ax ay bx b = 0)) (x y er : Int) (hx : Hid ((sm2 (ax * bx - ay * b) (ax * b + ay * bx + ay * b) = true ∧ x = ax * bx - ay * b ∧ y = ax * b + ay * bx + ay * b ∧ er = 0) ∨ (sm2 (ax * bx - ay * b) (ax * b + ay * bx + ay * b) = false ∧ x = 0 ∧ y = 0 ∧ er = 4))) :
    Calls Try.prog 8 #[.int .i64 6, .agg #[.int .i64 ax, .int .i64 ay], .agg #[.int .i64 bx, .int .i64 b]] w fun e w' => e = .returned (.tuple #[.agg #[.int .i64 x, .int .i64 y], .int .i64 er]) ∧ Below w.heap.size w w' := by
  obtain ⟨_, ha, hb⟩ := e2_zero _ _ _ _ _ (unhide he)
  have hA := (sm2_iff _ _).1 ha
  have hB := (sm2_iff _ _).1 hb
  clear ha hb
  have HP := fun W => product6 ax ay bx b W (big_mul _ _ (by omega) (by omega)) (big_mul _ _ (by omega) (by omega)) (big_mul _ _ (by omega) (by omega)) (big_mul _ _ (by omega) (by omega))
  have HP' := hide HP
  clear HP
  generalize hX : ax * bx - ay * b = X at *
  generalize hY : ax * b + ay * bx + ay * b = Y at *
  clear hX hY hA hB
  go_enter Try.func8, Try.ntmps8
  go_wp2_with fail
  refine (wrongPoints2 6 ax ay bx b _ _ _ ?_ ?_ ?_ ?_ ?_).mono ?_
  · simp
  · simp [go_sem]
  · simp [go_sem]
  · simp [go_sem]
  · simp [go_sem]
  rw [unhide he]
  rintro e w1 ⟨rfl, hb⟩
  obtain ⟨hc, hf⟩ := bcell hb
  have hz : w.heap.size + 1 + 1 < w1.heap.size := by have := hb.size; simp at this; omega
  go_wp2_with fail
  refine (unhide HP' _).mono ?_
  rintro e w2 ⟨rfl, hb2⟩
  obtain ⟨hc2, hf2⟩ := bcell hb2
  have hz2 : w.heap.size + 1 + 1 < w2.heap.size := by have := hb2.size; omega
  go_wp2_with fail
  rcases unhide hx with ⟨hs, rfl, rfl, rfl⟩ | ⟨hs, rfl, rfl, rfl⟩
  · refine (bounded_ok _ _ _ hs).mono ?_
    rintro e w3 ⟨rfl, hb3⟩
    obtain ⟨hc3, hf3⟩ := bcell hb3
    have hz3 : w.heap.size + 1 + 1 < w3.heap.size := by have := hb3.size; omega
    go_wp2
    exact bodyPost_ret (v := .tuple #[.agg #[.int .i64 x, .int .i64 y], .int .i64 0]) (by simp [results, Try.results8, go_sem, hc, hc2, hc3, hz, hz2]) rfl ⟨rfl, bset (bset (btrans (btrans (btrans (bal (bal (bal (bal (Below.refl _ _))))) hb) hb2) hb3) (by dsimp only; omega)) (by dsimp only; omega)⟩
  · refine (bounded_much _ _ _ hs).mono ?_
    rintro e w3 ⟨rfl, hb3⟩
    obtain ⟨hc3, hf3⟩ := bcell hb3
    have hz3 : w.heap.size + 1 + 1 < w3.heap.size := by have := hb3.size; omega
    go_wp2
    exact bodyPost_ret (v := .tuple #[.agg #[.int .i64 0, .int .i64 0], .int .i64 4]) (by simp [results, Try.results8, go_sem, hc, hc2, hc3, hz, hz2]) rfl ⟨rfl, bset (bset (btrans (btrans (btrans (bal (bal (bal (bal (Below.refl _ _))))) hb) hb2) hb3) (by dsimp only; omega)) (by dsimp only; omega)⟩

theorem times_any (g ax ay bx b : Int) (w : World) :
    Calls Try.prog 8 #[.int .i64 g, .agg #[.int .i64 ax, .int .i64 ay], .agg #[.int .i64 bx, .int .i64 b]] w fun e w' => e = .returned (.tuple #[.agg #[.int .i64 (tX g ax ay bx b), .int .i64 (tY g ax ay bx b)], .int .i64 (tE g ax ay bx b)]) ∧ Below w.heap.size w w' := by
  by_cases h : e2 g ax ay bx b = 0
  · obtain ⟨hg, _, _⟩ := e2_zero _ _ _ _ _ h
    rcases hg with rfl | rfl
    · refine times_ok4 ax ay bx b w h _ _ _ ?_
      show _ ∨ _
      cases hs : sm2 (ax * bx - ay * b) (ax * b + ay * bx) with
      | true => left; simp [tX, tY, tE, pX, pY, h, hs]
      | false => right; simp [tX, tY, tE, pX, pY, h, hs]
    · refine times_ok6 ax ay bx b w h _ _ _ ?_
      show _ ∨ _
      cases hs : sm2 (ax * bx - ay * b) (ax * b + ay * bx + ay * b) with
      | true => left; simp [tX, tY, tE, pX, pY, h, hs]
      | false => right; simp [tX, tY, tE, pX, pY, h, hs]
  · have h1 : tE g ax ay bx b = e2 g ax ay bx b := by simp [tE, h]
    have h2 : tX g ax ay bx b = 0 := by simp [tX, h1, h]
    have h3 : tY g ax ay bx b = 0 := by simp [tY, h1, h]
    rw [h1, h2, h3]
    exact times_err g ax ay bx b w _ rfl (e2_pos _ _ _ _ _ h)

def nn (g x y : Int) : Int := if g = 6 then x * x + x * y + y * y else x * x + y * y
def nE (g x y : Int) : Int := e1 g x y
def nN (g x y : Int) : Int := if e1 g x y = 0 then nn g x y else 0

set_option maxHeartbeats 1000000 in
theorem norm_err (g ax ay : Int) (w : World) (er : Int) (he : Hid (e1 g ax ay = er)) (hp : 1 ≤ er) :
    Calls Try.prog 10 #[.int .i64 g, .agg #[.int .i64 ax, .int .i64 ay]] w fun e w' => e = .returned (.tuple #[.int .i64 0, .int .i64 er]) ∧ Below w.heap.size w w' := by
  go_enter Try.func10, Try.ntmps10
  go_wp2_with fail
  refine (wrongPoints1 g ax ay _ _ _ ?_ ?_ ?_).mono ?_
  · simp
  · simp [go_sem]
  · simp [go_sem]
  rw [unhide he]
  rintro e w1 ⟨rfl, hb⟩
  obtain ⟨hc, hf⟩ := bcell hb
  go_wp2
  go_ret2
  exact ⟨rfl, btrans (bal (bal (Below.refl _ _))) hb⟩

set_option maxHeartbeats 1000000 in
theorem norm_ok (g ax ay n : Int) (w : World) (he : Hid (e1 g ax ay = 0)) (HP' : Hid (∀ W, Calls Try.prog 32 #[.int .i64 g, .agg #[.int .i64 ax, .int .i64 ay]] W fun e w' => e = .returned (.int .i64 n) ∧ Below W.heap.size W w')) :
    Calls Try.prog 10 #[.int .i64 g, .agg #[.int .i64 ax, .int .i64 ay]] w fun e w' => e = .returned (.tuple #[.int .i64 n, .int .i64 0]) ∧ Below w.heap.size w w' := by
  go_enter Try.func10, Try.ntmps10
  go_wp2_with fail
  refine (wrongPoints1 g ax ay _ _ _ ?_ ?_ ?_).mono ?_
  · simp
  · simp [go_sem]
  · simp [go_sem]
  rw [unhide he]
  rintro e w1 ⟨rfl, hb⟩
  obtain ⟨hc, hf⟩ := bcell hb
  go_wp2_with fail
  refine (unhide HP' _).mono ?_
  rintro e w2 ⟨rfl, hb2⟩
  go_wp2
  go_ret2
  exact ⟨rfl, btrans (btrans (bal (bal (Below.refl _ _))) hb) hb2⟩

theorem norm_any (g ax ay : Int) (w : World) :
    Calls Try.prog 10 #[.int .i64 g, .agg #[.int .i64 ax, .int .i64 ay]] w fun e w' => e = .returned (.tuple #[.int .i64 (nN g ax ay), .int .i64 (nE g ax ay)]) ∧ Below w.heap.size w w' := by
  by_cases h : e1 g ax ay = 0
  · have h1 : nE g ax ay = 0 := h
    have h2 : nN g ax ay = nn g ax ay := by simp [nN, h]
    rw [h1, h2]
    obtain ⟨hg, hs⟩ := e1_zero _ _ _ h
    have hA := (sm2_iff _ _).1 hs
    refine norm_ok g ax ay _ w h ?_
    rcases hg with rfl | rfl
    · exact fun W => norm4 ax ay W (by omega) (by omega)
    · exact fun W => norm6 ax ay W (by omega) (by omega)
  · have h1 : nE g ax ay = e1 g ax ay := rfl
    have h2 : nN g ax ay = 0 := by simp [nN, h]
    rw [h1, h2]
    exact norm_err g ax ay w _ rfl (e1_pos _ _ _ h)

theorem tE_alive : tE 6 0 1 0 1 = 0 := by decide
theorem tX_alive : tX 6 0 1 0 1 = -1 := by decide
theorem tY_alive : tY 6 0 1 0 1 = 1 := by decide

set_option maxHeartbeats 1000000 in
theorem alive_any (w : World) :
    Calls Try.prog 24 #[] w fun e w' => e = .returned (.bool true) ∧ Below w.heap.size w w' := by
  go_enter Try.func24, Try.ntmps24
  go_wp2_with fail
  refine (times_any 6 0 1 0 1 _).mono ?_
  rw [tE_alive, tX_alive, tY_alive]
  rintro e w1 ⟨rfl, hb⟩
  go_wp2
  go_ret
  exact ⟨rfl, bal hb⟩

end Go.Proofs.Ytfopjkcnfngbpaa
