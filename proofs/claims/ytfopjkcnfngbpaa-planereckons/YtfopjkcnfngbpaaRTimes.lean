/-
  What the reference's Times and Norm answer.
-/
import Derived.Test.YtfopjkcnfngbpaaRestA
import Derived.Test.YtfopjkcnfngbpaaRefB
namespace Go.Proofs.Ytfopjkcnfngbpaa
open Go.RowKit

def RTimesIs (g ax ay bx b x y er : Int) : Prop := ∀ W : World, Calls Try.prog 9 #[.int .i64 g, .agg #[.int .i64 ax, .int .i64 ay], .agg #[.int .i64 bx, .int .i64 b]] W fun e w' => e = .returned (.tuple #[.agg #[.int .i64 x, .int .i64 y], .int .i64 er]) ∧ Below W.heap.size W w'
def RNormIs (g ax ay n er : Int) : Prop := ∀ W : World, Calls Try.prog 11 #[.int .i64 g, .agg #[.int .i64 ax, .int .i64 ay]] W fun e w' => e = .returned (.tuple #[.int .i64 n, .int .i64 er]) ∧ Below W.heap.size W w'
theorem three (w : World) (ax ay bx b : Int) : RB w ax ay bx b (((w.alloc (.cells #[.int .i64 ax, .int .i64 ay] 23)).alloc (.cells #[.int .i64 bx, .int .i64 b] 23)).alloc (.cells #[.int .i64 0, .int .i64 0] 23)) := by
  have M := ((Own.new w ax ay 23).alloc (.cells #[.int .i64 bx, .int .i64 b] 23)).alloc (.cells #[.int .i64 0, .int .i64 0] 23)
  have N := (Own.new (w.alloc (.cells #[.int .i64 ax, .int .i64 ay] 23)) bx b 23).alloc (.cells #[.int .i64 0, .int .i64 0] 23)
  have R := Own.new ((w.alloc (.cells #[.int .i64 ax, .int .i64 ay] 23)).alloc (.cells #[.int .i64 bx, .int .i64 b] 23)) 0 0 23
  simp only [World.size_alloc] at N R
  exact ⟨bal (bal (bal (Below.refl _ _))), M, N, R⟩

set_option maxHeartbeats 1000000 in
theorem rtimes_kind (g ax ay bx b : Int) (h : okg g = false) : RTimesIs g ax ay bx b 0 0 1 := by
  intro w
  have R0 := three w ax ay bx b
  go_enter Try.func9, Try.ntmps9
  go_wp2_with fail
  generalize ((w.alloc (.cells #[.int .i64 ax, .int .i64 ay] 23)).alloc (.cells #[.int .i64 bx, .int .i64 b] 23)).alloc (.cells #[.int .i64 0, .int .i64 0] 23) = w0 at *
  refine (grid_any g _).mono ?_
  rintro e w1 ⟨rfl, rfl⟩
  have q := R0.2.2.2.2
  go_wp2
  exact bodyPost_ret (v := .tuple #[.agg #[.int .i64 0, .int .i64 0], .int .i64 1]) (by simp [results, Try.results9, go_sem, q]) rfl ⟨rfl, bset (bset R0.1 (by dsimp only; omega)) (by dsimp only; omega)⟩

set_option maxHeartbeats 1000000 in
theorem rtimes_range (g ax ay bx b : Int) (h : okg g = true) (hs : (sm2 ax ay && sm2 bx b) = false) : RTimesIs g ax ay bx b 0 0 3 := by
  intro w
  have R0 := three w ax ay bx b
  cases h1 : sm2 ax ay with
  | false =>
    go_enter Try.func9, Try.ntmps9
    go_wp2_with fail
    generalize ((w.alloc (.cells #[.int .i64 ax, .int .i64 ay] 23)).alloc (.cells #[.int .i64 bx, .int .i64 b] 23)).alloc (.cells #[.int .i64 0, .int .i64 0] 23) = w0 at *
    refine (grid_any g _).mono ?_
    rintro e w1 ⟨rfl, rfl⟩
    have q1 := R0.2.1.2.1
    go_wp2_with fail
    clear q1
    refine (small_any ax ay _).mono ?_
    rintro e w2 ⟨rfl, hb⟩
    have R2 := R0.keep hb
    have q := R2.2.2.2.2
    clear R0 hb
    go_wp2
    exact bodyPost_ret (v := .tuple #[.agg #[.int .i64 0, .int .i64 0], .int .i64 3]) (by simp [results, Try.results9, go_sem, q]) rfl ⟨rfl, bset (bset R2.1 (by dsimp only; omega)) (by dsimp only; omega)⟩
  | true =>
    have h2 : sm2 bx b = false := by simpa [h1] using hs
    clear hs
    go_enter Try.func9, Try.ntmps9
    go_wp2_with fail
    generalize ((w.alloc (.cells #[.int .i64 ax, .int .i64 ay] 23)).alloc (.cells #[.int .i64 bx, .int .i64 b] 23)).alloc (.cells #[.int .i64 0, .int .i64 0] 23) = w0 at *
    refine (grid_any g _).mono ?_
    rintro e w1 ⟨rfl, rfl⟩
    have q1 := R0.2.1.2.1
    go_wp2_with fail
    clear q1
    refine (small_any ax ay _).mono ?_
    rintro e w2 ⟨rfl, hb⟩
    have R2 := R0.keep hb
    clear R0 hb
    have q1 := R2.2.2.1.2.1
    go_wp2_with fail
    clear q1
    refine (small_any bx b _).mono ?_
    rintro e w3 ⟨rfl, hb⟩
    have R3 := R2.keep hb
    clear R2 hb
    have q := R3.2.2.2.2
    go_wp2
    exact bodyPost_ret (v := .tuple #[.agg #[.int .i64 0, .int .i64 0], .int .i64 3]) (by simp [results, Try.results9, go_sem, q]) rfl ⟨rfl, bset (bset R3.1 (by dsimp only; omega)) (by dsimp only; omega)⟩

set_option maxHeartbeats 2000000 in
theorem rtimes_ok (g ax ay bx b X Y u v er : Int) (h : okg g = true) (h1 : sm2 ax ay = true) (h2 : sm2 bx b = true) (HP : RProdIs g ax ay bx b X Y) (hx : Hid ((sm2 X Y = true ∧ u = X ∧ v = Y ∧ er = 0) ∨ (sm2 X Y = false ∧ u = 0 ∧ v = 0 ∧ er = 4))) : RTimesIs g ax ay bx b u v er := by
  intro w
  have R0 := three w ax ay bx b
  go_enter Try.func9, Try.ntmps9
  go_wp2_with fail
  generalize ((w.alloc (.cells #[.int .i64 ax, .int .i64 ay] 23)).alloc (.cells #[.int .i64 bx, .int .i64 b] 23)).alloc (.cells #[.int .i64 0, .int .i64 0] 23) = w0 at *
  refine (grid_any g _).mono ?_
  rintro e w1 ⟨rfl, rfl⟩
  have q1 := R0.2.1.2.1
  go_wp2_with fail
  clear q1
  refine (small_any ax ay _).mono ?_
  rintro e w2 ⟨rfl, hb⟩
  have R2 := R0.keep hb
  clear R0 hb
  have q1 := R2.2.2.1.2.1
  go_wp2_with fail
  clear q1
  refine (small_any bx b _).mono ?_
  rintro e w3 ⟨rfl, hb⟩
  have R3 := R2.keep hb
  clear R2 hb
  have q1 := R3.2.1.2.1
  have q2 := R3.2.2.1.2.1
  go_wp2_with fail
  clear q1 q2
  refine (HP _).mono ?_
  rintro e w4 ⟨rfl, hb⟩
  have R4 := (R3.keep hb).keep (bal (o := .cells #[.int .i64 X, .int .i64 Y] 23) (Below.refl _ _))
  have Z4 := Own.new w4 X Y 23
  clear R3 hb
  go_wp2_with fail
  generalize w4.alloc (.cells #[.int .i64 X, .int .i64 Y] 23) = w5 at *
  generalize w4.heap.size = bz at *
  refine (small_any X Y _).mono ?_
  rintro e w6 ⟨rfl, hb⟩
  have R6 := R4.keep hb
  have Z6 := Z4.keep hb
  clear R4 Z4 hb
  have q := R6.2.2.2.2
  have q2 := Z6.2.1
  rcases unhide hx with ⟨hs, rfl, rfl, rfl⟩ | ⟨hs, rfl, rfl, rfl⟩
  · go_wp2
    exact bodyPost_ret (v := .tuple #[.agg #[.int .i64 u, .int .i64 v], .int .i64 0]) (by simp [results, Try.results9, go_sem, q]) rfl ⟨rfl, bset (bset R6.1 (by dsimp only; omega)) (by dsimp only; omega)⟩
  · go_wp2
    exact bodyPost_ret (v := .tuple #[.agg #[.int .i64 0, .int .i64 0], .int .i64 4]) (by simp [results, Try.results9, go_sem, q]) rfl ⟨rfl, bset (bset R6.1 (by dsimp only; omega)) (by dsimp only; omega)⟩

set_option maxHeartbeats 1000000 in
theorem rnorm_any (g ax ay : Int) : RNormIs g ax ay (nN g ax ay) (nE g ax ay) := by
  intro w
  have B0 := bal (o := .cells #[.int .i64 ax, .int .i64 ay] 23) (Below.refl w.heap.size w)
  have O0 := Own.new w ax ay 23
  cases h : okg g with
  | false =>
    have e1' := hide (show nN g ax ay = 0 ∧ nE g ax ay = 1 by simp [nN, nE, e1, h])
    go_enter Try.func11, Try.ntmps11
    go_wp2_with fail
    refine (grid_any g _).mono ?_
    rintro e w1 ⟨rfl, rfl⟩
    go_wp2
    exact bodyPost_ret (v := .tuple #[.int .i64 0, .int .i64 1]) (by simp [results, Try.results11, go_sem]) rfl ⟨by rw [(unhide e1').1, (unhide e1').2], B0⟩
  | true =>
    cases hs : sm2 ax ay with
    | false =>
      have e1' := hide (show nN g ax ay = 0 ∧ nE g ax ay = 3 by simp [nN, nE, e1, h, hs])
      go_enter Try.func11, Try.ntmps11
      go_wp2_with fail
      generalize w.alloc (.cells #[.int .i64 ax, .int .i64 ay] 23) = w0 at *
      refine (grid_any g _).mono ?_
      rintro e w1 ⟨rfl, rfl⟩
      have q1 := O0.2.1
      go_wp2_with fail
      clear q1
      refine (small_any ax ay _).mono ?_
      rintro e w2 ⟨rfl, hb⟩
      go_wp2
      exact bodyPost_ret (v := .tuple #[.int .i64 0, .int .i64 3]) (by simp [results, Try.results11, go_sem]) rfl ⟨by rw [(unhide e1').1, (unhide e1').2], btrans B0 hb⟩
    | true =>
      have e1' := hide (show nN g ax ay = nn g ax ay ∧ nE g ax ay = 0 by simp [nN, nE, e1, h, hs])
      have k := (sm2_iff _ _).1 hs
      have hg : g = 4 ∨ g = 6 := by simpa [okg] using h
      have SQ := sq22 g ax ay hg (by omega) (by omega)
      clear k hg
      generalize nn g ax ay = n at *
      go_enter Try.func11, Try.ntmps11
      go_wp2_with fail
      generalize w.alloc (.cells #[.int .i64 ax, .int .i64 ay] 23) = w0 at *
      refine (grid_any g _).mono ?_
      rintro e w1 ⟨rfl, rfl⟩
      have q1 := O0.2.1
      go_wp2_with fail
      clear q1
      refine (small_any ax ay _).mono ?_
      rintro e w2 ⟨rfl, hb⟩
      have O2 := O0.keep hb
      have B2 := btrans B0 hb
      clear hb O0 B0
      have q1 := O2.2.1
      go_wp2_with fail
      clear q1
      refine (SQ _).mono ?_
      rintro e w3 ⟨rfl, hb⟩
      go_wp2
      exact bodyPost_ret (v := .tuple #[.int .i64 n, .int .i64 0]) (by simp [results, Try.results11, go_sem]) rfl ⟨by rw [(unhide e1').1, (unhide e1').2], btrans B2 hb⟩
end Go.Proofs.Ytfopjkcnfngbpaa
