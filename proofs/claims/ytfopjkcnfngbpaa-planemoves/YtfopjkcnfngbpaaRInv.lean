/-
  What the reference's Inverse answers, out of what it calls, in plain variables.
-/
import Derived.Test.YtfopjkcnfngbpaaRefB
namespace Go.Proofs.Ytfopjkcnfngbpaa
open Go.RowKit

def RInverseIs (g t : Int) (f : Bool) (x y T : Int) (F : Bool) (u v er : Int) : Prop := ∀ W : World, Calls Try.prog 21 #[.int .i64 g, .agg #[.int .i64 t, .bool f, .int .i64 x, .int .i64 y]] W fun e w' => e = .returned (.tuple #[.agg #[.int .i64 T, .bool F, .int .i64 u, .int .i64 v], .int .i64 er]) ∧ Below W.heap.size W w'

theorem OwnM.setBy {W : World} {b : Nat} {t : Int} {f : Bool} {x y : Int} (h : OwnM W b t f x y) (x' y' : Int) : OwnM ((W.setCell ⟨b, 2, none⟩ (.int .i64 x')).setCell ⟨b, 3, none⟩ (.int .i64 y')) b t f x' y' := by
  obtain ⟨h1, ⟨h2, h3, h4, h5⟩, h6, h7, h8, h9⟩ := h
  exact ⟨by simpa using h1, ⟨by simp [go_sem, h2], by simp [go_sem, h3], by simp [go_sem, h4], by simp [go_sem, h5]⟩, by simp [go_sem, h6], by simp [go_sem, h7], by simp [go_sem, h8], by simp [go_sem, h9]⟩
theorem scaled_neg (x y : Int) (w : World) (hx : -1152921504606846976 ≤ x ∧ x ≤ 1152921504606846976) (hy : -1152921504606846976 ≤ y ∧ y ≤ 1152921504606846976) :
    Calls Try.prog 44 #[.int .i64 (-1), .agg #[.int .i64 x, .int .i64 y]] w fun e w' => e = .returned (.agg #[.int .i64 (-x), .int .i64 (-y)]) ∧ Below w.heap.size w w' := by
  have := scaled_any (-1) x y w (by unfold bd; omega) (by unfold bd; omega)
  rw [show -1 * x = -x by omega, show -1 * y = -y by omega] at this
  exact this

set_option maxHeartbeats 1000000 in
theorem rinverse_err (g t : Int) (f : Bool) (x y er : Int) (W1 : RWrongIs g t f x y er) (hp : 1 ≤ er) : RInverseIs g t f x y 0 false 0 0 er := by
  intro w
  go_enter Try.func21, Try.ntmps21
  go_wp2_with fail
  refine (W1 _).mono ?_
  rintro e w1 ⟨rfl, hb⟩
  have R := (OwnM.new (w.alloc (.cells #[.int .i64 t, .bool f, .int .i64 x, .int .i64 y] 31)) 0 false 0 0 31).keep hb
  have S := btrans (bal (bal (Below.refl _ _))) hb
  simp only [World.size_alloc] at R
  clear hb
  have q3 := R.2
  go_wp2
  exact bodyPost_ret (v := .tuple #[.agg #[.int .i64 0, .bool false, .int .i64 0, .int .i64 0], .int .i64 er]) (by simp [results, Try.results21, go_sem, q3]) rfl ⟨rfl, bset (bset (bset (bset S (by dsimp only; omega)) (by dsimp only; omega)) (by dsimp only; omega)) (by dsimp only; omega)⟩

set_option maxRecDepth 100000 in
set_option maxHeartbeats 4000000 in
theorem rinverse_ok (g : Int) (t : Int) (f : Bool) (x y : Int) (B : Nat) (BX BY rt : Int) (rf : Bool) (ru rv er : Int) (hg : g ≤ 6) (hB : (B : Int) < g) (W1 : RWrongIs g t f x y 0)
    (P : Hid (∀ n : Nat, (n : Int) < g → ∃ X Y c : Int, ToIs g n f 0 0 x y X Y ∧ (-1152921504606846976 ≤ X ∧ X ≤ 1152921504606846976) ∧ (-1152921504606846976 ≤ Y ∧ Y ≤ 1152921504606846976) ∧ ThenIs g n f (-X) (-Y) t f x y c false 0 0 ∧ (n = B → c = 0 ∧ X = BX ∧ Y = BY) ∧ (n ≠ B → 1 ≤ c)))
    (hx : Hid ((sm2 (-BX) (-BY) = true ∧ rt = B ∧ rf = f ∧ ru = -BX ∧ rv = -BY ∧ er = 0) ∨ (sm2 (-BX) (-BY) = false ∧ rt = 0 ∧ rf = false ∧ ru = 0 ∧ rv = 0 ∧ er = 4))) : RInverseIs g t f x y rt rf ru rv er := by
  intro w
  go_enter Try.func21, Try.ntmps21
  go_wp2_with fail
  refine (W1 _).mono ?_
  rintro e w1 ⟨rfl, hb⟩
  have M1 := ((OwnM.new w t f x y 31).alloc (.cells #[.int .i64 0, .bool false, .int .i64 0, .int .i64 0] 31)).keep hb
  have R1 := (OwnM.new (w.alloc (.cells #[.int .i64 t, .bool f, .int .i64 x, .int .i64 y] 31)) 0 false 0 0 31).keep hb
  have S1 := btrans (bal (bal (Below.refl _ _))) hb
  simp only [World.size_alloc] at R1
  clear hb
  go_wp2_with fail
  go_loopw [7] (fun i W => ∃ n : Nat, i = .int .i64 n ∧ n ≤ B ∧ Below w.heap.size w W ∧ OwnM W w.heap.size t f x y ∧ OwnM W (w.heap.size + 1) 0 false 0 0) (fun i _ => 7 - (intOf i).toNat)
  case atStart => exact ⟨0, rfl, Nat.zero_le _, S1, M1, R1⟩
  case round =>
    clear M1 R1 S1
    obtain ⟨n, rfl, hn, hbel, M, R⟩ := hrel
    obtain ⟨X, Y, c, C1, bX, bY, C2, hit, mis⟩ := unhide P n (by omega)
    have Hit := hide hit
    have Mis := hide mis
    clear hit mis
    have q0 := M.2.1
    have q1 := (M.alloc (.cells #[.int .i64 n, .bool f, .int .i64 0, .int .i64 0] 31)).2.1
    go_wp2_with fail
    clear q0 q1
    refine (C1 _).mono ?_
    rintro e w2 ⟨rfl, hb⟩
    have M2 := (M.alloc (.cells #[.int .i64 n, .bool f, .int .i64 0, .int .i64 0] 31)).keep hb
    have R2 := (R.alloc (.cells #[.int .i64 n, .bool f, .int .i64 0, .int .i64 0] 31)).keep hb
    have A2 := (OwnM.new wr n f 0 0 31).keep hb
    have S2 := btrans (bal hbel) hb
    have hz := R.1
    clear M R hbel hb
    go_wp2_with fail
    refine (scaled_neg X Y _ bX bY).mono ?_
    rintro e w3 ⟨rfl, hb⟩
    have M3 := M2.keep hb
    have R3 := R2.keep hb
    have A3 := A2.keep hb
    have S3 := btrans S2 hb
    clear M2 R2 A2 S2 hb
    have q0 := M3.2.1
    have q1 := A3.2
    go_wp2_with fail
    clear q0 q1
    have M4 := (M3.far (c := wr.heap.size) (o := 2) (v := .int .i64 (-X)) (by omega)).far (c := wr.heap.size) (o := 3) (v := .int .i64 (-Y)) (by omega)
    have R4 := (R3.far (c := wr.heap.size) (o := 2) (v := .int .i64 (-X)) (by omega)).far (c := wr.heap.size) (o := 3) (v := .int .i64 (-Y)) (by omega)
    have A4 := A3.setBy (-X) (-Y)
    have S4 := bset (p := ⟨wr.heap.size, 3, none⟩) (u := .int .i64 (-Y)) (bset (p := ⟨wr.heap.size, 2, none⟩) (u := .int .i64 (-X)) S3 (by dsimp only; omega)) (by dsimp only; omega)
    clear M3 R3 A3 S3
    refine (C2 _).mono ?_
    rintro e w4 ⟨rfl, hb⟩
    have M5 := M4.keep hb
    have R5 := R4.keep hb
    have A5 := A4.keep hb
    have S5 := btrans S4 hb
    clear M4 R4 A4 S4 hb
    by_cases hh : n = B
    · obtain ⟨z1, z2, z3⟩ := unhide Hit hh
      subst z1
      have Hx := hide hx
      clear hx
      have HB := hide hh
      have HX := hide z2
      have HY := hide z3
      clear hh z2 z3
      have q1 := A5.2.1
      go_wp2_with fail
      clear q1
      refine (small_any (-X) (-Y) _).mono ?_
      rintro e w5 ⟨rfl, hb⟩
      have R6 := R5.keep hb
      have A6 := A5.keep hb
      have S6 := btrans S5 hb
      clear M5 R5 A5 S5 hb
      have q1 := A6.2.1
      have q3 := R6.2
      have hy := unhide (unhide Hx)
      rw [← unhide HX, ← unhide HY] at hy
      clear Hx
      rcases hy with ⟨hs, rfl, rfl, rfl, rfl, rfl⟩ | ⟨hs, rfl, rfl, rfl, rfl, rfl⟩
      · go_wp2
        exact bodyPost_ret (v := .tuple #[.agg #[.int .i64 n, .bool rf, .int .i64 (-X), .int .i64 (-Y)], .int .i64 0]) (by simp [results, Try.results21, go_sem, q3]) rfl ⟨by rw [unhide HB], bset (bset (bset (bset S6 (by dsimp only; omega)) (by dsimp only; omega)) (by dsimp only; omega)) (by dsimp only; omega)⟩
      · go_wp2
        exact bodyPost_ret (v := .tuple #[.agg #[.int .i64 0, .bool false, .int .i64 0, .int .i64 0], .int .i64 4]) (by simp [results, Try.results21, go_sem, q3]) rfl ⟨rfl, bset (bset (bset (bset S6 (by dsimp only; omega)) (by dsimp only; omega)) (by dsimp only; omega)) (by dsimp only; omega)⟩
    · have z := unhide Mis hh
      have z4 : (c == 0) = false := by simp; omega
      clear z
      go_wp2
      go_roundw
      case rel => exact ⟨n + 1, by go_num, by omega, S5, M5, R5⟩
      case measure => simp [intOf]; omega

end Go.Proofs.Ytfopjkcnfngbpaa
