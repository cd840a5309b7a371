/-
  What Compose and Inverse of package plane answer, out of what they call, in plain variables.
-/
import Derived.Test.YtagiekbijmdmdaaApply
namespace Go.Proofs.Ytagiekbijmdmdaa
open Go.RowKit

set_option maxHeartbeats 1000000 in
theorem compose_err (g t : Int) (f : Bool) (x y t' : Int) (f' : Bool) (x' y' er : Int) (he : Hid (w2E g t x y t' x' y' = er)) (hp : 1 ≤ er) : ComposeIs g t f x y t' f' x' y' 0 false 0 0 er := by
  intro w
  go_enter Try.func26, Try.ntmps26
  go_wp2_with fail
  refine (wrongMoves_any g t f x y t' f' x' y' _ _ _ ?_ ?_ ?_).mono ?_
  · simp
  · simp [go_sem]
  · simp [go_sem]
  rw [unhide he]
  rintro e w1 ⟨rfl, hb⟩
  have R := ((OwnM.new ((w.alloc (.cells #[.int .i64 t, .bool f, .int .i64 x, .int .i64 y] 45)).alloc (.cells #[.int .i64 t', .bool f', .int .i64 x', .int .i64 y'] 45)) 0 false 0 0 45).alloc (.cells #[.int .i64 t, .bool f, .int .i64 x, .int .i64 y, .int .i64 t', .bool f', .int .i64 x', .int .i64 y'] 45)).keep hb
  have S := btrans (bal (bal (bal (bal (Below.refl _ _))))) hb
  simp only [World.size_alloc] at R
  clear hb
  have q3 := R.2
  go_wp2
  exact bodyPost_ret (v := .tuple #[.agg #[.int .i64 0, .bool false, .int .i64 0, .int .i64 0], .int .i64 er]) (by simp [results, Try.results26, go_sem, q3]) rfl ⟨rfl, bset (bset (bset (bset S (by dsimp only; omega)) (by dsimp only; omega)) (by dsimp only; omega)) (by dsimp only; omega)⟩

set_option maxHeartbeats 1000000 in
theorem compose_ok (g t : Int) (f : Bool) (x y t' : Int) (f' : Bool) (x' y' T : Int) (F : Bool) (X Y : Int) (rt : Int) (rf : Bool) (ru rv er : Int) (he : Hid (w2E g t x y t' x' y' = 0)) (C : ComposedIs g t f x y t' f' x' y' T F X Y)
    (hx : Hid ((sm2 X Y = true ∧ rt = T ∧ rf = F ∧ ru = X ∧ rv = Y ∧ er = 0) ∨ (sm2 X Y = false ∧ rt = 0 ∧ rf = false ∧ ru = 0 ∧ rv = 0 ∧ er = 4))) : ComposeIs g t f x y t' f' x' y' rt rf ru rv er := by
  intro w
  go_enter Try.func26, Try.ntmps26
  go_wp2_with fail
  refine (wrongMoves_any g t f x y t' f' x' y' _ _ _ ?_ ?_ ?_).mono ?_
  · simp
  · simp [go_sem]
  · simp [go_sem]
  rw [unhide he]
  rintro e w1 ⟨rfl, hb⟩
  have N := ((((OwnM.new w t f x y 45).alloc (.cells #[.int .i64 t', .bool f', .int .i64 x', .int .i64 y'] 45)).alloc (.cells #[.int .i64 0, .bool false, .int .i64 0, .int .i64 0] 45)).alloc (.cells #[.int .i64 t, .bool f, .int .i64 x, .int .i64 y, .int .i64 t', .bool f', .int .i64 x', .int .i64 y'] 45)).keep hb
  have O := (((OwnM.new (w.alloc (.cells #[.int .i64 t, .bool f, .int .i64 x, .int .i64 y] 45)) t' f' x' y' 45).alloc (.cells #[.int .i64 0, .bool false, .int .i64 0, .int .i64 0] 45)).alloc (.cells #[.int .i64 t, .bool f, .int .i64 x, .int .i64 y, .int .i64 t', .bool f', .int .i64 x', .int .i64 y'] 45)).keep hb
  have R := ((OwnM.new ((w.alloc (.cells #[.int .i64 t, .bool f, .int .i64 x, .int .i64 y] 45)).alloc (.cells #[.int .i64 t', .bool f', .int .i64 x', .int .i64 y'] 45)) 0 false 0 0 45).alloc (.cells #[.int .i64 t, .bool f, .int .i64 x, .int .i64 y, .int .i64 t', .bool f', .int .i64 x', .int .i64 y'] 45)).keep hb
  have S := btrans (bal (bal (bal (bal (Below.refl _ _))))) hb
  simp only [World.size_alloc] at O R
  clear hb
  have q1 := N.2.1
  have q2 := O.2.1
  go_wp2_with fail
  clear q1 q2
  refine (C _).mono ?_
  rintro e w2 ⟨rfl, hb⟩
  have R2 := R.keep hb
  have S2 := btrans S hb
  clear N O R S hb
  go_wp2_with fail
  rcases unhide hx with ⟨hs, rfl, rfl, rfl, rfl, rfl⟩ | ⟨hs, rfl, rfl, rfl, rfl, rfl⟩
  · refine (boundedMove_ok _ _ _ _ _ hs).mono ?_
    rintro e w3 ⟨rfl, hb⟩
    have R3 := R2.keep hb
    have S3 := btrans S2 hb
    clear R2 S2 hb
    have q3 := R3.2
    go_wp2
    exact bodyPost_ret (v := .tuple #[.agg #[.int .i64 rt, .bool rf, .int .i64 ru, .int .i64 rv], .int .i64 0]) (by simp [results, Try.results26, go_sem, q3]) rfl ⟨rfl, bset (bset (bset (bset S3 (by dsimp only; omega)) (by dsimp only; omega)) (by dsimp only; omega)) (by dsimp only; omega)⟩
  · refine (boundedMove_much _ _ _ _ _ hs).mono ?_
    rintro e w3 ⟨rfl, hb⟩
    have R3 := R2.keep hb
    have S3 := btrans S2 hb
    clear R2 S2 hb
    have q3 := R3.2
    go_wp2
    exact bodyPost_ret (v := .tuple #[.agg #[.int .i64 0, .bool false, .int .i64 0, .int .i64 0], .int .i64 4]) (by simp [results, Try.results26, go_sem, q3]) rfl ⟨rfl, bset (bset (bset (bset S3 (by dsimp only; omega)) (by dsimp only; omega)) (by dsimp only; omega)) (by dsimp only; omega)⟩

/-! ### Inverse -/
set_option maxHeartbeats 1000000 in
theorem inverse_err (g t : Int) (f : Bool) (x y er : Int) (W1 : WrongIs g t f x y er) (hp : 1 ≤ er) : InverseIs g t f x y 0 false 0 0 er := by
  intro w
  go_enter Try.func27, Try.ntmps27
  go_wp2_with fail
  refine (W1 _).mono ?_
  rintro e w1 ⟨rfl, hb⟩
  have R := (OwnM.new (w.alloc (.cells #[.int .i64 t, .bool f, .int .i64 x, .int .i64 y] 45)) 0 false 0 0 45).keep hb
  have S := btrans (bal (bal (Below.refl _ _))) hb
  simp only [World.size_alloc] at R
  clear hb
  have q3 := R.2
  go_wp2
  exact bodyPost_ret (v := .tuple #[.agg #[.int .i64 0, .bool false, .int .i64 0, .int .i64 0], .int .i64 er]) (by simp [results, Try.results27, go_sem, q3]) rfl ⟨rfl, bset (bset (bset (bset S (by dsimp only; omega)) (by dsimp only; omega)) (by dsimp only; omega)) (by dsimp only; omega)⟩

set_option maxHeartbeats 1000000 in
theorem inverse_flip (g t : Int) (x y X Y : Int) (rt : Int) (rf : Bool) (ru rv er : Int) (W1 : WrongIs g t true x y 0) (M : MovedIs g t true 0 0 x y X Y) (hX : -1152921504606846976 ≤ X ∧ X ≤ 1152921504606846976) (hY : -1152921504606846976 ≤ Y ∧ Y ≤ 1152921504606846976)
    (hx : Hid ((sm2 (-X) (-Y) = true ∧ rt = t ∧ rf = true ∧ ru = -X ∧ rv = -Y ∧ er = 0) ∨ (sm2 (-X) (-Y) = false ∧ rt = 0 ∧ rf = false ∧ ru = 0 ∧ rv = 0 ∧ er = 4))) : InverseIs g t true x y rt rf ru rv er := by
  intro w
  go_enter Try.func27, Try.ntmps27
  go_wp2_with fail
  refine (W1 _).mono ?_
  rintro e w1 ⟨rfl, hb⟩
  have N := ((OwnM.new w t true x y 45).alloc (.cells #[.int .i64 0, .bool false, .int .i64 0, .int .i64 0] 45)).keep hb
  have R := (OwnM.new (w.alloc (.cells #[.int .i64 t, .bool true, .int .i64 x, .int .i64 y] 45)) 0 false 0 0 45).keep hb
  have S := btrans (bal (bal (Below.refl _ _))) hb
  simp only [World.size_alloc] at R
  clear hb
  have q1 := N.2.1
  have q2 := (N.alloc (.cells #[.int .i64 t, .bool true, .int .i64 0, .int .i64 0] 45)).2.1
  go_wp2_with fail
  clear q1 q2
  refine (M _).mono ?_
  rintro e w2 ⟨rfl, hb⟩
  have R2 := (R.alloc (.cells #[.int .i64 t, .bool true, .int .i64 0, .int .i64 0] 45)).keep hb
  have B2 := (OwnM.new w1 t true 0 0 45).keep hb
  have S2 := btrans (bal S) hb
  have z2 := R.1
  clear N R S hb
  have q1 := (B2.alloc (.cells #[.int .i64 X, .int .i64 Y] 33)).2
  go_wp2_with fail
  clear q1
  have R3 := ((R2.alloc (.cells #[.int .i64 X, .int .i64 Y] 33)).far (c := w1.heap.size) (o := 2) (v := .int .i64 (-X)) (by omega)).far (c := w1.heap.size) (o := 3) (v := .int .i64 (-Y)) (by omega)
  have S3 := bset (p := ⟨w1.heap.size, 3, none⟩) (u := .int .i64 (-Y)) (bset (p := ⟨w1.heap.size, 2, none⟩) (u := .int .i64 (-X)) (bal (o := .cells #[.int .i64 X, .int .i64 Y] 33) S2) (by dsimp only; omega)) (by dsimp only; omega)
  clear B2 R2 S2
  rcases unhide hx with ⟨hs, rfl, rfl, rfl, rfl, rfl⟩ | ⟨hs, rfl, rfl, rfl, rfl, rfl⟩
  · refine (boundedMove_ok _ _ _ _ _ hs).mono ?_
    rintro e w3 ⟨rfl, hb⟩
    have R4 := R3.keep hb
    have S4 := btrans S3 hb
    clear R3 S3 hb
    have q3 := R4.2
    go_wp2
    exact bodyPost_ret (v := .tuple #[.agg #[.int .i64 rt, .bool true, .int .i64 (-X), .int .i64 (-Y)], .int .i64 0]) (by simp [results, Try.results27, go_sem, q3]) rfl ⟨rfl, bset (bset (bset (bset S4 (by dsimp only; omega)) (by dsimp only; omega)) (by dsimp only; omega)) (by dsimp only; omega)⟩
  · refine (boundedMove_much _ _ _ _ _ hs).mono ?_
    rintro e w3 ⟨rfl, hb⟩
    have R4 := R3.keep hb
    have S4 := btrans S3 hb
    clear R3 S3 hb
    have q3 := R4.2
    go_wp2
    exact bodyPost_ret (v := .tuple #[.agg #[.int .i64 0, .bool false, .int .i64 0, .int .i64 0], .int .i64 4]) (by simp [results, Try.results27, go_sem, q3]) rfl ⟨rfl, bset (bset (bset (bset S4 (by dsimp only; omega)) (by dsimp only; omega)) (by dsimp only; omega)) (by dsimp only; omega)⟩

set_option maxHeartbeats 1000000 in
theorem inverse_plain (g t : Int) (x y X Y : Int) (rt : Int) (rf : Bool) (ru rv er : Int) (hg : 4 ≤ g ∧ g ≤ 6) (ht : 0 ≤ t ∧ t < g) (W1 : WrongIs g t false x y 0) (M : MovedIs g (-t % g) false 0 0 x y X Y) (hX : -1152921504606846976 ≤ X ∧ X ≤ 1152921504606846976) (hY : -1152921504606846976 ≤ Y ∧ Y ≤ 1152921504606846976)
    (hx : Hid ((sm2 (-X) (-Y) = true ∧ rt = -t % g ∧ rf = false ∧ ru = -X ∧ rv = -Y ∧ er = 0) ∨ (sm2 (-X) (-Y) = false ∧ rt = 0 ∧ rf = false ∧ ru = 0 ∧ rv = 0 ∧ er = 4))) : InverseIs g t false x y rt rf ru rv er := by
  intro w
  go_enter Try.func27, Try.ntmps27
  go_wp2_with fail
  refine (W1 _).mono ?_
  rintro e w1 ⟨rfl, hb⟩
  have N := ((OwnM.new w t false x y 45).alloc (.cells #[.int .i64 0, .bool false, .int .i64 0, .int .i64 0] 45)).keep hb
  have R := (OwnM.new (w.alloc (.cells #[.int .i64 t, .bool false, .int .i64 x, .int .i64 y] 45)) 0 false 0 0 45).keep hb
  have S := btrans (bal (bal (Below.refl _ _))) hb
  simp only [World.size_alloc] at R
  clear hb
  have q1 := N.2.1
  have q2 := (N.alloc (.cells #[.int .i64 (-t % g), .bool false, .int .i64 0, .int .i64 0] 45)).2.1
  have q4 := (N.alloc (.cells #[.int .i64 t, .bool false, .int .i64 0, .int .i64 0] 45)).2.1
  go_wp2_with fail
  clear q1 q2 q4
  refine (M _).mono ?_
  rintro e w2 ⟨rfl, hb⟩
  have R2 := (R.alloc (.cells #[.int .i64 (-t % g), .bool false, .int .i64 0, .int .i64 0] 45)).keep hb
  have B2 := (OwnM.new w1 (-t % g) false 0 0 45).keep hb
  have S2 := btrans (bal S) hb
  have z2 := R.1
  clear N R S hb
  have q1 := (B2.alloc (.cells #[.int .i64 X, .int .i64 Y] 33)).2
  go_wp2_with fail
  clear q1
  have R3 := ((R2.alloc (.cells #[.int .i64 X, .int .i64 Y] 33)).far (c := w1.heap.size) (o := 2) (v := .int .i64 (-X)) (by omega)).far (c := w1.heap.size) (o := 3) (v := .int .i64 (-Y)) (by omega)
  have S3 := bset (p := ⟨w1.heap.size, 3, none⟩) (u := .int .i64 (-Y)) (bset (p := ⟨w1.heap.size, 2, none⟩) (u := .int .i64 (-X)) (bal (o := .cells #[.int .i64 X, .int .i64 Y] 33) S2) (by dsimp only; omega)) (by dsimp only; omega)
  clear B2 R2 S2
  rcases unhide hx with ⟨hs, rfl, rfl, rfl, rfl, rfl⟩ | ⟨hs, rfl, rfl, rfl, rfl, rfl⟩
  · refine (boundedMove_ok _ _ _ _ _ hs).mono ?_
    rintro e w3 ⟨rfl, hb⟩
    have R4 := R3.keep hb
    have S4 := btrans S3 hb
    clear R3 S3 hb
    have q3 := R4.2
    go_wp2
    exact bodyPost_ret (v := .tuple #[.agg #[.int .i64 (-t % g), .bool false, .int .i64 (-X), .int .i64 (-Y)], .int .i64 0]) (by simp [results, Try.results27, go_sem, q3]) rfl ⟨rfl, bset (bset (bset (bset S4 (by dsimp only; omega)) (by dsimp only; omega)) (by dsimp only; omega)) (by dsimp only; omega)⟩
  · refine (boundedMove_much _ _ _ _ _ hs).mono ?_
    rintro e w3 ⟨rfl, hb⟩
    have R4 := R3.keep hb
    have S4 := btrans S3 hb
    clear R3 S3 hb
    have q3 := R4.2
    go_wp2
    exact bodyPost_ret (v := .tuple #[.agg #[.int .i64 0, .bool false, .int .i64 0, .int .i64 0], .int .i64 4]) (by simp [results, Try.results27, go_sem, q3]) rfl ⟨rfl, bset (bset (bset (bset S4 (by dsimp only; omega)) (by dsimp only; omega)) (by dsimp only; omega)) (by dsimp only; omega)⟩

end Go.Proofs.Ytagiekbijmdmdaa
