/-
  What Compose and Inverse of package plane answer, out of what they call, in plain variables.
-/
import Derived.Test.YtpcajcgafmmlkaaDoorApply
namespace Go.Proofs.YtpcajcgafmmlkaaDoor
open Go.RowKit

set_option maxHeartbeats 1000000 in
theorem compose_err (g t : Int) (f : Bool) (x y t' : Int) (f' : Bool) (x' y' er : Int) (he : Hid (w2E g t x y t' x' y' = er)) (hp : 1 ≤ er) : ComposeIs g t f x y t' f' x' y' 0 false 0 0 er := by
  intro w
  go_enter Tryd.func73, Tryd.ntmps73
  go_wp2_with fail
  refine (wrongMoves_any g t f x y t' f' x' y' _ _ _ ?_ ?_ ?_).mono ?_
  · simp
  · simp [go_sem]
  · simp [go_sem]
  rw [unhide he]
  rintro e w1 ⟨rfl, hb⟩
  have R := ((OwnM.new ((w.alloc (.cells #[.int .i64 t, .bool f, .int .i64 x, .int .i64 y] 41)).alloc (.cells #[.int .i64 t', .bool f', .int .i64 x', .int .i64 y'] 41)) 0 false 0 0 41).alloc (.cells #[.int .i64 t, .bool f, .int .i64 x, .int .i64 y, .int .i64 t', .bool f', .int .i64 x', .int .i64 y'] 41)).keep hb
  have S := btrans (bal (bal (bal (bal (Below.refl _ _))))) hb
  simp only [World.size_alloc] at R
  clear hb
  have q3 := R.2
  go_wp2
  exact bodyPost_ret (v := .tuple #[.agg #[.int .i64 0, .bool false, .int .i64 0, .int .i64 0], .int .i64 er]) (by simp [results, Tryd.results73, go_sem, q3]) rfl ⟨rfl, bset (bset (bset (bset S (by dsimp only; omega)) (by dsimp only; omega)) (by dsimp only; omega)) (by dsimp only; omega)⟩

set_option maxHeartbeats 1000000 in
theorem compose_ok (g t : Int) (f : Bool) (x y t' : Int) (f' : Bool) (x' y' T : Int) (F : Bool) (X Y : Int) (rt : Int) (rf : Bool) (ru rv er : Int) (he : Hid (w2E g t x y t' x' y' = 0)) (C : ComposedIs g t f x y t' f' x' y' T F X Y)
    (hx : Hid ((sm2 X Y = true ∧ rt = T ∧ rf = F ∧ ru = X ∧ rv = Y ∧ er = 0) ∨ (sm2 X Y = false ∧ rt = 0 ∧ rf = false ∧ ru = 0 ∧ rv = 0 ∧ er = 4))) : ComposeIs g t f x y t' f' x' y' rt rf ru rv er := by
  intro w
  go_enter Tryd.func73, Tryd.ntmps73
  go_wp2_with fail
  refine (wrongMoves_any g t f x y t' f' x' y' _ _ _ ?_ ?_ ?_).mono ?_
  · simp
  · simp [go_sem]
  · simp [go_sem]
  rw [unhide he]
  rintro e w1 ⟨rfl, hb⟩
  have N := ((((OwnM.new w t f x y 41).alloc (.cells #[.int .i64 t', .bool f', .int .i64 x', .int .i64 y'] 41)).alloc (.cells #[.int .i64 0, .bool false, .int .i64 0, .int .i64 0] 41)).alloc (.cells #[.int .i64 t, .bool f, .int .i64 x, .int .i64 y, .int .i64 t', .bool f', .int .i64 x', .int .i64 y'] 41)).keep hb
  have O := (((OwnM.new (w.alloc (.cells #[.int .i64 t, .bool f, .int .i64 x, .int .i64 y] 41)) t' f' x' y' 41).alloc (.cells #[.int .i64 0, .bool false, .int .i64 0, .int .i64 0] 41)).alloc (.cells #[.int .i64 t, .bool f, .int .i64 x, .int .i64 y, .int .i64 t', .bool f', .int .i64 x', .int .i64 y'] 41)).keep hb
  have R := ((OwnM.new ((w.alloc (.cells #[.int .i64 t, .bool f, .int .i64 x, .int .i64 y] 41)).alloc (.cells #[.int .i64 t', .bool f', .int .i64 x', .int .i64 y'] 41)) 0 false 0 0 41).alloc (.cells #[.int .i64 t, .bool f, .int .i64 x, .int .i64 y, .int .i64 t', .bool f', .int .i64 x', .int .i64 y'] 41)).keep hb
  have S := btrans (bal (bal (bal (bal (Below.refl _ _))))) hb
  simp only [World.size_alloc] at O R
  clear hb
  have q1 := N.2.1
  have q2 := O.2.1
  go_wp2_with fail
  clear q1 q2
  refine (C _).mono ?_
  rintro e w2 ⟨rfl, hb⟩
  have R2 := R.keep hb
  have S2 := btrans S hb
  clear N O R S hb
  go_wp2_with fail
  rcases unhide hx with ⟨hs, rfl, rfl, rfl, rfl, rfl⟩ | ⟨hs, rfl, rfl, rfl, rfl, rfl⟩
  · refine (boundedMove_ok _ _ _ _ _ hs).mono ?_
    rintro e w3 ⟨rfl, hb⟩
    have R3 := R2.keep hb
    have S3 := btrans S2 hb
    clear R2 S2 hb
    have q3 := R3.2
    go_wp2
    exact bodyPost_ret (v := .tuple #[.agg #[.int .i64 rt, .bool rf, .int .i64 ru, .int .i64 rv], .int .i64 0]) (by simp [results, Tryd.results73, go_sem, q3]) rfl ⟨rfl, bset (bset (bset (bset S3 (by dsimp only; omega)) (by dsimp only; omega)) (by dsimp only; omega)) (by dsimp only; omega)⟩
  · refine (boundedMove_much _ _ _ _ _ hs).mono ?_
    rintro e w3 ⟨rfl, hb⟩
    have R3 := R2.keep hb
    have S3 := btrans S2 hb
    clear R2 S2 hb
    have q3 := R3.2
    go_wp2
    exact bodyPost_ret (v := .tuple #[.agg #[.int .i64 0, .bool false, .int .i64 0, .int .i64 0], .int .i64 4]) (by simp [results, Tryd.results73, go_sem, q3]) rfl ⟨rfl, bset (bset (bset (bset S3 (by dsimp only; omega)) (by dsimp only; omega)) (by dsimp only; omega)) (by dsimp only; omega)⟩

/-! ### Inverse -/
end Go.Proofs.YtpcajcgafmmlkaaDoor
