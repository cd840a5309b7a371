/-
  What Apply, Compose and Inverse of package plane answer, out of what they call, in plain variables.
-/
import Derived.Test.YtpcajcgafmmlkaaDoorComposed
namespace Go.Proofs.YtpcajcgafmmlkaaDoor
open Go.RowKit

def ApplyIs (g t : Int) (f : Bool) (bx b x y u v er : Int) : Prop := ∀ W : World, Calls Tryd.prog 67 #[.int .i64 g, .agg #[.int .i64 t, .bool f, .int .i64 bx, .int .i64 b], .agg #[.int .i64 x, .int .i64 y]] W fun e w' => e = .returned (.tuple #[.agg #[.int .i64 u, .int .i64 v], .int .i64 er]) ∧ Below W.heap.size W w'
def ComposeIs (g t : Int) (f : Bool) (x y t' : Int) (f' : Bool) (x' y' T : Int) (F : Bool) (u v er : Int) : Prop := ∀ W : World, Calls Tryd.prog 73 #[.int .i64 g, .agg #[.int .i64 t, .bool f, .int .i64 x, .int .i64 y], .agg #[.int .i64 t', .bool f', .int .i64 x', .int .i64 y']] W fun e w' => e = .returned (.tuple #[.agg #[.int .i64 T, .bool F, .int .i64 u, .int .i64 v], .int .i64 er]) ∧ Below W.heap.size W w'
set_option maxHeartbeats 1000000 in
theorem apply_err1 (g t : Int) (f : Bool) (bx b x y er : Int) (W1 : WrongIs g t f bx b er) (hp : 1 ≤ er) : ApplyIs g t f bx b x y 0 0 er := by
  intro w
  go_enter Tryd.func67, Tryd.ntmps67
  go_wp2_with fail
  refine (W1 _).mono ?_
  rintro e w1 ⟨rfl, hb⟩
  have R := (Own.new ((w.alloc (.cells #[.int .i64 t, .bool f, .int .i64 bx, .int .i64 b] 41)).alloc (.cells #[.int .i64 x, .int .i64 y] 33)) 0 0 33).keep hb
  have S := btrans (bal (bal (bal (Below.refl _ _)))) hb
  simp only [World.size_alloc] at R
  clear hb
  have q3 := R.2
  go_wp2
  exact bodyPost_ret (v := .tuple #[.agg #[.int .i64 0, .int .i64 0], .int .i64 er]) (by simp [results, Tryd.results67, go_sem, q3]) rfl ⟨rfl, bset (bset S (by dsimp only; omega)) (by dsimp only; omega)⟩

set_option maxHeartbeats 1000000 in
theorem apply_err2 (g t : Int) (f : Bool) (bx b x y er : Int) (W1 : WrongIs g t f bx b 0) (he : Hid (e1 g x y = er)) (hp : 1 ≤ er) : ApplyIs g t f bx b x y 0 0 er := by
  intro w
  go_enter Tryd.func67, Tryd.ntmps67
  go_wp2_with fail
  refine (W1 _).mono ?_
  rintro e w1 ⟨rfl, hb⟩
  have O := ((Own.new (w.alloc (.cells #[.int .i64 t, .bool f, .int .i64 bx, .int .i64 b] 41)) x y 33).alloc (.cells #[.int .i64 0, .int .i64 0] 33)).keep hb
  have R := (Own.new ((w.alloc (.cells #[.int .i64 t, .bool f, .int .i64 bx, .int .i64 b] 41)).alloc (.cells #[.int .i64 x, .int .i64 y] 33)) 0 0 33).keep hb
  have S := btrans (bal (bal (bal (Below.refl _ _)))) hb
  simp only [World.size_alloc] at O R
  clear hb
  have q2 := O.2.1
  go_wp2_with fail
  clear q2
  refine (wrongPoints1 g x y _ _ _ ?_ ?_ ?_).mono ?_
  · simp
  · simp [go_sem]
  · simp [go_sem]
  rw [unhide he]
  rintro e w2 ⟨rfl, hb⟩
  have R2 := (R.alloc (.cells #[.int .i64 x, .int .i64 y] 33)).keep hb
  have S2 := btrans (bal S) hb
  clear O R S hb
  have q3 := R2.2
  go_wp2
  exact bodyPost_ret (v := .tuple #[.agg #[.int .i64 0, .int .i64 0], .int .i64 er]) (by simp [results, Tryd.results67, go_sem, q3]) rfl ⟨rfl, bset (bset S2 (by dsimp only; omega)) (by dsimp only; omega)⟩

set_option maxHeartbeats 1000000 in
theorem apply_ok (g t : Int) (f : Bool) (bx b x y X Y u v er : Int) (W1 : WrongIs g t f bx b 0) (he : Hid (e1 g x y = 0)) (M : MovedIs g t f bx b x y X Y) (hx : Hid ((sm2 X Y = true ∧ u = X ∧ v = Y ∧ er = 0) ∨ (sm2 X Y = false ∧ u = 0 ∧ v = 0 ∧ er = 4))) : ApplyIs g t f bx b x y u v er := by
  intro w
  go_enter Tryd.func67, Tryd.ntmps67
  go_wp2_with fail
  refine (W1 _).mono ?_
  rintro e w1 ⟨rfl, hb⟩
  have N := (((OwnM.new w t f bx b 41).alloc (.cells #[.int .i64 x, .int .i64 y] 33)).alloc (.cells #[.int .i64 0, .int .i64 0] 33)).keep hb
  have O := ((Own.new (w.alloc (.cells #[.int .i64 t, .bool f, .int .i64 bx, .int .i64 b] 41)) x y 33).alloc (.cells #[.int .i64 0, .int .i64 0] 33)).keep hb
  have R := (Own.new ((w.alloc (.cells #[.int .i64 t, .bool f, .int .i64 bx, .int .i64 b] 41)).alloc (.cells #[.int .i64 x, .int .i64 y] 33)) 0 0 33).keep hb
  have S := btrans (bal (bal (bal (Below.refl _ _)))) hb
  simp only [World.size_alloc] at O R
  clear hb
  have q2 := O.2.1
  go_wp2_with fail
  clear q2
  refine (wrongPoints1 g x y _ _ _ ?_ ?_ ?_).mono ?_
  · simp
  · simp [go_sem]
  · simp [go_sem]
  rw [unhide he]
  rintro e w2 ⟨rfl, hb⟩
  have N2 := (N.alloc (.cells #[.int .i64 x, .int .i64 y] 33)).keep hb
  have O2 := (O.alloc (.cells #[.int .i64 x, .int .i64 y] 33)).keep hb
  have R2 := (R.alloc (.cells #[.int .i64 x, .int .i64 y] 33)).keep hb
  have S2 := btrans (bal S) hb
  clear N O R S hb
  have q1 := N2.2.1
  have q2 := O2.2.1
  go_wp2_with fail
  clear q1 q2
  refine (M _).mono ?_
  rintro e w3 ⟨rfl, hb⟩
  have R3 := R2.keep hb
  have S3 := btrans S2 hb
  clear N2 O2 R2 S2 hb
  go_wp2_with fail
  rcases unhide hx with ⟨hs, rfl, rfl, rfl⟩ | ⟨hs, rfl, rfl, rfl⟩
  · refine (bounded_ok _ _ _ hs).mono ?_
    rintro e w4 ⟨rfl, hb⟩
    have R4 := R3.keep hb
    have S4 := btrans S3 hb
    clear R3 S3 hb
    have q3 := R4.2
    go_wp2
    exact bodyPost_ret (v := .tuple #[.agg #[.int .i64 u, .int .i64 v], .int .i64 0]) (by simp [results, Tryd.results67, go_sem, q3]) rfl ⟨rfl, bset (bset S4 (by dsimp only; omega)) (by dsimp only; omega)⟩
  · refine (bounded_much _ _ _ hs).mono ?_
    rintro e w4 ⟨rfl, hb⟩
    have R4 := R3.keep hb
    have S4 := btrans S3 hb
    clear R3 S3 hb
    have q3 := R4.2
    go_wp2
    exact bodyPost_ret (v := .tuple #[.agg #[.int .i64 0, .int .i64 0], .int .i64 4]) (by simp [results, Tryd.results67, go_sem, q3]) rfl ⟨rfl, bset (bset S4 (by dsimp only; omega)) (by dsimp only; omega)⟩

end Go.Proofs.YtpcajcgafmmlkaaDoor
