/-
  What the reference's Apply and Compose answer, out of what they call, in plain variables.
-/
import Derived.Test.YtfopjkcnfngbpaaThen
namespace Go.Proofs.Ytfopjkcnfngbpaa
open Go.RowKit

def RApplyIs (g t : Int) (f : Bool) (bx b x y u v er : Int) : Prop := ∀ W : World, Calls Try.prog 17 #[.int .i64 g, .agg #[.int .i64 t, .bool f, .int .i64 bx, .int .i64 b], .agg #[.int .i64 x, .int .i64 y]] W fun e w' => e = .returned (.tuple #[.agg #[.int .i64 u, .int .i64 v], .int .i64 er]) ∧ Below W.heap.size W w'
def RComposeIs (g t : Int) (f : Bool) (x y t' : Int) (f' : Bool) (x' y' T : Int) (F : Bool) (u v er : Int) : Prop := ∀ W : World, Calls Try.prog 19 #[.int .i64 g, .agg #[.int .i64 t, .bool f, .int .i64 x, .int .i64 y], .agg #[.int .i64 t', .bool f', .int .i64 x', .int .i64 y']] W fun e w' => e = .returned (.tuple #[.agg #[.int .i64 T, .bool F, .int .i64 u, .int .i64 v], .int .i64 er]) ∧ Below W.heap.size W w'

set_option maxHeartbeats 1000000 in
theorem rapply_err1 (g t : Int) (f : Bool) (bx b x y er : Int) (W1 : RWrongIs g t f bx b er) (hp : 1 ≤ er) : RApplyIs g t f bx b x y 0 0 er := by
  intro w
  go_enter Try.func17, Try.ntmps17
  go_wp2_with fail
  refine (W1 _).mono ?_
  rintro e w1 ⟨rfl, hb⟩
  have R := (Own.new ((w.alloc (.cells #[.int .i64 t, .bool f, .int .i64 bx, .int .i64 b] 31)).alloc (.cells #[.int .i64 x, .int .i64 y] 23)) 0 0 23).keep hb
  have S := btrans (bal (bal (bal (Below.refl _ _)))) hb
  simp only [World.size_alloc] at R
  clear hb
  have q3 := R.2
  go_wp2
  exact bodyPost_ret (v := .tuple #[.agg #[.int .i64 0, .int .i64 0], .int .i64 er]) (by simp [results, Try.results17, go_sem, q3]) rfl ⟨rfl, bset (bset S (by dsimp only; omega)) (by dsimp only; omega)⟩

set_option maxHeartbeats 1000000 in
theorem rapply_err2 (g t : Int) (f : Bool) (bx b x y : Int) (W1 : RWrongIs g t f bx b 0) (hs : sm2 x y = false) : RApplyIs g t f bx b x y 0 0 3 := by
  intro w
  go_enter Try.func17, Try.ntmps17
  go_wp2_with fail
  refine (W1 _).mono ?_
  rintro e w1 ⟨rfl, hb⟩
  have O := ((Own.new (w.alloc (.cells #[.int .i64 t, .bool f, .int .i64 bx, .int .i64 b] 31)) x y 23).alloc (.cells #[.int .i64 0, .int .i64 0] 23)).keep hb
  have R := (Own.new ((w.alloc (.cells #[.int .i64 t, .bool f, .int .i64 bx, .int .i64 b] 31)).alloc (.cells #[.int .i64 x, .int .i64 y] 23)) 0 0 23).keep hb
  have S := btrans (bal (bal (bal (Below.refl _ _)))) hb
  simp only [World.size_alloc] at O R
  clear hb
  have q2 := O.2.1
  go_wp2_with fail
  clear q2
  refine (small_any x y _).mono ?_
  rintro e w2 ⟨rfl, hb⟩
  have R2 := R.keep hb
  have S2 := btrans S hb
  clear O R S hb
  have q3 := R2.2
  go_wp2
  exact bodyPost_ret (v := .tuple #[.agg #[.int .i64 0, .int .i64 0], .int .i64 3]) (by simp [results, Try.results17, go_sem, q3]) rfl ⟨rfl, bset (bset S2 (by dsimp only; omega)) (by dsimp only; omega)⟩

set_option maxHeartbeats 1000000 in
theorem rapply_ok (g t : Int) (f : Bool) (bx b x y X Y u v er : Int) (W1 : RWrongIs g t f bx b 0) (hs : sm2 x y = true) (M : ToIs g t f bx b x y X Y) (hx : Hid ((sm2 X Y = true ∧ u = X ∧ v = Y ∧ er = 0) ∨ (sm2 X Y = false ∧ u = 0 ∧ v = 0 ∧ er = 4))) : RApplyIs g t f bx b x y u v er := by
  intro w
  go_enter Try.func17, Try.ntmps17
  go_wp2_with fail
  refine (W1 _).mono ?_
  rintro e w1 ⟨rfl, hb⟩
  have N := (((OwnM.new w t f bx b 31).alloc (.cells #[.int .i64 x, .int .i64 y] 23)).alloc (.cells #[.int .i64 0, .int .i64 0] 23)).keep hb
  have O := ((Own.new (w.alloc (.cells #[.int .i64 t, .bool f, .int .i64 bx, .int .i64 b] 31)) x y 23).alloc (.cells #[.int .i64 0, .int .i64 0] 23)).keep hb
  have R := (Own.new ((w.alloc (.cells #[.int .i64 t, .bool f, .int .i64 bx, .int .i64 b] 31)).alloc (.cells #[.int .i64 x, .int .i64 y] 23)) 0 0 23).keep hb
  have S := btrans (bal (bal (bal (Below.refl _ _)))) hb
  simp only [World.size_alloc] at O R
  clear hb
  have q2 := O.2.1
  go_wp2_with fail
  clear q2
  refine (small_any x y _).mono ?_
  rintro e w2 ⟨rfl, hb⟩
  have N2 := N.keep hb
  have O2 := O.keep hb
  have R2 := R.keep hb
  have S2 := btrans S hb
  clear N O R S hb
  have q1 := N2.2.1
  have q2 := O2.2.1
  go_wp2_with fail
  clear q1 q2
  refine (M _).mono ?_
  rintro e w3 ⟨rfl, hb⟩
  have O3 := O2.keep hb
  have R3 := R2.keep hb
  have S3 := btrans S2 hb
  clear N2 O2 R2 S2 hb
  have q1 := O3.2
  go_wp2_with fail
  clear q1
  have O4 := O3.set X Y
  have R4 := (R3.far (c := w.heap.size + 1) (o := 0) (v := .int .i64 X) (by omega)).far (c := w.heap.size + 1) (o := 1) (v := .int .i64 Y) (by omega)
  have S4 := bset (p := ⟨w.heap.size + 1, 1, none⟩) (u := .int .i64 Y) (bset (p := ⟨w.heap.size + 1, 0, none⟩) (u := .int .i64 X) S3 (by dsimp only; omega)) (by dsimp only; omega)
  clear O3 R3 S3
  refine (small_any X Y _).mono ?_
  rintro e w4 ⟨rfl, hb⟩
  have O5 := O4.keep hb
  have R5 := R4.keep hb
  have S5 := btrans S4 hb
  clear O4 R4 S4 hb
  have q1 := O5.2.1
  have q3 := R5.2
  rcases unhide hx with ⟨hs, rfl, rfl, rfl⟩ | ⟨hs, rfl, rfl, rfl⟩
  · go_wp2
    exact bodyPost_ret (v := .tuple #[.agg #[.int .i64 u, .int .i64 v], .int .i64 0]) (by simp [results, Try.results17, go_sem, q3]) rfl ⟨rfl, bset (bset S5 (by dsimp only; omega)) (by dsimp only; omega)⟩
  · go_wp2
    exact bodyPost_ret (v := .tuple #[.agg #[.int .i64 0, .int .i64 0], .int .i64 4]) (by simp [results, Try.results17, go_sem, q3]) rfl ⟨rfl, bset (bset S5 (by dsimp only; omega)) (by dsimp only; omega)⟩

set_option maxHeartbeats 1000000 in
theorem rcompose_err1 (g t : Int) (f : Bool) (x y t' : Int) (f' : Bool) (x' y' er : Int) (W1 : RWrongIs g t f x y er) (hp : 1 ≤ er) : RComposeIs g t f x y t' f' x' y' 0 false 0 0 er := by
  intro w
  go_enter Try.func19, Try.ntmps19
  go_wp2_with fail
  refine (W1 _).mono ?_
  rintro e w1 ⟨rfl, hb⟩
  have R := (OwnM.new ((w.alloc (.cells #[.int .i64 t, .bool f, .int .i64 x, .int .i64 y] 31)).alloc (.cells #[.int .i64 t', .bool f', .int .i64 x', .int .i64 y'] 31)) 0 false 0 0 31).keep hb
  have S := btrans (bal (bal (bal (Below.refl _ _)))) hb
  simp only [World.size_alloc] at R
  clear hb
  have q3 := R.2
  go_wp2
  exact bodyPost_ret (v := .tuple #[.agg #[.int .i64 0, .bool false, .int .i64 0, .int .i64 0], .int .i64 er]) (by simp [results, Try.results19, go_sem, q3]) rfl ⟨rfl, bset (bset (bset (bset S (by dsimp only; omega)) (by dsimp only; omega)) (by dsimp only; omega)) (by dsimp only; omega)⟩

set_option maxHeartbeats 1000000 in
theorem rcompose_err2 (g t : Int) (f : Bool) (x y t' : Int) (f' : Bool) (x' y' er : Int) (W1 : RWrongIs g t f x y 0) (W2 : RWrongIs g t' f' x' y' er) (hp : 1 ≤ er) : RComposeIs g t f x y t' f' x' y' 0 false 0 0 er := by
  intro w
  go_enter Try.func19, Try.ntmps19
  go_wp2_with fail
  refine (W1 _).mono ?_
  rintro e w1 ⟨rfl, hb⟩
  have O := ((OwnM.new (w.alloc (.cells #[.int .i64 t, .bool f, .int .i64 x, .int .i64 y] 31)) t' f' x' y' 31).alloc (.cells #[.int .i64 0, .bool false, .int .i64 0, .int .i64 0] 31)).keep hb
  have R := (OwnM.new ((w.alloc (.cells #[.int .i64 t, .bool f, .int .i64 x, .int .i64 y] 31)).alloc (.cells #[.int .i64 t', .bool f', .int .i64 x', .int .i64 y'] 31)) 0 false 0 0 31).keep hb
  have S := btrans (bal (bal (bal (Below.refl _ _)))) hb
  simp only [World.size_alloc] at O R
  clear hb
  have q2 := O.2.1
  go_wp2_with fail
  clear q2
  refine (W2 _).mono ?_
  rintro e w2 ⟨rfl, hb⟩
  have R2 := R.keep hb
  have S2 := btrans S hb
  clear O R S hb
  have q3 := R2.2
  go_wp2
  exact bodyPost_ret (v := .tuple #[.agg #[.int .i64 0, .bool false, .int .i64 0, .int .i64 0], .int .i64 er]) (by simp [results, Try.results19, go_sem, q3]) rfl ⟨rfl, bset (bset (bset (bset S2 (by dsimp only; omega)) (by dsimp only; omega)) (by dsimp only; omega)) (by dsimp only; omega)⟩

set_option maxHeartbeats 1000000 in
theorem rcompose_ok (g t : Int) (f : Bool) (x y t' : Int) (f' : Bool) (x' y' T : Int) (F : Bool) (X Y : Int) (rt : Int) (rf : Bool) (ru rv er : Int) (W1 : RWrongIs g t f x y 0) (W2 : RWrongIs g t' f' x' y' 0) (C : ThenIs g t f x y t' f' x' y' T F X Y)
    (hx : Hid ((sm2 X Y = true ∧ rt = T ∧ rf = F ∧ ru = X ∧ rv = Y ∧ er = 0) ∨ (sm2 X Y = false ∧ rt = 0 ∧ rf = false ∧ ru = 0 ∧ rv = 0 ∧ er = 4))) : RComposeIs g t f x y t' f' x' y' rt rf ru rv er := by
  intro w
  go_enter Try.func19, Try.ntmps19
  go_wp2_with fail
  refine (W1 _).mono ?_
  rintro e w1 ⟨rfl, hb⟩
  have N := (((OwnM.new w t f x y 31).alloc (.cells #[.int .i64 t', .bool f', .int .i64 x', .int .i64 y'] 31)).alloc (.cells #[.int .i64 0, .bool false, .int .i64 0, .int .i64 0] 31)).keep hb
  have O := ((OwnM.new (w.alloc (.cells #[.int .i64 t, .bool f, .int .i64 x, .int .i64 y] 31)) t' f' x' y' 31).alloc (.cells #[.int .i64 0, .bool false, .int .i64 0, .int .i64 0] 31)).keep hb
  have R := (OwnM.new ((w.alloc (.cells #[.int .i64 t, .bool f, .int .i64 x, .int .i64 y] 31)).alloc (.cells #[.int .i64 t', .bool f', .int .i64 x', .int .i64 y'] 31)) 0 false 0 0 31).keep hb
  have S := btrans (bal (bal (bal (Below.refl _ _)))) hb
  simp only [World.size_alloc] at O R
  clear hb
  have q2 := O.2.1
  go_wp2_with fail
  clear q2
  refine (W2 _).mono ?_
  rintro e w2 ⟨rfl, hb⟩
  have N2 := N.keep hb
  have O2 := O.keep hb
  have R2 := R.keep hb
  have S2 := btrans S hb
  clear N O R S hb
  have q1 := N2.2.1
  have q2 := O2.2.1
  go_wp2_with fail
  clear q1 q2
  refine (C _).mono ?_
  rintro e w3 ⟨rfl, hb⟩
  have R3 := R2.keep hb
  have S3 := btrans S2 hb
  clear N2 O2 R2 S2 hb
  go_wp2_with fail
  refine (small_any X Y _).mono ?_
  rintro e w4 ⟨rfl, hb⟩
  have M4 := (OwnM.new w3 T F X Y 31).keep hb
  have R4 := (R3.alloc (.cells #[.int .i64 T, .bool F, .int .i64 X, .int .i64 Y] 31)).keep hb
  have S4 := btrans (bal S3) hb
  clear R3 S3 hb
  have q1 := M4.2.1
  have q3 := R4.2
  rcases unhide hx with ⟨hs, rfl, rfl, rfl, rfl, rfl⟩ | ⟨hs, rfl, rfl, rfl, rfl, rfl⟩
  · go_wp2
    exact bodyPost_ret (v := .tuple #[.agg #[.int .i64 rt, .bool rf, .int .i64 ru, .int .i64 rv], .int .i64 0]) (by simp [results, Try.results19, go_sem, q3]) rfl ⟨rfl, bset (bset (bset (bset S4 (by dsimp only; omega)) (by dsimp only; omega)) (by dsimp only; omega)) (by dsimp only; omega)⟩
  · go_wp2
    exact bodyPost_ret (v := .tuple #[.agg #[.int .i64 0, .bool false, .int .i64 0, .int .i64 0], .int .i64 4]) (by simp [results, Try.results19, go_sem, q3]) rfl ⟨rfl, bset (bset (bset (bset S4 (by dsimp only; omega)) (by dsimp only; omega)) (by dsimp only; omega)) (by dsimp only; omega)⟩

end Go.Proofs.Ytfopjkcnfngbpaa
