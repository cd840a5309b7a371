/-
  The walk of the law PlaneRing out of the contracts of Times and Norm, in plain variables.
-/
import Derived.Test.YtfopjkcnfngbpaaTimes2
namespace Go.Proofs.Ytfopjkcnfngbpaa
open Go.RowKit

/-- a point lies in a box -/
def Box (W : World) (b : Nat) (x y : Int) : Prop := b < W.heap.size ∧ W.cell? ⟨b, 0, none⟩ = some (.int .i64 x) ∧ W.cell? ⟨b, 1, none⟩ = some (.int .i64 y)
theorem Box.keep {W w1 : World} {b : Nat} {x y : Int} (h : Box W b x y) (hb : Below W.heap.size W w1) : Box w1 b x y :=
  ⟨Nat.lt_of_lt_of_le h.1 hb.size, keepC hb h.1 h.2.1, keepC hb h.1 h.2.2⟩
theorem Box.alloc {W : World} {b : Nat} {x y : Int} (h : Box W b x y) (o : Obj) : Box (W.alloc o) b x y :=
  h.keep (bal (Below.refl _ _))
theorem Box.step {W w1 : World} {o : Obj} {b : Nat} {x y : Int} (h : Box W b x y) (hb : Below (W.alloc o).heap.size (W.alloc o) w1) : Box w1 b x y :=
  (h.alloc o).keep hb
theorem Box.new (W : World) (x y : Int) (t : TypeId) : Box (W.alloc (.cells #[.int .i64 x, .int .i64 y] t)) W.heap.size x y := by
  refine ⟨by simp, by simp [go_sem], by simp [go_sem]⟩

/-- what a call of Times answers -/
def TimesIs (g ax ay bx b x y er : Int) : Prop := ∀ W : World, Calls Try.prog 8 #[.int .i64 g, .agg #[.int .i64 ax, .int .i64 ay], .agg #[.int .i64 bx, .int .i64 b]] W fun e w' => e = .returned (.tuple #[.agg #[.int .i64 x, .int .i64 y], .int .i64 er]) ∧ Below W.heap.size W w'
def NormIs (g ax ay n er : Int) : Prop := ∀ W : World, Calls Try.prog 10 #[.int .i64 g, .agg #[.int .i64 ax, .int .i64 ay]] W fun e w' => e = .returned (.tuple #[.int .i64 n, .int .i64 er]) ∧ Below W.heap.size W w'

set_option maxRecDepth 100000 in
set_option maxHeartbeats 1000000 in
theorem ring_A (g ax ay bx b cx c : Int) (w : World) (X Y E : Int) (T1 : TimesIs g ax ay bx b X Y E) (T2 : TimesIs g bx b ax ay X Y E) (hE : 1 ≤ E) :
    Calls Try.prog 5 #[.int .i64 g, .agg #[.int .i64 ax, .int .i64 ay], .agg #[.int .i64 bx, .int .i64 b], .agg #[.int .i64 cx, .int .i64 c]] w fun e w' => e = .returned (.bool true) ∧ Below w.heap.size w w' := by
  go_enter Try.func5, Try.ntmps5
  go_wp2_with fail
  refine (alive_any _).mono ?_
  rintro e w1 ⟨rfl, hb1⟩
  have A1 := (((Box.new w ax ay 23).alloc (.cells #[.int .i64 bx, .int .i64 b] 23)).alloc (.cells #[.int .i64 cx, .int .i64 c] 23)).keep hb1
  have B1 := ((Box.new (w.alloc (.cells #[.int .i64 ax, .int .i64 ay] 23)) bx b 23).alloc (.cells #[.int .i64 cx, .int .i64 c] 23)).keep hb1
  have C1 := (Box.new ((w.alloc (.cells #[.int .i64 ax, .int .i64 ay] 23)).alloc (.cells #[.int .i64 bx, .int .i64 b] 23)) cx c 23).keep hb1
  have S1 := btrans (bal (bal (bal (Below.refl _ _)))) hb1
  simp only [World.size_alloc] at B1 C1
  clear hb1
  have q1 := A1.2
  have q2 := B1.2
  go_wp2_with fail
  clear q1 q2
  refine (T1 _).mono ?_
  rintro e w2 ⟨rfl, hb2⟩
  have A2 := A1.keep hb2
  have B2 := B1.keep hb2
  have S2 := btrans S1 hb2
  clear A1 B1 S1 hb2
  have q1 := (A2.alloc (.cells #[.int .i64 X, .int .i64 Y] 23)).2
  have q2 := (B2.alloc (.cells #[.int .i64 X, .int .i64 Y] 23)).2
  go_wp2_with fail
  clear q1 q2
  refine (T2 _).mono ?_
  rintro e w3 ⟨rfl, hb3⟩
  have X3 := ((Box.new w2 X Y 23).keep hb3)
  have S3 := btrans (bal S2) hb3
  have q1 := (X3.alloc (.cells #[.int .i64 X, .int .i64 Y] 23)).2
  go_wp2
  go_ret
  exact ⟨rfl, bal S3⟩

set_option maxRecDepth 100000 in
set_option maxHeartbeats 2000000 in
theorem ring_B (g ax ay bx b cx c : Int) (w : World) (X Y p q zx zy ze ux uy F : Int) (T1 : TimesIs g ax ay bx b X Y 0) (T2 : TimesIs g bx b ax ay X Y 0)
    (N1 : NormIs g ax ay p 0) (N2 : NormIs g bx b q 0) (N3 : NormIs g X Y (p * q) 0) (hpq : 0 ≤ p * q ∧ p * q ≤ 4611686018427387904)
    (T3 : TimesIs g X Y cx c zx zy ze) (T4 : TimesIs g bx b cx c ux uy F) (hF : 1 ≤ F) :
    Calls Try.prog 5 #[.int .i64 g, .agg #[.int .i64 ax, .int .i64 ay], .agg #[.int .i64 bx, .int .i64 b], .agg #[.int .i64 cx, .int .i64 c]] w fun e w' => e = .returned (.bool true) ∧ Below w.heap.size w w' := by
  go_enter Try.func5, Try.ntmps5
  go_wp2_with fail
  refine (alive_any _).mono ?_
  rintro e w1 ⟨rfl, hb1⟩
  have A1 := (((Box.new w ax ay 23).alloc (.cells #[.int .i64 bx, .int .i64 b] 23)).alloc (.cells #[.int .i64 cx, .int .i64 c] 23)).keep hb1
  have B1 := ((Box.new (w.alloc (.cells #[.int .i64 ax, .int .i64 ay] 23)) bx b 23).alloc (.cells #[.int .i64 cx, .int .i64 c] 23)).keep hb1
  have C1 := (Box.new ((w.alloc (.cells #[.int .i64 ax, .int .i64 ay] 23)).alloc (.cells #[.int .i64 bx, .int .i64 b] 23)) cx c 23).keep hb1
  have S1 := btrans (bal (bal (bal (Below.refl _ _)))) hb1
  simp only [World.size_alloc] at B1 C1
  clear hb1
  have q1 := A1.2
  have q2 := B1.2
  go_wp2_with fail
  clear q1 q2
  refine (T1 _).mono ?_
  rintro e w2 ⟨rfl, hb2⟩
  have A2 := A1.keep hb2
  have B2 := B1.keep hb2
  have S2 := btrans S1 hb2
  have C2 := C1.keep hb2
  clear A1 B1 C1 S1 hb2
  have q1 := (A2.alloc (.cells #[.int .i64 X, .int .i64 Y] 23)).2
  have q2 := (B2.alloc (.cells #[.int .i64 X, .int .i64 Y] 23)).2
  go_wp2_with fail
  clear q1 q2
  refine (T2 _).mono ?_
  rintro e w3 ⟨rfl, hb3⟩
  have X3 := ((Box.new w2 X Y 23).keep hb3)
  have A3 := A2.step hb3
  have B3 := B2.step hb3
  have C3 := C2.step hb3
  have S3 := btrans (bal S2) hb3
  clear A2 B2 C2 S2 hb3
  have q1 := (X3.alloc (.cells #[.int .i64 X, .int .i64 Y] 23)).2
  have q2 := (A3.alloc (.cells #[.int .i64 X, .int .i64 Y] 23)).2
  go_wp2_with fail
  clear q1 q2
  refine (N1 _).mono ?_
  rintro e w4 ⟨rfl, hb4⟩
  have X4 := X3.step hb4
  have A4 := A3.step hb4
  have B4 := B3.step hb4
  have C4 := C3.step hb4
  have S4 := btrans (bal S3) hb4
  clear X3 A3 B3 C3 S3 hb4
  have q1 := B4.2
  go_wp2_with fail
  clear q1
  refine (N2 _).mono ?_
  rintro e w5 ⟨rfl, hb5⟩
  have X5 := X4.keep hb5
  have A5 := A4.keep hb5
  have B5 := B4.keep hb5
  have C5 := C4.keep hb5
  have S5 := btrans S4 hb5
  clear X4 A4 B4 C4 S4 hb5
  have q1 := X5.2
  go_wp2_with fail
  clear q1
  refine (N3 _).mono ?_
  rintro e w6 ⟨rfl, hb6⟩
  have X6 := X5.keep hb6
  have A6 := A5.keep hb6
  have B6 := B5.keep hb6
  have C6 := C5.keep hb6
  have S6 := btrans S5 hb6
  clear X5 A5 B5 C5 S5 hb6
  have q1 := X6.2
  have q2 := C6.2
  go_wp2_with fail
  clear q1 q2
  refine (T3 _).mono ?_
  rintro e w7 ⟨rfl, hb7⟩
  have A7 := A6.keep hb7
  have B7 := B6.keep hb7
  have C7 := C6.keep hb7
  have S7 := btrans S6 hb7
  clear X6 A6 B6 C6 S6 hb7
  have q1 := (B7.alloc (.cells #[.int .i64 zx, .int .i64 zy] 23)).2
  have q2 := (C7.alloc (.cells #[.int .i64 zx, .int .i64 zy] 23)).2
  go_wp2_with fail
  clear q1 q2
  refine (T4 _).mono ?_
  rintro e w8 ⟨rfl, hb8⟩
  have S8 := btrans (bal S7) hb8
  go_wp2
  go_ret
  exact ⟨rfl, bal S8⟩

set_option maxRecDepth 100000 in
set_option maxHeartbeats 2000000 in
theorem ring_C (g ax ay bx b cx c : Int) (w : World) (X Y p q zx zy ze ux uy sx sy se tx ty te : Int) (T1 : TimesIs g ax ay bx b X Y 0) (T2 : TimesIs g bx b ax ay X Y 0)
    (N1 : NormIs g ax ay p 0) (N2 : NormIs g bx b q 0) (N3 : NormIs g X Y (p * q) 0) (hpq : 0 ≤ p * q ∧ p * q ≤ 4611686018427387904)
    (T3 : TimesIs g X Y cx c zx zy ze) (T4 : TimesIs g bx b cx c ux uy 0) (T5 : TimesIs g ax ay ux uy zx zy ze) (T6 : TimesIs g ax ay cx c sx sy se) (T7 : TimesIs g (ax + bx) (ay + b) cx c tx ty te)
    (ha : (-1048576 ≤ ax ∧ ax ≤ 1048576) ∧ (-1048576 ≤ ay ∧ ay ≤ 1048576)) (hb : (-1048576 ≤ bx ∧ bx ≤ 1048576) ∧ (-1048576 ≤ b ∧ b ≤ 1048576)) (hu : (-1048576 ≤ ux ∧ ux ≤ 1048576) ∧ (-1048576 ≤ uy ∧ uy ≤ 1048576))
    (hs : (-1048576 ≤ sx ∧ sx ≤ 1048576) ∧ (-1048576 ≤ sy ∧ sy ≤ 1048576)) (hx : Hid (1 ≤ se ∨ (se = 0 ∧ 1 ≤ te) ∨ (se = 0 ∧ te = 0 ∧ tx = sx + ux ∧ ty = sy + uy))) :
    Calls Try.prog 5 #[.int .i64 g, .agg #[.int .i64 ax, .int .i64 ay], .agg #[.int .i64 bx, .int .i64 b], .agg #[.int .i64 cx, .int .i64 c]] w fun e w' => e = .returned (.bool true) ∧ Below w.heap.size w w' := by
  go_enter Try.func5, Try.ntmps5
  go_wp2_with fail
  refine (alive_any _).mono ?_
  rintro e w1 ⟨rfl, hb1⟩
  have A1 := (((Box.new w ax ay 23).alloc (.cells #[.int .i64 bx, .int .i64 b] 23)).alloc (.cells #[.int .i64 cx, .int .i64 c] 23)).keep hb1
  have B1 := ((Box.new (w.alloc (.cells #[.int .i64 ax, .int .i64 ay] 23)) bx b 23).alloc (.cells #[.int .i64 cx, .int .i64 c] 23)).keep hb1
  have C1 := (Box.new ((w.alloc (.cells #[.int .i64 ax, .int .i64 ay] 23)).alloc (.cells #[.int .i64 bx, .int .i64 b] 23)) cx c 23).keep hb1
  have S1 := btrans (bal (bal (bal (Below.refl _ _)))) hb1
  simp only [World.size_alloc] at B1 C1
  clear hb1
  have q1 := A1.2
  have q2 := B1.2
  go_wp2_with fail
  clear q1 q2
  refine (T1 _).mono ?_
  rintro e w2 ⟨rfl, hb2⟩
  have A2 := A1.keep hb2
  have B2 := B1.keep hb2
  have S2 := btrans S1 hb2
  have C2 := C1.keep hb2
  clear A1 B1 C1 S1 hb2
  have q1 := (A2.alloc (.cells #[.int .i64 X, .int .i64 Y] 23)).2
  have q2 := (B2.alloc (.cells #[.int .i64 X, .int .i64 Y] 23)).2
  go_wp2_with fail
  clear q1 q2
  refine (T2 _).mono ?_
  rintro e w3 ⟨rfl, hb3⟩
  have X3 := ((Box.new w2 X Y 23).keep hb3)
  have A3 := A2.step hb3
  have B3 := B2.step hb3
  have C3 := C2.step hb3
  have S3 := btrans (bal S2) hb3
  clear A2 B2 C2 S2 hb3
  have q1 := (X3.alloc (.cells #[.int .i64 X, .int .i64 Y] 23)).2
  have q2 := (A3.alloc (.cells #[.int .i64 X, .int .i64 Y] 23)).2
  go_wp2_with fail
  clear q1 q2
  refine (N1 _).mono ?_
  rintro e w4 ⟨rfl, hb4⟩
  have X4 := X3.step hb4
  have A4 := A3.step hb4
  have B4 := B3.step hb4
  have C4 := C3.step hb4
  have S4 := btrans (bal S3) hb4
  clear X3 A3 B3 C3 S3 hb4
  have q1 := B4.2
  go_wp2_with fail
  clear q1
  refine (N2 _).mono ?_
  rintro e w5 ⟨rfl, hb5⟩
  have X5 := X4.keep hb5
  have A5 := A4.keep hb5
  have B5 := B4.keep hb5
  have C5 := C4.keep hb5
  have S5 := btrans S4 hb5
  clear X4 A4 B4 C4 S4 hb5
  have q1 := X5.2
  go_wp2_with fail
  clear q1
  refine (N3 _).mono ?_
  rintro e w6 ⟨rfl, hb6⟩
  have X6 := X5.keep hb6
  have A6 := A5.keep hb6
  have B6 := B5.keep hb6
  have C6 := C5.keep hb6
  have S6 := btrans S5 hb6
  clear X5 A5 B5 C5 S5 hb6
  have q1 := X6.2
  have q2 := C6.2
  go_wp2_with fail
  clear q1 q2
  refine (T3 _).mono ?_
  rintro e w7 ⟨rfl, hb7⟩
  have A7 := A6.keep hb7
  have B7 := B6.keep hb7
  have C7 := C6.keep hb7
  have S7 := btrans S6 hb7
  clear X6 A6 B6 C6 S6 hb7
  have q1 := (B7.alloc (.cells #[.int .i64 zx, .int .i64 zy] 23)).2
  have q2 := (C7.alloc (.cells #[.int .i64 zx, .int .i64 zy] 23)).2
  go_wp2_with fail
  clear q1 q2
  refine (T4 _).mono ?_
  rintro e w8 ⟨rfl, hb8⟩
  have Z8 := ((Box.new w7 zx zy 23).keep hb8)
  have A8 := A7.step hb8
  have B8 := B7.step hb8
  have C8 := C7.step hb8
  have S8 := btrans (bal S7) hb8
  clear A7 B7 C7 S7 hb8
  have q1 := (A8.alloc (.cells #[.int .i64 ux, .int .i64 uy] 23)).2
  go_wp2_with fail
  clear q1
  refine (T5 _).mono ?_
  rintro e w9 ⟨rfl, hb9⟩
  have U9 := ((Box.new w8 ux uy 23).keep hb9)
  have Z9 := Z8.step hb9
  have A9 := A8.step hb9
  have B9 := B8.step hb9
  have C9 := C8.step hb9
  have S9 := btrans (bal S8) hb9
  clear Z8 A8 B8 C8 S8 hb9
  have q1 := (A9.alloc (.cells #[.int .i64 zx, .int .i64 zy] 23)).2
  have q2 := (C9.alloc (.cells #[.int .i64 zx, .int .i64 zy] 23)).2
  have q3 := (Z9.alloc (.cells #[.int .i64 zx, .int .i64 zy] 23)).2
  go_wp2_with fail
  clear q1 q2 q3
  refine (T6 _).mono ?_
  rintro e w10 ⟨rfl, hb10⟩
  have U10 := U9.step hb10
  have A10 := A9.step hb10
  have B10 := B9.step hb10
  have C10 := C9.step hb10
  have S10 := btrans (bal S9) hb10
  clear U9 Z9 A9 B9 C9 S9 hb10
  have q1 := (A10.alloc (.cells #[.int .i64 sx, .int .i64 sy] 23)).2
  have q2 := (B10.alloc (.cells #[.int .i64 sx, .int .i64 sy] 23)).2
  have q3 := (C10.alloc (.cells #[.int .i64 sx, .int .i64 sy] 23)).2
  go_wp2_with fail
  clear q1 q2 q3
  refine (T7 _).mono ?_
  rintro e w11 ⟨rfl, hb11⟩
  have V11 := ((Box.new w10 sx sy 23).keep hb11)
  have U11 := U10.step hb11
  have S11 := btrans (bal S10) hb11
  clear U10 A10 B10 C10 S10 hb11
  have q1 := (U11.alloc (.cells #[.int .i64 tx, .int .i64 ty] 23)).2
  have q2 := (V11.alloc (.cells #[.int .i64 tx, .int .i64 ty] 23)).2
  rcases unhide hx with h | ⟨rfl, h⟩ | ⟨rfl, rfl, rfl, rfl⟩
  · go_wp2
    go_ret
    exact ⟨rfl, bal S11⟩
  · go_wp2
    go_ret
    exact ⟨rfl, bal S11⟩
  · go_wp2
    go_ret
    exact ⟨rfl, bal S11⟩

end Go.Proofs.Ytfopjkcnfngbpaa
