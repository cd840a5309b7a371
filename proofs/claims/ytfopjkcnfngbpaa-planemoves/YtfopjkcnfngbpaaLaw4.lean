/-
  The walk of the law PlaneMoves out of the contracts of both sides, in plain variables.
-/
import Derived.Test.YtfopjkcnfngbpaaOrder
import Derived.Test.YtfopjkcnfngbpaaRInv
import Derived.Test.YtfopjkcnfngbpaaCompose
import Derived.Test.YtfopjkcnfngbpaaGroup
namespace Go.Proofs.Ytfopjkcnfngbpaa
open Go.RowKit

/-- the boxes of a call of PlaneMoves -/
def MvB (w : World) (ft : Int) (ff : Bool) (fx fy ht : Int) (hf : Bool) (hx hy zx zy : Int) (W : World) : Prop :=
  Below w.heap.size w W ∧ OwnM W w.heap.size ft ff fx fy ∧ OwnM W (w.heap.size + 1) ht hf hx hy ∧ Own W (w.heap.size + 1 + 1) zx zy
theorem MvB.keep {w W w1 : World} {ft : Int} {ff : Bool} {fx fy ht : Int} {hf : Bool} {hx hy zx zy : Int} (h : MvB w ft ff fx fy ht hf hx hy zx zy W) (hb : Below W.heap.size W w1) : MvB w ft ff fx fy ht hf hx hy zx zy w1 :=
  ⟨btrans h.1 hb, h.2.1.keep hb, h.2.2.1.keep hb, h.2.2.2.keep hb⟩
abbrev MvS (w : World) (ft : Int) (ff : Bool) (fx fy ht : Int) (hf : Bool) (hx hy zx zy : Int) (W : World) : Prop :=
  MvB w ft ff fx fy ht hf hx hy zx zy W ∧ C4 W w.heap.size (.int .i64 ft) (.bool ff) (.int .i64 fx) (.int .i64 fy)
theorem MvB.s {w W : World} {ft : Int} {ff : Bool} {fx fy ht : Int} {hf : Bool} {hx hy zx zy : Int} (h : MvB w ft ff fx fy ht hf hx hy zx zy W) : MvS w ft ff fx fy ht hf hx hy zx zy W := ⟨h, h.2.1.2.1⟩

set_option maxRecDepth 100000 in
set_option maxHeartbeats 4000000 in
theorem moves_walk (g : Int) (ft : Int) (ff : Bool) (fx fy : Int) (ht : Int) (hf : Bool) (hx hy : Int) (zx zy : Int) (w : World) (er ax ay ae : Int) (ct : Int) (cf : Bool) (cx cy ce : Int) (it : Int) (jf : Bool) (ix iy ie on oe : Int)
    (W1 : WrongIs g ft ff fx fy er) (W2 : RWrongIs g ft ff fx fy er) (A1 : ApplyIs g ft ff fx fy zx zy ax ay ae) (A2 : RApplyIs g ft ff fx fy zx zy ax ay ae)
    (T1 : ComposeIs g ft ff fx fy ht hf hx hy ct cf cx cy ce) (T2 : RComposeIs g ft ff fx fy ht hf hx hy ct cf cx cy ce) (I1 : InverseIs g ft ff fx fy it jf ix iy ie) (I2 : RInverseIs g ft ff fx fy it jf ix iy ie)
    (O1 : OrderIs 22 g ft ff fx fy on oe) (O2 : OrderIs 23 g ft ff fx fy on oe) :
    Calls Try.prog 4 #[.int .i64 g, .agg #[.int .i64 ft, .bool ff, .int .i64 fx, .int .i64 fy], .agg #[.int .i64 ht, .bool hf, .int .i64 hx, .int .i64 hy], .agg #[.int .i64 zx, .int .i64 zy]] w fun e w' => e = .returned (.bool true) ∧ Below w.heap.size w w' := by
  go_enter Try.func4, Try.ntmps4
  go_wp2_with fail
  have B0 : MvB w ft ff fx fy ht hf hx hy zx zy (((w.alloc (.cells #[.int .i64 ft, .bool ff, .int .i64 fx, .int .i64 fy] 31)).alloc (.cells #[.int .i64 ht, .bool hf, .int .i64 hx, .int .i64 hy] 31)).alloc (.cells #[.int .i64 zx, .int .i64 zy] 23)) := by
    have M := ((OwnM.new w ft ff fx fy 31).alloc (.cells #[.int .i64 ht, .bool hf, .int .i64 hx, .int .i64 hy] 31)).alloc (.cells #[.int .i64 zx, .int .i64 zy] 23)
    have N := (OwnM.new (w.alloc (.cells #[.int .i64 ft, .bool ff, .int .i64 fx, .int .i64 fy] 31)) ht hf hx hy 31).alloc (.cells #[.int .i64 zx, .int .i64 zy] 23)
    have O := Own.new ((w.alloc (.cells #[.int .i64 ft, .bool ff, .int .i64 fx, .int .i64 fy] 31)).alloc (.cells #[.int .i64 ht, .bool hf, .int .i64 hx, .int .i64 hy] 31)) zx zy 23
    simp only [World.size_alloc] at N O
    exact ⟨bal (bal (bal (Below.refl _ _))), M, N, O⟩
  go_region_held3 (fun W => MvS w ft ff fx fy ht hf hx hy zx zy W)
    (first | exact (B0.keep (Below.drew (Below.refl _ _))).s | (refine (MvB.keep (by assumption : MvS w ft ff fx fy ht hf hx hy zx zy _).1 hb).s))
    (first
      | (go_at_call 14; refine (W1 _).mono ?_; rintro e w1 ⟨rfl, hb⟩)
      | (go_at_call 15; refine (W2 _).mono ?_; rintro e w1 ⟨rfl, hb⟩))
  obtain ⟨⟨S0, F0, H0, Z0⟩, _⟩ := (by assumption : MvS w ft ff fx fy ht hf hx hy zx zy _)
  clear B0
  have q0 := F0.2.1
  have q1 := Z0.2.1
  go_wp2_with fail
  clear q0 q1
  refine (A1 _).mono ?_
  rintro e w2 ⟨rfl, hb⟩
  have F2 := F0.keep hb
  have H2 := H0.keep hb
  have Z2 := Z0.keep hb
  have S2 := btrans S0 hb
  clear F0 H0 Z0 S0 hb
  have q0 := (F2.alloc (.cells #[.int .i64 ax, .int .i64 ay] 23)).2.1
  have q1 := (Z2.alloc (.cells #[.int .i64 ax, .int .i64 ay] 23)).2.1
  go_wp2_with fail
  clear q0 q1
  refine (A2 _).mono ?_
  rintro e w3 ⟨rfl, hb⟩
  have F3 := F2.step hb
  have H3 := H2.step hb
  have X3 := (Own.new w2 ax ay 23).keep hb
  have S3 := btrans (bal S2) hb
  clear F2 H2 Z2 S2 hb
  have q0 := (F3.alloc (.cells #[.int .i64 ax, .int .i64 ay] 23)).2.1
  have q1 := (H3.alloc (.cells #[.int .i64 ax, .int .i64 ay] 23)).2.1
  have q2 := (X3.alloc (.cells #[.int .i64 ax, .int .i64 ay] 23)).2.1
  go_wp2_with fail
  clear q0 q1 q2
  refine (T1 _).mono ?_
  rintro e w4 ⟨rfl, hb⟩
  have F4 := F3.step hb
  have H4 := H3.step hb
  have S4 := btrans (bal S3) hb
  clear F3 H3 X3 S3 hb
  have z1 : w.heap.size < w4.heap.size := F4.1
  have q0 := (F4.alloc (.cells #[.int .i64 ct, .bool cf, .int .i64 cx, .int .i64 cy] 31)).2.1
  have q1 := (H4.alloc (.cells #[.int .i64 ct, .bool cf, .int .i64 cx, .int .i64 cy] 31)).2.1
  go_wp2_with fail
  clear q0 q1
  refine (T2 _).mono ?_
  rintro e w5 ⟨rfl, hb⟩
  have F5 := F4.step hb
  have P5 := (OwnM.new w4 ct cf cx cy 31).keep hb
  have S5 := btrans (bal S4) hb
  clear F4 H4 S4 hb
  have z2 : w4.heap.size < w5.heap.size := P5.1
  have q0 := (F5.alloc (.cells #[.int .i64 ct, .bool cf, .int .i64 cx, .int .i64 cy] 31)).2.1
  have q1 := (P5.alloc (.cells #[.int .i64 ct, .bool cf, .int .i64 cx, .int .i64 cy] 31)).2.1
  go_wp2_with fail
  clear q0 q1
  refine (I1 _).mono ?_
  rintro e w6 ⟨rfl, hb⟩
  have F6 := F5.step hb
  have P6 := P5.step hb
  have Q6 := (OwnM.new w5 ct cf cx cy 31).keep hb
  have S6 := btrans (bal S5) hb
  clear F5 P5 S5 hb
  have F7 := ((((F6.far (c := w4.heap.size) (o := 0) (v := .int .i64 it) (by omega)).far (c := w4.heap.size) (o := 1) (v := .bool jf) (by omega)).far (c := w4.heap.size) (o := 2) (v := .int .i64 ix) (by omega)).far (c := w4.heap.size) (o := 3) (v := .int .i64 iy) (by omega))
  have Q7 := ((((Q6.far (c := w4.heap.size) (o := 0) (v := .int .i64 it) (by omega)).far (c := w4.heap.size) (o := 1) (v := .bool jf) (by omega)).far (c := w4.heap.size) (o := 2) (v := .int .i64 ix) (by omega)).far (c := w4.heap.size) (o := 3) (v := .int .i64 iy) (by omega))
  have P7 := P6.set it jf ix iy
  have S7 := (bset (p := ⟨w4.heap.size, 3, none⟩) (u := .int .i64 iy) (bset (p := ⟨w4.heap.size, 2, none⟩) (u := .int .i64 ix) (bset (p := ⟨w4.heap.size, 1, none⟩) (u := .bool jf) (bset (p := ⟨w4.heap.size, 0, none⟩) (u := .int .i64 it) S6 (by dsimp only; omega)) (by dsimp only; omega)) (by dsimp only; omega)) (by dsimp only; omega))
  have q0 := F7.2.1
  have q1 := P6.2
  go_wp2_with fail
  clear q0 q1 F6 P6 Q6 S6
  refine (I2 _).mono ?_
  rintro e w7 ⟨rfl, hb⟩
  have F8 := F7.keep hb
  have P8 := P7.keep hb
  have Q8 := Q7.keep hb
  have S8 := btrans S7 hb
  clear F7 P7 Q7 S7 hb
  have F9 := ((((F8.far (c := w5.heap.size) (o := 0) (v := .int .i64 it) (by omega)).far (c := w5.heap.size) (o := 1) (v := .bool jf) (by omega)).far (c := w5.heap.size) (o := 2) (v := .int .i64 ix) (by omega)).far (c := w5.heap.size) (o := 3) (v := .int .i64 iy) (by omega))
  have P9 := ((((P8.far (c := w5.heap.size) (o := 0) (v := .int .i64 it) (by omega)).far (c := w5.heap.size) (o := 1) (v := .bool jf) (by omega)).far (c := w5.heap.size) (o := 2) (v := .int .i64 ix) (by omega)).far (c := w5.heap.size) (o := 3) (v := .int .i64 iy) (by omega))
  have S9 := (bset (p := ⟨w5.heap.size, 3, none⟩) (u := .int .i64 iy) (bset (p := ⟨w5.heap.size, 2, none⟩) (u := .int .i64 ix) (bset (p := ⟨w5.heap.size, 1, none⟩) (u := .bool jf) (bset (p := ⟨w5.heap.size, 0, none⟩) (u := .int .i64 it) S8 (by dsimp only; omega)) (by dsimp only; omega)) (by dsimp only; omega)) (by dsimp only; omega))
  have q0 := F9.2.1
  have q1 := P9.2.1
  have q2 := Q8.2
  go_wp2_with fail
  clear q0 q1 q2 F8 P8 P9 Q8 S8
  refine (O1 _).mono ?_
  rintro e w8 ⟨rfl, hb⟩
  have F10 := F9.keep hb
  have S10 := btrans S9 hb
  clear F9 S9 hb
  have q0 := F10.2.1
  go_wp2_with fail
  clear q0
  refine (O2 _).mono ?_
  rintro e w9 ⟨rfl, hb⟩
  have S11 := btrans S10 hb
  go_wp2
  go_ret
  exact ⟨rfl, S11⟩

end Go.Proofs.Ytfopjkcnfngbpaa
