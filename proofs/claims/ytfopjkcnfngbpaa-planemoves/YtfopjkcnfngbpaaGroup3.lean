/-
  The walk of the law PlaneGroup out of the contracts of Compose, Apply, Inverse and Norm, in plain variables (part 3).
-/
import Derived.Test.YtfopjkcnfngbpaaGroup
namespace Go.Proofs.Ytfopjkcnfngbpaa
open Go.RowKit

set_option maxRecDepth 100000 in
set_option maxHeartbeats 4000000 in
theorem group_100 (g : Int) (ft : Int) (ff : Bool) (fx fy : Int) (ht : Int) (hf : Bool) (hx hy : Int) (kt : Int) (kf : Bool) (kx ky : Int) (zx zy vx vy : Int) (w : World) (gt : Int) (gf : Bool) (gx gy : Int) (yx yy : Int) (px py pe : Int) (mt : Int) (mf : Bool) (mx my : Int) (E2 : Int) (it : Int) (jf : Bool) (ix iy : Int) (E3 : Int) (ax ay e5 bx by' e6 : Int)
    (T1 : ComposeIs g ft ff fx fy ht hf hx hy gt gf gx gy 0) (A1 : ApplyIs g ht hf hx hy zx zy yx yy 0) (A2 : ApplyIs g ft ff fx fy yx yy px py pe) (A3 : ApplyIs g gt gf gx gy zx zy px py pe) (T2 : ComposeIs g ht hf hx hy kt kf kx ky mt mf mx my E2) (hE2 : 1 ≤ E2) (I1 : InverseIs g ft ff fx fy it jf ix iy E3) (hE3 : 1 ≤ E3) (A5 : ApplyIs g ft ff fx fy zx zy ax ay e5) (A6 : ApplyIs g ft ff fx fy vx vy bx by' e6) (hT : Hid (GTail g zx zy vx vy ax ay bx by' e5 e6)) :
    GroupIs g ft ff fx fy ht hf hx hy kt kf kx ky zx zy vx vy w := by
  unfold GroupIs
  go_enter Try.func6, Try.ntmps6
  go_wp2_with fail
  refine (alive_any _).mono ?_
  rintro e w1 ⟨rfl, hb⟩
  have F1 := (((((OwnM.new w ft ff fx fy 31).alloc (.cells #[.int .i64 ht, .bool hf, .int .i64 hx, .int .i64 hy] 31)).alloc (.cells #[.int .i64 kt, .bool kf, .int .i64 kx, .int .i64 ky] 31)).alloc (.cells #[.int .i64 zx, .int .i64 zy] 23)).alloc (.cells #[.int .i64 vx, .int .i64 vy] 23)).keep hb
  have H1 := ((((OwnM.new (w.alloc (.cells #[.int .i64 ft, .bool ff, .int .i64 fx, .int .i64 fy] 31)) ht hf hx hy 31).alloc (.cells #[.int .i64 kt, .bool kf, .int .i64 kx, .int .i64 ky] 31)).alloc (.cells #[.int .i64 zx, .int .i64 zy] 23)).alloc (.cells #[.int .i64 vx, .int .i64 vy] 23)).keep hb
  have K1 := (((OwnM.new ((w.alloc (.cells #[.int .i64 ft, .bool ff, .int .i64 fx, .int .i64 fy] 31)).alloc (.cells #[.int .i64 ht, .bool hf, .int .i64 hx, .int .i64 hy] 31)) kt kf kx ky 31).alloc (.cells #[.int .i64 zx, .int .i64 zy] 23)).alloc (.cells #[.int .i64 vx, .int .i64 vy] 23)).keep hb
  have Z1 := ((Own.new (((w.alloc (.cells #[.int .i64 ft, .bool ff, .int .i64 fx, .int .i64 fy] 31)).alloc (.cells #[.int .i64 ht, .bool hf, .int .i64 hx, .int .i64 hy] 31)).alloc (.cells #[.int .i64 kt, .bool kf, .int .i64 kx, .int .i64 ky] 31)) zx zy 23).alloc (.cells #[.int .i64 vx, .int .i64 vy] 23)).keep hb
  have V1 := (Own.new ((((w.alloc (.cells #[.int .i64 ft, .bool ff, .int .i64 fx, .int .i64 fy] 31)).alloc (.cells #[.int .i64 ht, .bool hf, .int .i64 hx, .int .i64 hy] 31)).alloc (.cells #[.int .i64 kt, .bool kf, .int .i64 kx, .int .i64 ky] 31)).alloc (.cells #[.int .i64 zx, .int .i64 zy] 23)) vx vy 23).keep hb
  have S1 := btrans (bal (bal (bal (bal (bal (Below.refl _ _)))))) hb
  simp only [World.size_alloc] at H1 K1 Z1 V1
  clear hb
  have q0 := F1.2.1
  have q1 := H1.2.1
  go_wp2_with fail
  clear q0 q1
  refine (T1 _).mono ?_
  rintro e w2 ⟨rfl, hb⟩
  have F2 := F1.keep hb
  have H2 := H1.keep hb
  have K2 := K1.keep hb
  have Z2 := Z1.keep hb
  have V2 := V1.keep hb
  have S2 := btrans S1 hb
  clear F1 H1 K1 Z1 V1 S1 hb
  have q0 := (H2.alloc (.cells #[.int .i64 gt, .bool gf, .int .i64 gx, .int .i64 gy] 31)).2.1
  have q1 := (Z2.alloc (.cells #[.int .i64 gt, .bool gf, .int .i64 gx, .int .i64 gy] 31)).2.1
  go_wp2_with fail
  clear q0 q1
  refine (A1 _).mono ?_
  rintro e w3 ⟨rfl, hb⟩
  have F3 := F2.step hb
  have H3 := H2.step hb
  have K3 := K2.step hb
  have Z3 := Z2.step hb
  have V3 := V2.step hb
  have G3 := (OwnM.new w2 gt gf gx gy 31).keep hb
  have S3 := btrans (bal S2) hb
  clear F2 H2 K2 Z2 V2 S2 hb
  have q0 := (F3.alloc (.cells #[.int .i64 yx, .int .i64 yy] 23)).2.1
  go_wp2_with fail
  clear q0
  refine (A2 _).mono ?_
  rintro e w4 ⟨rfl, hb⟩
  have F4 := F3.step hb
  have H4 := H3.step hb
  have K4 := K3.step hb
  have Z4 := Z3.step hb
  have V4 := V3.step hb
  have G4 := G3.step hb
  have S4 := btrans (bal S3) hb
  clear F3 H3 K3 Z3 V3 G3 S3 hb
  have q0 := (G4.alloc (.cells #[.int .i64 px, .int .i64 py] 23)).2.1
  have q1 := (Z4.alloc (.cells #[.int .i64 px, .int .i64 py] 23)).2.1
  go_wp2_with fail
  clear q0 q1
  refine (A3 _).mono ?_
  rintro e w5 ⟨rfl, hb⟩
  have F5 := F4.step hb
  have H5 := H4.step hb
  have K5 := K4.step hb
  have Z5 := Z4.step hb
  have V5 := V4.step hb
  have G5 := G4.step hb
  have X5 := (Own.new w4 px py 23).keep hb
  have S5 := btrans (bal S4) hb
  clear F4 H4 K4 Z4 V4 G4 S4 hb
  have q0 := (H5.alloc (.cells #[.int .i64 px, .int .i64 py] 23)).2.1
  have q1 := (K5.alloc (.cells #[.int .i64 px, .int .i64 py] 23)).2.1
  have q2 := (X5.alloc (.cells #[.int .i64 px, .int .i64 py] 23)).2.1
  go_wp2_with fail
  clear q0 q1 q2
  refine (T2 _).mono ?_
  rintro e w6 ⟨rfl, hb⟩
  have F6 := F5.step hb
  have K6 := K5.step hb
  have Z6 := Z5.step hb
  have V6 := V5.step hb
  have G6 := G5.step hb
  have S6 := btrans (bal S5) hb
  clear F5 H5 K5 Z5 V5 G5 X5 S5 hb
  have q0 := (F6.alloc (.cells #[.int .i64 mt, .bool mf, .int .i64 mx, .int .i64 my] 31)).2.1
  go_wp2_with fail
  clear q0
  refine (I1 _).mono ?_
  rintro e w7 ⟨rfl, hb⟩
  have F7 := F6.step hb
  have Z7 := Z6.step hb
  have V7 := V6.step hb
  have S7 := btrans (bal S6) hb
  clear F6 K6 Z6 V6 G6 S6 hb
  have q0 := (F7.alloc (.cells #[.int .i64 it, .bool jf, .int .i64 ix, .int .i64 iy] 31)).2.1
  have q1 := (Z7.alloc (.cells #[.int .i64 it, .bool jf, .int .i64 ix, .int .i64 iy] 31)).2.1
  go_wp2_with fail
  clear q0 q1
  refine (A5 _).mono ?_
  rintro e w8 ⟨rfl, hb⟩
  have F8 := F7.step hb
  have Z8 := Z7.step hb
  have V8 := V7.step hb
  have S8 := btrans (bal S7) hb
  clear F7 Z7 V7 S7 hb
  have q0 := (F8.alloc (.cells #[.int .i64 ax, .int .i64 ay] 23)).2.1
  have q1 := (V8.alloc (.cells #[.int .i64 ax, .int .i64 ay] 23)).2.1
  go_wp2_with fail
  clear q0 q1
  refine (A6 _).mono ?_
  rintro e w9 ⟨rfl, hb⟩
  have Z9 := Z8.step hb
  have V9 := V8.step hb
  have A9 := (Own.new w8 ax ay 23).keep hb
  have S9 := btrans (bal S8) hb
  clear F8 Z8 V8 S8 hb
  rcases unhide hT with h | ⟨rfl, h⟩ | ⟨rfl, rfl, ba, bb, bz, bv, m, n, e7, e8, N1, N2, hN⟩
  · go_wp2
    go_ret
    exact ⟨rfl, bal S9⟩
  · go_wp2
    go_ret
    exact ⟨rfl, bal S9⟩
  · have HN := hide hN
    clear hN
    have q0 := (A9.alloc (.cells #[.int .i64 bx, .int .i64 by'] 23)).2.1
    go_wp2_with fail
    clear q0
    refine (N1 _).mono ?_
    rintro e w10 ⟨rfl, hb⟩
    have Z10 := Z9.step hb
    have V10 := V9.step hb
    have S10 := btrans (bal S9) hb
    clear Z9 V9 A9 S9 hb
    have q0 := Z10.2.1
    have q1 := V10.2.1
    go_wp2_with fail
    clear q0 q1
    refine (N2 _).mono ?_
    rintro e w11 ⟨rfl, hb⟩
    have S11 := btrans S10 hb
    clear Z10 V10 S10 hb
    rcases unhide HN with h | ⟨rfl, h⟩ | ⟨rfl, rfl, rfl⟩
    · go_wp2
      go_ret
      exact ⟨rfl, S11⟩
    · go_wp2
      go_ret
      exact ⟨rfl, S11⟩
    · go_wp2
      go_ret
      exact ⟨rfl, S11⟩

set_option maxRecDepth 100000 in
set_option maxHeartbeats 4000000 in
theorem group_011 (g : Int) (ft : Int) (ff : Bool) (fx fy : Int) (ht : Int) (hf : Bool) (hx hy : Int) (kt : Int) (kf : Bool) (kx ky : Int) (zx zy vx vy : Int) (w : World) (gt : Int) (gf : Bool) (gx gy : Int) (yx yy : Int) (E1 : Int) (mt : Int) (mf : Bool) (mx my : Int) (qt : Int) (qf : Bool) (qx qy qe : Int) (it : Int) (jf : Bool) (ix iy : Int) (ax ay e5 bx by' e6 : Int)
    (T1 : ComposeIs g ft ff fx fy ht hf hx hy gt gf gx gy 0) (A1 : ApplyIs g ht hf hx hy zx zy yx yy E1) (hE1 : 1 ≤ E1) (T2 : ComposeIs g ht hf hx hy kt kf kx ky mt mf mx my 0) (T3 : ComposeIs g gt gf gx gy kt kf kx ky qt qf qx qy qe) (T4 : ComposeIs g ft ff fx fy mt mf mx my qt qf qx qy qe) (I1 : InverseIs g ft ff fx fy it jf ix iy 0) (T5 : ComposeIs g it jf ix iy ft ff fx fy 0 false 0 0 0) (T6 : ComposeIs g ft ff fx fy it jf ix iy 0 false 0 0 0) (A5 : ApplyIs g ft ff fx fy zx zy ax ay e5) (A6 : ApplyIs g ft ff fx fy vx vy bx by' e6) (hT : Hid (GTail g zx zy vx vy ax ay bx by' e5 e6)) :
    GroupIs g ft ff fx fy ht hf hx hy kt kf kx ky zx zy vx vy w := by
  unfold GroupIs
  go_enter Try.func6, Try.ntmps6
  go_wp2_with fail
  refine (alive_any _).mono ?_
  rintro e w1 ⟨rfl, hb⟩
  have F1 := (((((OwnM.new w ft ff fx fy 31).alloc (.cells #[.int .i64 ht, .bool hf, .int .i64 hx, .int .i64 hy] 31)).alloc (.cells #[.int .i64 kt, .bool kf, .int .i64 kx, .int .i64 ky] 31)).alloc (.cells #[.int .i64 zx, .int .i64 zy] 23)).alloc (.cells #[.int .i64 vx, .int .i64 vy] 23)).keep hb
  have H1 := ((((OwnM.new (w.alloc (.cells #[.int .i64 ft, .bool ff, .int .i64 fx, .int .i64 fy] 31)) ht hf hx hy 31).alloc (.cells #[.int .i64 kt, .bool kf, .int .i64 kx, .int .i64 ky] 31)).alloc (.cells #[.int .i64 zx, .int .i64 zy] 23)).alloc (.cells #[.int .i64 vx, .int .i64 vy] 23)).keep hb
  have K1 := (((OwnM.new ((w.alloc (.cells #[.int .i64 ft, .bool ff, .int .i64 fx, .int .i64 fy] 31)).alloc (.cells #[.int .i64 ht, .bool hf, .int .i64 hx, .int .i64 hy] 31)) kt kf kx ky 31).alloc (.cells #[.int .i64 zx, .int .i64 zy] 23)).alloc (.cells #[.int .i64 vx, .int .i64 vy] 23)).keep hb
  have Z1 := ((Own.new (((w.alloc (.cells #[.int .i64 ft, .bool ff, .int .i64 fx, .int .i64 fy] 31)).alloc (.cells #[.int .i64 ht, .bool hf, .int .i64 hx, .int .i64 hy] 31)).alloc (.cells #[.int .i64 kt, .bool kf, .int .i64 kx, .int .i64 ky] 31)) zx zy 23).alloc (.cells #[.int .i64 vx, .int .i64 vy] 23)).keep hb
  have V1 := (Own.new ((((w.alloc (.cells #[.int .i64 ft, .bool ff, .int .i64 fx, .int .i64 fy] 31)).alloc (.cells #[.int .i64 ht, .bool hf, .int .i64 hx, .int .i64 hy] 31)).alloc (.cells #[.int .i64 kt, .bool kf, .int .i64 kx, .int .i64 ky] 31)).alloc (.cells #[.int .i64 zx, .int .i64 zy] 23)) vx vy 23).keep hb
  have S1 := btrans (bal (bal (bal (bal (bal (Below.refl _ _)))))) hb
  simp only [World.size_alloc] at H1 K1 Z1 V1
  clear hb
  have q0 := F1.2.1
  have q1 := H1.2.1
  go_wp2_with fail
  clear q0 q1
  refine (T1 _).mono ?_
  rintro e w2 ⟨rfl, hb⟩
  have F2 := F1.keep hb
  have H2 := H1.keep hb
  have K2 := K1.keep hb
  have Z2 := Z1.keep hb
  have V2 := V1.keep hb
  have S2 := btrans S1 hb
  clear F1 H1 K1 Z1 V1 S1 hb
  have q0 := (H2.alloc (.cells #[.int .i64 gt, .bool gf, .int .i64 gx, .int .i64 gy] 31)).2.1
  have q1 := (Z2.alloc (.cells #[.int .i64 gt, .bool gf, .int .i64 gx, .int .i64 gy] 31)).2.1
  go_wp2_with fail
  clear q0 q1
  refine (A1 _).mono ?_
  rintro e w3 ⟨rfl, hb⟩
  have F3 := F2.step hb
  have H3 := H2.step hb
  have K3 := K2.step hb
  have Z3 := Z2.step hb
  have V3 := V2.step hb
  have G3 := (OwnM.new w2 gt gf gx gy 31).keep hb
  have S3 := btrans (bal S2) hb
  clear F2 H2 K2 Z2 V2 S2 hb
  have q0 := (H3.alloc (.cells #[.int .i64 yx, .int .i64 yy] 23)).2.1
  have q1 := (K3.alloc (.cells #[.int .i64 yx, .int .i64 yy] 23)).2.1
  go_wp2_with fail
  clear q0 q1
  refine (T2 _).mono ?_
  rintro e w4 ⟨rfl, hb⟩
  have F4 := F3.step hb
  have K4 := K3.step hb
  have Z4 := Z3.step hb
  have V4 := V3.step hb
  have G4 := G3.step hb
  have S4 := btrans (bal S3) hb
  clear F3 H3 K3 Z3 V3 G3 S3 hb
  have q0 := (G4.alloc (.cells #[.int .i64 mt, .bool mf, .int .i64 mx, .int .i64 my] 31)).2.1
  have q1 := (K4.alloc (.cells #[.int .i64 mt, .bool mf, .int .i64 mx, .int .i64 my] 31)).2.1
  go_wp2_with fail
  clear q0 q1
  refine (T3 _).mono ?_
  rintro e w5 ⟨rfl, hb⟩
  have F5 := F4.step hb
  have Z5 := Z4.step hb
  have V5 := V4.step hb
  have M5 := (OwnM.new w4 mt mf mx my 31).keep hb
  have S5 := btrans (bal S4) hb
  clear F4 K4 Z4 V4 G4 S4 hb
  have q0 := (F5.alloc (.cells #[.int .i64 qt, .bool qf, .int .i64 qx, .int .i64 qy] 31)).2.1
  have q1 := (M5.alloc (.cells #[.int .i64 qt, .bool qf, .int .i64 qx, .int .i64 qy] 31)).2.1
  go_wp2_with fail
  clear q0 q1
  refine (T4 _).mono ?_
  rintro e w6 ⟨rfl, hb⟩
  have F6 := F5.step hb
  have Z6 := Z5.step hb
  have V6 := V5.step hb
  have Q6 := (OwnM.new w5 qt qf qx qy 31).keep hb
  have S6 := btrans (bal S5) hb
  clear F5 Z5 V5 M5 S5 hb
  have q0 := (F6.alloc (.cells #[.int .i64 qt, .bool qf, .int .i64 qx, .int .i64 qy] 31)).2.1
  have q1 := (Q6.alloc (.cells #[.int .i64 qt, .bool qf, .int .i64 qx, .int .i64 qy] 31)).2.1
  go_wp2_with fail
  clear q0 q1
  refine (I1 _).mono ?_
  rintro e w7 ⟨rfl, hb⟩
  have F7 := F6.step hb
  have Z7 := Z6.step hb
  have V7 := V6.step hb
  have S7 := btrans (bal S6) hb
  clear F6 Z6 V6 Q6 S6 hb
  have q1 := (F7.alloc (.cells #[.int .i64 it, .bool jf, .int .i64 ix, .int .i64 iy] 31)).2.1
  go_wp2_with fail
  clear q1
  refine (T5 _).mono ?_
  rintro e w8 ⟨rfl, hb⟩
  have F8 := F7.step hb
  have Z8 := Z7.step hb
  have V8 := V7.step hb
  have I8 := (OwnM.new w7 it jf ix iy 31).keep hb
  have S8 := btrans (bal S7) hb
  clear F7 Z7 V7 S7 hb
  have q0 := (F8.alloc (.cells #[.int .i64 0, .bool false, .int .i64 0, .int .i64 0] 31)).2.1
  have q1 := (I8.alloc (.cells #[.int .i64 0, .bool false, .int .i64 0, .int .i64 0] 31)).2.1
  go_wp2_with fail
  clear q0 q1
  refine (T6 _).mono ?_
  rintro e w9 ⟨rfl, hb⟩
  have F9 := F8.step hb
  have Z9 := Z8.step hb
  have V9 := V8.step hb
  have P9 := (OwnM.new w8 0 false 0 0 31).keep hb
  have S9 := btrans (bal S8) hb
  clear F8 Z8 V8 I8 S8 hb
  have q0 := (F9.alloc (.cells #[.int .i64 0, .bool false, .int .i64 0, .int .i64 0] 31)).2.1
  have q1 := (Z9.alloc (.cells #[.int .i64 0, .bool false, .int .i64 0, .int .i64 0] 31)).2.1
  have q2 := (P9.alloc (.cells #[.int .i64 0, .bool false, .int .i64 0, .int .i64 0] 31)).2.1
  go_wp2_with fail
  clear q0 q1 q2
  refine (A5 _).mono ?_
  rintro e w10 ⟨rfl, hb⟩
  have F10 := F9.step hb
  have Z10 := Z9.step hb
  have V10 := V9.step hb
  have S10 := btrans (bal S9) hb
  clear F9 Z9 V9 P9 S9 hb
  have q0 := (F10.alloc (.cells #[.int .i64 ax, .int .i64 ay] 23)).2.1
  have q1 := (V10.alloc (.cells #[.int .i64 ax, .int .i64 ay] 23)).2.1
  go_wp2_with fail
  clear q0 q1
  refine (A6 _).mono ?_
  rintro e w11 ⟨rfl, hb⟩
  have Z11 := Z10.step hb
  have V11 := V10.step hb
  have A11 := (Own.new w10 ax ay 23).keep hb
  have S11 := btrans (bal S10) hb
  clear F10 Z10 V10 S10 hb
  rcases unhide hT with h | ⟨rfl, h⟩ | ⟨rfl, rfl, ba, bb, bz, bv, m, n, e7, e8, N1, N2, hN⟩
  · go_wp2
    go_ret
    exact ⟨rfl, bal S11⟩
  · go_wp2
    go_ret
    exact ⟨rfl, bal S11⟩
  · have HN := hide hN
    clear hN
    have q0 := (A11.alloc (.cells #[.int .i64 bx, .int .i64 by'] 23)).2.1
    go_wp2_with fail
    clear q0
    refine (N1 _).mono ?_
    rintro e w12 ⟨rfl, hb⟩
    have Z12 := Z11.step hb
    have V12 := V11.step hb
    have S12 := btrans (bal S11) hb
    clear Z11 V11 A11 S11 hb
    have q0 := Z12.2.1
    have q1 := V12.2.1
    go_wp2_with fail
    clear q0 q1
    refine (N2 _).mono ?_
    rintro e w13 ⟨rfl, hb⟩
    have S13 := btrans S12 hb
    clear Z12 V12 S12 hb
    rcases unhide HN with h | ⟨rfl, h⟩ | ⟨rfl, rfl, rfl⟩
    · go_wp2
      go_ret
      exact ⟨rfl, S13⟩
    · go_wp2
      go_ret
      exact ⟨rfl, S13⟩
    · go_wp2
      go_ret
      exact ⟨rfl, S13⟩

end Go.Proofs.Ytfopjkcnfngbpaa
