/-
  EffectComplete, its ways (where they do).
-/
import Derived.Test.YtbmgjoocpbikkaaLcA
namespace Go.Proofs.Ytbmgjoocpbikkaa
open Go.RowKit

set_option maxRecDepth 100000 in
set_option maxHeartbeats 4000000 in
theorem complete_BX (q1 : Option Addr) (n c1 : Nat) (q2 : Option Addr) (m c2 : Nat) (e p : Nat → Int) (q3 : Option Addr) (nb c3 : Nat) (f : Nat → Bool) (g w h : Int) (q4 : Option Addr) (nc c4 : Nat) (px : Nat → Int) (W : World) (h1 : T.Is W q1 n e) (h2 : T.Is W q2 m p) (h3 : T.Bs W q3 nb c3 f) (h4 : T.Is W q4 nc px) (hs : sE n m e p = 0) (hnb : nb = n * m) (he : pE g w h nc px ≠ 0) :
    Calls Try.prog 4 #[sg q1 n c1 q2 m c2, T.tr n m q3 nb c3, Ch.ch g w h q4 nc c4] W fun e' w' => e' = .returned (.bool true) ∧ Below W.heap.size W w' := by
  have HW := hide (bal (o := .cells #[.int .i64 g, .int .i64 w, .int .i64 h, .slice q4 nc c4] 29) (bal (o := .cells #[.int .i64 n, .int .i64 m, .slice q3 nb c3] 27) (bnew W (.cells #[.slice q1 n c1, .slice q2 m c2] 24))))
  have OS := ((OwnS.new W q1 n c1 q2 m c2 24).keep (bnew _ (.cells #[.int .i64 n, .int .i64 m, .slice q3 nb c3] 27))).keep (bnew _ (.cells #[.int .i64 g, .int .i64 w, .int .i64 h, .slice q4 nc c4] 29))
  have OT := (T.OwnM.new (W.alloc (.cells #[.slice q1 n c1, .slice q2 m c2] 24)) n m q3 nb c3 27).keep (bnew _ (.cells #[.int .i64 g, .int .i64 w, .int .i64 h, .slice q4 nc c4] 29))
  have OC := OwnC.new ((W.alloc (.cells #[.slice q1 n c1, .slice q2 m c2] 24)).alloc (.cells #[.int .i64 n, .int .i64 m, .slice q3 nb c3] 27)) g w h q4 nc c4 29
  rw [World.size_alloc] at OT
  rw [World.size_alloc, World.size_alloc] at OC
  have I1 := h1.keep (unhide HW)
  have I2 := h2.keep (unhide HW)
  have I3 := h3.keep (unhide HW)
  have I4 := h4.keep (unhide HW)
  clear h1 h2 h3 h4
  have He := hide he
  clear he
  have Hs := hide hs
  have Hnb := hide hnb
  clear hs hnb
  go_enter Try.func4, Try.ntmps4
  go_upto_region 3 with (go_at_call 15; refine (alive_any _).mono ?_; rintro e' w1' ⟨rfl, hb⟩)
  replace OS := OS.keep hb
  replace OT := OT.keep hb
  replace OC := OC.keep hb
  replace I1 := I1.keep hb
  replace I2 := I2.keep hb
  replace I3 := I3.keep hb
  replace I4 := I4.keep hb
  replace HW := hide (btrans (unhide HW) hb)
  clear hb
  have hz := OS
  obtain ⟨_, s0, s1⟩ := hz
  have hz := OT
  obtain ⟨_, t0, t1, t2⟩ := hz
  go_upto_region 5 with (go_at_call 6; refine (shown0 (c1 := c1) (c2 := c2) I1 I2 I3 (by rw [unhide Hnb]; exact shE_ok (unhide Hs))).mono ?_; rintro e' w2' ⟨xx, x4, x6, rfl, IX, hb, hX⟩)
  clear s0 s1 t0 t1 t2
  replace OS := OS.keep hb
  replace OT := OT.keep hb
  replace OC := OC.keep hb
  replace I1 := I1.keep hb
  replace I2 := I2.keep hb
  replace I3 := I3.keep hb
  replace I4 := I4.keep hb
  replace HW := hide (btrans (unhide HW) hb)
  clear hb
  replace OS := OS.keep (bnew w2' (.cells #[.int .i64 4, .int .i64 n, .int .i64 m, .slice x4 (n * m) x6] 29))
  replace OT := OT.keep (bnew w2' (.cells #[.int .i64 4, .int .i64 n, .int .i64 m, .slice x4 (n * m) x6] 29))
  replace OC := OC.keep (bnew w2' (.cells #[.int .i64 4, .int .i64 n, .int .i64 m, .slice x4 (n * m) x6] 29))
  replace I1 := I1.keep (bnew w2' (.cells #[.int .i64 4, .int .i64 n, .int .i64 m, .slice x4 (n * m) x6] 29))
  replace I2 := I2.keep (bnew w2' (.cells #[.int .i64 4, .int .i64 n, .int .i64 m, .slice x4 (n * m) x6] 29))
  replace I3 := I3.keep (bnew w2' (.cells #[.int .i64 4, .int .i64 n, .int .i64 m, .slice x4 (n * m) x6] 29))
  replace I4 := I4.keep (bnew w2' (.cells #[.int .i64 4, .int .i64 n, .int .i64 m, .slice x4 (n * m) x6] 29))
  replace IX := IX.keep (bnew w2' (.cells #[.int .i64 4, .int .i64 n, .int .i64 m, .slice x4 (n * m) x6] 29))
  have O7 := OwnC.new w2' 4 n m x4 (n * m) x6 29
  replace HW := hide (bal (o := .cells #[.int .i64 4, .int .i64 n, .int .i64 m, .slice x4 (n * m) x6] 29) (unhide HW))
  generalize w2'.alloc (.cells #[.int .i64 4, .int .i64 n, .int .i64 m, .slice x4 (n * m) x6] 29) = w2 at *
  generalize w2'.heap.size = bO7 at *
  obtain ⟨hP, hCS⟩ := shw_picture (unhide Hs) hX
  have HP := hide hP
  have HCS := hide hCS
  have HX := hide hX
  clear hP hCS hX
  obtain ⟨⟨n1, n2⟩, ⟨m1, m2⟩, s3, s4⟩ := sE_zero (unhide Hs)
  have HTX := hide (show Tot (pic n m xx) (thr n e p) from thr_tot s3 s4)
  have HGX := hide (show Good (pic n m xx) (thr n e p) from cs_good (unhide HCS))
  clear s3 s4
  have hz := O7
  obtain ⟨_, u0, u1, u2, u3⟩ := hz
  go_upto_region 8 with (go_at_call 9; refine (string0 IX (unhide HP) (unhide HTX) (unhide HGX)).mono ?_; rintro e' w3' ⟨F7, y1, y2, y3, y4, rfl, -, -, hb, -⟩)
  clear u0 u1 u2 u3
  replace OS := OS.keep hb
  replace OT := OT.keep hb
  replace OC := OC.keep hb
  replace I1 := I1.keep hb
  replace I2 := I2.keep hb
  replace I3 := I3.keep hb
  replace I4 := I4.keep hb
  replace O7 := O7.keep hb
  replace IX := IX.keep hb
  replace HW := hide (btrans (unhide HW) hb)
  clear hb
  replace OS := OS.keep (bnew w3' (.cells #[.slice y1 n y2, .slice y3 m y4] 24))
  replace OT := OT.keep (bnew w3' (.cells #[.slice y1 n y2, .slice y3 m y4] 24))
  replace OC := OC.keep (bnew w3' (.cells #[.slice y1 n y2, .slice y3 m y4] 24))
  replace I1 := I1.keep (bnew w3' (.cells #[.slice y1 n y2, .slice y3 m y4] 24))
  replace I2 := I2.keep (bnew w3' (.cells #[.slice y1 n y2, .slice y3 m y4] 24))
  replace I3 := I3.keep (bnew w3' (.cells #[.slice y1 n y2, .slice y3 m y4] 24))
  replace I4 := I4.keep (bnew w3' (.cells #[.slice y1 n y2, .slice y3 m y4] 24))
  replace O7 := O7.keep (bnew w3' (.cells #[.slice y1 n y2, .slice y3 m y4] 24))
  replace IX := IX.keep (bnew w3' (.cells #[.slice y1 n y2, .slice y3 m y4] 24))
  have O9 := OwnS.new w3' y1 n y2 y3 m y4 24
  replace HW := hide (bal (o := .cells #[.slice y1 n y2, .slice y3 m y4] 24) (unhide HW))
  generalize w3'.alloc (.cells #[.slice y1 n y2, .slice y3 m y4] 24) = w3 at *
  generalize w3'.heap.size = bO9 at *
  have hz := OS
  obtain ⟨_, s0, s1⟩ := hz
  have hz := O7
  obtain ⟨_, u0, u1, u2, u3⟩ := hz
  go_upto_region 11 with (go_at_call 12; refine (cloth0 (c1 := c1) (c2 := c2) I1 I2 IX rfl (unhide Hs) (unhide HP) (unhide HCS)).mono ?_; rintro e' w4' ⟨fb, z1, z2, rfl, IB, hb, hFB⟩)
  clear s0 s1 u0 u1 u2 u3
  replace OS := OS.keep hb
  replace OT := OT.keep hb
  replace OC := OC.keep hb
  replace I1 := I1.keep hb
  replace I2 := I2.keep hb
  replace I3 := I3.keep hb
  replace I4 := I4.keep hb
  replace O7 := O7.keep hb
  replace IX := IX.keep hb
  replace O9 := O9.keep hb
  replace HW := hide (btrans (unhide HW) hb)
  clear hb
  replace OS := OS.keep (bnew w4' (.cells #[.int .i64 n, .int .i64 m, .slice z1 (n * m) z2] 27))
  replace OT := OT.keep (bnew w4' (.cells #[.int .i64 n, .int .i64 m, .slice z1 (n * m) z2] 27))
  replace OC := OC.keep (bnew w4' (.cells #[.int .i64 n, .int .i64 m, .slice z1 (n * m) z2] 27))
  replace I1 := I1.keep (bnew w4' (.cells #[.int .i64 n, .int .i64 m, .slice z1 (n * m) z2] 27))
  replace I2 := I2.keep (bnew w4' (.cells #[.int .i64 n, .int .i64 m, .slice z1 (n * m) z2] 27))
  replace I3 := I3.keep (bnew w4' (.cells #[.int .i64 n, .int .i64 m, .slice z1 (n * m) z2] 27))
  replace I4 := I4.keep (bnew w4' (.cells #[.int .i64 n, .int .i64 m, .slice z1 (n * m) z2] 27))
  replace O7 := O7.keep (bnew w4' (.cells #[.int .i64 n, .int .i64 m, .slice z1 (n * m) z2] 27))
  replace IX := IX.keep (bnew w4' (.cells #[.int .i64 n, .int .i64 m, .slice z1 (n * m) z2] 27))
  replace O9 := O9.keep (bnew w4' (.cells #[.int .i64 n, .int .i64 m, .slice z1 (n * m) z2] 27))
  replace IB := IB.keep (bnew w4' (.cells #[.int .i64 n, .int .i64 m, .slice z1 (n * m) z2] 27))
  have O11 := T.OwnM.new w4' n m z1 (n * m) z2 27
  replace HW := hide (bal (o := .cells #[.int .i64 n, .int .i64 m, .slice z1 (n * m) z2] 27) (unhide HW))
  generalize w4'.alloc (.cells #[.int .i64 n, .int .i64 m, .slice z1 (n * m) z2] 27) = w4 at *
  generalize w4'.heap.size = bO11 at *
  have HFB := hide hFB
  clear hFB
  have hz := OS
  obtain ⟨_, s0, s1⟩ := hz
  have hz := O11
  obtain ⟨_, t0, t1, t2⟩ := hz
  go_upto_region 12 with (go_at_call 6; refine (shown0 (c1 := c1) (c2 := c2) I1 I2 IB (shE_ok (unhide Hs))).mono ?_; rintro e' w5' ⟨yy, y4', y6, rfl, IY, hb, hY⟩)
  clear s0 s1 t0 t1 t2
  replace OS := OS.keep hb
  replace OT := OT.keep hb
  replace OC := OC.keep hb
  replace I1 := I1.keep hb
  replace I2 := I2.keep hb
  replace I3 := I3.keep hb
  replace I4 := I4.keep hb
  replace O7 := O7.keep hb
  replace IX := IX.keep hb
  replace O9 := O9.keep hb
  replace O11 := O11.keep hb
  replace IB := IB.keep hb
  replace HW := hide (btrans (unhide HW) hb)
  clear hb
  replace OS := OS.keep (bnew w5' (.cells #[.int .i64 4, .int .i64 n, .int .i64 m, .slice y4' (n * m) y6] 29))
  replace OT := OT.keep (bnew w5' (.cells #[.int .i64 4, .int .i64 n, .int .i64 m, .slice y4' (n * m) y6] 29))
  replace OC := OC.keep (bnew w5' (.cells #[.int .i64 4, .int .i64 n, .int .i64 m, .slice y4' (n * m) y6] 29))
  replace I1 := I1.keep (bnew w5' (.cells #[.int .i64 4, .int .i64 n, .int .i64 m, .slice y4' (n * m) y6] 29))
  replace I2 := I2.keep (bnew w5' (.cells #[.int .i64 4, .int .i64 n, .int .i64 m, .slice y4' (n * m) y6] 29))
  replace I3 := I3.keep (bnew w5' (.cells #[.int .i64 4, .int .i64 n, .int .i64 m, .slice y4' (n * m) y6] 29))
  replace I4 := I4.keep (bnew w5' (.cells #[.int .i64 4, .int .i64 n, .int .i64 m, .slice y4' (n * m) y6] 29))
  replace O7 := O7.keep (bnew w5' (.cells #[.int .i64 4, .int .i64 n, .int .i64 m, .slice y4' (n * m) y6] 29))
  replace IX := IX.keep (bnew w5' (.cells #[.int .i64 4, .int .i64 n, .int .i64 m, .slice y4' (n * m) y6] 29))
  replace O9 := O9.keep (bnew w5' (.cells #[.int .i64 4, .int .i64 n, .int .i64 m, .slice y4' (n * m) y6] 29))
  replace O11 := O11.keep (bnew w5' (.cells #[.int .i64 4, .int .i64 n, .int .i64 m, .slice y4' (n * m) y6] 29))
  replace IB := IB.keep (bnew w5' (.cells #[.int .i64 4, .int .i64 n, .int .i64 m, .slice y4' (n * m) y6] 29))
  replace IY := IY.keep (bnew w5' (.cells #[.int .i64 4, .int .i64 n, .int .i64 m, .slice y4' (n * m) y6] 29))
  have O13 := OwnC.new w5' 4 n m y4' (n * m) y6 29
  replace HW := hide (bal (o := .cells #[.int .i64 4, .int .i64 n, .int .i64 m, .slice y4' (n * m) y6] 29) (unhide HW))
  generalize w5'.alloc (.cells #[.int .i64 4, .int .i64 n, .int .i64 m, .slice y4' (n * m) y6] 29) = w5 at *
  generalize w5'.heap.size = bO13 at *
  have HYX := hide (same_shown (unhide HX) (unhide HCS) (unhide HFB) hY)
  clear hY
  have Hnm := hide (show n * m ≤ 4096 from Nat.mul_le_mul n2 m2)
  have hz := O7
  obtain ⟨_, u0, u1, u2, u3⟩ := hz
  have hz := O13
  obtain ⟨_, v0, v1, v2, v3⟩ := hz
  go_upto_region 14 with (go_at_call 8; refine (samec_any 4 n m x4 (n * m) x6 y4' y6 xx yy _ (unhide Hnm) IX IY (unhide HYX)).mono ?_; rintro e' w6' ⟨rfl, hb⟩)
  clear u0 u1 u2 u3 v0 v1 v2 v3
  replace OS := OS.keep hb
  replace OT := OT.keep hb
  replace OC := OC.keep hb
  replace I1 := I1.keep hb
  replace I2 := I2.keep hb
  replace I3 := I3.keep hb
  replace I4 := I4.keep hb
  replace O7 := O7.keep hb
  replace IX := IX.keep hb
  replace O9 := O9.keep hb
  replace O11 := O11.keep hb
  replace IB := IB.keep hb
  replace O13 := O13.keep hb
  replace IY := IY.keep hb
  replace HW := hide (btrans (unhide HW) hb)
  clear hb
  clear IX IY IB O7 O9 O11 O13 HTX HGX HFB HYX HX HP HCS
  have hz := OC
  obtain ⟨_, o0, o1, o2, o3⟩ := hz
  go_wp2_with (go_at_call 9; refine (stringX I4 (unhide He)).mono ?_; rintro e' wz ⟨er', r1, k1, d1, r2, k2, d2, rfl, hne, heq, h6, hb⟩)
  go_ret
  exact ⟨rfl, bal (btrans (unhide HW) hb)⟩

set_option maxRecDepth 100000 in
set_option maxHeartbeats 4000000 in
theorem complete_B6 (q1 : Option Addr) (n c1 : Nat) (q2 : Option Addr) (m c2 : Nat) (e p : Nat → Int) (q3 : Option Addr) (nb c3 : Nat) (f : Nat → Bool) (a b : Nat) (q4 : Option Addr) (nc c4 : Nat) (px : Nat → Int) (W : World) (h1 : T.Is W q1 n e) (h2 : T.Is W q2 m p) (h3 : T.Bs W q3 nb c3 f) (h4 : T.Is W q4 nc px) (hs : sE n m e p = 0) (hnb : nb = n * m) (he : pE 4 a b nc px = 0) (hG : ∀ f, Tot (pic a b px) f → ¬ Good (pic a b px) f) :
    Calls Try.prog 4 #[sg q1 n c1 q2 m c2, T.tr n m q3 nb c3, Ch.ch 4 a b q4 nc c4] W fun e' w' => e' = .returned (.bool true) ∧ Below W.heap.size W w' := by
  have HW := hide (bal (o := .cells #[.int .i64 4, .int .i64 a, .int .i64 b, .slice q4 nc c4] 29) (bal (o := .cells #[.int .i64 n, .int .i64 m, .slice q3 nb c3] 27) (bnew W (.cells #[.slice q1 n c1, .slice q2 m c2] 24))))
  have OS := ((OwnS.new W q1 n c1 q2 m c2 24).keep (bnew _ (.cells #[.int .i64 n, .int .i64 m, .slice q3 nb c3] 27))).keep (bnew _ (.cells #[.int .i64 4, .int .i64 a, .int .i64 b, .slice q4 nc c4] 29))
  have OT := (T.OwnM.new (W.alloc (.cells #[.slice q1 n c1, .slice q2 m c2] 24)) n m q3 nb c3 27).keep (bnew _ (.cells #[.int .i64 4, .int .i64 a, .int .i64 b, .slice q4 nc c4] 29))
  have OC := OwnC.new ((W.alloc (.cells #[.slice q1 n c1, .slice q2 m c2] 24)).alloc (.cells #[.int .i64 n, .int .i64 m, .slice q3 nb c3] 27)) 4 a b q4 nc c4 29
  rw [World.size_alloc] at OT
  rw [World.size_alloc, World.size_alloc] at OC
  have I1 := h1.keep (unhide HW)
  have I2 := h2.keep (unhide HW)
  have I3 := h3.keep (unhide HW)
  have I4 := h4.keep (unhide HW)
  clear h1 h2 h3 h4
  have He := hide he
  clear he
  have HG := hide hG
  clear hG
  have Hs := hide hs
  have Hnb := hide hnb
  clear hs hnb
  go_enter Try.func4, Try.ntmps4
  go_upto_region 3 with (go_at_call 15; refine (alive_any _).mono ?_; rintro e' w1' ⟨rfl, hb⟩)
  replace OS := OS.keep hb
  replace OT := OT.keep hb
  replace OC := OC.keep hb
  replace I1 := I1.keep hb
  replace I2 := I2.keep hb
  replace I3 := I3.keep hb
  replace I4 := I4.keep hb
  replace HW := hide (btrans (unhide HW) hb)
  clear hb
  have hz := OS
  obtain ⟨_, s0, s1⟩ := hz
  have hz := OT
  obtain ⟨_, t0, t1, t2⟩ := hz
  go_upto_region 5 with (go_at_call 6; refine (shown0 (c1 := c1) (c2 := c2) I1 I2 I3 (by rw [unhide Hnb]; exact shE_ok (unhide Hs))).mono ?_; rintro e' w2' ⟨xx, x4, x6, rfl, IX, hb, hX⟩)
  clear s0 s1 t0 t1 t2
  replace OS := OS.keep hb
  replace OT := OT.keep hb
  replace OC := OC.keep hb
  replace I1 := I1.keep hb
  replace I2 := I2.keep hb
  replace I3 := I3.keep hb
  replace I4 := I4.keep hb
  replace HW := hide (btrans (unhide HW) hb)
  clear hb
  replace OS := OS.keep (bnew w2' (.cells #[.int .i64 4, .int .i64 n, .int .i64 m, .slice x4 (n * m) x6] 29))
  replace OT := OT.keep (bnew w2' (.cells #[.int .i64 4, .int .i64 n, .int .i64 m, .slice x4 (n * m) x6] 29))
  replace OC := OC.keep (bnew w2' (.cells #[.int .i64 4, .int .i64 n, .int .i64 m, .slice x4 (n * m) x6] 29))
  replace I1 := I1.keep (bnew w2' (.cells #[.int .i64 4, .int .i64 n, .int .i64 m, .slice x4 (n * m) x6] 29))
  replace I2 := I2.keep (bnew w2' (.cells #[.int .i64 4, .int .i64 n, .int .i64 m, .slice x4 (n * m) x6] 29))
  replace I3 := I3.keep (bnew w2' (.cells #[.int .i64 4, .int .i64 n, .int .i64 m, .slice x4 (n * m) x6] 29))
  replace I4 := I4.keep (bnew w2' (.cells #[.int .i64 4, .int .i64 n, .int .i64 m, .slice x4 (n * m) x6] 29))
  replace IX := IX.keep (bnew w2' (.cells #[.int .i64 4, .int .i64 n, .int .i64 m, .slice x4 (n * m) x6] 29))
  have O7 := OwnC.new w2' 4 n m x4 (n * m) x6 29
  replace HW := hide (bal (o := .cells #[.int .i64 4, .int .i64 n, .int .i64 m, .slice x4 (n * m) x6] 29) (unhide HW))
  generalize w2'.alloc (.cells #[.int .i64 4, .int .i64 n, .int .i64 m, .slice x4 (n * m) x6] 29) = w2 at *
  generalize w2'.heap.size = bO7 at *
  obtain ⟨hP, hCS⟩ := shw_picture (unhide Hs) hX
  have HP := hide hP
  have HCS := hide hCS
  have HX := hide hX
  clear hP hCS hX
  obtain ⟨⟨n1, n2⟩, ⟨m1, m2⟩, s3, s4⟩ := sE_zero (unhide Hs)
  have HTX := hide (show Tot (pic n m xx) (thr n e p) from thr_tot s3 s4)
  have HGX := hide (show Good (pic n m xx) (thr n e p) from cs_good (unhide HCS))
  clear s3 s4
  have hz := O7
  obtain ⟨_, u0, u1, u2, u3⟩ := hz
  go_upto_region 8 with (go_at_call 9; refine (string0 IX (unhide HP) (unhide HTX) (unhide HGX)).mono ?_; rintro e' w3' ⟨F7, y1, y2, y3, y4, rfl, -, -, hb, -⟩)
  clear u0 u1 u2 u3
  replace OS := OS.keep hb
  replace OT := OT.keep hb
  replace OC := OC.keep hb
  replace I1 := I1.keep hb
  replace I2 := I2.keep hb
  replace I3 := I3.keep hb
  replace I4 := I4.keep hb
  replace O7 := O7.keep hb
  replace IX := IX.keep hb
  replace HW := hide (btrans (unhide HW) hb)
  clear hb
  replace OS := OS.keep (bnew w3' (.cells #[.slice y1 n y2, .slice y3 m y4] 24))
  replace OT := OT.keep (bnew w3' (.cells #[.slice y1 n y2, .slice y3 m y4] 24))
  replace OC := OC.keep (bnew w3' (.cells #[.slice y1 n y2, .slice y3 m y4] 24))
  replace I1 := I1.keep (bnew w3' (.cells #[.slice y1 n y2, .slice y3 m y4] 24))
  replace I2 := I2.keep (bnew w3' (.cells #[.slice y1 n y2, .slice y3 m y4] 24))
  replace I3 := I3.keep (bnew w3' (.cells #[.slice y1 n y2, .slice y3 m y4] 24))
  replace I4 := I4.keep (bnew w3' (.cells #[.slice y1 n y2, .slice y3 m y4] 24))
  replace O7 := O7.keep (bnew w3' (.cells #[.slice y1 n y2, .slice y3 m y4] 24))
  replace IX := IX.keep (bnew w3' (.cells #[.slice y1 n y2, .slice y3 m y4] 24))
  have O9 := OwnS.new w3' y1 n y2 y3 m y4 24
  replace HW := hide (bal (o := .cells #[.slice y1 n y2, .slice y3 m y4] 24) (unhide HW))
  generalize w3'.alloc (.cells #[.slice y1 n y2, .slice y3 m y4] 24) = w3 at *
  generalize w3'.heap.size = bO9 at *
  have hz := OS
  obtain ⟨_, s0, s1⟩ := hz
  have hz := O7
  obtain ⟨_, u0, u1, u2, u3⟩ := hz
  go_upto_region 11 with (go_at_call 12; refine (cloth0 (c1 := c1) (c2 := c2) I1 I2 IX rfl (unhide Hs) (unhide HP) (unhide HCS)).mono ?_; rintro e' w4' ⟨fb, z1, z2, rfl, IB, hb, hFB⟩)
  clear s0 s1 u0 u1 u2 u3
  replace OS := OS.keep hb
  replace OT := OT.keep hb
  replace OC := OC.keep hb
  replace I1 := I1.keep hb
  replace I2 := I2.keep hb
  replace I3 := I3.keep hb
  replace I4 := I4.keep hb
  replace O7 := O7.keep hb
  replace IX := IX.keep hb
  replace O9 := O9.keep hb
  replace HW := hide (btrans (unhide HW) hb)
  clear hb
  replace OS := OS.keep (bnew w4' (.cells #[.int .i64 n, .int .i64 m, .slice z1 (n * m) z2] 27))
  replace OT := OT.keep (bnew w4' (.cells #[.int .i64 n, .int .i64 m, .slice z1 (n * m) z2] 27))
  replace OC := OC.keep (bnew w4' (.cells #[.int .i64 n, .int .i64 m, .slice z1 (n * m) z2] 27))
  replace I1 := I1.keep (bnew w4' (.cells #[.int .i64 n, .int .i64 m, .slice z1 (n * m) z2] 27))
  replace I2 := I2.keep (bnew w4' (.cells #[.int .i64 n, .int .i64 m, .slice z1 (n * m) z2] 27))
  replace I3 := I3.keep (bnew w4' (.cells #[.int .i64 n, .int .i64 m, .slice z1 (n * m) z2] 27))
  replace I4 := I4.keep (bnew w4' (.cells #[.int .i64 n, .int .i64 m, .slice z1 (n * m) z2] 27))
  replace O7 := O7.keep (bnew w4' (.cells #[.int .i64 n, .int .i64 m, .slice z1 (n * m) z2] 27))
  replace IX := IX.keep (bnew w4' (.cells #[.int .i64 n, .int .i64 m, .slice z1 (n * m) z2] 27))
  replace O9 := O9.keep (bnew w4' (.cells #[.int .i64 n, .int .i64 m, .slice z1 (n * m) z2] 27))
  replace IB := IB.keep (bnew w4' (.cells #[.int .i64 n, .int .i64 m, .slice z1 (n * m) z2] 27))
  have O11 := T.OwnM.new w4' n m z1 (n * m) z2 27
  replace HW := hide (bal (o := .cells #[.int .i64 n, .int .i64 m, .slice z1 (n * m) z2] 27) (unhide HW))
  generalize w4'.alloc (.cells #[.int .i64 n, .int .i64 m, .slice z1 (n * m) z2] 27) = w4 at *
  generalize w4'.heap.size = bO11 at *
  have HFB := hide hFB
  clear hFB
  have hz := OS
  obtain ⟨_, s0, s1⟩ := hz
  have hz := O11
  obtain ⟨_, t0, t1, t2⟩ := hz
  go_upto_region 12 with (go_at_call 6; refine (shown0 (c1 := c1) (c2 := c2) I1 I2 IB (shE_ok (unhide Hs))).mono ?_; rintro e' w5' ⟨yy, y4', y6, rfl, IY, hb, hY⟩)
  clear s0 s1 t0 t1 t2
  replace OS := OS.keep hb
  replace OT := OT.keep hb
  replace OC := OC.keep hb
  replace I1 := I1.keep hb
  replace I2 := I2.keep hb
  replace I3 := I3.keep hb
  replace I4 := I4.keep hb
  replace O7 := O7.keep hb
  replace IX := IX.keep hb
  replace O9 := O9.keep hb
  replace O11 := O11.keep hb
  replace IB := IB.keep hb
  replace HW := hide (btrans (unhide HW) hb)
  clear hb
  replace OS := OS.keep (bnew w5' (.cells #[.int .i64 4, .int .i64 n, .int .i64 m, .slice y4' (n * m) y6] 29))
  replace OT := OT.keep (bnew w5' (.cells #[.int .i64 4, .int .i64 n, .int .i64 m, .slice y4' (n * m) y6] 29))
  replace OC := OC.keep (bnew w5' (.cells #[.int .i64 4, .int .i64 n, .int .i64 m, .slice y4' (n * m) y6] 29))
  replace I1 := I1.keep (bnew w5' (.cells #[.int .i64 4, .int .i64 n, .int .i64 m, .slice y4' (n * m) y6] 29))
  replace I2 := I2.keep (bnew w5' (.cells #[.int .i64 4, .int .i64 n, .int .i64 m, .slice y4' (n * m) y6] 29))
  replace I3 := I3.keep (bnew w5' (.cells #[.int .i64 4, .int .i64 n, .int .i64 m, .slice y4' (n * m) y6] 29))
  replace I4 := I4.keep (bnew w5' (.cells #[.int .i64 4, .int .i64 n, .int .i64 m, .slice y4' (n * m) y6] 29))
  replace O7 := O7.keep (bnew w5' (.cells #[.int .i64 4, .int .i64 n, .int .i64 m, .slice y4' (n * m) y6] 29))
  replace IX := IX.keep (bnew w5' (.cells #[.int .i64 4, .int .i64 n, .int .i64 m, .slice y4' (n * m) y6] 29))
  replace O9 := O9.keep (bnew w5' (.cells #[.int .i64 4, .int .i64 n, .int .i64 m, .slice y4' (n * m) y6] 29))
  replace O11 := O11.keep (bnew w5' (.cells #[.int .i64 4, .int .i64 n, .int .i64 m, .slice y4' (n * m) y6] 29))
  replace IB := IB.keep (bnew w5' (.cells #[.int .i64 4, .int .i64 n, .int .i64 m, .slice y4' (n * m) y6] 29))
  replace IY := IY.keep (bnew w5' (.cells #[.int .i64 4, .int .i64 n, .int .i64 m, .slice y4' (n * m) y6] 29))
  have O13 := OwnC.new w5' 4 n m y4' (n * m) y6 29
  replace HW := hide (bal (o := .cells #[.int .i64 4, .int .i64 n, .int .i64 m, .slice y4' (n * m) y6] 29) (unhide HW))
  generalize w5'.alloc (.cells #[.int .i64 4, .int .i64 n, .int .i64 m, .slice y4' (n * m) y6] 29) = w5 at *
  generalize w5'.heap.size = bO13 at *
  have HYX := hide (same_shown (unhide HX) (unhide HCS) (unhide HFB) hY)
  clear hY
  have Hnm := hide (show n * m ≤ 4096 from Nat.mul_le_mul n2 m2)
  have hz := O7
  obtain ⟨_, u0, u1, u2, u3⟩ := hz
  have hz := O13
  obtain ⟨_, v0, v1, v2, v3⟩ := hz
  go_upto_region 14 with (go_at_call 8; refine (samec_any 4 n m x4 (n * m) x6 y4' y6 xx yy _ (unhide Hnm) IX IY (unhide HYX)).mono ?_; rintro e' w6' ⟨rfl, hb⟩)
  clear u0 u1 u2 u3 v0 v1 v2 v3
  replace OS := OS.keep hb
  replace OT := OT.keep hb
  replace OC := OC.keep hb
  replace I1 := I1.keep hb
  replace I2 := I2.keep hb
  replace I3 := I3.keep hb
  replace I4 := I4.keep hb
  replace O7 := O7.keep hb
  replace IX := IX.keep hb
  replace O9 := O9.keep hb
  replace O11 := O11.keep hb
  replace IB := IB.keep hb
  replace O13 := O13.keep hb
  replace IY := IY.keep hb
  replace HW := hide (btrans (unhide HW) hb)
  clear hb
  clear IX IY IB O7 O9 O11 O13 HTX HGX HFB HYX HX HP HCS
  have hz := OC
  obtain ⟨_, o0, o1, o2, o3⟩ := hz
  go_upto_region 22 with (go_at_call 9; refine (string6 I4 (unhide He) (unhide HG)).mono ?_; rintro e' w7' ⟨r1, k1, d1, r2, k2, d2, rfl, hb⟩)
  clear o0 o1 o2 o3
  replace OS := OS.keep hb
  replace OT := OT.keep hb
  replace OC := OC.keep hb
  replace I1 := I1.keep hb
  replace I2 := I2.keep hb
  replace I3 := I3.keep hb
  replace I4 := I4.keep hb
  replace HW := hide (btrans (unhide HW) hb)
  clear hb
  replace OS := OS.keep (bnew w7' (.cells #[.slice r1 k1 d1, .slice r2 k2 d2] 24))
  replace OT := OT.keep (bnew w7' (.cells #[.slice r1 k1 d1, .slice r2 k2 d2] 24))
  replace OC := OC.keep (bnew w7' (.cells #[.slice r1 k1 d1, .slice r2 k2 d2] 24))
  replace I1 := I1.keep (bnew w7' (.cells #[.slice r1 k1 d1, .slice r2 k2 d2] 24))
  replace I2 := I2.keep (bnew w7' (.cells #[.slice r1 k1 d1, .slice r2 k2 d2] 24))
  replace I3 := I3.keep (bnew w7' (.cells #[.slice r1 k1 d1, .slice r2 k2 d2] 24))
  replace I4 := I4.keep (bnew w7' (.cells #[.slice r1 k1 d1, .slice r2 k2 d2] 24))
  have O15 := OwnS.new w7' r1 k1 d1 r2 k2 d2 24
  replace HW := hide (bal (o := .cells #[.slice r1 k1 d1, .slice r2 k2 d2] 24) (unhide HW))
  generalize w7'.alloc (.cells #[.slice r1 k1 d1, .slice r2 k2 d2] 24) = w7 at *
  generalize w7'.heap.size = bO15 at *
  have hz := OS
  obtain ⟨_, s0, s1⟩ := hz
  have hz := OC
  obtain ⟨_, o0, o1, o2, o3⟩ := hz
  have HN := hide (none_cloth (nc := nc) (n := n) (m := m) (e := e) (p := p) (unhide HG))
  go_wp2_with (go_at_call 12; refine (cloth1 (c1 := c1) (c2 := c2) I1 I2 I4 (unhide HN)).mono ?_; rintro e' wz ⟨er', u1, u2, u3, u4, u5, rfl, hne, hb⟩)
  go_ret
  exact ⟨rfl, bal (btrans (unhide HW) hb)⟩

set_option maxRecDepth 100000 in
set_option maxHeartbeats 4000000 in
theorem complete_B0 (q1 : Option Addr) (n c1 : Nat) (q2 : Option Addr) (m c2 : Nat) (e p : Nat → Int) (q3 : Option Addr) (nb c3 : Nat) (f : Nat → Bool) (a b : Nat) (q4 : Option Addr) (nc c4 : Nat) (px : Nat → Int) (W : World) (h1 : T.Is W q1 n e) (h2 : T.Is W q2 m p) (h3 : T.Bs W q3 nb c3 f) (h4 : T.Is W q4 nc px) (hs : sE n m e p = 0) (hnb : nb = n * m) (he : pE 4 a b nc px = 0) (f0 : Nat → Int) (hT0 : Tot (pic a b px) f0) (hG0 : Good (pic a b px) f0) :
    Calls Try.prog 4 #[sg q1 n c1 q2 m c2, T.tr n m q3 nb c3, Ch.ch 4 a b q4 nc c4] W fun e' w' => e' = .returned (.bool true) ∧ Below W.heap.size W w' := by
  have HW := hide (bal (o := .cells #[.int .i64 4, .int .i64 a, .int .i64 b, .slice q4 nc c4] 29) (bal (o := .cells #[.int .i64 n, .int .i64 m, .slice q3 nb c3] 27) (bnew W (.cells #[.slice q1 n c1, .slice q2 m c2] 24))))
  have OS := ((OwnS.new W q1 n c1 q2 m c2 24).keep (bnew _ (.cells #[.int .i64 n, .int .i64 m, .slice q3 nb c3] 27))).keep (bnew _ (.cells #[.int .i64 4, .int .i64 a, .int .i64 b, .slice q4 nc c4] 29))
  have OT := (T.OwnM.new (W.alloc (.cells #[.slice q1 n c1, .slice q2 m c2] 24)) n m q3 nb c3 27).keep (bnew _ (.cells #[.int .i64 4, .int .i64 a, .int .i64 b, .slice q4 nc c4] 29))
  have OC := OwnC.new ((W.alloc (.cells #[.slice q1 n c1, .slice q2 m c2] 24)).alloc (.cells #[.int .i64 n, .int .i64 m, .slice q3 nb c3] 27)) 4 a b q4 nc c4 29
  rw [World.size_alloc] at OT
  rw [World.size_alloc, World.size_alloc] at OC
  have I1 := h1.keep (unhide HW)
  have I2 := h2.keep (unhide HW)
  have I3 := h3.keep (unhide HW)
  have I4 := h4.keep (unhide HW)
  clear h1 h2 h3 h4
  have He := hide he
  clear he
  have HT0 := hide hT0
  have HG0 := hide hG0
  clear hT0 hG0
  have Hs := hide hs
  have Hnb := hide hnb
  clear hs hnb
  go_enter Try.func4, Try.ntmps4
  go_upto_region 3 with (go_at_call 15; refine (alive_any _).mono ?_; rintro e' w1' ⟨rfl, hb⟩)
  replace OS := OS.keep hb
  replace OT := OT.keep hb
  replace OC := OC.keep hb
  replace I1 := I1.keep hb
  replace I2 := I2.keep hb
  replace I3 := I3.keep hb
  replace I4 := I4.keep hb
  replace HW := hide (btrans (unhide HW) hb)
  clear hb
  have hz := OS
  obtain ⟨_, s0, s1⟩ := hz
  have hz := OT
  obtain ⟨_, t0, t1, t2⟩ := hz
  go_upto_region 5 with (go_at_call 6; refine (shown0 (c1 := c1) (c2 := c2) I1 I2 I3 (by rw [unhide Hnb]; exact shE_ok (unhide Hs))).mono ?_; rintro e' w2' ⟨xx, x4, x6, rfl, IX, hb, hX⟩)
  clear s0 s1 t0 t1 t2
  replace OS := OS.keep hb
  replace OT := OT.keep hb
  replace OC := OC.keep hb
  replace I1 := I1.keep hb
  replace I2 := I2.keep hb
  replace I3 := I3.keep hb
  replace I4 := I4.keep hb
  replace HW := hide (btrans (unhide HW) hb)
  clear hb
  replace OS := OS.keep (bnew w2' (.cells #[.int .i64 4, .int .i64 n, .int .i64 m, .slice x4 (n * m) x6] 29))
  replace OT := OT.keep (bnew w2' (.cells #[.int .i64 4, .int .i64 n, .int .i64 m, .slice x4 (n * m) x6] 29))
  replace OC := OC.keep (bnew w2' (.cells #[.int .i64 4, .int .i64 n, .int .i64 m, .slice x4 (n * m) x6] 29))
  replace I1 := I1.keep (bnew w2' (.cells #[.int .i64 4, .int .i64 n, .int .i64 m, .slice x4 (n * m) x6] 29))
  replace I2 := I2.keep (bnew w2' (.cells #[.int .i64 4, .int .i64 n, .int .i64 m, .slice x4 (n * m) x6] 29))
  replace I3 := I3.keep (bnew w2' (.cells #[.int .i64 4, .int .i64 n, .int .i64 m, .slice x4 (n * m) x6] 29))
  replace I4 := I4.keep (bnew w2' (.cells #[.int .i64 4, .int .i64 n, .int .i64 m, .slice x4 (n * m) x6] 29))
  replace IX := IX.keep (bnew w2' (.cells #[.int .i64 4, .int .i64 n, .int .i64 m, .slice x4 (n * m) x6] 29))
  have O7 := OwnC.new w2' 4 n m x4 (n * m) x6 29
  replace HW := hide (bal (o := .cells #[.int .i64 4, .int .i64 n, .int .i64 m, .slice x4 (n * m) x6] 29) (unhide HW))
  generalize w2'.alloc (.cells #[.int .i64 4, .int .i64 n, .int .i64 m, .slice x4 (n * m) x6] 29) = w2 at *
  generalize w2'.heap.size = bO7 at *
  obtain ⟨hP, hCS⟩ := shw_picture (unhide Hs) hX
  have HP := hide hP
  have HCS := hide hCS
  have HX := hide hX
  clear hP hCS hX
  obtain ⟨⟨n1, n2⟩, ⟨m1, m2⟩, s3, s4⟩ := sE_zero (unhide Hs)
  have HTX := hide (show Tot (pic n m xx) (thr n e p) from thr_tot s3 s4)
  have HGX := hide (show Good (pic n m xx) (thr n e p) from cs_good (unhide HCS))
  clear s3 s4
  have hz := O7
  obtain ⟨_, u0, u1, u2, u3⟩ := hz
  go_upto_region 8 with (go_at_call 9; refine (string0 IX (unhide HP) (unhide HTX) (unhide HGX)).mono ?_; rintro e' w3' ⟨F7, y1, y2, y3, y4, rfl, -, -, hb, -⟩)
  clear u0 u1 u2 u3
  replace OS := OS.keep hb
  replace OT := OT.keep hb
  replace OC := OC.keep hb
  replace I1 := I1.keep hb
  replace I2 := I2.keep hb
  replace I3 := I3.keep hb
  replace I4 := I4.keep hb
  replace O7 := O7.keep hb
  replace IX := IX.keep hb
  replace HW := hide (btrans (unhide HW) hb)
  clear hb
  replace OS := OS.keep (bnew w3' (.cells #[.slice y1 n y2, .slice y3 m y4] 24))
  replace OT := OT.keep (bnew w3' (.cells #[.slice y1 n y2, .slice y3 m y4] 24))
  replace OC := OC.keep (bnew w3' (.cells #[.slice y1 n y2, .slice y3 m y4] 24))
  replace I1 := I1.keep (bnew w3' (.cells #[.slice y1 n y2, .slice y3 m y4] 24))
  replace I2 := I2.keep (bnew w3' (.cells #[.slice y1 n y2, .slice y3 m y4] 24))
  replace I3 := I3.keep (bnew w3' (.cells #[.slice y1 n y2, .slice y3 m y4] 24))
  replace I4 := I4.keep (bnew w3' (.cells #[.slice y1 n y2, .slice y3 m y4] 24))
  replace O7 := O7.keep (bnew w3' (.cells #[.slice y1 n y2, .slice y3 m y4] 24))
  replace IX := IX.keep (bnew w3' (.cells #[.slice y1 n y2, .slice y3 m y4] 24))
  have O9 := OwnS.new w3' y1 n y2 y3 m y4 24
  replace HW := hide (bal (o := .cells #[.slice y1 n y2, .slice y3 m y4] 24) (unhide HW))
  generalize w3'.alloc (.cells #[.slice y1 n y2, .slice y3 m y4] 24) = w3 at *
  generalize w3'.heap.size = bO9 at *
  have hz := OS
  obtain ⟨_, s0, s1⟩ := hz
  have hz := O7
  obtain ⟨_, u0, u1, u2, u3⟩ := hz
  go_upto_region 11 with (go_at_call 12; refine (cloth0 (c1 := c1) (c2 := c2) I1 I2 IX rfl (unhide Hs) (unhide HP) (unhide HCS)).mono ?_; rintro e' w4' ⟨fb, z1, z2, rfl, IB, hb, hFB⟩)
  clear s0 s1 u0 u1 u2 u3
  replace OS := OS.keep hb
  replace OT := OT.keep hb
  replace OC := OC.keep hb
  replace I1 := I1.keep hb
  replace I2 := I2.keep hb
  replace I3 := I3.keep hb
  replace I4 := I4.keep hb
  replace O7 := O7.keep hb
  replace IX := IX.keep hb
  replace O9 := O9.keep hb
  replace HW := hide (btrans (unhide HW) hb)
  clear hb
  replace OS := OS.keep (bnew w4' (.cells #[.int .i64 n, .int .i64 m, .slice z1 (n * m) z2] 27))
  replace OT := OT.keep (bnew w4' (.cells #[.int .i64 n, .int .i64 m, .slice z1 (n * m) z2] 27))
  replace OC := OC.keep (bnew w4' (.cells #[.int .i64 n, .int .i64 m, .slice z1 (n * m) z2] 27))
  replace I1 := I1.keep (bnew w4' (.cells #[.int .i64 n, .int .i64 m, .slice z1 (n * m) z2] 27))
  replace I2 := I2.keep (bnew w4' (.cells #[.int .i64 n, .int .i64 m, .slice z1 (n * m) z2] 27))
  replace I3 := I3.keep (bnew w4' (.cells #[.int .i64 n, .int .i64 m, .slice z1 (n * m) z2] 27))
  replace I4 := I4.keep (bnew w4' (.cells #[.int .i64 n, .int .i64 m, .slice z1 (n * m) z2] 27))
  replace O7 := O7.keep (bnew w4' (.cells #[.int .i64 n, .int .i64 m, .slice z1 (n * m) z2] 27))
  replace IX := IX.keep (bnew w4' (.cells #[.int .i64 n, .int .i64 m, .slice z1 (n * m) z2] 27))
  replace O9 := O9.keep (bnew w4' (.cells #[.int .i64 n, .int .i64 m, .slice z1 (n * m) z2] 27))
  replace IB := IB.keep (bnew w4' (.cells #[.int .i64 n, .int .i64 m, .slice z1 (n * m) z2] 27))
  have O11 := T.OwnM.new w4' n m z1 (n * m) z2 27
  replace HW := hide (bal (o := .cells #[.int .i64 n, .int .i64 m, .slice z1 (n * m) z2] 27) (unhide HW))
  generalize w4'.alloc (.cells #[.int .i64 n, .int .i64 m, .slice z1 (n * m) z2] 27) = w4 at *
  generalize w4'.heap.size = bO11 at *
  have HFB := hide hFB
  clear hFB
  have hz := OS
  obtain ⟨_, s0, s1⟩ := hz
  have hz := O11
  obtain ⟨_, t0, t1, t2⟩ := hz
  go_upto_region 12 with (go_at_call 6; refine (shown0 (c1 := c1) (c2 := c2) I1 I2 IB (shE_ok (unhide Hs))).mono ?_; rintro e' w5' ⟨yy, y4', y6, rfl, IY, hb, hY⟩)
  clear s0 s1 t0 t1 t2
  replace OS := OS.keep hb
  replace OT := OT.keep hb
  replace OC := OC.keep hb
  replace I1 := I1.keep hb
  replace I2 := I2.keep hb
  replace I3 := I3.keep hb
  replace I4 := I4.keep hb
  replace O7 := O7.keep hb
  replace IX := IX.keep hb
  replace O9 := O9.keep hb
  replace O11 := O11.keep hb
  replace IB := IB.keep hb
  replace HW := hide (btrans (unhide HW) hb)
  clear hb
  replace OS := OS.keep (bnew w5' (.cells #[.int .i64 4, .int .i64 n, .int .i64 m, .slice y4' (n * m) y6] 29))
  replace OT := OT.keep (bnew w5' (.cells #[.int .i64 4, .int .i64 n, .int .i64 m, .slice y4' (n * m) y6] 29))
  replace OC := OC.keep (bnew w5' (.cells #[.int .i64 4, .int .i64 n, .int .i64 m, .slice y4' (n * m) y6] 29))
  replace I1 := I1.keep (bnew w5' (.cells #[.int .i64 4, .int .i64 n, .int .i64 m, .slice y4' (n * m) y6] 29))
  replace I2 := I2.keep (bnew w5' (.cells #[.int .i64 4, .int .i64 n, .int .i64 m, .slice y4' (n * m) y6] 29))
  replace I3 := I3.keep (bnew w5' (.cells #[.int .i64 4, .int .i64 n, .int .i64 m, .slice y4' (n * m) y6] 29))
  replace I4 := I4.keep (bnew w5' (.cells #[.int .i64 4, .int .i64 n, .int .i64 m, .slice y4' (n * m) y6] 29))
  replace O7 := O7.keep (bnew w5' (.cells #[.int .i64 4, .int .i64 n, .int .i64 m, .slice y4' (n * m) y6] 29))
  replace IX := IX.keep (bnew w5' (.cells #[.int .i64 4, .int .i64 n, .int .i64 m, .slice y4' (n * m) y6] 29))
  replace O9 := O9.keep (bnew w5' (.cells #[.int .i64 4, .int .i64 n, .int .i64 m, .slice y4' (n * m) y6] 29))
  replace O11 := O11.keep (bnew w5' (.cells #[.int .i64 4, .int .i64 n, .int .i64 m, .slice y4' (n * m) y6] 29))
  replace IB := IB.keep (bnew w5' (.cells #[.int .i64 4, .int .i64 n, .int .i64 m, .slice y4' (n * m) y6] 29))
  replace IY := IY.keep (bnew w5' (.cells #[.int .i64 4, .int .i64 n, .int .i64 m, .slice y4' (n * m) y6] 29))
  have O13 := OwnC.new w5' 4 n m y4' (n * m) y6 29
  replace HW := hide (bal (o := .cells #[.int .i64 4, .int .i64 n, .int .i64 m, .slice y4' (n * m) y6] 29) (unhide HW))
  generalize w5'.alloc (.cells #[.int .i64 4, .int .i64 n, .int .i64 m, .slice y4' (n * m) y6] 29) = w5 at *
  generalize w5'.heap.size = bO13 at *
  have HYX := hide (same_shown (unhide HX) (unhide HCS) (unhide HFB) hY)
  clear hY
  have Hnm := hide (show n * m ≤ 4096 from Nat.mul_le_mul n2 m2)
  have hz := O7
  obtain ⟨_, u0, u1, u2, u3⟩ := hz
  have hz := O13
  obtain ⟨_, v0, v1, v2, v3⟩ := hz
  go_upto_region 14 with (go_at_call 8; refine (samec_any 4 n m x4 (n * m) x6 y4' y6 xx yy _ (unhide Hnm) IX IY (unhide HYX)).mono ?_; rintro e' w6' ⟨rfl, hb⟩)
  clear u0 u1 u2 u3 v0 v1 v2 v3
  replace OS := OS.keep hb
  replace OT := OT.keep hb
  replace OC := OC.keep hb
  replace I1 := I1.keep hb
  replace I2 := I2.keep hb
  replace I3 := I3.keep hb
  replace I4 := I4.keep hb
  replace O7 := O7.keep hb
  replace IX := IX.keep hb
  replace O9 := O9.keep hb
  replace O11 := O11.keep hb
  replace IB := IB.keep hb
  replace O13 := O13.keep hb
  replace IY := IY.keep hb
  replace HW := hide (btrans (unhide HW) hb)
  clear hb
  clear IX IY IB O7 O9 O11 O13 HTX HGX HFB HYX HX HP HCS
  have hz := OC
  obtain ⟨_, o0, o1, o2, o3⟩ := hz
  go_upto_region 16 with (go_at_call 9; refine (string0 I4 (unhide He) (unhide HT0) (unhide HG0)).mono ?_; rintro e' w7' ⟨F, r1, d1, r2, d2, rfl, J1, J2, hb, hF⟩)
  clear o0 o1 o2 o3
  replace OS := OS.keep hb
  replace OT := OT.keep hb
  replace OC := OC.keep hb
  replace I1 := I1.keep hb
  replace I2 := I2.keep hb
  replace I3 := I3.keep hb
  replace I4 := I4.keep hb
  replace HW := hide (btrans (unhide HW) hb)
  clear hb
  replace OS := OS.keep (bnew w7' (.cells #[.slice r1 a d1, .slice r2 b d2] 24))
  replace OT := OT.keep (bnew w7' (.cells #[.slice r1 a d1, .slice r2 b d2] 24))
  replace OC := OC.keep (bnew w7' (.cells #[.slice r1 a d1, .slice r2 b d2] 24))
  replace I1 := I1.keep (bnew w7' (.cells #[.slice r1 a d1, .slice r2 b d2] 24))
  replace I2 := I2.keep (bnew w7' (.cells #[.slice r1 a d1, .slice r2 b d2] 24))
  replace I3 := I3.keep (bnew w7' (.cells #[.slice r1 a d1, .slice r2 b d2] 24))
  replace I4 := I4.keep (bnew w7' (.cells #[.slice r1 a d1, .slice r2 b d2] 24))
  replace J1 := J1.keep (bnew w7' (.cells #[.slice r1 a d1, .slice r2 b d2] 24))
  replace J2 := J2.keep (bnew w7' (.cells #[.slice r1 a d1, .slice r2 b d2] 24))
  have O15 := OwnS.new w7' r1 a d1 r2 b d2 24
  replace HW := hide (bal (o := .cells #[.slice r1 a d1, .slice r2 b d2] 24) (unhide HW))
  generalize w7'.alloc (.cells #[.slice r1 a d1, .slice r2 b d2] 24) = w7 at *
  generalize w7'.heap.size = bO15 at *
  obtain ⟨hz1, hz2, hz3⟩ := first_right (unhide He) hF
  have HS2 := hide hz1
  have HN2 := hide hz2
  have HC2 := hide hz3
  clear hz1 hz2 hz3 hF
  have hz := O15
  obtain ⟨_, s0, s1⟩ := hz
  have hz := OC
  obtain ⟨_, o0, o1, o2, o3⟩ := hz
  go_upto_region 19 with (go_at_call 12; refine (cloth0 (c1 := d1) (c2 := d2) J1 J2 I4 (unhide HN2) (unhide HS2) (unhide He) (unhide HC2)).mono ?_; rintro e' w8' ⟨fb', k1, k2, rfl, IB2, hb, hFB⟩)
  clear s0 s1 o0 o1 o2 o3
  replace OS := OS.keep hb
  replace OT := OT.keep hb
  replace OC := OC.keep hb
  replace I1 := I1.keep hb
  replace I2 := I2.keep hb
  replace I3 := I3.keep hb
  replace I4 := I4.keep hb
  replace O15 := O15.keep hb
  replace J1 := J1.keep hb
  replace J2 := J2.keep hb
  replace HW := hide (btrans (unhide HW) hb)
  clear hb
  replace OS := OS.keep (bnew w8' (.cells #[.int .i64 a, .int .i64 b, .slice k1 (a * b) k2] 27))
  replace OT := OT.keep (bnew w8' (.cells #[.int .i64 a, .int .i64 b, .slice k1 (a * b) k2] 27))
  replace OC := OC.keep (bnew w8' (.cells #[.int .i64 a, .int .i64 b, .slice k1 (a * b) k2] 27))
  replace I1 := I1.keep (bnew w8' (.cells #[.int .i64 a, .int .i64 b, .slice k1 (a * b) k2] 27))
  replace I2 := I2.keep (bnew w8' (.cells #[.int .i64 a, .int .i64 b, .slice k1 (a * b) k2] 27))
  replace I3 := I3.keep (bnew w8' (.cells #[.int .i64 a, .int .i64 b, .slice k1 (a * b) k2] 27))
  replace I4 := I4.keep (bnew w8' (.cells #[.int .i64 a, .int .i64 b, .slice k1 (a * b) k2] 27))
  replace O15 := O15.keep (bnew w8' (.cells #[.int .i64 a, .int .i64 b, .slice k1 (a * b) k2] 27))
  replace J1 := J1.keep (bnew w8' (.cells #[.int .i64 a, .int .i64 b, .slice k1 (a * b) k2] 27))
  replace J2 := J2.keep (bnew w8' (.cells #[.int .i64 a, .int .i64 b, .slice k1 (a * b) k2] 27))
  replace IB2 := IB2.keep (bnew w8' (.cells #[.int .i64 a, .int .i64 b, .slice k1 (a * b) k2] 27))
  have O17 := T.OwnM.new w8' a b k1 (a * b) k2 27
  replace HW := hide (bal (o := .cells #[.int .i64 a, .int .i64 b, .slice k1 (a * b) k2] 27) (unhide HW))
  generalize w8'.alloc (.cells #[.int .i64 a, .int .i64 b, .slice k1 (a * b) k2] 27) = w8 at *
  generalize w8'.heap.size = bO17 at *
  have HFB2 := hide hFB
  clear hFB
  have hz := O15
  obtain ⟨_, s0, s1⟩ := hz
  have hz := O17
  obtain ⟨_, t0, t1, t2⟩ := hz
  go_upto_region 20 with (go_at_call 6; refine (shown0 (c1 := d1) (c2 := d2) J1 J2 IB2 (shE_ok (unhide HS2))).mono ?_; rintro e' w9' ⟨zz, k4, k6, rfl, IZ, hb, hZ⟩)
  clear s0 s1 t0 t1 t2
  replace OS := OS.keep hb
  replace OT := OT.keep hb
  replace OC := OC.keep hb
  replace I1 := I1.keep hb
  replace I2 := I2.keep hb
  replace I3 := I3.keep hb
  replace I4 := I4.keep hb
  replace O15 := O15.keep hb
  replace J1 := J1.keep hb
  replace J2 := J2.keep hb
  replace O17 := O17.keep hb
  replace IB2 := IB2.keep hb
  replace HW := hide (btrans (unhide HW) hb)
  clear hb
  replace OS := OS.keep (bnew w9' (.cells #[.int .i64 4, .int .i64 a, .int .i64 b, .slice k4 (a * b) k6] 29))
  replace OT := OT.keep (bnew w9' (.cells #[.int .i64 4, .int .i64 a, .int .i64 b, .slice k4 (a * b) k6] 29))
  replace OC := OC.keep (bnew w9' (.cells #[.int .i64 4, .int .i64 a, .int .i64 b, .slice k4 (a * b) k6] 29))
  replace I1 := I1.keep (bnew w9' (.cells #[.int .i64 4, .int .i64 a, .int .i64 b, .slice k4 (a * b) k6] 29))
  replace I2 := I2.keep (bnew w9' (.cells #[.int .i64 4, .int .i64 a, .int .i64 b, .slice k4 (a * b) k6] 29))
  replace I3 := I3.keep (bnew w9' (.cells #[.int .i64 4, .int .i64 a, .int .i64 b, .slice k4 (a * b) k6] 29))
  replace I4 := I4.keep (bnew w9' (.cells #[.int .i64 4, .int .i64 a, .int .i64 b, .slice k4 (a * b) k6] 29))
  replace O15 := O15.keep (bnew w9' (.cells #[.int .i64 4, .int .i64 a, .int .i64 b, .slice k4 (a * b) k6] 29))
  replace J1 := J1.keep (bnew w9' (.cells #[.int .i64 4, .int .i64 a, .int .i64 b, .slice k4 (a * b) k6] 29))
  replace J2 := J2.keep (bnew w9' (.cells #[.int .i64 4, .int .i64 a, .int .i64 b, .slice k4 (a * b) k6] 29))
  replace O17 := O17.keep (bnew w9' (.cells #[.int .i64 4, .int .i64 a, .int .i64 b, .slice k4 (a * b) k6] 29))
  replace IB2 := IB2.keep (bnew w9' (.cells #[.int .i64 4, .int .i64 a, .int .i64 b, .slice k4 (a * b) k6] 29))
  replace IZ := IZ.keep (bnew w9' (.cells #[.int .i64 4, .int .i64 a, .int .i64 b, .slice k4 (a * b) k6] 29))
  have O19 := OwnC.new w9' 4 a b k4 (a * b) k6 29
  replace HW := hide (bal (o := .cells #[.int .i64 4, .int .i64 a, .int .i64 b, .slice k4 (a * b) k6] 29) (unhide HW))
  generalize w9'.alloc (.cells #[.int .i64 4, .int .i64 a, .int .i64 b, .slice k4 (a * b) k6] 29) = w9 at *
  generalize w9'.heap.size = bO19 at *
  have HZX := hide (cloth_shown (unhide HC2) (unhide HFB2) hZ)
  clear hZ
  obtain ⟨⟨a1, a2⟩, ⟨b1, b2⟩, -, -⟩ := sE_zero (unhide HS2)
  have Hab := hide (show nc ≤ 4096 by rw [unhide HN2]; exact Nat.mul_le_mul a2 b2)
  have HN3 := unhide HN2
  subst HN3
  clear HN2
  have hz := OC
  obtain ⟨_, o0, o1, o2, o3⟩ := hz
  have hz := O19
  obtain ⟨_, v0, v1, v2, v3⟩ := hz
  go_wp2_with (go_at_call 8; refine (samec_any 4 a b q4 (a * b) c4 k4 k6 px zz _ (unhide Hab) I4 IZ (unhide HZX)).mono ?_; rintro e' wz ⟨rfl, hb⟩)
  go_ret
  exact ⟨rfl, btrans (unhide HW) hb⟩

end Go.Proofs.Ytbmgjoocpbikkaa
