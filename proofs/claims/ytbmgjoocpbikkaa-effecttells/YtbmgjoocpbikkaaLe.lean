/-
  EffectTells, of anything.
-/
import Derived.Test.YtbmgjoocpbikkaaRG
import Derived.Test.YtbmgjoocpbikkaaRS
import Derived.Test.YtbmgjoocpbikkaaRC
namespace Go.Proofs.Ytbmgjoocpbikkaa
open Go.RowKit

theorem rstring_any (g w h : Int) (p : Option Addr) (n cap : Nat) (px : Nat → Int) (W : World) (hI : T.Is W p n px) : Calls Try.prog 10 #[Ch.ch g w h p n cap] W (StP g w h n px W) := by
  by_cases ht : Ch.wE g w h n px = 0
  · by_cases hg : g = 4
    · subst hg
      have he : pE 4 w h n px = 0 := by unfold pE; rw [if_pos ht, if_pos rfl]
      obtain ⟨_, hw, hh, _, _⟩ := pE_zero he
      obtain ⟨a, rfl⟩ := Int.eq_ofNat_of_zero_le (show 0 ≤ w by omega)
      obtain ⟨b, rfl⟩ := Int.eq_ofNat_of_zero_le (show 0 ≤ h by omega)
      exact rstring_ok a b p n cap px W hI he
    · exact rstring_grid g w h p n cap px W hI ht hg
  · exact rstring_wrong g w h p n cap px W hI ht
theorem ShR.one {n m : Nat} {e p : Nat → Int} {w h : Int} {nb : Nat} {f : Nat → Bool} {er g1 w1 h1 er' g1' w1' h1' : Int} {k k' : Nat} {px px' : Nat → Int} (a : ShR n m e p w h nb f er g1 w1 h1 k px) (b : ShR n m e p w h nb f er' g1' w1' h1' k' px') :
    er = er' ∧ g1 = g1' ∧ w1 = w1' ∧ h1 = h1' ∧ k = k' ∧ (∀ j, j < k → px j = px' j) ∧ k ≤ 4096 := by
  rcases a with ⟨a0, a1, a2, a3, a4, a5⟩ | ⟨a0, a1, a2, a3, a4, a5, a6⟩
  · rcases b with ⟨b0, b1, b2, b3, b4, b5⟩ | ⟨b0, _⟩
    · exact ⟨by rw [a1, b1], by omega, by omega, by omega, by omega, fun j hj => by omega, by omega⟩
    · exact absurd b0 a0
  · rcases b with ⟨b0, _⟩ | ⟨b0, b1, b2, b3, b4, b5, b6⟩
    · exact absurd a0 b0
    · obtain ⟨⟨_, n2⟩, ⟨_, m2⟩, _, _⟩ := sE_zero (shE_zero a0).1
      exact ⟨by omega, by omega, by omega, by omega, by rw [a5, b5], fun j hj => by rw [a6 j hj, b6 j (by rw [b5, ← a5]; exact hj)], by rw [a5]; exact Nat.mul_le_mul n2 m2⟩
theorem ClR.one {n m : Nat} {e p : Nat → Int} {g w h : Int} {nc : Nat} {px : Nat → Int} {er w1 h1 er' w1' h1' : Int} {k k' : Nat} {f f' : Nat → Bool} (a : ClR n m e p g w h nc px er w1 h1 k f) (b : ClR n m e p g w h nc px er' w1' h1' k' f') :
    er = er' ∧ w1 = w1' ∧ h1 = h1' ∧ k = k' ∧ (∀ j, j < k → f j = f' j) ∧ k ≤ 4096 := by
  rcases a with ⟨a0, a1, a2, a3, a4⟩ | ⟨a0, a⟩
  · rcases b with ⟨b0, b1, b2, b3, b4⟩ | ⟨b0, _⟩
    · exact ⟨by rw [a1, b1], by omega, by omega, by omega, fun j hj => by omega, by omega⟩
    · exact absurd b0 a0
  · rcases b with ⟨b0, _⟩ | ⟨_, b⟩
    · exact absurd a0 b0
    · rcases a with ⟨a1, a2, a3, a4, a5, a6⟩ | ⟨a1, a2, a3, a4, a5⟩
      · rcases b with ⟨b1, b2, b3, b4, b5, _⟩ | ⟨_, _, _, _, b5⟩
        · obtain ⟨⟨_, n2⟩, ⟨_, m2⟩, _, _⟩ := sE_zero (clE_zero a0).1
          exact ⟨by omega, by omega, by omega, by rw [a4, b4], fun j hj => by rw [a5 j hj, b5 j (by rw [b4, ← a4]; exact hj)], by rw [a4]; exact Nat.mul_le_mul n2 m2⟩
        · exact absurd a6 b5
      · rcases b with ⟨_, _, _, _, _, b6⟩ | ⟨b1, b2, b3, b4, _⟩
        · exact absurd b6 a5
        · exact ⟨by omega, by omega, by omega, by omega, fun j hj => by omega, by omega⟩
theorem StrR.few {g w h : Int} {n : Nat} {px : Nat → Int} {er : Int} {k1 k2 : Nat} {f : Nat → Int} (a : StrR g w h n px er k1 k2 f) : k1 ≤ 4096 ∧ k2 ≤ 4096 := by
  rcases a with ⟨_, _, a2, a3⟩ | ⟨a0, ⟨_, a2, a3, _⟩ | ⟨_, a2, a3, _⟩⟩
  · omega
  · obtain ⟨_, hw, hh, _, _⟩ := pE_zero a0
    omega
  · omega

set_option maxRecDepth 100000 in
set_option maxHeartbeats 4000000 in
theorem tells_any (q1 : Option Addr) (n c1 : Nat) (q2 : Option Addr) (m c2 : Nat) (e p : Nat → Int) (tw th : Int) (q3 : Option Addr) (nb c3 : Nat) (f : Nat → Bool) (g w h : Int) (q4 : Option Addr) (nc c4 : Nat) (px : Nat → Int) (W : World) (h1 : T.Is W q1 n e) (h2 : T.Is W q2 m p) (h3 : T.Bs W q3 nb c3 f) (h4 : T.Is W q4 nc px) :
    Calls Try.prog 3 #[sg q1 n c1 q2 m c2, T.tr tw th q3 nb c3, Ch.ch g w h q4 nc c4] W fun e' w' => e' = .returned (.bool true) ∧ Below W.heap.size W w' := by
  have HW := hide (bal (o := .cells #[.int .i64 g, .int .i64 w, .int .i64 h, .slice q4 nc c4] 29) (bal (o := .cells #[.int .i64 tw, .int .i64 th, .slice q3 nb c3] 27) (bnew W (.cells #[.slice q1 n c1, .slice q2 m c2] 24))))
  have OS := ((OwnS.new W q1 n c1 q2 m c2 24).keep (bnew _ (.cells #[.int .i64 tw, .int .i64 th, .slice q3 nb c3] 27))).keep (bnew _ (.cells #[.int .i64 g, .int .i64 w, .int .i64 h, .slice q4 nc c4] 29))
  have OT := (T.OwnM.new (W.alloc (.cells #[.slice q1 n c1, .slice q2 m c2] 24)) tw th q3 nb c3 27).keep (bnew _ (.cells #[.int .i64 g, .int .i64 w, .int .i64 h, .slice q4 nc c4] 29))
  have OC := OwnC.new ((W.alloc (.cells #[.slice q1 n c1, .slice q2 m c2] 24)).alloc (.cells #[.int .i64 tw, .int .i64 th, .slice q3 nb c3] 27)) g w h q4 nc c4 29
  rw [World.size_alloc] at OT
  rw [World.size_alloc, World.size_alloc] at OC
  have I1 := h1.keep (unhide HW)
  have I2 := h2.keep (unhide HW)
  have I3 := h3.keep (unhide HW)
  have I4 := h4.keep (unhide HW)
  clear h1 h2 h3 h4
  go_enter Try.func3, Try.ntmps3
  go_upto_region 1 with fail
  generalize ((W.alloc (.cells #[.slice q1 n c1, .slice q2 m c2] 24)).alloc (.cells #[.int .i64 tw, .int .i64 th, .slice q3 nb c3] 27)).alloc (.cells #[.int .i64 g, .int .i64 w, .int .i64 h, .slice q4 nc c4] 29) = wq at *
  have hz := OS
  obtain ⟨_, s0, s1⟩ := hz
  have hz := OT
  obtain ⟨_, t0, t1, t2⟩ := hz
  go_upto_region 2 with (go_at_call 6; refine (shown_any q1 n c1 q2 m c2 e p tw th q3 nb c3 f _ I1 I2 I3).mono ?_; rintro e' w1' ⟨er, g1, x1, y1, k1, xx, z1, d1, rfl, IX, hb, hR⟩)
  clear s0 s1 t0 t1 t2
  replace OS := OS.keep hb
  replace OT := OT.keep hb
  replace OC := OC.keep hb
  replace I1 := I1.keep hb
  replace I2 := I2.keep hb
  replace I3 := I3.keep hb
  replace I4 := I4.keep hb
  replace HW := hide (btrans (unhide HW) hb)
  clear hb
  replace OS := OS.keep (bnew w1' (.cells #[.int .i64 g1, .int .i64 x1, .int .i64 y1, .slice z1 k1 d1] 29))
  replace OT := OT.keep (bnew w1' (.cells #[.int .i64 g1, .int .i64 x1, .int .i64 y1, .slice z1 k1 d1] 29))
  replace OC := OC.keep (bnew w1' (.cells #[.int .i64 g1, .int .i64 x1, .int .i64 y1, .slice z1 k1 d1] 29))
  replace I1 := I1.keep (bnew w1' (.cells #[.int .i64 g1, .int .i64 x1, .int .i64 y1, .slice z1 k1 d1] 29))
  replace I2 := I2.keep (bnew w1' (.cells #[.int .i64 g1, .int .i64 x1, .int .i64 y1, .slice z1 k1 d1] 29))
  replace I3 := I3.keep (bnew w1' (.cells #[.int .i64 g1, .int .i64 x1, .int .i64 y1, .slice z1 k1 d1] 29))
  replace I4 := I4.keep (bnew w1' (.cells #[.int .i64 g1, .int .i64 x1, .int .i64 y1, .slice z1 k1 d1] 29))
  replace IX := IX.keep (bnew w1' (.cells #[.int .i64 g1, .int .i64 x1, .int .i64 y1, .slice z1 k1 d1] 29))
  have OA1 := OwnC.new w1' g1 x1 y1 z1 k1 d1 29
  replace HW := hide (bal (o := .cells #[.int .i64 g1, .int .i64 x1, .int .i64 y1, .slice z1 k1 d1] 29) (unhide HW))
  generalize w1'.alloc (.cells #[.int .i64 g1, .int .i64 x1, .int .i64 y1, .slice z1 k1 d1] 29) = w1 at *
  generalize w1'.heap.size = bOA1 at *
  have hz := OS
  obtain ⟨_, s0, s1⟩ := hz
  have hz := OT
  obtain ⟨_, t0, t1, t2⟩ := hz
  go_upto_region 3 with (go_at_call 7; refine (rshown_any q1 n c1 q2 m c2 e p tw th q3 nb c3 f _ I1 I2 I3).mono ?_; rintro e' w2' ⟨er', g1', x1', y1', k1', yy, z1', d1', rfl, IY, hb, hR'⟩)
  clear s0 s1 t0 t1 t2
  replace OS := OS.keep hb
  replace OT := OT.keep hb
  replace OC := OC.keep hb
  replace I1 := I1.keep hb
  replace I2 := I2.keep hb
  replace I3 := I3.keep hb
  replace I4 := I4.keep hb
  replace OA1 := OA1.keep hb
  replace IX := IX.keep hb
  replace HW := hide (btrans (unhide HW) hb)
  clear hb
  replace OS := OS.keep (bnew w2' (.cells #[.int .i64 g1', .int .i64 x1', .int .i64 y1', .slice z1' k1' d1'] 29))
  replace OT := OT.keep (bnew w2' (.cells #[.int .i64 g1', .int .i64 x1', .int .i64 y1', .slice z1' k1' d1'] 29))
  replace OC := OC.keep (bnew w2' (.cells #[.int .i64 g1', .int .i64 x1', .int .i64 y1', .slice z1' k1' d1'] 29))
  replace I1 := I1.keep (bnew w2' (.cells #[.int .i64 g1', .int .i64 x1', .int .i64 y1', .slice z1' k1' d1'] 29))
  replace I2 := I2.keep (bnew w2' (.cells #[.int .i64 g1', .int .i64 x1', .int .i64 y1', .slice z1' k1' d1'] 29))
  replace I3 := I3.keep (bnew w2' (.cells #[.int .i64 g1', .int .i64 x1', .int .i64 y1', .slice z1' k1' d1'] 29))
  replace I4 := I4.keep (bnew w2' (.cells #[.int .i64 g1', .int .i64 x1', .int .i64 y1', .slice z1' k1' d1'] 29))
  replace OA1 := OA1.keep (bnew w2' (.cells #[.int .i64 g1', .int .i64 x1', .int .i64 y1', .slice z1' k1' d1'] 29))
  replace IX := IX.keep (bnew w2' (.cells #[.int .i64 g1', .int .i64 x1', .int .i64 y1', .slice z1' k1' d1'] 29))
  replace IY := IY.keep (bnew w2' (.cells #[.int .i64 g1', .int .i64 x1', .int .i64 y1', .slice z1' k1' d1'] 29))
  have OB1 := OwnC.new w2' g1' x1' y1' z1' k1' d1' 29
  replace HW := hide (bal (o := .cells #[.int .i64 g1', .int .i64 x1', .int .i64 y1', .slice z1' k1' d1'] 29) (unhide HW))
  generalize w2'.alloc (.cells #[.int .i64 g1', .int .i64 x1', .int .i64 y1', .slice z1' k1' d1'] 29) = w2 at *
  generalize w2'.heap.size = bOB1 at *
  obtain ⟨ee, e1, e2, e3, e4, hxy, hk4⟩ := ShR.one hR hR'
  subst ee e1 e2 e3 e4
  have HXY := hide hxy
  have HK4 := hide hk4
  clear hR hR' hxy hk4
  have hee : (er != er) = false := by simp
  have hz := OA1
  obtain ⟨_, u0, u1, u2, u3⟩ := hz
  have hz := OB1
  obtain ⟨_, v0, v1, v2, v3⟩ := hz
  go_upto_region 5 with (go_at_call 8; refine (samec_any g1 x1 y1 z1 k1 d1 z1' d1' xx yy _ (unhide HK4) IX IY (unhide HXY)).mono ?_; rintro e' w3' ⟨rfl, hb⟩)
  clear u0 u1 u2 u3 v0 v1 v2 v3
  replace OS := OS.keep hb
  replace OT := OT.keep hb
  replace OC := OC.keep hb
  replace I1 := I1.keep hb
  replace I2 := I2.keep hb
  replace I3 := I3.keep hb
  replace I4 := I4.keep hb
  replace OA1 := OA1.keep hb
  replace IX := IX.keep hb
  replace OB1 := OB1.keep hb
  replace IY := IY.keep hb
  replace HW := hide (btrans (unhide HW) hb)
  clear hb
  clear IX IY OA1 OB1 HXY HK4 hee
  have hw9 := True.intro
  clear hw9
  have hz := OC
  obtain ⟨_, o0, o1, o2, o3⟩ := hz
  go_upto_region 6 with (go_at_call 9; refine (string_any g w h q4 nc c4 px _ I4).mono ?_; rintro e' w4' ⟨er2, k1, k2, fa, z1, d1, z2, d2, rfl, IXa, IXb, hb, hR⟩)
  clear o0 o1 o2 o3
  replace OS := OS.keep hb
  replace OT := OT.keep hb
  replace OC := OC.keep hb
  replace I1 := I1.keep hb
  replace I2 := I2.keep hb
  replace I3 := I3.keep hb
  replace I4 := I4.keep hb
  replace HW := hide (btrans (unhide HW) hb)
  clear hb
  replace OS := OS.keep (bnew w4' (.cells #[.slice z1 k1 d1, .slice z2 k2 d2] 24))
  replace OT := OT.keep (bnew w4' (.cells #[.slice z1 k1 d1, .slice z2 k2 d2] 24))
  replace OC := OC.keep (bnew w4' (.cells #[.slice z1 k1 d1, .slice z2 k2 d2] 24))
  replace I1 := I1.keep (bnew w4' (.cells #[.slice z1 k1 d1, .slice z2 k2 d2] 24))
  replace I2 := I2.keep (bnew w4' (.cells #[.slice z1 k1 d1, .slice z2 k2 d2] 24))
  replace I3 := I3.keep (bnew w4' (.cells #[.slice z1 k1 d1, .slice z2 k2 d2] 24))
  replace I4 := I4.keep (bnew w4' (.cells #[.slice z1 k1 d1, .slice z2 k2 d2] 24))
  replace IXa := IXa.keep (bnew w4' (.cells #[.slice z1 k1 d1, .slice z2 k2 d2] 24))
  replace IXb := IXb.keep (bnew w4' (.cells #[.slice z1 k1 d1, .slice z2 k2 d2] 24))
  have OA2 := OwnS.new w4' z1 k1 d1 z2 k2 d2 24
  replace HW := hide (bal (o := .cells #[.slice z1 k1 d1, .slice z2 k2 d2] 24) (unhide HW))
  generalize w4'.alloc (.cells #[.slice z1 k1 d1, .slice z2 k2 d2] 24) = w4 at *
  generalize w4'.heap.size = bOA2 at *
  have hz := OC
  obtain ⟨_, o0, o1, o2, o3⟩ := hz
  go_upto_region 7 with (go_at_call 10; refine (rstring_any g w h q4 nc c4 px _ I4).mono ?_; rintro e' w5' ⟨er2', k1', k2', fa', z1', d1', z2', d2', rfl, IYa, IYb, hb, hR'⟩)
  clear o0 o1 o2 o3
  replace OS := OS.keep hb
  replace OT := OT.keep hb
  replace OC := OC.keep hb
  replace I1 := I1.keep hb
  replace I2 := I2.keep hb
  replace I3 := I3.keep hb
  replace I4 := I4.keep hb
  replace OA2 := OA2.keep hb
  replace IXa := IXa.keep hb
  replace IXb := IXb.keep hb
  replace HW := hide (btrans (unhide HW) hb)
  clear hb
  replace OS := OS.keep (bnew w5' (.cells #[.slice z1' k1' d1', .slice z2' k2' d2'] 24))
  replace OT := OT.keep (bnew w5' (.cells #[.slice z1' k1' d1', .slice z2' k2' d2'] 24))
  replace OC := OC.keep (bnew w5' (.cells #[.slice z1' k1' d1', .slice z2' k2' d2'] 24))
  replace I1 := I1.keep (bnew w5' (.cells #[.slice z1' k1' d1', .slice z2' k2' d2'] 24))
  replace I2 := I2.keep (bnew w5' (.cells #[.slice z1' k1' d1', .slice z2' k2' d2'] 24))
  replace I3 := I3.keep (bnew w5' (.cells #[.slice z1' k1' d1', .slice z2' k2' d2'] 24))
  replace I4 := I4.keep (bnew w5' (.cells #[.slice z1' k1' d1', .slice z2' k2' d2'] 24))
  replace OA2 := OA2.keep (bnew w5' (.cells #[.slice z1' k1' d1', .slice z2' k2' d2'] 24))
  replace IXa := IXa.keep (bnew w5' (.cells #[.slice z1' k1' d1', .slice z2' k2' d2'] 24))
  replace IXb := IXb.keep (bnew w5' (.cells #[.slice z1' k1' d1', .slice z2' k2' d2'] 24))
  replace IYa := IYa.keep (bnew w5' (.cells #[.slice z1' k1' d1', .slice z2' k2' d2'] 24))
  replace IYb := IYb.keep (bnew w5' (.cells #[.slice z1' k1' d1', .slice z2' k2' d2'] 24))
  have OB2 := OwnS.new w5' z1' k1' d1' z2' k2' d2' 24
  replace HW := hide (bal (o := .cells #[.slice z1' k1' d1', .slice z2' k2' d2'] 24) (unhide HW))
  generalize w5'.alloc (.cells #[.slice z1' k1' d1', .slice z2' k2' d2'] 24) = w5 at *
  generalize w5'.heap.size = bOB2 at *
  obtain ⟨ee, e1, e2, hxy⟩ := StrR.one hR hR'
  subst ee e1 e2
  have HF1 := hide (fun j (hj : j < k1) => hxy j (by omega))
  have HF2 := hide (fun j (hj : j < k2) => hxy (k1 + j) (by omega))
  have HK := hide hR.few
  clear hR hR' hxy
  have hee : (er2 != er2) = false := by simp
  have hz := OA2
  obtain ⟨_, u0, u1⟩ := hz
  have hz := OB2
  obtain ⟨_, v0, v1⟩ := hz
  go_upto_region 9 with (go_at_call 11; refine (sames_any z1 k1 d1 z2 k2 d2 z1' d1' z2' d2' fa fa' _ _ _ (unhide HK).1 (unhide HK).2 IXa IYa IXb IYb (unhide HF1) (unhide HF2)).mono ?_; rintro e' w6' ⟨rfl, hb⟩)
  clear u0 u1 v0 v1
  replace OS := OS.keep hb
  replace OT := OT.keep hb
  replace OC := OC.keep hb
  replace I1 := I1.keep hb
  replace I2 := I2.keep hb
  replace I3 := I3.keep hb
  replace I4 := I4.keep hb
  replace OA2 := OA2.keep hb
  replace IXa := IXa.keep hb
  replace IXb := IXb.keep hb
  replace OB2 := OB2.keep hb
  replace IYa := IYa.keep hb
  replace IYb := IYb.keep hb
  replace HW := hide (btrans (unhide HW) hb)
  clear hb
  clear IXa IXb IYa IYb OA2 OB2 HF1 HF2 HK hee
  have hz := OS
  obtain ⟨_, s0, s1⟩ := hz
  have hz := OC
  obtain ⟨_, o0, o1, o2, o3⟩ := hz
  go_upto_region 10 with (go_at_call 12; refine (cloth_any q1 n c1 q2 m c2 e p g w h q4 nc c4 px _ I1 I2 I4).mono ?_; rintro e' w7' ⟨er3, x1, y1, k1, xx, z1, d1, rfl, IX, hb, hR⟩)
  clear s0 s1 o0 o1 o2 o3
  replace OS := OS.keep hb
  replace OT := OT.keep hb
  replace OC := OC.keep hb
  replace I1 := I1.keep hb
  replace I2 := I2.keep hb
  replace I3 := I3.keep hb
  replace I4 := I4.keep hb
  replace HW := hide (btrans (unhide HW) hb)
  clear hb
  replace OS := OS.keep (bnew w7' (.cells #[.int .i64 x1, .int .i64 y1, .slice z1 k1 d1] 27))
  replace OT := OT.keep (bnew w7' (.cells #[.int .i64 x1, .int .i64 y1, .slice z1 k1 d1] 27))
  replace OC := OC.keep (bnew w7' (.cells #[.int .i64 x1, .int .i64 y1, .slice z1 k1 d1] 27))
  replace I1 := I1.keep (bnew w7' (.cells #[.int .i64 x1, .int .i64 y1, .slice z1 k1 d1] 27))
  replace I2 := I2.keep (bnew w7' (.cells #[.int .i64 x1, .int .i64 y1, .slice z1 k1 d1] 27))
  replace I3 := I3.keep (bnew w7' (.cells #[.int .i64 x1, .int .i64 y1, .slice z1 k1 d1] 27))
  replace I4 := I4.keep (bnew w7' (.cells #[.int .i64 x1, .int .i64 y1, .slice z1 k1 d1] 27))
  replace IX := IX.keep (bnew w7' (.cells #[.int .i64 x1, .int .i64 y1, .slice z1 k1 d1] 27))
  have OA3 := T.OwnM.new w7' x1 y1 z1 k1 d1 27
  replace HW := hide (bal (o := .cells #[.int .i64 x1, .int .i64 y1, .slice z1 k1 d1] 27) (unhide HW))
  generalize w7'.alloc (.cells #[.int .i64 x1, .int .i64 y1, .slice z1 k1 d1] 27) = w7 at *
  generalize w7'.heap.size = bOA3 at *
  have hz := OS
  obtain ⟨_, s0, s1⟩ := hz
  have hz := OC
  obtain ⟨_, o0, o1, o2, o3⟩ := hz
  go_upto_region 11 with (go_at_call 13; refine (rcloth_any q1 n c1 q2 m c2 e p g w h q4 nc c4 px _ I1 I2 I4).mono ?_; rintro e' w8' ⟨er3', x1', y1', k1', yy, z1', d1', rfl, IY, hb, hR'⟩)
  clear s0 s1 o0 o1 o2 o3
  replace OS := OS.keep hb
  replace OT := OT.keep hb
  replace OC := OC.keep hb
  replace I1 := I1.keep hb
  replace I2 := I2.keep hb
  replace I3 := I3.keep hb
  replace I4 := I4.keep hb
  replace OA3 := OA3.keep hb
  replace IX := IX.keep hb
  replace HW := hide (btrans (unhide HW) hb)
  clear hb
  replace OS := OS.keep (bnew w8' (.cells #[.int .i64 x1', .int .i64 y1', .slice z1' k1' d1'] 27))
  replace OT := OT.keep (bnew w8' (.cells #[.int .i64 x1', .int .i64 y1', .slice z1' k1' d1'] 27))
  replace OC := OC.keep (bnew w8' (.cells #[.int .i64 x1', .int .i64 y1', .slice z1' k1' d1'] 27))
  replace I1 := I1.keep (bnew w8' (.cells #[.int .i64 x1', .int .i64 y1', .slice z1' k1' d1'] 27))
  replace I2 := I2.keep (bnew w8' (.cells #[.int .i64 x1', .int .i64 y1', .slice z1' k1' d1'] 27))
  replace I3 := I3.keep (bnew w8' (.cells #[.int .i64 x1', .int .i64 y1', .slice z1' k1' d1'] 27))
  replace I4 := I4.keep (bnew w8' (.cells #[.int .i64 x1', .int .i64 y1', .slice z1' k1' d1'] 27))
  replace OA3 := OA3.keep (bnew w8' (.cells #[.int .i64 x1', .int .i64 y1', .slice z1' k1' d1'] 27))
  replace IX := IX.keep (bnew w8' (.cells #[.int .i64 x1', .int .i64 y1', .slice z1' k1' d1'] 27))
  replace IY := IY.keep (bnew w8' (.cells #[.int .i64 x1', .int .i64 y1', .slice z1' k1' d1'] 27))
  have OB3 := T.OwnM.new w8' x1' y1' z1' k1' d1' 27
  replace HW := hide (bal (o := .cells #[.int .i64 x1', .int .i64 y1', .slice z1' k1' d1'] 27) (unhide HW))
  generalize w8'.alloc (.cells #[.int .i64 x1', .int .i64 y1', .slice z1' k1' d1'] 27) = w8 at *
  generalize w8'.heap.size = bOB3 at *
  obtain ⟨ee, e1, e2, e4, hxy, hk4⟩ := ClR.one hR hR'
  subst ee e1 e2 e4
  have HXY := hide hxy
  have HK4 := hide hk4
  clear hR hR' hxy hk4
  have hee : (er3 == er3) = true := by simp
  have hz := OA3
  obtain ⟨_, u0, u1, u2⟩ := hz
  have hz := OB3
  obtain ⟨_, v0, v1, v2⟩ := hz
  go_wp2_with (go_at_call 14; refine (T.same_any x1 y1 z1 k1 d1 xx z1' d1' yy _ (unhide HK4) IX IY (unhide HXY)).mono ?_; rintro e' wz ⟨rfl, hb⟩)
  go_ret
  exact ⟨rfl, btrans (unhide HW) hb⟩
end Go.Proofs.Ytbmgjoocpbikkaa
