/-
  EffectComplete, its ways (where the threads and truths do not go together).
-/
import Derived.Test.YtbmgjoocpbikkaaLm
namespace Go.Proofs.Ytbmgjoocpbikkaa
open Go.RowKit

/-- a cloth made of what is seen shows it again -/
theorem cloth_shown {n m : Nat} {e p px zz : Nat → Int} {fb : Nat → Bool} (hc : ∀ j, j < n * m → CS n e p px j) (hf : ∀ j, j < n * m → fb j = (px j == e (j % n))) (hz : ∀ j, j < n * m → zz j = shw n e p fb j) : ∀ j, j < n * m → px j = zz j := by
  intro j hj
  rw [hz j hj]
  unfold shw
  rw [hf j hj]
  by_cases q : px j = e (j % n)
  · rw [if_pos (by simpa using q)]; exact q
  · rw [if_neg (by simpa using q)]
    rcases hc j hj with r | r
    · exact absurd r.symm q
    · exact r.symm
theorem same_shown {n m : Nat} {e p px zz : Nat → Int} {f fb : Nat → Bool} (_ : ∀ j, j < n * m → px j = shw n e p f j) (hc : ∀ j, j < n * m → CS n e p px j) (hf : ∀ j, j < n * m → fb j = (px j == e (j % n))) (hz : ∀ j, j < n * m → zz j = shw n e p fb j) : ∀ j, j < n * m → px j = zz j := cloth_shown hc hf hz
/-- where no threads show a picture there is no cloth -/
theorem none_cloth {n m a b nc : Nat} {e p px : Nat → Int} (hG : ∀ f, Tot (pic a b px) f → ¬ Good (pic a b px) f) : clE n m e p 4 a b nc px = 0 → ¬ ∀ j, j < n * m → CS n e p px j := by
  intro h0 hc
  obtain ⟨k1, k2, k3, k4⟩ := clE_zero h0
  obtain rfl : a = n := by omega
  obtain rfl : b = m := by omega
  obtain ⟨_, _, s3, s4⟩ := sE_zero k1
  exact hG _ (thr_tot s3 s4) (cs_good hc)
/-- the first threads are right, and show it -/
theorem first_right {a b nc : Nat} {px F : Nat → Int} (he : pE 4 a b nc px = 0) (hF : First (pic a b px) F) : sE a b F (fun y => F (a + y)) = 0 ∧ nc = a * b ∧ ∀ j, j < a * b → CS a F (fun y => F (a + y)) px j := by
  obtain ⟨_, hw, hh, hn, _⟩ := pE_zero he
  have ht : ∀ s, s < a + b → 0 ≤ F s ∧ F s ≤ 61 := hF.1
  have all : ∀ (g : Nat → Int) (k : Nat), (∀ j, j < k → 0 ≤ g j ∧ g j ≤ 61) → Ch.allin g k = true := by
    intro g k
    induction k with
    | zero => intro _; rfl
    | succ k ih =>
      intro h
      have := h k (by omega)
      simp [Ch.allin, ih (fun j hj => h j (by omega))]
      omega
  refine ⟨?_, by rw [← Int.natCast_mul] at hn; exact Int.ofNat.inj hn, good_cs hF.2.1 (fun _ _ => rfl) (fun _ _ => rfl)⟩
  unfold sE
  rw [if_pos (by simp [Ch.sw]; omega), if_pos (by rw [all F a (fun j hj => ht j (by omega)), all _ b (fun j hj => ht (a + j) (by omega))]; rfl)]

set_option maxRecDepth 100000 in
set_option maxHeartbeats 4000000 in
theorem complete_AX (q1 : Option Addr) (n c1 : Nat) (q2 : Option Addr) (m c2 : Nat) (e p : Nat → Int) (tw th : Int) (q3 : Option Addr) (nb c3 : Nat) (f : Nat → Bool) (g w h : Int) (q4 : Option Addr) (nc c4 : Nat) (px : Nat → Int) (W : World) (h1 : T.Is W q1 n e) (h2 : T.Is W q2 m p) (h3 : T.Bs W q3 nb c3 f) (h4 : T.Is W q4 nc px) (hs : shE n m e p tw th nb ≠ 0) (he : pE g w h nc px ≠ 0) :
    Calls Try.prog 4 #[sg q1 n c1 q2 m c2, T.tr tw th q3 nb c3, Ch.ch g w h q4 nc c4] W fun e' w' => e' = .returned (.bool true) ∧ Below W.heap.size W w' := by
  have HW := hide (bal (o := .cells #[.int .i64 g, .int .i64 w, .int .i64 h, .slice q4 nc c4] 29) (bal (o := .cells #[.int .i64 tw, .int .i64 th, .slice q3 nb c3] 27) (bnew W (.cells #[.slice q1 n c1, .slice q2 m c2] 24))))
  have OS := ((OwnS.new W q1 n c1 q2 m c2 24).keep (bnew _ (.cells #[.int .i64 tw, .int .i64 th, .slice q3 nb c3] 27))).keep (bnew _ (.cells #[.int .i64 g, .int .i64 w, .int .i64 h, .slice q4 nc c4] 29))
  have OT := (T.OwnM.new (W.alloc (.cells #[.slice q1 n c1, .slice q2 m c2] 24)) tw th q3 nb c3 27).keep (bnew _ (.cells #[.int .i64 g, .int .i64 w, .int .i64 h, .slice q4 nc c4] 29))
  have OC := OwnC.new ((W.alloc (.cells #[.slice q1 n c1, .slice q2 m c2] 24)).alloc (.cells #[.int .i64 tw, .int .i64 th, .slice q3 nb c3] 27)) g w h q4 nc c4 29
  rw [World.size_alloc] at OT
  rw [World.size_alloc, World.size_alloc] at OC
  have I1 := h1.keep (unhide HW)
  have I2 := h2.keep (unhide HW)
  have I3 := h3.keep (unhide HW)
  have I4 := h4.keep (unhide HW)
  clear h1 h2 h3 h4
  have He := hide he
  clear he
  have Hs := hide hs
  clear hs
  go_enter Try.func4, Try.ntmps4
  go_upto_region 3 with (go_at_call 15; refine (alive_any _).mono ?_; rintro e' w1' ⟨rfl, hb⟩)
  replace OS := OS.keep hb
  replace OT := OT.keep hb
  replace OC := OC.keep hb
  replace I1 := I1.keep hb
  replace I2 := I2.keep hb
  replace I3 := I3.keep hb
  replace I4 := I4.keep hb
  replace HW := hide (btrans (unhide HW) hb)
  clear hb
  have hz := OS
  obtain ⟨_, s0, s1⟩ := hz
  have hz := OT
  obtain ⟨_, t0, t1, t2⟩ := hz
  go_upto_region 14 with (go_at_call 6; refine (shown1 (c1 := c1) (c2 := c2) I1 I2 I3 (unhide Hs)).mono ?_; rintro e' w2' ⟨er, x1, x2, x3, x4, x5, x6, rfl, hne, heq, hb⟩)
  clear s0 s1 t0 t1 t2
  replace OS := OS.keep hb
  replace OT := OT.keep hb
  replace OC := OC.keep hb
  replace I1 := I1.keep hb
  replace I2 := I2.keep hb
  replace I3 := I3.keep hb
  replace I4 := I4.keep hb
  replace HW := hide (btrans (unhide HW) hb)
  clear hb
  replace OS := OS.keep (bnew w2' (.cells #[.int .i64 x1, .int .i64 x2, .int .i64 x3, .slice x4 x5 x6] 29))
  replace OT := OT.keep (bnew w2' (.cells #[.int .i64 x1, .int .i64 x2, .int .i64 x3, .slice x4 x5 x6] 29))
  replace OC := OC.keep (bnew w2' (.cells #[.int .i64 x1, .int .i64 x2, .int .i64 x3, .slice x4 x5 x6] 29))
  replace I1 := I1.keep (bnew w2' (.cells #[.int .i64 x1, .int .i64 x2, .int .i64 x3, .slice x4 x5 x6] 29))
  replace I2 := I2.keep (bnew w2' (.cells #[.int .i64 x1, .int .i64 x2, .int .i64 x3, .slice x4 x5 x6] 29))
  replace I3 := I3.keep (bnew w2' (.cells #[.int .i64 x1, .int .i64 x2, .int .i64 x3, .slice x4 x5 x6] 29))
  replace I4 := I4.keep (bnew w2' (.cells #[.int .i64 x1, .int .i64 x2, .int .i64 x3, .slice x4 x5 x6] 29))
  have O7 := OwnC.new w2' x1 x2 x3 x4 x5 x6 29
  replace HW := hide (bal (o := .cells #[.int .i64 x1, .int .i64 x2, .int .i64 x3, .slice x4 x5 x6] 29) (unhide HW))
  generalize w2'.alloc (.cells #[.int .i64 x1, .int .i64 x2, .int .i64 x3, .slice x4 x5 x6] 29) = w2 at *
  generalize w2'.heap.size = bO7 at *
  clear hne heq
  have hz := OC
  obtain ⟨_, o0, o1, o2, o3⟩ := hz
  go_wp2_with (go_at_call 9; refine (stringX I4 (unhide He)).mono ?_; rintro e' wz ⟨er', r1, k1, d1, r2, k2, d2, rfl, hne, heq, h6, hb⟩)
  go_ret
  exact ⟨rfl, bal (btrans (unhide HW) hb)⟩

set_option maxRecDepth 100000 in
set_option maxHeartbeats 4000000 in
theorem complete_A6 (q1 : Option Addr) (n c1 : Nat) (q2 : Option Addr) (m c2 : Nat) (e p : Nat → Int) (tw th : Int) (q3 : Option Addr) (nb c3 : Nat) (f : Nat → Bool) (a b : Nat) (q4 : Option Addr) (nc c4 : Nat) (px : Nat → Int) (W : World) (h1 : T.Is W q1 n e) (h2 : T.Is W q2 m p) (h3 : T.Bs W q3 nb c3 f) (h4 : T.Is W q4 nc px) (hs : shE n m e p tw th nb ≠ 0) (he : pE 4 a b nc px = 0) (hG : ∀ f, Tot (pic a b px) f → ¬ Good (pic a b px) f) :
    Calls Try.prog 4 #[sg q1 n c1 q2 m c2, T.tr tw th q3 nb c3, Ch.ch 4 a b q4 nc c4] W fun e' w' => e' = .returned (.bool true) ∧ Below W.heap.size W w' := by
  have HW := hide (bal (o := .cells #[.int .i64 4, .int .i64 a, .int .i64 b, .slice q4 nc c4] 29) (bal (o := .cells #[.int .i64 tw, .int .i64 th, .slice q3 nb c3] 27) (bnew W (.cells #[.slice q1 n c1, .slice q2 m c2] 24))))
  have OS := ((OwnS.new W q1 n c1 q2 m c2 24).keep (bnew _ (.cells #[.int .i64 tw, .int .i64 th, .slice q3 nb c3] 27))).keep (bnew _ (.cells #[.int .i64 4, .int .i64 a, .int .i64 b, .slice q4 nc c4] 29))
  have OT := (T.OwnM.new (W.alloc (.cells #[.slice q1 n c1, .slice q2 m c2] 24)) tw th q3 nb c3 27).keep (bnew _ (.cells #[.int .i64 4, .int .i64 a, .int .i64 b, .slice q4 nc c4] 29))
  have OC := OwnC.new ((W.alloc (.cells #[.slice q1 n c1, .slice q2 m c2] 24)).alloc (.cells #[.int .i64 tw, .int .i64 th, .slice q3 nb c3] 27)) 4 a b q4 nc c4 29
  rw [World.size_alloc] at OT
  rw [World.size_alloc, World.size_alloc] at OC
  have I1 := h1.keep (unhide HW)
  have I2 := h2.keep (unhide HW)
  have I3 := h3.keep (unhide HW)
  have I4 := h4.keep (unhide HW)
  clear h1 h2 h3 h4
  have He := hide he
  clear he
  have HG := hide hG
  clear hG
  have Hs := hide hs
  clear hs
  go_enter Try.func4, Try.ntmps4
  go_upto_region 3 with (go_at_call 15; refine (alive_any _).mono ?_; rintro e' w1' ⟨rfl, hb⟩)
  replace OS := OS.keep hb
  replace OT := OT.keep hb
  replace OC := OC.keep hb
  replace I1 := I1.keep hb
  replace I2 := I2.keep hb
  replace I3 := I3.keep hb
  replace I4 := I4.keep hb
  replace HW := hide (btrans (unhide HW) hb)
  clear hb
  have hz := OS
  obtain ⟨_, s0, s1⟩ := hz
  have hz := OT
  obtain ⟨_, t0, t1, t2⟩ := hz
  go_upto_region 14 with (go_at_call 6; refine (shown1 (c1 := c1) (c2 := c2) I1 I2 I3 (unhide Hs)).mono ?_; rintro e' w2' ⟨er, x1, x2, x3, x4, x5, x6, rfl, hne, heq, hb⟩)
  clear s0 s1 t0 t1 t2
  replace OS := OS.keep hb
  replace OT := OT.keep hb
  replace OC := OC.keep hb
  replace I1 := I1.keep hb
  replace I2 := I2.keep hb
  replace I3 := I3.keep hb
  replace I4 := I4.keep hb
  replace HW := hide (btrans (unhide HW) hb)
  clear hb
  replace OS := OS.keep (bnew w2' (.cells #[.int .i64 x1, .int .i64 x2, .int .i64 x3, .slice x4 x5 x6] 29))
  replace OT := OT.keep (bnew w2' (.cells #[.int .i64 x1, .int .i64 x2, .int .i64 x3, .slice x4 x5 x6] 29))
  replace OC := OC.keep (bnew w2' (.cells #[.int .i64 x1, .int .i64 x2, .int .i64 x3, .slice x4 x5 x6] 29))
  replace I1 := I1.keep (bnew w2' (.cells #[.int .i64 x1, .int .i64 x2, .int .i64 x3, .slice x4 x5 x6] 29))
  replace I2 := I2.keep (bnew w2' (.cells #[.int .i64 x1, .int .i64 x2, .int .i64 x3, .slice x4 x5 x6] 29))
  replace I3 := I3.keep (bnew w2' (.cells #[.int .i64 x1, .int .i64 x2, .int .i64 x3, .slice x4 x5 x6] 29))
  replace I4 := I4.keep (bnew w2' (.cells #[.int .i64 x1, .int .i64 x2, .int .i64 x3, .slice x4 x5 x6] 29))
  have O7 := OwnC.new w2' x1 x2 x3 x4 x5 x6 29
  replace HW := hide (bal (o := .cells #[.int .i64 x1, .int .i64 x2, .int .i64 x3, .slice x4 x5 x6] 29) (unhide HW))
  generalize w2'.alloc (.cells #[.int .i64 x1, .int .i64 x2, .int .i64 x3, .slice x4 x5 x6] 29) = w2 at *
  generalize w2'.heap.size = bO7 at *
  clear hne heq
  have hz := OC
  obtain ⟨_, o0, o1, o2, o3⟩ := hz
  go_upto_region 22 with (go_at_call 9; refine (string6 I4 (unhide He) (unhide HG)).mono ?_; rintro e' w3' ⟨r1, k1, d1, r2, k2, d2, rfl, hb⟩)
  clear o0 o1 o2 o3
  replace OS := OS.keep hb
  replace OT := OT.keep hb
  replace OC := OC.keep hb
  replace I1 := I1.keep hb
  replace I2 := I2.keep hb
  replace I3 := I3.keep hb
  replace I4 := I4.keep hb
  replace O7 := O7.keep hb
  replace HW := hide (btrans (unhide HW) hb)
  clear hb
  replace OS := OS.keep (bnew w3' (.cells #[.slice r1 k1 d1, .slice r2 k2 d2] 24))
  replace OT := OT.keep (bnew w3' (.cells #[.slice r1 k1 d1, .slice r2 k2 d2] 24))
  replace OC := OC.keep (bnew w3' (.cells #[.slice r1 k1 d1, .slice r2 k2 d2] 24))
  replace I1 := I1.keep (bnew w3' (.cells #[.slice r1 k1 d1, .slice r2 k2 d2] 24))
  replace I2 := I2.keep (bnew w3' (.cells #[.slice r1 k1 d1, .slice r2 k2 d2] 24))
  replace I3 := I3.keep (bnew w3' (.cells #[.slice r1 k1 d1, .slice r2 k2 d2] 24))
  replace I4 := I4.keep (bnew w3' (.cells #[.slice r1 k1 d1, .slice r2 k2 d2] 24))
  replace O7 := O7.keep (bnew w3' (.cells #[.slice r1 k1 d1, .slice r2 k2 d2] 24))
  have O15 := OwnS.new w3' r1 k1 d1 r2 k2 d2 24
  replace HW := hide (bal (o := .cells #[.slice r1 k1 d1, .slice r2 k2 d2] 24) (unhide HW))
  generalize w3'.alloc (.cells #[.slice r1 k1 d1, .slice r2 k2 d2] 24) = w3 at *
  generalize w3'.heap.size = bO15 at *
  have hz := OS
  obtain ⟨_, s0, s1⟩ := hz
  have hz := OC
  obtain ⟨_, o0, o1, o2, o3⟩ := hz
  have HN := hide (none_cloth (nc := nc) (n := n) (m := m) (e := e) (p := p) (unhide HG))
  go_wp2_with (go_at_call 12; refine (cloth1 (c1 := c1) (c2 := c2) I1 I2 I4 (unhide HN)).mono ?_; rintro e' wz ⟨er', u1, u2, u3, u4, u5, rfl, hne, hb⟩)
  go_ret
  exact ⟨rfl, bal (btrans (unhide HW) hb)⟩

set_option maxRecDepth 100000 in
set_option maxHeartbeats 4000000 in
theorem complete_A0 (q1 : Option Addr) (n c1 : Nat) (q2 : Option Addr) (m c2 : Nat) (e p : Nat → Int) (tw th : Int) (q3 : Option Addr) (nb c3 : Nat) (f : Nat → Bool) (a b : Nat) (q4 : Option Addr) (nc c4 : Nat) (px : Nat → Int) (W : World) (h1 : T.Is W q1 n e) (h2 : T.Is W q2 m p) (h3 : T.Bs W q3 nb c3 f) (h4 : T.Is W q4 nc px) (hs : shE n m e p tw th nb ≠ 0) (he : pE 4 a b nc px = 0) (f0 : Nat → Int) (hT0 : Tot (pic a b px) f0) (hG0 : Good (pic a b px) f0) :
    Calls Try.prog 4 #[sg q1 n c1 q2 m c2, T.tr tw th q3 nb c3, Ch.ch 4 a b q4 nc c4] W fun e' w' => e' = .returned (.bool true) ∧ Below W.heap.size W w' := by
  have HW := hide (bal (o := .cells #[.int .i64 4, .int .i64 a, .int .i64 b, .slice q4 nc c4] 29) (bal (o := .cells #[.int .i64 tw, .int .i64 th, .slice q3 nb c3] 27) (bnew W (.cells #[.slice q1 n c1, .slice q2 m c2] 24))))
  have OS := ((OwnS.new W q1 n c1 q2 m c2 24).keep (bnew _ (.cells #[.int .i64 tw, .int .i64 th, .slice q3 nb c3] 27))).keep (bnew _ (.cells #[.int .i64 4, .int .i64 a, .int .i64 b, .slice q4 nc c4] 29))
  have OT := (T.OwnM.new (W.alloc (.cells #[.slice q1 n c1, .slice q2 m c2] 24)) tw th q3 nb c3 27).keep (bnew _ (.cells #[.int .i64 4, .int .i64 a, .int .i64 b, .slice q4 nc c4] 29))
  have OC := OwnC.new ((W.alloc (.cells #[.slice q1 n c1, .slice q2 m c2] 24)).alloc (.cells #[.int .i64 tw, .int .i64 th, .slice q3 nb c3] 27)) 4 a b q4 nc c4 29
  rw [World.size_alloc] at OT
  rw [World.size_alloc, World.size_alloc] at OC
  have I1 := h1.keep (unhide HW)
  have I2 := h2.keep (unhide HW)
  have I3 := h3.keep (unhide HW)
  have I4 := h4.keep (unhide HW)
  clear h1 h2 h3 h4
  have He := hide he
  clear he
  have HT0 := hide hT0
  have HG0 := hide hG0
  clear hT0 hG0
  have Hs := hide hs
  clear hs
  go_enter Try.func4, Try.ntmps4
  go_upto_region 3 with (go_at_call 15; refine (alive_any _).mono ?_; rintro e' w1' ⟨rfl, hb⟩)
  replace OS := OS.keep hb
  replace OT := OT.keep hb
  replace OC := OC.keep hb
  replace I1 := I1.keep hb
  replace I2 := I2.keep hb
  replace I3 := I3.keep hb
  replace I4 := I4.keep hb
  replace HW := hide (btrans (unhide HW) hb)
  clear hb
  have hz := OS
  obtain ⟨_, s0, s1⟩ := hz
  have hz := OT
  obtain ⟨_, t0, t1, t2⟩ := hz
  go_upto_region 14 with (go_at_call 6; refine (shown1 (c1 := c1) (c2 := c2) I1 I2 I3 (unhide Hs)).mono ?_; rintro e' w2' ⟨er, x1, x2, x3, x4, x5, x6, rfl, hne, heq, hb⟩)
  clear s0 s1 t0 t1 t2
  replace OS := OS.keep hb
  replace OT := OT.keep hb
  replace OC := OC.keep hb
  replace I1 := I1.keep hb
  replace I2 := I2.keep hb
  replace I3 := I3.keep hb
  replace I4 := I4.keep hb
  replace HW := hide (btrans (unhide HW) hb)
  clear hb
  replace OS := OS.keep (bnew w2' (.cells #[.int .i64 x1, .int .i64 x2, .int .i64 x3, .slice x4 x5 x6] 29))
  replace OT := OT.keep (bnew w2' (.cells #[.int .i64 x1, .int .i64 x2, .int .i64 x3, .slice x4 x5 x6] 29))
  replace OC := OC.keep (bnew w2' (.cells #[.int .i64 x1, .int .i64 x2, .int .i64 x3, .slice x4 x5 x6] 29))
  replace I1 := I1.keep (bnew w2' (.cells #[.int .i64 x1, .int .i64 x2, .int .i64 x3, .slice x4 x5 x6] 29))
  replace I2 := I2.keep (bnew w2' (.cells #[.int .i64 x1, .int .i64 x2, .int .i64 x3, .slice x4 x5 x6] 29))
  replace I3 := I3.keep (bnew w2' (.cells #[.int .i64 x1, .int .i64 x2, .int .i64 x3, .slice x4 x5 x6] 29))
  replace I4 := I4.keep (bnew w2' (.cells #[.int .i64 x1, .int .i64 x2, .int .i64 x3, .slice x4 x5 x6] 29))
  have O7 := OwnC.new w2' x1 x2 x3 x4 x5 x6 29
  replace HW := hide (bal (o := .cells #[.int .i64 x1, .int .i64 x2, .int .i64 x3, .slice x4 x5 x6] 29) (unhide HW))
  generalize w2'.alloc (.cells #[.int .i64 x1, .int .i64 x2, .int .i64 x3, .slice x4 x5 x6] 29) = w2 at *
  generalize w2'.heap.size = bO7 at *
  clear hne heq
  have hz := OC
  obtain ⟨_, o0, o1, o2, o3⟩ := hz
  go_upto_region 16 with (go_at_call 9; refine (string0 I4 (unhide He) (unhide HT0) (unhide HG0)).mono ?_; rintro e' w3' ⟨F, r1, d1, r2, d2, rfl, J1, J2, hb, hF⟩)
  clear o0 o1 o2 o3
  replace OS := OS.keep hb
  replace OT := OT.keep hb
  replace OC := OC.keep hb
  replace I1 := I1.keep hb
  replace I2 := I2.keep hb
  replace I3 := I3.keep hb
  replace I4 := I4.keep hb
  replace O7 := O7.keep hb
  replace HW := hide (btrans (unhide HW) hb)
  clear hb
  replace OS := OS.keep (bnew w3' (.cells #[.slice r1 a d1, .slice r2 b d2] 24))
  replace OT := OT.keep (bnew w3' (.cells #[.slice r1 a d1, .slice r2 b d2] 24))
  replace OC := OC.keep (bnew w3' (.cells #[.slice r1 a d1, .slice r2 b d2] 24))
  replace I1 := I1.keep (bnew w3' (.cells #[.slice r1 a d1, .slice r2 b d2] 24))
  replace I2 := I2.keep (bnew w3' (.cells #[.slice r1 a d1, .slice r2 b d2] 24))
  replace I3 := I3.keep (bnew w3' (.cells #[.slice r1 a d1, .slice r2 b d2] 24))
  replace I4 := I4.keep (bnew w3' (.cells #[.slice r1 a d1, .slice r2 b d2] 24))
  replace O7 := O7.keep (bnew w3' (.cells #[.slice r1 a d1, .slice r2 b d2] 24))
  replace J1 := J1.keep (bnew w3' (.cells #[.slice r1 a d1, .slice r2 b d2] 24))
  replace J2 := J2.keep (bnew w3' (.cells #[.slice r1 a d1, .slice r2 b d2] 24))
  have O15 := OwnS.new w3' r1 a d1 r2 b d2 24
  replace HW := hide (bal (o := .cells #[.slice r1 a d1, .slice r2 b d2] 24) (unhide HW))
  generalize w3'.alloc (.cells #[.slice r1 a d1, .slice r2 b d2] 24) = w3 at *
  generalize w3'.heap.size = bO15 at *
  obtain ⟨hz1, hz2, hz3⟩ := first_right (unhide He) hF
  have HS2 := hide hz1
  have HN2 := hide hz2
  have HC2 := hide hz3
  clear hz1 hz2 hz3 hF
  have hz := O15
  obtain ⟨_, s0, s1⟩ := hz
  have hz := OC
  obtain ⟨_, o0, o1, o2, o3⟩ := hz
  go_upto_region 19 with (go_at_call 12; refine (cloth0 (c1 := d1) (c2 := d2) J1 J2 I4 (unhide HN2) (unhide HS2) (unhide He) (unhide HC2)).mono ?_; rintro e' w4' ⟨fb', k1, k2, rfl, IB2, hb, hFB⟩)
  clear s0 s1 o0 o1 o2 o3
  replace OS := OS.keep hb
  replace OT := OT.keep hb
  replace OC := OC.keep hb
  replace I1 := I1.keep hb
  replace I2 := I2.keep hb
  replace I3 := I3.keep hb
  replace I4 := I4.keep hb
  replace O7 := O7.keep hb
  replace O15 := O15.keep hb
  replace J1 := J1.keep hb
  replace J2 := J2.keep hb
  replace HW := hide (btrans (unhide HW) hb)
  clear hb
  replace OS := OS.keep (bnew w4' (.cells #[.int .i64 a, .int .i64 b, .slice k1 (a * b) k2] 27))
  replace OT := OT.keep (bnew w4' (.cells #[.int .i64 a, .int .i64 b, .slice k1 (a * b) k2] 27))
  replace OC := OC.keep (bnew w4' (.cells #[.int .i64 a, .int .i64 b, .slice k1 (a * b) k2] 27))
  replace I1 := I1.keep (bnew w4' (.cells #[.int .i64 a, .int .i64 b, .slice k1 (a * b) k2] 27))
  replace I2 := I2.keep (bnew w4' (.cells #[.int .i64 a, .int .i64 b, .slice k1 (a * b) k2] 27))
  replace I3 := I3.keep (bnew w4' (.cells #[.int .i64 a, .int .i64 b, .slice k1 (a * b) k2] 27))
  replace I4 := I4.keep (bnew w4' (.cells #[.int .i64 a, .int .i64 b, .slice k1 (a * b) k2] 27))
  replace O7 := O7.keep (bnew w4' (.cells #[.int .i64 a, .int .i64 b, .slice k1 (a * b) k2] 27))
  replace O15 := O15.keep (bnew w4' (.cells #[.int .i64 a, .int .i64 b, .slice k1 (a * b) k2] 27))
  replace J1 := J1.keep (bnew w4' (.cells #[.int .i64 a, .int .i64 b, .slice k1 (a * b) k2] 27))
  replace J2 := J2.keep (bnew w4' (.cells #[.int .i64 a, .int .i64 b, .slice k1 (a * b) k2] 27))
  replace IB2 := IB2.keep (bnew w4' (.cells #[.int .i64 a, .int .i64 b, .slice k1 (a * b) k2] 27))
  have O17 := T.OwnM.new w4' a b k1 (a * b) k2 27
  replace HW := hide (bal (o := .cells #[.int .i64 a, .int .i64 b, .slice k1 (a * b) k2] 27) (unhide HW))
  generalize w4'.alloc (.cells #[.int .i64 a, .int .i64 b, .slice k1 (a * b) k2] 27) = w4 at *
  generalize w4'.heap.size = bO17 at *
  have HFB2 := hide hFB
  clear hFB
  have hz := O15
  obtain ⟨_, s0, s1⟩ := hz
  have hz := O17
  obtain ⟨_, t0, t1, t2⟩ := hz
  go_upto_region 20 with (go_at_call 6; refine (shown0 (c1 := d1) (c2 := d2) J1 J2 IB2 (shE_ok (unhide HS2))).mono ?_; rintro e' w5' ⟨zz, k4, k6, rfl, IZ, hb, hZ⟩)
  clear s0 s1 t0 t1 t2
  replace OS := OS.keep hb
  replace OT := OT.keep hb
  replace OC := OC.keep hb
  replace I1 := I1.keep hb
  replace I2 := I2.keep hb
  replace I3 := I3.keep hb
  replace I4 := I4.keep hb
  replace O7 := O7.keep hb
  replace O15 := O15.keep hb
  replace J1 := J1.keep hb
  replace J2 := J2.keep hb
  replace O17 := O17.keep hb
  replace IB2 := IB2.keep hb
  replace HW := hide (btrans (unhide HW) hb)
  clear hb
  replace OS := OS.keep (bnew w5' (.cells #[.int .i64 4, .int .i64 a, .int .i64 b, .slice k4 (a * b) k6] 29))
  replace OT := OT.keep (bnew w5' (.cells #[.int .i64 4, .int .i64 a, .int .i64 b, .slice k4 (a * b) k6] 29))
  replace OC := OC.keep (bnew w5' (.cells #[.int .i64 4, .int .i64 a, .int .i64 b, .slice k4 (a * b) k6] 29))
  replace I1 := I1.keep (bnew w5' (.cells #[.int .i64 4, .int .i64 a, .int .i64 b, .slice k4 (a * b) k6] 29))
  replace I2 := I2.keep (bnew w5' (.cells #[.int .i64 4, .int .i64 a, .int .i64 b, .slice k4 (a * b) k6] 29))
  replace I3 := I3.keep (bnew w5' (.cells #[.int .i64 4, .int .i64 a, .int .i64 b, .slice k4 (a * b) k6] 29))
  replace I4 := I4.keep (bnew w5' (.cells #[.int .i64 4, .int .i64 a, .int .i64 b, .slice k4 (a * b) k6] 29))
  replace O7 := O7.keep (bnew w5' (.cells #[.int .i64 4, .int .i64 a, .int .i64 b, .slice k4 (a * b) k6] 29))
  replace O15 := O15.keep (bnew w5' (.cells #[.int .i64 4, .int .i64 a, .int .i64 b, .slice k4 (a * b) k6] 29))
  replace J1 := J1.keep (bnew w5' (.cells #[.int .i64 4, .int .i64 a, .int .i64 b, .slice k4 (a * b) k6] 29))
  replace J2 := J2.keep (bnew w5' (.cells #[.int .i64 4, .int .i64 a, .int .i64 b, .slice k4 (a * b) k6] 29))
  replace O17 := O17.keep (bnew w5' (.cells #[.int .i64 4, .int .i64 a, .int .i64 b, .slice k4 (a * b) k6] 29))
  replace IB2 := IB2.keep (bnew w5' (.cells #[.int .i64 4, .int .i64 a, .int .i64 b, .slice k4 (a * b) k6] 29))
  replace IZ := IZ.keep (bnew w5' (.cells #[.int .i64 4, .int .i64 a, .int .i64 b, .slice k4 (a * b) k6] 29))
  have O19 := OwnC.new w5' 4 a b k4 (a * b) k6 29
  replace HW := hide (bal (o := .cells #[.int .i64 4, .int .i64 a, .int .i64 b, .slice k4 (a * b) k6] 29) (unhide HW))
  generalize w5'.alloc (.cells #[.int .i64 4, .int .i64 a, .int .i64 b, .slice k4 (a * b) k6] 29) = w5 at *
  generalize w5'.heap.size = bO19 at *
  have HZX := hide (cloth_shown (unhide HC2) (unhide HFB2) hZ)
  clear hZ
  obtain ⟨⟨a1, a2⟩, ⟨b1, b2⟩, -, -⟩ := sE_zero (unhide HS2)
  have Hab := hide (show nc ≤ 4096 by rw [unhide HN2]; exact Nat.mul_le_mul a2 b2)
  have HN3 := unhide HN2
  subst HN3
  clear HN2
  have hz := OC
  obtain ⟨_, o0, o1, o2, o3⟩ := hz
  have hz := O19
  obtain ⟨_, v0, v1, v2, v3⟩ := hz
  go_wp2_with (go_at_call 8; refine (samec_any 4 a b q4 (a * b) c4 k4 k6 px zz _ (unhide Hab) I4 IZ (unhide HZX)).mono ?_; rintro e' wz ⟨rfl, hb⟩)
  go_ret
  exact ⟨rfl, btrans (unhide HW) hb⟩

end Go.Proofs.Ytbmgjoocpbikkaa
