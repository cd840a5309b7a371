/-
  The reference's Cloth.
-/
import Derived.Test.YtbmgjoocpbikkaaCl
namespace Go.Proofs.Ytbmgjoocpbikkaa
open Go.RowKit

set_option maxRecDepth 100000 in
set_option maxHeartbeats 2000000 in
theorem rcloth_threads (q1 : Option Addr) (n c1 : Nat) (q2 : Option Addr) (m c2 : Nat) (e p : Nat → Int) (g w h : Int) (q3 : Option Addr) (nc c3 : Nat) (px : Nat → Int) (W : World) (h1 : T.Is W q1 n e) (h2 : T.Is W q2 m p) (h3 : T.Is W q3 nc px) (hs : sE n m e p ≠ 0) :
    Calls Try.prog 13 #[sg q1 n c1 q2 m c2, Ch.ch g w h q3 nc c3] W (ClP n m e p g w h nc px W) := by
  have HE := hide (show ClR n m e p g w h nc px (sE n m e p) 0 0 0 (fun _ => false) from .inl ⟨by unfold clE; rw [if_neg hs]; exact hs, by unfold clE; rw [if_neg hs], rfl, rfl, rfl⟩)
  have B0 := hide (bal (o := .cells #[.int .i64 0, .int .i64 0, .slice none 0 0] 27) (bal (o := .cells #[.int .i64 g, .int .i64 w, .int .i64 h, .slice q3 nc c3] 29) (bnew W (.cells #[.slice q1 n c1, .slice q2 m c2] 24))))
  have OS := hide (((OwnS.new W q1 n c1 q2 m c2 24).keep (bnew _ (.cells #[.int .i64 g, .int .i64 w, .int .i64 h, .slice q3 nc c3] 29))).keep (bnew _ (.cells #[.int .i64 0, .int .i64 0, .slice none 0 0] 27)))
  have hM := OwnC.new (W.alloc (.cells #[.slice q1 n c1, .slice q2 m c2] 24)) g w h q3 nc c3 29
  rw [World.size_alloc] at hM
  have OM := hide (hM.keep (bnew _ (.cells #[.int .i64 0, .int .i64 0, .slice none 0 0] 27)))
  have hZ := Bx.new ((W.alloc (.cells #[.slice q1 n c1, .slice q2 m c2] 24)).alloc (.cells #[.int .i64 g, .int .i64 w, .int .i64 h, .slice q3 nc c3] 29)) #[.int .i64 0, .int .i64 0, .slice none 0 0] 27
  rw [World.size_alloc, World.size_alloc] at hZ
  have OZ := hide hZ
  have Hs := hide (rthreads_any q1 n c1 q2 m c2 e p _ (h1.keep (unhide B0)) (h2.keep (unhide B0)))
  have Ht := hide (fun V (hV : Below W.heap.size W V) => show Calls Try.prog 26 #[Ch.ch g w h q3 nc c3] V (ErIs V (Ch.wE g w h nc px)) from Ch.rwrong_any g w h q3 nc c3 px V (h3.keep hV))
  have hne : (sE n m e p != 0) = true := by simp [hs]
  clear hs h1 h2 h3 hM hZ Ht
  generalize sE n m e p = er at *
  go_enter Try.func13, Try.ntmps13
  go_upto_region 3 with (go_at_call 19; refine (unhide Hs).mono ?_; rintro e' w1 ⟨rfl, hb1⟩; obtain ⟨_, o0, o1⟩ := (unhide OS).keep hb1; obtain ⟨_, o2, o3, o4, o5⟩ := (unhide OM).keep hb1)
  clear o0 o1 o2 o3 o4 o5
  have hz := ((unhide OZ).keep hb1)
  obtain ⟨z0, a0⟩ := hz.2 0 _ rfl
  obtain ⟨z1, a1⟩ := hz.2 1 _ rfl
  obtain ⟨z2, a2⟩ := hz.2 2 _ rfl
  obtain ⟨w6, hw6, hb6, hk6, hx6⟩ := put27 (btrans (unhide B0) hb1) (show W.heap.size ≤ W.heap.size + 1 + 1 by omega) hz rfl (.int .i64 0) (.int .i64 0) (.slice none 0 0)
  have HX := hide hx6
  have HB6 := hide hb6
  clear hx6 hb6 hk6 hz
  go_wp2_with fail
  have u0 := ((unhide HX).2 0 _ rfl).1
  have u1 := ((unhide HX).2 1 _ rfl).1
  have u2 := ((unhide HX).2 2 _ rfl).1
  exact bodyPost_ret (v := .tuple #[T.tr 0 0 none 0 0, .int .i64 er]) (by simp [results, Try.results13, go_sem, u0, u1, u2]) rfl (ClP.err (unhide HE) (unhide HB6))

set_option maxRecDepth 100000 in
set_option maxHeartbeats 2000000 in
theorem rcloth_picture (q1 : Option Addr) (n c1 : Nat) (q2 : Option Addr) (m c2 : Nat) (e p : Nat → Int) (g w h : Int) (q3 : Option Addr) (nc c3 : Nat) (px : Nat → Int) (W : World) (h1 : T.Is W q1 n e) (h2 : T.Is W q2 m p) (h3 : T.Is W q3 nc px) (hs : sE n m e p = 0) (ht : Ch.wE g w h nc px ≠ 0) :
    Calls Try.prog 13 #[sg q1 n c1 q2 m c2, Ch.ch g w h q3 nc c3] W (ClP n m e p g w h nc px W) := by
  have hq : pE g w h nc px = Ch.wE g w h nc px := by unfold pE; rw [if_neg ht]
  have HE := hide (show ClR n m e p g w h nc px (Ch.wE g w h nc px) 0 0 0 (fun _ => false) from .inl ⟨by unfold clE; rw [if_pos hs, hq, if_neg ht]; exact ht, by unfold clE; rw [if_pos hs, hq, if_neg ht], rfl, rfl, rfl⟩)
  have B0 := hide (bal (o := .cells #[.int .i64 0, .int .i64 0, .slice none 0 0] 27) (bal (o := .cells #[.int .i64 g, .int .i64 w, .int .i64 h, .slice q3 nc c3] 29) (bnew W (.cells #[.slice q1 n c1, .slice q2 m c2] 24))))
  have OS := hide (((OwnS.new W q1 n c1 q2 m c2 24).keep (bnew _ (.cells #[.int .i64 g, .int .i64 w, .int .i64 h, .slice q3 nc c3] 29))).keep (bnew _ (.cells #[.int .i64 0, .int .i64 0, .slice none 0 0] 27)))
  have hM := OwnC.new (W.alloc (.cells #[.slice q1 n c1, .slice q2 m c2] 24)) g w h q3 nc c3 29
  rw [World.size_alloc] at hM
  have OM := hide (hM.keep (bnew _ (.cells #[.int .i64 0, .int .i64 0, .slice none 0 0] 27)))
  have hZ := Bx.new ((W.alloc (.cells #[.slice q1 n c1, .slice q2 m c2] 24)).alloc (.cells #[.int .i64 g, .int .i64 w, .int .i64 h, .slice q3 nc c3] 29)) #[.int .i64 0, .int .i64 0, .slice none 0 0] 27
  rw [World.size_alloc, World.size_alloc] at hZ
  have OZ := hide hZ
  have Hs := hide (rthreads_any q1 n c1 q2 m c2 e p _ (h1.keep (unhide B0)) (h2.keep (unhide B0)))
  have Ht := hide (fun V (hV : Below W.heap.size W V) => show Calls Try.prog 26 #[Ch.ch g w h q3 nc c3] V (ErIs V (Ch.wE g w h nc px)) from Ch.rwrong_any g w h q3 nc c3 px V (h3.keep hV))
  rw [hs] at Hs
  have hne : (Ch.wE g w h nc px != 0) = true := by simp [ht]
  clear hs ht h1 h2 h3 hM hZ hq
  generalize Ch.wE g w h nc px = er at *
  go_enter Try.func13, Try.ntmps13
  go_upto_region 6 with (first | (go_at_call 19; refine (unhide Hs).mono ?_; rintro e' w1 ⟨rfl, hb1⟩; obtain ⟨_, o0, o1⟩ := (unhide OS).keep hb1; obtain ⟨_, o2, o3, o4, o5⟩ := (unhide OM).keep hb1) | (go_at_call 26; refine (unhide Ht _ (btrans (unhide B0) hb1)).mono ?_; rintro e' w2 ⟨rfl, hb2⟩; clear o0 o1 o2 o3 o4 o5; obtain ⟨_, o0, o1⟩ := ((unhide OS).keep hb1).keep hb2; obtain ⟨_, o2, o3, o4, o5⟩ := ((unhide OM).keep hb1).keep hb2))
  clear o0 o1 o2 o3 o4 o5
  have hz := (((unhide OZ).keep hb1).keep hb2)
  obtain ⟨z0, a0⟩ := hz.2 0 _ rfl
  obtain ⟨z1, a1⟩ := hz.2 1 _ rfl
  obtain ⟨z2, a2⟩ := hz.2 2 _ rfl
  obtain ⟨w6, hw6, hb6, hk6, hx6⟩ := put27 (btrans (btrans (unhide B0) hb1) hb2) (show W.heap.size ≤ W.heap.size + 1 + 1 by omega) hz rfl (.int .i64 0) (.int .i64 0) (.slice none 0 0)
  have HX := hide hx6
  have HB6 := hide hb6
  clear hx6 hb6 hk6 hz
  go_wp2_with fail
  have u0 := ((unhide HX).2 0 _ rfl).1
  have u1 := ((unhide HX).2 1 _ rfl).1
  have u2 := ((unhide HX).2 2 _ rfl).1
  exact bodyPost_ret (v := .tuple #[T.tr 0 0 none 0 0, .int .i64 er]) (by simp [results, Try.results13, go_sem, u0, u1, u2]) rfl (ClP.err (unhide HE) (unhide HB6))

set_option maxRecDepth 100000 in
set_option maxHeartbeats 2000000 in
theorem rcloth_fit (q1 : Option Addr) (n c1 : Nat) (q2 : Option Addr) (m c2 : Nat) (e p : Nat → Int) (g w h : Int) (q3 : Option Addr) (nc c3 : Nat) (px : Nat → Int) (W : World) (h1 : T.Is W q1 n e) (h2 : T.Is W q2 m p) (h3 : T.Is W q3 nc px) (hs : sE n m e p = 0) (ht : Ch.wE g w h nc px = 0) (hf : ¬ (g = 4 ∧ (n : Int) = w ∧ (m : Int) = h)) :
    Calls Try.prog 13 #[sg q1 n c1 q2 m c2, Ch.ch g w h q3 nc c3] W (ClP n m e p g w h nc px W) := by
  have hcl : clE n m e p g w h nc px = 8 := by
    unfold clE pE
    rw [if_pos hs, if_pos ht]
    by_cases hg : g = 4
    · rw [if_pos hg, if_pos rfl, if_neg (fun k => hf ⟨hg, k⟩)]
    · rw [if_neg hg, if_neg (by decide)]
  have HE := hide (show ClR n m e p g w h nc px 8 0 0 0 (fun _ => false) from .inl ⟨by rw [hcl]; decide, hcl.symm, rfl, rfl, rfl⟩)
  clear hcl
  have B0 := hide (bal (o := .cells #[.int .i64 0, .int .i64 0, .slice none 0 0] 27) (bal (o := .cells #[.int .i64 g, .int .i64 w, .int .i64 h, .slice q3 nc c3] 29) (bnew W (.cells #[.slice q1 n c1, .slice q2 m c2] 24))))
  have OS := hide (((OwnS.new W q1 n c1 q2 m c2 24).keep (bnew _ (.cells #[.int .i64 g, .int .i64 w, .int .i64 h, .slice q3 nc c3] 29))).keep (bnew _ (.cells #[.int .i64 0, .int .i64 0, .slice none 0 0] 27)))
  have hM := OwnC.new (W.alloc (.cells #[.slice q1 n c1, .slice q2 m c2] 24)) g w h q3 nc c3 29
  rw [World.size_alloc] at hM
  have OM := hide (hM.keep (bnew _ (.cells #[.int .i64 0, .int .i64 0, .slice none 0 0] 27)))
  have hZ := Bx.new ((W.alloc (.cells #[.slice q1 n c1, .slice q2 m c2] 24)).alloc (.cells #[.int .i64 g, .int .i64 w, .int .i64 h, .slice q3 nc c3] 29)) #[.int .i64 0, .int .i64 0, .slice none 0 0] 27
  rw [World.size_alloc, World.size_alloc] at hZ
  have OZ := hide hZ
  have Hs := hide (rthreads_any q1 n c1 q2 m c2 e p _ (h1.keep (unhide B0)) (h2.keep (unhide B0)))
  have Ht := hide (fun V (hV : Below W.heap.size W V) => show Calls Try.prog 26 #[Ch.ch g w h q3 nc c3] V (ErIs V (Ch.wE g w h nc px)) from Ch.rwrong_any g w h q3 nc c3 px V (h3.keep hV))
  rw [hs] at Hs
  rw [ht] at Ht
  clear hs ht h1 h2 h3 hM hZ
  by_cases hg : g = 4
  · have e0 : (g != 4) = false := by simp [hg]
    by_cases hw : w = (n : Int)
    · have e1 : (w != (n : Int)) = false := by simp [hw]
      have e2 : (h != (m : Int)) = true := by
        have : h ≠ (m : Int) := fun e => hf ⟨hg, hw.symm, e.symm⟩
        simp [this]
      clear hf hw hg
      go_enter Try.func13, Try.ntmps13
      go_upto_region 8 with (first | (go_at_call 19; refine (unhide Hs).mono ?_; rintro e' w1 ⟨rfl, hb1⟩; obtain ⟨_, o0, o1⟩ := (unhide OS).keep hb1; obtain ⟨_, o2, o3, o4, o5⟩ := (unhide OM).keep hb1) | (go_at_call 26; refine (unhide Ht _ (btrans (unhide B0) hb1)).mono ?_; rintro e' w2 ⟨rfl, hb2⟩; clear o0 o1 o2 o3 o4 o5; obtain ⟨_, o0, o1⟩ := ((unhide OS).keep hb1).keep hb2; obtain ⟨_, o2, o3, o4, o5⟩ := ((unhide OM).keep hb1).keep hb2))
      clear o0 o1 o2 o3 o4 o5
      have hz := (((unhide OZ).keep hb1).keep hb2)
      obtain ⟨z0, a0⟩ := hz.2 0 _ rfl
      obtain ⟨z1, a1⟩ := hz.2 1 _ rfl
      obtain ⟨z2, a2⟩ := hz.2 2 _ rfl
      obtain ⟨w6, hw6, hb6, hk6, hx6⟩ := put27 (btrans (btrans (unhide B0) hb1) hb2) (show W.heap.size ≤ W.heap.size + 1 + 1 by omega) hz rfl (.int .i64 0) (.int .i64 0) (.slice none 0 0)
      have HX := hide hx6
      have HB6 := hide hb6
      clear hx6 hb6 hk6 hz
      go_wp2_with fail
      have u0 := ((unhide HX).2 0 _ rfl).1
      have u1 := ((unhide HX).2 1 _ rfl).1
      have u2 := ((unhide HX).2 2 _ rfl).1
      exact bodyPost_ret (v := .tuple #[T.tr 0 0 none 0 0, .int .i64 8]) (by simp [results, Try.results13, go_sem, u0, u1, u2]) rfl (ClP.err (unhide HE) (unhide HB6))
    · have e1 : (w != (n : Int)) = true := by simp [hw]
      clear hf hw hg
      go_enter Try.func13, Try.ntmps13
      go_upto_region 8 with (first | (go_at_call 19; refine (unhide Hs).mono ?_; rintro e' w1 ⟨rfl, hb1⟩; obtain ⟨_, o0, o1⟩ := (unhide OS).keep hb1; obtain ⟨_, o2, o3, o4, o5⟩ := (unhide OM).keep hb1) | (go_at_call 26; refine (unhide Ht _ (btrans (unhide B0) hb1)).mono ?_; rintro e' w2 ⟨rfl, hb2⟩; clear o0 o1 o2 o3 o4 o5; obtain ⟨_, o0, o1⟩ := ((unhide OS).keep hb1).keep hb2; obtain ⟨_, o2, o3, o4, o5⟩ := ((unhide OM).keep hb1).keep hb2))
      clear o0 o1 o2 o3 o4 o5
      have hz := (((unhide OZ).keep hb1).keep hb2)
      obtain ⟨z0, a0⟩ := hz.2 0 _ rfl
      obtain ⟨z1, a1⟩ := hz.2 1 _ rfl
      obtain ⟨z2, a2⟩ := hz.2 2 _ rfl
      obtain ⟨w6, hw6, hb6, hk6, hx6⟩ := put27 (btrans (btrans (unhide B0) hb1) hb2) (show W.heap.size ≤ W.heap.size + 1 + 1 by omega) hz rfl (.int .i64 0) (.int .i64 0) (.slice none 0 0)
      have HX := hide hx6
      have HB6 := hide hb6
      clear hx6 hb6 hk6 hz
      go_wp2_with fail
      have u0 := ((unhide HX).2 0 _ rfl).1
      have u1 := ((unhide HX).2 1 _ rfl).1
      have u2 := ((unhide HX).2 2 _ rfl).1
      exact bodyPost_ret (v := .tuple #[T.tr 0 0 none 0 0, .int .i64 8]) (by simp [results, Try.results13, go_sem, u0, u1, u2]) rfl (ClP.err (unhide HE) (unhide HB6))
  · have e0 : (g != 4) = true := by simp [hg]
    clear hf hg
    go_enter Try.func13, Try.ntmps13
    go_upto_region 8 with (first | (go_at_call 19; refine (unhide Hs).mono ?_; rintro e' w1 ⟨rfl, hb1⟩; obtain ⟨_, o0, o1⟩ := (unhide OS).keep hb1; obtain ⟨_, o2, o3, o4, o5⟩ := (unhide OM).keep hb1) | (go_at_call 26; refine (unhide Ht _ (btrans (unhide B0) hb1)).mono ?_; rintro e' w2 ⟨rfl, hb2⟩; clear o0 o1 o2 o3 o4 o5; obtain ⟨_, o0, o1⟩ := ((unhide OS).keep hb1).keep hb2; obtain ⟨_, o2, o3, o4, o5⟩ := ((unhide OM).keep hb1).keep hb2))
    clear o0 o1 o2 o3 o4 o5
    have hz := (((unhide OZ).keep hb1).keep hb2)
    obtain ⟨z0, a0⟩ := hz.2 0 _ rfl
    obtain ⟨z1, a1⟩ := hz.2 1 _ rfl
    obtain ⟨z2, a2⟩ := hz.2 2 _ rfl
    obtain ⟨w6, hw6, hb6, hk6, hx6⟩ := put27 (btrans (btrans (unhide B0) hb1) hb2) (show W.heap.size ≤ W.heap.size + 1 + 1 by omega) hz rfl (.int .i64 0) (.int .i64 0) (.slice none 0 0)
    have HX := hide hx6
    have HB6 := hide hb6
    clear hx6 hb6 hk6 hz
    go_wp2_with fail
    have u0 := ((unhide HX).2 0 _ rfl).1
    have u1 := ((unhide HX).2 1 _ rfl).1
    have u2 := ((unhide HX).2 2 _ rfl).1
    exact bodyPost_ret (v := .tuple #[T.tr 0 0 none 0 0, .int .i64 8]) (by simp [results, Try.results13, go_sem, u0, u1, u2]) rfl (ClP.err (unhide HE) (unhide HB6))

set_option maxRecDepth 100000 in
set_option maxHeartbeats 4000000 in
theorem rcloth_ok (q1 : Option Addr) (n c1 : Nat) (q2 : Option Addr) (m c2 : Nat) (e p : Nat → Int) (q3 : Option Addr) (nc c3 : Nat) (px : Nat → Int) (W : World) (h1 : T.Is W q1 n e) (h2 : T.Is W q2 m p) (h3 : T.Is W q3 nc px) (hs : sE n m e p = 0) (ht : pE 4 n m nc px = 0) :
    Calls Try.prog 13 #[sg q1 n c1 q2 m c2, Ch.ch 4 n m q3 nc c3] W (ClP n m e p 4 n m nc px W) := by
  obtain ⟨⟨n1, n2⟩, ⟨m1, m2⟩, -, -⟩ := sE_zero hs
  have hnc : nc = n * m := by
    have := (pE_zero ht).2.2.2.1
    rw [← Int.natCast_mul] at this
    exact Int.ofNat.inj this
  have HE := hide (show clE n m e p 4 n m nc px = 0 by unfold clE; rw [if_pos hs, if_pos ht, if_pos ⟨rfl, rfl⟩])
  have B0 := hide (bal (o := .cells #[.int .i64 0, .int .i64 0, .slice none 0 0] 27) (bal (o := .cells #[.int .i64 4, .int .i64 n, .int .i64 m, .slice q3 nc c3] 29) (bnew W (.cells #[.slice q1 n c1, .slice q2 m c2] 24))))
  have OS := hide (((OwnS.new W q1 n c1 q2 m c2 24).keep (bnew _ (.cells #[.int .i64 4, .int .i64 n, .int .i64 m, .slice q3 nc c3] 29))).keep (bnew _ (.cells #[.int .i64 0, .int .i64 0, .slice none 0 0] 27)))
  have hM := OwnC.new (W.alloc (.cells #[.slice q1 n c1, .slice q2 m c2] 24)) 4 n m q3 nc c3 29
  rw [World.size_alloc] at hM
  have OM := hide (hM.keep (bnew _ (.cells #[.int .i64 0, .int .i64 0, .slice none 0 0] 27)))
  have hZ := Bx.new ((W.alloc (.cells #[.slice q1 n c1, .slice q2 m c2] 24)).alloc (.cells #[.int .i64 4, .int .i64 n, .int .i64 m, .slice q3 nc c3] 29)) #[.int .i64 0, .int .i64 0, .slice none 0 0] 27
  rw [World.size_alloc, World.size_alloc] at hZ
  have OZ := hide hZ
  have Hs := hide (rthreads_any q1 n c1 q2 m c2 e p _ (h1.keep (unhide B0)) (h2.keep (unhide B0)))
  have Ht := hide (fun V (hV : Below W.heap.size W V) => show Calls Try.prog 26 #[Ch.ch 4 n m q3 nc c3] V (ErIs V (Ch.wE 4 n m nc px)) from Ch.rwrong_any 4 n m q3 nc c3 px V (h3.keep hV))
  rw [hs] at Hs
  rw [show Ch.wE 4 n m nc px = 0 by
        unfold pE at ht
        split at ht
        · assumption
        · exact ht] at Ht
  have e1 : ((n : Int) != (n : Int)) = false := by simp
  have e2 : ((m : Int) != (m : Int)) = false := by simp
  have H1 := hide h1
  have H2 := hide h2
  have H3 := hide h3
  have Hn := hide hnc
  clear h1 h2 h3 hM hZ hs ht hnc
  go_enter Try.func13, Try.ntmps13
  go_upto_region 10 with (first | (go_at_call 19; refine (unhide Hs).mono ?_; rintro e' w1 ⟨rfl, hb1⟩; obtain ⟨_, o0, o1⟩ := (unhide OS).keep hb1; obtain ⟨_, o2, o3, o4, o5⟩ := (unhide OM).keep hb1) | (go_at_call 26; refine (unhide Ht _ (btrans (unhide B0) hb1)).mono ?_; rintro e' w2 ⟨rfl, hb2⟩; clear o0 o1 o2 o3 o4 o5; obtain ⟨_, o0, o1⟩ := ((unhide OS).keep hb1).keep hb2; obtain ⟨_, o2, o3, o4, o5⟩ := ((unhide OM).keep hb1).keep hb2))
  clear o0 o1 o2 o3 o4 o5
  have hb4 := btrans (btrans (unhide B0) hb1) hb2
  have HB4 := hide (bal (o := .cells #[.int .i64 n, .int .i64 m, .slice none 0 0] 27) hb4)
  have OS4 := hide ((((unhide OS).keep hb1).keep hb2).keep (bnew w2 (.cells #[.int .i64 n, .int .i64 m, .slice none 0 0] 27)))
  have OM4 := hide ((((unhide OM).keep hb1).keep hb2).keep (bnew w2 (.cells #[.int .i64 n, .int .i64 m, .slice none 0 0] 27)))
  have hz3 := ((unhide OZ).keep hb1).keep hb2
  have OZ4 := hide (hz3.keep (bnew w2 (.cells #[.int .i64 n, .int .i64 m, .slice none 0 0] 27)))
  have hbx := hz3.1
  have HAP := hide (show AP 4 [.int .i64 n, .int .i64 m, .slice none 0 0] 2 (w2.alloc (.cells #[.int .i64 n, .int .i64 m, .slice none 0 0] 27)) w2.heap.size (w2.alloc (.cells #[.int .i64 n, .int .i64 m, .slice none 0 0] 27)) (.slice none 0 0) 0 [] from AP.new (Bx.new w2 #[.int .i64 n, .int .i64 m, .slice none 0 0] 27))
  have Hne := hide (show W.heap.size ≠ w2.heap.size ∧ W.heap.size + 1 ≠ w2.heap.size ∧ W.heap.size + 1 + 1 ≠ w2.heap.size ∧ W.heap.size ≤ w2.heap.size by omega)
  clear hb1 hb2 hb4 hz3 hbx B0 OS OM OZ Hs Ht
  generalize w2.alloc (.cells #[.int .i64 n, .int .i64 m, .slice none 0 0] 27) = w4 at *
  generalize w2.heap.size = bx at *
  go_wp2
  obtain ⟨F, hF⟩ : ∃ F : Nat → Bool, F = fun j => px j == e (j % n) := ⟨_, rfl⟩
  have HF := hide hF
  clear hF
  have HBb := hide (fun (wr : World) (v : Value) (k : Nat) (xs : List Value) (h : AP 4 [.int .i64 n, .int .i64 m, .slice none 0 0] 2 w4 bx wr v k xs) => show Below W.heap.size W wr from Kept.back (unhide HB4) h.1 (unhide HB4).size (fun q e => by rw [e]; exact (unhide Hne).2.2.2))
  go_loopw [9] (fun i wr => ∃ (y : Nat) (v : Value), y ≤ m ∧ i = .int .i64 y ∧ AP 4 [.int .i64 n, .int .i64 m, .slice none 0 0] 2 w4 bx wr v (y * n) (bvals F (y * n)) ∧ ∀ j, j < y * n → CS n e p px j) (fun i _ => m - (intOf i).toNat)
  case atStart => exact ⟨0, _, by omega, rfl, by rw [Nat.zero_mul]; exact unhide HAP, fun j hj => by omega⟩
  case round =>
    clear HAP
    obtain ⟨y, v, hy, rfl, hA, hcs⟩ := hrel
    have HA := hide hA
    have HBw := hide (unhide HBb _ _ _ _ hA)
    have Hcs := hide hcs
    clear hA hcs
    obtain ⟨_, o2, o3, o4, o5⟩ := (unhide OM4).but (unhide HA).1 (unhide Hne).2.1
    by_cases hlt : y < m
    · have qy : (y : Int) < (m : Int) := by omega
      go_wp2
      clear o2 o3 o4 o5
      have A0 := hide (show AP 4 [.int .i64 n, .int .i64 m, .slice none 0 0] 2 w4 bx wr v (y * n + 0) (bvals F (y * n + 0)) from unhide HA)
      clear HA HBw
      go_loopw [10] (fun i wr => ∃ (x : Nat) (v : Value), x ≤ n ∧ i = .int .i64 x ∧ AP 4 [.int .i64 n, .int .i64 m, .slice none 0 0] 2 w4 bx wr v (y * n + x) (bvals F (y * n + x)) ∧ ∀ j, j < y * n + x → CS n e p px j) (fun i _ => n - (intOf i).toNat)
      case atStart => exact ⟨0, _, by omega, rfl, unhide A0, fun j hj => unhide Hcs j (by omega)⟩
      case round =>
        clear A0 Hcs
        obtain ⟨x, v, hx, rfl, hA, hcs⟩ := hrel
        have HA := hide hA
        have HBw := hide (unhide HBb _ _ _ _ hA)
        have Hcs := hide hcs
        clear hA hcs
        obtain ⟨_, o2, o3, o4, o5⟩ := (unhide OM4).but (unhide HA).1 (unhide Hne).2.1
        by_cases hlx : x < n
        · have qx : (x : Int) < (n : Int) := by omega
          have qy : (y : Int) < (m : Int) := by omega
          obtain ⟨yw, k, -, -, hk2, e3, e4, hk, hn4, hyw, hmod, hdiv⟩ := place_nums n2 m2 (unhide Hn) hlx hlt
          rw [← hk2] at HA Hcs
          obtain ⟨bi, oi, rfl, _, hce⟩ := ((unhide H1).keep (unhide HBw)).at hlx
          obtain ⟨b2, i2, rfl, _, hcp⟩ := ((unhide H2).keep (unhide HBw)).at hlt
          obtain ⟨b3, i3, rfl, _, hcf⟩ := ((unhide H3).keep (unhide HBw)).at hk
          obtain ⟨_, o0, o1⟩ := (unhide OS4).but' (unhide HA).1 (unhide Hne).1
          have hcell : ∀ V, Kept (fun i => i = bx) w4 V → V.cell? ⟨bi, oi + x, none⟩ = some (.int .i64 (e x)) := fun V hV => by
            obtain ⟨b, o, ee, _, h2⟩ := ((unhide H1).keep (Kept.back (unhide HB4) hV (unhide HB4).size (fun q e => by rw [e]; exact (unhide Hne).2.2.2))).at hlx
            cases ee; exact h2
          have Hcell := hide hcell
          have HFk := hide (show F k = (px k == e x) by rw [unhide HF]; dsimp only; rw [hmod])
          have Hk := hide (show y * n + (x + 1) = k + 1 by omega)
          have HCk := hide (show CS n e p px k ↔ (e x = px k ∨ p y = px k) by unfold CS; rw [hmod, hdiv])
          have Hkn := hide (show k < n * m by rw [← unhide Hn]; exact hk)
          have qk : (k : Int) < (nc : Int) := by omega
          have qk0 : (0 : Int) ≤ (k : Int) := by omega
          have hk4 : k ≤ 4096 := by omega
          clear hmod hdiv hk2 hk hn4 hcell
          generalize px k = c at *
          generalize e x = ex at *
          generalize p y = py at *
          by_cases t1 : ex = c
          · have HC := hide (show true = F k by rw [unhide HFk, t1]; simp)
            have Hok := hide (show ex = c ∨ py = c from .inl t1)
            have hne : (ex != c) = false := by simp [t1]
            have heq : (ex == c) = true := by simp [t1]
            clear t1
            go_wp2
            have HA7 := hide (unhide HA)
            clear o0 o1 o2 o3 o4 o5 hce hcp hcf
            have HS := (unhide HA7).keep (bdrew wr)
            refine wp_region_noPanic ?_
            refine wp_region_held_drew (S := fun V => Kept (fun i => i = bx) w4 V) (by kernel_rfl) (HS.1) ?_
            intro _
            generalize wr.drew = w8 at *
            refine wpAnyH_take (i := 0) (oi := _) (v := .pointer (some ⟨bx, 2, none⟩)) g13_0 (by kernel_rfl) (by kernel_rfl) (by kernel_rfl) (fun _ _ _ h => h) (Or.inl ⟨by rfl, ?_⟩) (by assumption) ?_
            · intro V hSw
              try dsimp only at hSw
              go_simp
            simp only [Act.put, List.setIfInBounds_toArray, List.set_cons_zero, List.set_cons_succ]
            refine wpAnyH_take (i := 2) (oi := _) (v := .pointer (some ⟨W.heap.size, 0, none⟩)) g13_2 (by kernel_rfl) (by kernel_rfl) (by kernel_rfl) (fun _ _ _ h => h) (Or.inl ⟨by rfl, ?_⟩) (by assumption) ?_
            · intro V hSw
              try dsimp only at hSw
              go_simp
            simp only [Act.put, List.setIfInBounds_toArray, List.set_cons_zero, List.set_cons_succ]
            refine wpAnyH_take (i := 3) (oi := _) (v := .slice (some ⟨bi, oi, none⟩) n c1) g13_3 (by kernel_rfl) (by kernel_rfl) (by kernel_rfl) (fun _ _ _ h => h) (Or.inl ⟨by rfl, ?_⟩) (by assumption) ?_
            · intro V hSw
              try dsimp only at hSw
              obtain ⟨_, s0, s1⟩ := OwnS.but' (unhide OS4) hSw (unhide Hne).1
              go_simp
            simp only [Act.put, List.setIfInBounds_toArray, List.set_cons_zero, List.set_cons_succ]
            refine wpAnyH_take (i := 4) (oi := _) (v := .int .i64 (x : Int)) g13_4 (by kernel_rfl) (by kernel_rfl) (by kernel_rfl) (fun _ _ _ h => h) (Or.inl ⟨by rfl, ?_⟩) (by assumption) ?_
            · intro V hSw
              try dsimp only at hSw
              go_simp
            simp only [Act.put, List.setIfInBounds_toArray, List.set_cons_zero, List.set_cons_succ]
            refine wpAnyH_take (i := 5) (oi := _) (v := .pointer (some ⟨bi, oi + x, none⟩)) g13_5 (by kernel_rfl) (by kernel_rfl) (by kernel_rfl) (fun _ _ _ h => h) (Or.inl ⟨by rfl, ?_⟩) (by assumption) ?_
            · intro V hSw
              try dsimp only at hSw
              go_simp
            simp only [Act.put, List.setIfInBounds_toArray, List.set_cons_zero, List.set_cons_succ]
            refine wpAnyH_take (i := 6) (oi := _) (v := .int .i64 ex) g13_6 (by kernel_rfl) (by kernel_rfl) (by kernel_rfl) (fun _ _ _ h => h) (Or.inl ⟨by rfl, ?_⟩) (by assumption) ?_
            · intro V hSw
              try dsimp only at hSw
              have h9 := unhide Hcell _ hSw
              go_simp
            simp only [Act.put, List.setIfInBounds_toArray, List.set_cons_zero, List.set_cons_succ]
            refine wpAnyH_take (i := 7) (oi := _) (v := .int .i64 c) g13_7 (by kernel_rfl) (by kernel_rfl) (by kernel_rfl) (fun _ _ _ h => h) (Or.inl ⟨by rfl, ?_⟩) (by assumption) ?_
            · intro V hSw
              try dsimp only at hSw
              go_simp
            simp only [Act.put, List.setIfInBounds_toArray, List.set_cons_zero, List.set_cons_succ]
            refine wpAnyH_take (i := 8) (oi := _) (v := .bool true) g13_8 (by kernel_rfl) (by kernel_rfl) (by kernel_rfl) (fun _ _ _ h => h) (Or.inl ⟨by rfl, ?_⟩) (by assumption) ?_
            · intro V hSw
              try dsimp only at hSw
              go_simp
            simp only [Act.put, List.setIfInBounds_toArray, List.set_cons_zero, List.set_cons_succ]
            refine wpAnyH_ready (rs := [1, 9]) (by kernel_rfl) (by simp) ?_
            refine (AllReadyH.cons (o := _) g13_1 (fun K hK => ?_) (AllReadyH.cons (o := _) g13_9 (fun K hK => ?_) AllReadyH.nil))
            · obtain ⟨x3, y3⟩ := HS.2.1.2 2 v rfl
              go_simp
              refine hK.out _ _ (HS.1) (fun _ => ?_)
              clear hK K
              refine wpAnyH_ready (rs := [9]) (by kernel_rfl) (by simp) ?_
              refine AllReadyH.cons (o := _) g13_9 (fun K hK => ?_) AllReadyH.nil
              go_simp
              have HO := own_keep HS.2.2.1 (bnew w8 (.cells #[.bool true] 4))
              have HS9 := HS.keep (bnew w8 (.cells #[.bool true] 4))
              refine hK.out _ _ (HS9.1) (fun _ => ?_)
              clear hK K
              refine wpAnyH_ready (rs := [10]) (by kernel_rfl) (by simp) ?_
              refine AllReadyH.cons (o := _) g13_10 (fun K hK => ?_) AllReadyH.nil
              refine wp_app (t := 25) (e := 4) rfl Try.underlying25 info4 rfl (by decide) rfl rfl HO (lit_row w8 (.bool true) 4) (lit_one rfl) (by unfold maxLen; omega) (by omega) (by have := HS.1.size; rw [World.size_alloc]; omega) ?_
              intro v' w5 hown' hgrow _
              obtain ⟨hx5, hk5⟩ := HS9.grown hgrow
              refine hK.out _ _ (hk5) (fun _ => ?_)
              clear hK K
              refine wpAnyH_take (i := 11) (oi := _) (v := .pointer (some ⟨bx, 2, none⟩)) g13_11 (by kernel_rfl) (by kernel_rfl) (by kernel_rfl) (fun _ _ _ h => h) (Or.inl ⟨by rfl, ?_⟩) (by assumption) ?_
              · intro V hSw
                try dsimp only at hSw
                go_simp
              simp only [Act.put, List.setIfInBounds_toArray, List.set_cons_zero, List.set_cons_succ]
              refine wpAnyH_ready (rs := [12]) (by kernel_rfl) (by simp) ?_
              refine AllReadyH.cons (o := _) g13_12 (fun K hK => ?_) AllReadyH.nil
              obtain ⟨x5, y5⟩ := hx5.2 2 v rfl
              obtain ⟨q5, cp5, rfl⟩ := own_form hown'
              have HN := hide (show AP 4 [.int .i64 n, .int .i64 m, .slice none 0 0] 2 w4 bx (w5.setCell ⟨bx, 2, none⟩ (.slice q5 (k + 1) cp5)) (.slice q5 (k + 1) cp5) (y * n + (x + 1)) (bvals F (y * n + (x + 1))) from by
              rw [unhide Hk]
              exact AP.step ⟨hx5, hk5⟩ HS.2.2.2 (by rw [bvals_succ, ← unhide HC]; exact hown'))
              go_simp
              refine hK.out _ _ ((unhide HN).1) (fun _ => ?_)
              clear hK K
              have HNc := hide (show ∀ j, j < y * n + (x + 1) → CS n e p px j from fun j hj => by
              rw [unhide Hk] at hj
              by_cases ej : j = k
              · rw [ej]; exact (unhide HCk).2 (unhide Hok)
              · exact unhide Hcs j (by omega))
              clear hown' hgrow hx5 hk5 HO HS9 x3 y3 x5 y5 HS
              refine wpAnyH_done (by kernel_rfl) ?_ _
              refine NoPanic.normal ?_
              go_wp2
              go_roundw
              case rel => exact ⟨x + 1, _, by omega, by go_num, unhide HN, unhide HNc⟩
              case measure => simp [intOf]; omega
            · go_simp
              have HO := own_keep HS.2.2.1 (bnew w8 (.cells #[.bool true] 4))
              have HS9 := HS.keep (bnew w8 (.cells #[.bool true] 4))
              refine hK.out _ _ (HS9.1) (fun _ => ?_)
              clear hK K
              refine wpAnyH_ready (rs := [1]) (by kernel_rfl) (by simp) ?_
              refine AllReadyH.cons (o := _) g13_1 (fun K hK => ?_) AllReadyH.nil
              obtain ⟨x3, y3⟩ := HS9.2.1.2 2 v rfl
              go_simp
              refine hK.out _ _ (HS9.1) (fun _ => ?_)
              clear hK K
              refine wpAnyH_ready (rs := [10]) (by kernel_rfl) (by simp) ?_
              refine AllReadyH.cons (o := _) g13_10 (fun K hK => ?_) AllReadyH.nil
              refine wp_app (t := 25) (e := 4) rfl Try.underlying25 info4 rfl (by decide) rfl rfl HO (lit_row w8 (.bool true) 4) (lit_one rfl) (by unfold maxLen; omega) (by omega) (by have := HS.1.size; rw [World.size_alloc]; omega) ?_
              intro v' w5 hown' hgrow _
              obtain ⟨hx5, hk5⟩ := HS9.grown hgrow
              refine hK.out _ _ (hk5) (fun _ => ?_)
              clear hK K
              refine wpAnyH_take (i := 11) (oi := _) (v := .pointer (some ⟨bx, 2, none⟩)) g13_11 (by kernel_rfl) (by kernel_rfl) (by kernel_rfl) (fun _ _ _ h => h) (Or.inl ⟨by rfl, ?_⟩) (by assumption) ?_
              · intro V hSw
                try dsimp only at hSw
                go_simp
              simp only [Act.put, List.setIfInBounds_toArray, List.set_cons_zero, List.set_cons_succ]
              refine wpAnyH_ready (rs := [12]) (by kernel_rfl) (by simp) ?_
              refine AllReadyH.cons (o := _) g13_12 (fun K hK => ?_) AllReadyH.nil
              obtain ⟨x5, y5⟩ := hx5.2 2 v rfl
              obtain ⟨q5, cp5, rfl⟩ := own_form hown'
              have HN := hide (show AP 4 [.int .i64 n, .int .i64 m, .slice none 0 0] 2 w4 bx (w5.setCell ⟨bx, 2, none⟩ (.slice q5 (k + 1) cp5)) (.slice q5 (k + 1) cp5) (y * n + (x + 1)) (bvals F (y * n + (x + 1))) from by
              rw [unhide Hk]
              exact AP.step ⟨hx5, hk5⟩ HS.2.2.2 (by rw [bvals_succ, ← unhide HC]; exact hown'))
              go_simp
              refine hK.out _ _ ((unhide HN).1) (fun _ => ?_)
              clear hK K
              have HNc := hide (show ∀ j, j < y * n + (x + 1) → CS n e p px j from fun j hj => by
              rw [unhide Hk] at hj
              by_cases ej : j = k
              · rw [ej]; exact (unhide HCk).2 (unhide Hok)
              · exact unhide Hcs j (by omega))
              clear hown' hgrow hx5 hk5 HO HS9 x3 y3 x5 y5 HS
              refine wpAnyH_done (by kernel_rfl) ?_ _
              refine NoPanic.normal ?_
              go_wp2
              go_roundw
              case rel => exact ⟨x + 1, _, by omega, by go_num, unhide HN, unhide HNc⟩
              case measure => simp [intOf]; omega
          · have hne : (ex != c) = true := by simp [t1]
            have heq : (ex == c) = false := by simp [t1]
            by_cases t2 : py = c
            · have HC := hide (show false = F k by rw [unhide HFk]; have : ¬ c = ex := fun e => t1 e.symm
                                                   simp [this])
              have Hok := hide (show ex = c ∨ py = c from .inr t2)
              have hne2 : (py != c) = false := by simp [t2]
              clear t1 t2
              go_wp2
              have HA7 := hide (unhide HA)
              clear o0 o1 o2 o3 o4 o5 hce hcp hcf
              have HS := (unhide HA7).keep (bdrew wr)
              refine wp_region_noPanic ?_
              refine wp_region_held_drew (S := fun V => Kept (fun i => i = bx) w4 V) (by kernel_rfl) (HS.1) ?_
              intro _
              generalize wr.drew = w8 at *
              refine wpAnyH_take (i := 0) (oi := _) (v := .pointer (some ⟨bx, 2, none⟩)) g13_0 (by kernel_rfl) (by kernel_rfl) (by kernel_rfl) (fun _ _ _ h => h) (Or.inl ⟨by rfl, ?_⟩) (by assumption) ?_
              · intro V hSw
                try dsimp only at hSw
                go_simp
              simp only [Act.put, List.setIfInBounds_toArray, List.set_cons_zero, List.set_cons_succ]
              refine wpAnyH_take (i := 2) (oi := _) (v := .pointer (some ⟨W.heap.size, 0, none⟩)) g13_2 (by kernel_rfl) (by kernel_rfl) (by kernel_rfl) (fun _ _ _ h => h) (Or.inl ⟨by rfl, ?_⟩) (by assumption) ?_
              · intro V hSw
                try dsimp only at hSw
                go_simp
              simp only [Act.put, List.setIfInBounds_toArray, List.set_cons_zero, List.set_cons_succ]
              refine wpAnyH_take (i := 3) (oi := _) (v := .slice (some ⟨bi, oi, none⟩) n c1) g13_3 (by kernel_rfl) (by kernel_rfl) (by kernel_rfl) (fun _ _ _ h => h) (Or.inl ⟨by rfl, ?_⟩) (by assumption) ?_
              · intro V hSw
                try dsimp only at hSw
                obtain ⟨_, s0, s1⟩ := OwnS.but' (unhide OS4) hSw (unhide Hne).1
                go_simp
              simp only [Act.put, List.setIfInBounds_toArray, List.set_cons_zero, List.set_cons_succ]
              refine wpAnyH_take (i := 4) (oi := _) (v := .int .i64 (x : Int)) g13_4 (by kernel_rfl) (by kernel_rfl) (by kernel_rfl) (fun _ _ _ h => h) (Or.inl ⟨by rfl, ?_⟩) (by assumption) ?_
              · intro V hSw
                try dsimp only at hSw
                go_simp
              simp only [Act.put, List.setIfInBounds_toArray, List.set_cons_zero, List.set_cons_succ]
              refine wpAnyH_take (i := 5) (oi := _) (v := .pointer (some ⟨bi, oi + x, none⟩)) g13_5 (by kernel_rfl) (by kernel_rfl) (by kernel_rfl) (fun _ _ _ h => h) (Or.inl ⟨by rfl, ?_⟩) (by assumption) ?_
              · intro V hSw
                try dsimp only at hSw
                go_simp
              simp only [Act.put, List.setIfInBounds_toArray, List.set_cons_zero, List.set_cons_succ]
              refine wpAnyH_take (i := 6) (oi := _) (v := .int .i64 ex) g13_6 (by kernel_rfl) (by kernel_rfl) (by kernel_rfl) (fun _ _ _ h => h) (Or.inl ⟨by rfl, ?_⟩) (by assumption) ?_
              · intro V hSw
                try dsimp only at hSw
                have h9 := unhide Hcell _ hSw
                go_simp
              simp only [Act.put, List.setIfInBounds_toArray, List.set_cons_zero, List.set_cons_succ]
              refine wpAnyH_take (i := 7) (oi := _) (v := .int .i64 c) g13_7 (by kernel_rfl) (by kernel_rfl) (by kernel_rfl) (fun _ _ _ h => h) (Or.inl ⟨by rfl, ?_⟩) (by assumption) ?_
              · intro V hSw
                try dsimp only at hSw
                go_simp
              simp only [Act.put, List.setIfInBounds_toArray, List.set_cons_zero, List.set_cons_succ]
              refine wpAnyH_take (i := 8) (oi := _) (v := .bool false) g13_8 (by kernel_rfl) (by kernel_rfl) (by kernel_rfl) (fun _ _ _ h => h) (Or.inl ⟨by rfl, ?_⟩) (by assumption) ?_
              · intro V hSw
                try dsimp only at hSw
                go_simp
              simp only [Act.put, List.setIfInBounds_toArray, List.set_cons_zero, List.set_cons_succ]
              refine wpAnyH_ready (rs := [1, 9]) (by kernel_rfl) (by simp) ?_
              refine (AllReadyH.cons (o := _) g13_1 (fun K hK => ?_) (AllReadyH.cons (o := _) g13_9 (fun K hK => ?_) AllReadyH.nil))
              · obtain ⟨x3, y3⟩ := HS.2.1.2 2 v rfl
                go_simp
                refine hK.out _ _ (HS.1) (fun _ => ?_)
                clear hK K
                refine wpAnyH_ready (rs := [9]) (by kernel_rfl) (by simp) ?_
                refine AllReadyH.cons (o := _) g13_9 (fun K hK => ?_) AllReadyH.nil
                go_simp
                have HO := own_keep HS.2.2.1 (bnew w8 (.cells #[.bool false] 4))
                have HS9 := HS.keep (bnew w8 (.cells #[.bool false] 4))
                refine hK.out _ _ (HS9.1) (fun _ => ?_)
                clear hK K
                refine wpAnyH_ready (rs := [10]) (by kernel_rfl) (by simp) ?_
                refine AllReadyH.cons (o := _) g13_10 (fun K hK => ?_) AllReadyH.nil
                refine wp_app (t := 25) (e := 4) rfl Try.underlying25 info4 rfl (by decide) rfl rfl HO (lit_row w8 (.bool false) 4) (lit_one rfl) (by unfold maxLen; omega) (by omega) (by have := HS.1.size; rw [World.size_alloc]; omega) ?_
                intro v' w5 hown' hgrow _
                obtain ⟨hx5, hk5⟩ := HS9.grown hgrow
                refine hK.out _ _ (hk5) (fun _ => ?_)
                clear hK K
                refine wpAnyH_take (i := 11) (oi := _) (v := .pointer (some ⟨bx, 2, none⟩)) g13_11 (by kernel_rfl) (by kernel_rfl) (by kernel_rfl) (fun _ _ _ h => h) (Or.inl ⟨by rfl, ?_⟩) (by assumption) ?_
                · intro V hSw
                  try dsimp only at hSw
                  go_simp
                simp only [Act.put, List.setIfInBounds_toArray, List.set_cons_zero, List.set_cons_succ]
                refine wpAnyH_ready (rs := [12]) (by kernel_rfl) (by simp) ?_
                refine AllReadyH.cons (o := _) g13_12 (fun K hK => ?_) AllReadyH.nil
                obtain ⟨x5, y5⟩ := hx5.2 2 v rfl
                obtain ⟨q5, cp5, rfl⟩ := own_form hown'
                have HN := hide (show AP 4 [.int .i64 n, .int .i64 m, .slice none 0 0] 2 w4 bx (w5.setCell ⟨bx, 2, none⟩ (.slice q5 (k + 1) cp5)) (.slice q5 (k + 1) cp5) (y * n + (x + 1)) (bvals F (y * n + (x + 1))) from by
                rw [unhide Hk]
                exact AP.step ⟨hx5, hk5⟩ HS.2.2.2 (by rw [bvals_succ, ← unhide HC]; exact hown'))
                go_simp
                refine hK.out _ _ ((unhide HN).1) (fun _ => ?_)
                clear hK K
                have HNc := hide (show ∀ j, j < y * n + (x + 1) → CS n e p px j from fun j hj => by
                rw [unhide Hk] at hj
                by_cases ej : j = k
                · rw [ej]; exact (unhide HCk).2 (unhide Hok)
                · exact unhide Hcs j (by omega))
                clear hown' hgrow hx5 hk5 HO HS9 x3 y3 x5 y5 HS
                refine wpAnyH_done (by kernel_rfl) ?_ _
                refine NoPanic.normal ?_
                go_wp2
                go_roundw
                case rel => exact ⟨x + 1, _, by omega, by go_num, unhide HN, unhide HNc⟩
                case measure => simp [intOf]; omega
              · go_simp
                have HO := own_keep HS.2.2.1 (bnew w8 (.cells #[.bool false] 4))
                have HS9 := HS.keep (bnew w8 (.cells #[.bool false] 4))
                refine hK.out _ _ (HS9.1) (fun _ => ?_)
                clear hK K
                refine wpAnyH_ready (rs := [1]) (by kernel_rfl) (by simp) ?_
                refine AllReadyH.cons (o := _) g13_1 (fun K hK => ?_) AllReadyH.nil
                obtain ⟨x3, y3⟩ := HS9.2.1.2 2 v rfl
                go_simp
                refine hK.out _ _ (HS9.1) (fun _ => ?_)
                clear hK K
                refine wpAnyH_ready (rs := [10]) (by kernel_rfl) (by simp) ?_
                refine AllReadyH.cons (o := _) g13_10 (fun K hK => ?_) AllReadyH.nil
                refine wp_app (t := 25) (e := 4) rfl Try.underlying25 info4 rfl (by decide) rfl rfl HO (lit_row w8 (.bool false) 4) (lit_one rfl) (by unfold maxLen; omega) (by omega) (by have := HS.1.size; rw [World.size_alloc]; omega) ?_
                intro v' w5 hown' hgrow _
                obtain ⟨hx5, hk5⟩ := HS9.grown hgrow
                refine hK.out _ _ (hk5) (fun _ => ?_)
                clear hK K
                refine wpAnyH_take (i := 11) (oi := _) (v := .pointer (some ⟨bx, 2, none⟩)) g13_11 (by kernel_rfl) (by kernel_rfl) (by kernel_rfl) (fun _ _ _ h => h) (Or.inl ⟨by rfl, ?_⟩) (by assumption) ?_
                · intro V hSw
                  try dsimp only at hSw
                  go_simp
                simp only [Act.put, List.setIfInBounds_toArray, List.set_cons_zero, List.set_cons_succ]
                refine wpAnyH_ready (rs := [12]) (by kernel_rfl) (by simp) ?_
                refine AllReadyH.cons (o := _) g13_12 (fun K hK => ?_) AllReadyH.nil
                obtain ⟨x5, y5⟩ := hx5.2 2 v rfl
                obtain ⟨q5, cp5, rfl⟩ := own_form hown'
                have HN := hide (show AP 4 [.int .i64 n, .int .i64 m, .slice none 0 0] 2 w4 bx (w5.setCell ⟨bx, 2, none⟩ (.slice q5 (k + 1) cp5)) (.slice q5 (k + 1) cp5) (y * n + (x + 1)) (bvals F (y * n + (x + 1))) from by
                rw [unhide Hk]
                exact AP.step ⟨hx5, hk5⟩ HS.2.2.2 (by rw [bvals_succ, ← unhide HC]; exact hown'))
                go_simp
                refine hK.out _ _ ((unhide HN).1) (fun _ => ?_)
                clear hK K
                have HNc := hide (show ∀ j, j < y * n + (x + 1) → CS n e p px j from fun j hj => by
                rw [unhide Hk] at hj
                by_cases ej : j = k
                · rw [ej]; exact (unhide HCk).2 (unhide Hok)
                · exact unhide Hcs j (by omega))
                clear hown' hgrow hx5 hk5 HO HS9 x3 y3 x5 y5 HS
                refine wpAnyH_done (by kernel_rfl) ?_ _
                refine NoPanic.normal ?_
                go_wp2
                go_roundw
                case rel => exact ⟨x + 1, _, by omega, by go_num, unhide HN, unhide HNc⟩
                case measure => simp [intOf]; omega
            · have hne2 : (py != c) = true := by simp [t2]
              have HR := hide (show ClR n m e p 4 n m nc px 6 0 0 0 (fun _ => false) from .inr ⟨unhide HE, .inr ⟨rfl, rfl, rfl, rfl, fun hall => by
                rcases (unhide HCk).1 (hall k (unhide Hkn)) with r | r
                · exact t1 r
                · exact t2 r⟩⟩)
              have hz := (unhide OZ4).but (unhide HA).1 (unhide Hne).2.2.1
              obtain ⟨z0, a0⟩ := hz.2 0 _ rfl
              obtain ⟨z1, a1⟩ := hz.2 1 _ rfl
              obtain ⟨z2, a2⟩ := hz.2 2 _ rfl
              obtain ⟨w6, hw6, hb6, hk6, hx6⟩ := put27 (unhide HBw) (show W.heap.size ≤ W.heap.size + 1 + 1 by omega) hz rfl (.int .i64 0) (.int .i64 0) (.slice none 0 0)
              have HX := hide hx6
              have HB6 := hide hb6
              clear hx6 hb6 hk6 hz t1 t2
              go_wp2_with fail
              have u0 := ((unhide HX).2 0 _ rfl).1
              have u1 := ((unhide HX).2 1 _ rfl).1
              have u2 := ((unhide HX).2 2 _ rfl).1
              exact bodyPost_ret (v := .tuple #[T.tr 0 0 none 0 0, .int .i64 6]) (by simp [results, Try.results13, go_sem, u0, u1, u2]) rfl (ClP.err (unhide HR) (unhide HB6))
        · obtain rfl : x = n := by omega
          have cl : ¬ ((x : Int) < (x : Int)) := by omega
          have HN := hide (show AP 4 [.int .i64 x, .int .i64 m, .slice none 0 0] 2 w4 bx wr v ((y + 1) * x) (bvals F ((y + 1) * x)) ∧ ∀ j, j < (y + 1) * x → CS x e p px j by rw [← row_next]; exact ⟨unhide HA, unhide Hcs⟩)
          go_wp2
          go_roundw
          case rel => exact ⟨y + 1, _, by omega, by go_num, unhide HN⟩
          case measure => simp [intOf]; omega
    · obtain rfl : y = m := by omega
      have cl : ¬ ((y : Int) < (y : Int)) := by omega
      obtain ⟨x0, y0⟩ := (unhide HA).2.1.2 0 _ rfl
      obtain ⟨x1, y1⟩ := (unhide HA).2.1.2 1 _ rfl
      obtain ⟨x2, y2⟩ := (unhide HA).2.1.2 2 _ rfl
      have hz := (unhide OZ4).but (unhide HA).1 (unhide Hne).2.2.1
      obtain ⟨z0, a0⟩ := hz.2 0 _ rfl
      obtain ⟨z1, a1⟩ := hz.2 1 _ rfl
      obtain ⟨z2, a2⟩ := hz.2 2 _ rfl
      obtain ⟨q5, cp5, rfl⟩ := own_form (unhide HA).2.2.1
      obtain ⟨w6, hw6, hb6, hk6, hx6⟩ := put27 (unhide HBw) (show W.heap.size ≤ W.heap.size + 1 + 1 by omega) hz rfl (.int .i64 n) (.int .i64 y) (.slice q5 (y * n) cp5)
      have HX := hide hx6
      have HB6 := hide hb6
      have HI := hide (show T.Bs w6 q5 (y * n) cp5 F from own_bs (own_but (unhide HA).2.2.1 hk6 (fun i hi e' => by have := ((unhide HA).2.2.1.lt i hi).1; have := (unhide OZ4).1; omega)))
      have Hyn := hide (Nat.mul_comm y n)
      have HR := hide (show ClR n y e p 4 n y nc px 0 n y (y * n) F from .inr ⟨unhide HE, .inl ⟨rfl, rfl, rfl, unhide Hyn, fun j _ => by rw [unhide HF], fun j hj => unhide Hcs j (by rw [unhide Hyn]; exact hj)⟩⟩)
      clear hx6 hb6 hk6 hz Hcs HBb
      generalize y * n = kk at *
      go_wp2_with fail
      have u0 := ((unhide HX).2 0 _ rfl).1
      have u1 := ((unhide HX).2 1 _ rfl).1
      have u2 := ((unhide HX).2 2 _ rfl).1
      exact bodyPost_ret (v := .tuple #[T.tr n y q5 kk cp5, .int .i64 0]) (by simp [results, Try.results13, go_sem, u0, u1, u2]) rfl ⟨0, n, y, kk, F, q5, cp5, rfl, unhide HI, unhide HB6, unhide HR⟩

theorem rcloth_any (q1 : Option Addr) (n c1 : Nat) (q2 : Option Addr) (m c2 : Nat) (e p : Nat → Int) (g w h : Int) (q3 : Option Addr) (nc c3 : Nat) (px : Nat → Int) (W : World) (h1 : T.Is W q1 n e) (h2 : T.Is W q2 m p) (h3 : T.Is W q3 nc px) :
    Calls Try.prog 13 #[sg q1 n c1 q2 m c2, Ch.ch g w h q3 nc c3] W (ClP n m e p g w h nc px W) := by
  by_cases hs : sE n m e p = 0
  · by_cases ht : Ch.wE g w h nc px = 0
    · by_cases hf : g = 4 ∧ (n : Int) = w ∧ (m : Int) = h
      · obtain ⟨rfl, rfl, rfl⟩ := hf
        exact rcloth_ok q1 n c1 q2 m c2 e p q3 nc c3 px W h1 h2 h3 hs (by unfold pE; rw [if_pos ht, if_pos rfl])
      · exact rcloth_fit q1 n c1 q2 m c2 e p g w h q3 nc c3 px W h1 h2 h3 hs ht hf
    · exact rcloth_picture q1 n c1 q2 m c2 e p g w h q3 nc c3 px W h1 h2 h3 hs ht
  · exact rcloth_threads q1 n c1 q2 m c2 e p g w h q3 nc c3 px W h1 h2 h3 hs
end Go.Proofs.Ytbmgjoocpbikkaa
