/-
  Cloth: how a picture is woven with threads.
-/
import Derived.Test.YtbmgjoocpbikkaaSh
import Derived.Test.YtbmgjoocpbikkaaSt
namespace Go.Proofs.Ytbmgjoocpbikkaa
open Go.RowKit

/-- what is wrong, or 0 -/
def clE (n m : Nat) (e p : Nat → Int) (g w h : Int) (nc : Nat) (px : Nat → Int) : Int := if sE n m e p = 0 then (if pE g w h nc px = 0 then (if (n : Int) = w ∧ (m : Int) = h then 0 else 8) else pE g w h nc px) else sE n m e p
/-- a cell is its end's colour or its pick's -/
def CS (n : Nat) (e p px : Nat → Int) (j : Nat) : Prop := e (j % n) = px j ∨ p (j / n) = px j
/-- what Cloth tells -/
def ClR (n m : Nat) (e p : Nat → Int) (g w h : Int) (nc : Nat) (px : Nat → Int) (er w1 h1 : Int) (k : Nat) (f : Nat → Bool) : Prop :=
  (clE n m e p g w h nc px ≠ 0 ∧ er = clE n m e p g w h nc px ∧ w1 = 0 ∧ h1 = 0 ∧ k = 0) ∨
  (clE n m e p g w h nc px = 0 ∧ ((er = 0 ∧ w1 = (n : Int) ∧ h1 = (m : Int) ∧ k = n * m ∧ (∀ j, j < k → f j = (px j == e (j % n))) ∧ ∀ j, j < n * m → CS n e p px j) ∨ (er = 6 ∧ w1 = 0 ∧ h1 = 0 ∧ k = 0 ∧ ¬ ∀ j, j < n * m → CS n e p px j)))
/-- what Cloth answers -/
def ClP (n m : Nat) (e p : Nat → Int) (g w h : Int) (nc : Nat) (px : Nat → Int) (W : World) : Ending → World → Prop := fun e' w' =>
  ∃ er w1 h1 k f q c, e' = .returned (.tuple #[T.tr w1 h1 q k c, .int .i64 er]) ∧ T.Bs w' q k c f ∧ Below W.heap.size W w' ∧ ClR n m e p g w h nc px er w1 h1 k f
theorem ClP.err {n m : Nat} {e p : Nat → Int} {g w h : Int} {nc : Nat} {px : Nat → Int} {W w' : World} {er : Int} (h1 : ClR n m e p g w h nc px er 0 0 0 (fun _ => false)) (hb : Below W.heap.size W w') : ClP n m e p g w h nc px W (.returned (.tuple #[T.tr 0 0 none 0 0, .int .i64 er])) w' :=
  ⟨er, 0, 0, 0, fun _ => false, none, 0, rfl, ⟨Nat.le_refl _, .inl rfl⟩, hb, h1⟩
theorem put27 {B : Nat} {W0 W : World} (hb : Below B W0 W) {b : Nat} (hB : B ≤ b) {cs : List Value} (h : Bx W b cs) (hl : cs.length = 3) (v0 v1 v2 : Value) :
    ∃ w', (((W.setCell ⟨b, 0, none⟩ v0).setCell ⟨b, 1, none⟩ v1).setCell ⟨b, 2, none⟩ v2) = w' ∧ Below B W0 w' ∧ Kept (fun i => i = b) W w' ∧ Bx w' b [v0, v1, v2] := by
  refine ⟨_, rfl, bset1 (bset1 (bset1 hb hB _ _) hB _ _) hB _ _, ((kset _ b 0 _).trans (kset _ b 1 _)).trans (kset _ b 2 _), ?_⟩
  have := ((h.set 0 v0).set 1 v1).set 2 v2
  obtain ⟨c0, c1, c2, rfl⟩ : ∃ c0 c1 c2, cs = [c0, c1, c2] := by
    match cs, hl with
    | [c0, c1, c2], _ => exact ⟨c0, c1, c2, rfl⟩
  exact this

set_option maxRecDepth 100000 in
set_option maxHeartbeats 2000000 in
theorem cloth_threads (q1 : Option Addr) (n c1 : Nat) (q2 : Option Addr) (m c2 : Nat) (e p : Nat → Int) (g w h : Int) (q3 : Option Addr) (nc c3 : Nat) (px : Nat → Int) (W : World) (h1 : T.Is W q1 n e) (h2 : T.Is W q2 m p) (h3 : T.Is W q3 nc px) (hs : sE n m e p ≠ 0) :
    Calls Try.prog 12 #[sg q1 n c1 q2 m c2, Ch.ch g w h q3 nc c3] W (ClP n m e p g w h nc px W) := by
  have HE := hide (show ClR n m e p g w h nc px (sE n m e p) 0 0 0 (fun _ => false) from .inl ⟨by unfold clE; rw [if_neg hs]; exact hs, by unfold clE; rw [if_neg hs], rfl, rfl, rfl⟩)
  have B0 := hide (bal (o := .cells #[.int .i64 0, .int .i64 0, .slice none 0 0] 27) (bal (o := .cells #[.int .i64 g, .int .i64 w, .int .i64 h, .slice q3 nc c3] 29) (bnew W (.cells #[.slice q1 n c1, .slice q2 m c2] 24))))
  have OS := hide (((OwnS.new W q1 n c1 q2 m c2 24).keep (bnew _ (.cells #[.int .i64 g, .int .i64 w, .int .i64 h, .slice q3 nc c3] 29))).keep (bnew _ (.cells #[.int .i64 0, .int .i64 0, .slice none 0 0] 27)))
  have hM := OwnC.new (W.alloc (.cells #[.slice q1 n c1, .slice q2 m c2] 24)) g w h q3 nc c3 29
  rw [World.size_alloc] at hM
  have OM := hide (hM.keep (bnew _ (.cells #[.int .i64 0, .int .i64 0, .slice none 0 0] 27)))
  have hZ := Bx.new ((W.alloc (.cells #[.slice q1 n c1, .slice q2 m c2] 24)).alloc (.cells #[.int .i64 g, .int .i64 w, .int .i64 h, .slice q3 nc c3] 29)) #[.int .i64 0, .int .i64 0, .slice none 0 0] 27
  rw [World.size_alloc, World.size_alloc] at hZ
  have OZ := hide hZ
  have Hs := hide (threads_any q1 n c1 q2 m c2 e p _ (h1.keep (unhide B0)) (h2.keep (unhide B0)))
  have Ht := hide (fun V (hV : Below W.heap.size W V) => picture_any g w h q3 nc c3 px V (h3.keep hV))
  have Hg := hide (fun V => goes_any q1 n c1 q2 m c2 w h V)
  have hne : (sE n m e p != 0) = true := by simp [hs]
  clear hs h1 h2 h3 hM hZ Ht
  generalize sE n m e p = er at *
  go_enter Try.func12, Try.ntmps12
  go_upto_region 3 with (go_at_call 16; refine (unhide Hs).mono ?_; rintro e' w1 ⟨rfl, hb1⟩; obtain ⟨_, o0, o1⟩ := (unhide OS).keep hb1; obtain ⟨_, o2, o3, o4, o5⟩ := (unhide OM).keep hb1)
  clear o0 o1 o2 o3 o4 o5
  have hz := ((unhide OZ).keep hb1)
  obtain ⟨z0, a0⟩ := hz.2 0 _ rfl
  obtain ⟨z1, a1⟩ := hz.2 1 _ rfl
  obtain ⟨z2, a2⟩ := hz.2 2 _ rfl
  obtain ⟨w6, hw6, hb6, hk6, hx6⟩ := put27 (btrans (unhide B0) hb1) (show W.heap.size ≤ W.heap.size + 1 + 1 by omega) hz rfl (.int .i64 0) (.int .i64 0) (.slice none 0 0)
  have HX := hide hx6
  have HB6 := hide hb6
  clear hx6 hb6 hk6 hz
  go_wp2_with fail
  have u0 := ((unhide HX).2 0 _ rfl).1
  have u1 := ((unhide HX).2 1 _ rfl).1
  have u2 := ((unhide HX).2 2 _ rfl).1
  exact bodyPost_ret (v := .tuple #[T.tr 0 0 none 0 0, .int .i64 er]) (by simp [results, Try.results12, go_sem, u0, u1, u2]) rfl (ClP.err (unhide HE) (unhide HB6))

set_option maxRecDepth 100000 in
set_option maxHeartbeats 2000000 in
theorem cloth_picture (q1 : Option Addr) (n c1 : Nat) (q2 : Option Addr) (m c2 : Nat) (e p : Nat → Int) (g w h : Int) (q3 : Option Addr) (nc c3 : Nat) (px : Nat → Int) (W : World) (h1 : T.Is W q1 n e) (h2 : T.Is W q2 m p) (h3 : T.Is W q3 nc px) (hs : sE n m e p = 0) (ht : pE g w h nc px ≠ 0) :
    Calls Try.prog 12 #[sg q1 n c1 q2 m c2, Ch.ch g w h q3 nc c3] W (ClP n m e p g w h nc px W) := by
  have HE := hide (show ClR n m e p g w h nc px (pE g w h nc px) 0 0 0 (fun _ => false) from .inl ⟨by unfold clE; rw [if_pos hs, if_neg ht]; exact ht, by unfold clE; rw [if_pos hs, if_neg ht], rfl, rfl, rfl⟩)
  have B0 := hide (bal (o := .cells #[.int .i64 0, .int .i64 0, .slice none 0 0] 27) (bal (o := .cells #[.int .i64 g, .int .i64 w, .int .i64 h, .slice q3 nc c3] 29) (bnew W (.cells #[.slice q1 n c1, .slice q2 m c2] 24))))
  have OS := hide (((OwnS.new W q1 n c1 q2 m c2 24).keep (bnew _ (.cells #[.int .i64 g, .int .i64 w, .int .i64 h, .slice q3 nc c3] 29))).keep (bnew _ (.cells #[.int .i64 0, .int .i64 0, .slice none 0 0] 27)))
  have hM := OwnC.new (W.alloc (.cells #[.slice q1 n c1, .slice q2 m c2] 24)) g w h q3 nc c3 29
  rw [World.size_alloc] at hM
  have OM := hide (hM.keep (bnew _ (.cells #[.int .i64 0, .int .i64 0, .slice none 0 0] 27)))
  have hZ := Bx.new ((W.alloc (.cells #[.slice q1 n c1, .slice q2 m c2] 24)).alloc (.cells #[.int .i64 g, .int .i64 w, .int .i64 h, .slice q3 nc c3] 29)) #[.int .i64 0, .int .i64 0, .slice none 0 0] 27
  rw [World.size_alloc, World.size_alloc] at hZ
  have OZ := hide hZ
  have Hs := hide (threads_any q1 n c1 q2 m c2 e p _ (h1.keep (unhide B0)) (h2.keep (unhide B0)))
  have Ht := hide (fun V (hV : Below W.heap.size W V) => picture_any g w h q3 nc c3 px V (h3.keep hV))
  have Hg := hide (fun V => goes_any q1 n c1 q2 m c2 w h V)
  rw [hs] at Hs
  have hne : (pE g w h nc px != 0) = true := by simp [ht]
  clear hs ht h1 h2 h3 hM hZ
  generalize pE g w h nc px = er at *
  go_enter Try.func12, Try.ntmps12
  go_upto_region 6 with (first | (go_at_call 16; refine (unhide Hs).mono ?_; rintro e' w1 ⟨rfl, hb1⟩; obtain ⟨_, o0, o1⟩ := (unhide OS).keep hb1; obtain ⟨_, o2, o3, o4, o5⟩ := (unhide OM).keep hb1) | (go_at_call 22; refine (unhide Ht _ (btrans (unhide B0) hb1)).mono ?_; rintro e' w2 ⟨rfl, hb2⟩; clear o0 o1 o2 o3 o4 o5; obtain ⟨_, o0, o1⟩ := ((unhide OS).keep hb1).keep hb2; obtain ⟨_, o2, o3, o4, o5⟩ := ((unhide OM).keep hb1).keep hb2))
  clear o0 o1 o2 o3 o4 o5
  have hz := (((unhide OZ).keep hb1).keep hb2)
  obtain ⟨z0, a0⟩ := hz.2 0 _ rfl
  obtain ⟨z1, a1⟩ := hz.2 1 _ rfl
  obtain ⟨z2, a2⟩ := hz.2 2 _ rfl
  obtain ⟨w6, hw6, hb6, hk6, hx6⟩ := put27 (btrans (btrans (unhide B0) hb1) hb2) (show W.heap.size ≤ W.heap.size + 1 + 1 by omega) hz rfl (.int .i64 0) (.int .i64 0) (.slice none 0 0)
  have HX := hide hx6
  have HB6 := hide hb6
  clear hx6 hb6 hk6 hz
  go_wp2_with fail
  have u0 := ((unhide HX).2 0 _ rfl).1
  have u1 := ((unhide HX).2 1 _ rfl).1
  have u2 := ((unhide HX).2 2 _ rfl).1
  exact bodyPost_ret (v := .tuple #[T.tr 0 0 none 0 0, .int .i64 er]) (by simp [results, Try.results12, go_sem, u0, u1, u2]) rfl (ClP.err (unhide HE) (unhide HB6))

set_option maxRecDepth 100000 in
set_option maxHeartbeats 2000000 in
theorem cloth_fit (q1 : Option Addr) (n c1 : Nat) (q2 : Option Addr) (m c2 : Nat) (e p : Nat → Int) (g w h : Int) (q3 : Option Addr) (nc c3 : Nat) (px : Nat → Int) (W : World) (h1 : T.Is W q1 n e) (h2 : T.Is W q2 m p) (h3 : T.Is W q3 nc px) (hs : sE n m e p = 0) (ht : pE g w h nc px = 0) (hf : ¬ ((n : Int) = w ∧ (m : Int) = h)) :
    Calls Try.prog 12 #[sg q1 n c1 q2 m c2, Ch.ch g w h q3 nc c3] W (ClP n m e p g w h nc px W) := by
  have HE := hide (show ClR n m e p g w h nc px 8 0 0 0 (fun _ => false) from .inl ⟨by unfold clE; rw [if_pos hs, if_pos ht, if_neg hf]; decide, by unfold clE; rw [if_pos hs, if_pos ht, if_neg hf], rfl, rfl, rfl⟩)
  have B0 := hide (bal (o := .cells #[.int .i64 0, .int .i64 0, .slice none 0 0] 27) (bal (o := .cells #[.int .i64 g, .int .i64 w, .int .i64 h, .slice q3 nc c3] 29) (bnew W (.cells #[.slice q1 n c1, .slice q2 m c2] 24))))
  have OS := hide (((OwnS.new W q1 n c1 q2 m c2 24).keep (bnew _ (.cells #[.int .i64 g, .int .i64 w, .int .i64 h, .slice q3 nc c3] 29))).keep (bnew _ (.cells #[.int .i64 0, .int .i64 0, .slice none 0 0] 27)))
  have hM := OwnC.new (W.alloc (.cells #[.slice q1 n c1, .slice q2 m c2] 24)) g w h q3 nc c3 29
  rw [World.size_alloc] at hM
  have OM := hide (hM.keep (bnew _ (.cells #[.int .i64 0, .int .i64 0, .slice none 0 0] 27)))
  have hZ := Bx.new ((W.alloc (.cells #[.slice q1 n c1, .slice q2 m c2] 24)).alloc (.cells #[.int .i64 g, .int .i64 w, .int .i64 h, .slice q3 nc c3] 29)) #[.int .i64 0, .int .i64 0, .slice none 0 0] 27
  rw [World.size_alloc, World.size_alloc] at hZ
  have OZ := hide hZ
  have Hs := hide (threads_any q1 n c1 q2 m c2 e p _ (h1.keep (unhide B0)) (h2.keep (unhide B0)))
  have Ht := hide (fun V (hV : Below W.heap.size W V) => picture_any g w h q3 nc c3 px V (h3.keep hV))
  have Hg := hide (fun V => goes_any q1 n c1 q2 m c2 w h V)
  rw [hs] at Hs
  rw [ht] at Ht
  rw [show (decide ((n : Int) = w) && decide ((m : Int) = h)) = false by simp; exact fun a b => hf ⟨a, b⟩] at Hg
  clear hs ht hf h1 h2 h3 hM hZ
  go_enter Try.func12, Try.ntmps12
  go_upto_region 8 with (first | (go_at_call 16; refine (unhide Hs).mono ?_; rintro e' w1 ⟨rfl, hb1⟩; obtain ⟨_, o0, o1⟩ := (unhide OS).keep hb1; obtain ⟨_, o2, o3, o4, o5⟩ := (unhide OM).keep hb1) | (go_at_call 22; refine (unhide Ht _ (btrans (unhide B0) hb1)).mono ?_; rintro e' w2 ⟨rfl, hb2⟩; clear o0 o1 o2 o3 o4 o5; obtain ⟨_, o0, o1⟩ := ((unhide OS).keep hb1).keep hb2; obtain ⟨_, o2, o3, o4, o5⟩ := ((unhide OM).keep hb1).keep hb2) | (go_at_call 18; refine (unhide Hg _).mono ?_; rintro e' w3 ⟨rfl, hb3⟩; clear o0 o1 o2 o3 o4 o5; obtain ⟨_, o0, o1⟩ := (((unhide OS).keep hb1).keep hb2).keep hb3; obtain ⟨_, o2, o3, o4, o5⟩ := (((unhide OM).keep hb1).keep hb2).keep hb3))
  clear o0 o1 o2 o3 o4 o5
  have hz := ((((unhide OZ).keep hb1).keep hb2).keep hb3)
  obtain ⟨z0, a0⟩ := hz.2 0 _ rfl
  obtain ⟨z1, a1⟩ := hz.2 1 _ rfl
  obtain ⟨z2, a2⟩ := hz.2 2 _ rfl
  obtain ⟨w6, hw6, hb6, hk6, hx6⟩ := put27 (btrans (btrans (btrans (unhide B0) hb1) hb2) hb3) (show W.heap.size ≤ W.heap.size + 1 + 1 by omega) hz rfl (.int .i64 0) (.int .i64 0) (.slice none 0 0)
  have HX := hide hx6
  have HB6 := hide hb6
  clear hx6 hb6 hk6 hz
  go_wp2_with fail
  have u0 := ((unhide HX).2 0 _ rfl).1
  have u1 := ((unhide HX).2 1 _ rfl).1
  have u2 := ((unhide HX).2 2 _ rfl).1
  exact bodyPost_ret (v := .tuple #[T.tr 0 0 none 0 0, .int .i64 8]) (by simp [results, Try.results12, go_sem, u0, u1, u2]) rfl (ClP.err (unhide HE) (unhide HB6))

set_option maxRecDepth 100000 in
set_option maxHeartbeats 4000000 in
theorem cloth_ok (q1 : Option Addr) (n c1 : Nat) (q2 : Option Addr) (m c2 : Nat) (e p : Nat → Int) (q3 : Option Addr) (nc c3 : Nat) (px : Nat → Int) (W : World) (h1 : T.Is W q1 n e) (h2 : T.Is W q2 m p) (h3 : T.Is W q3 nc px) (hs : sE n m e p = 0) (ht : pE 4 n m nc px = 0) :
    Calls Try.prog 12 #[sg q1 n c1 q2 m c2, Ch.ch 4 n m q3 nc c3] W (ClP n m e p 4 n m nc px W) := by
  obtain ⟨⟨n1, n2⟩, ⟨m1, m2⟩, -, -⟩ := sE_zero hs
  have hnc : nc = n * m := by
    have := (pE_zero ht).2.2.2.1
    rw [← Int.natCast_mul] at this
    exact Int.ofNat.inj this
  have HE := hide (show clE n m e p 4 n m nc px = 0 by unfold clE; rw [if_pos hs, if_pos ht, if_pos ⟨rfl, rfl⟩])
  have B0 := hide (bal (o := .cells #[.int .i64 0, .int .i64 0, .slice none 0 0] 27) (bal (o := .cells #[.int .i64 4, .int .i64 n, .int .i64 m, .slice q3 nc c3] 29) (bnew W (.cells #[.slice q1 n c1, .slice q2 m c2] 24))))
  have OS := hide (((OwnS.new W q1 n c1 q2 m c2 24).keep (bnew _ (.cells #[.int .i64 4, .int .i64 n, .int .i64 m, .slice q3 nc c3] 29))).keep (bnew _ (.cells #[.int .i64 0, .int .i64 0, .slice none 0 0] 27)))
  have hM := OwnC.new (W.alloc (.cells #[.slice q1 n c1, .slice q2 m c2] 24)) 4 n m q3 nc c3 29
  rw [World.size_alloc] at hM
  have OM := hide (hM.keep (bnew _ (.cells #[.int .i64 0, .int .i64 0, .slice none 0 0] 27)))
  have hZ := Bx.new ((W.alloc (.cells #[.slice q1 n c1, .slice q2 m c2] 24)).alloc (.cells #[.int .i64 4, .int .i64 n, .int .i64 m, .slice q3 nc c3] 29)) #[.int .i64 0, .int .i64 0, .slice none 0 0] 27
  rw [World.size_alloc, World.size_alloc] at hZ
  have OZ := hide hZ
  have Hs := hide (threads_any q1 n c1 q2 m c2 e p _ (h1.keep (unhide B0)) (h2.keep (unhide B0)))
  have Ht := hide (fun V (hV : Below W.heap.size W V) => picture_any 4 n m q3 nc c3 px V (h3.keep hV))
  have Hg := hide (fun V => goes_any q1 n c1 q2 m c2 n m V)
  rw [hs] at Hs
  rw [ht] at Ht
  rw [show (decide ((n : Int) = n) && decide ((m : Int) = m)) = true by simp] at Hg
  have H1 := hide h1
  have H2 := hide h2
  have H3 := hide h3
  have Hn := hide hnc
  clear h1 h2 h3 hM hZ hs ht hnc
  go_enter Try.func12, Try.ntmps12
  go_upto_region 10 with (first | (go_at_call 16; refine (unhide Hs).mono ?_; rintro e' w1 ⟨rfl, hb1⟩; obtain ⟨_, o0, o1⟩ := (unhide OS).keep hb1; obtain ⟨_, o2, o3, o4, o5⟩ := (unhide OM).keep hb1) | (go_at_call 22; refine (unhide Ht _ (btrans (unhide B0) hb1)).mono ?_; rintro e' w2 ⟨rfl, hb2⟩; clear o0 o1 o2 o3 o4 o5; obtain ⟨_, o0, o1⟩ := ((unhide OS).keep hb1).keep hb2; obtain ⟨_, o2, o3, o4, o5⟩ := ((unhide OM).keep hb1).keep hb2) | (go_at_call 18; refine (unhide Hg _).mono ?_; rintro e' w3 ⟨rfl, hb3⟩; clear o0 o1 o2 o3 o4 o5; obtain ⟨_, o0, o1⟩ := (((unhide OS).keep hb1).keep hb2).keep hb3; obtain ⟨_, o2, o3, o4, o5⟩ := (((unhide OM).keep hb1).keep hb2).keep hb3))
  clear o0 o1 o2 o3 o4 o5
  have hb4 := btrans (btrans (btrans (unhide B0) hb1) hb2) hb3
  have HB4 := hide (bal (o := .cells #[.int .i64 n, .int .i64 m, .slice none 0 0] 27) hb4)
  have OS4 := hide (((((unhide OS).keep hb1).keep hb2).keep hb3).keep (bnew w3 (.cells #[.int .i64 n, .int .i64 m, .slice none 0 0] 27)))
  have OM4 := hide (((((unhide OM).keep hb1).keep hb2).keep hb3).keep (bnew w3 (.cells #[.int .i64 n, .int .i64 m, .slice none 0 0] 27)))
  have hz3 := (((unhide OZ).keep hb1).keep hb2).keep hb3
  have OZ4 := hide (hz3.keep (bnew w3 (.cells #[.int .i64 n, .int .i64 m, .slice none 0 0] 27)))
  have hbx := hz3.1
  have HAP := hide (show AP 4 [.int .i64 n, .int .i64 m, .slice none 0 0] 2 (w3.alloc (.cells #[.int .i64 n, .int .i64 m, .slice none 0 0] 27)) w3.heap.size (w3.alloc (.cells #[.int .i64 n, .int .i64 m, .slice none 0 0] 27)) (.slice none 0 0) 0 [] from AP.new (Bx.new w3 #[.int .i64 n, .int .i64 m, .slice none 0 0] 27))
  have Hne := hide (show W.heap.size ≠ w3.heap.size ∧ W.heap.size + 1 ≠ w3.heap.size ∧ W.heap.size + 1 + 1 ≠ w3.heap.size ∧ W.heap.size ≤ w3.heap.size by omega)
  clear hb1 hb2 hb3 hb4 hz3 hbx B0 OS OM OZ Hs Ht Hg
  obtain ⟨_, o0, o1⟩ := unhide OS4
  generalize w3.alloc (.cells #[.int .i64 n, .int .i64 m, .slice none 0 0] 27) = w4 at *
  generalize w3.heap.size = bx at *
  go_wp2
  clear o0 o1
  obtain ⟨F, hF⟩ : ∃ F : Nat → Bool, F = fun j => px j == e (j % n) := ⟨_, rfl⟩
  have HF := hide hF
  clear hF
  have HBb := hide (fun (wr : World) (v : Value) (k : Nat) (xs : List Value) (h : AP 4 [.int .i64 n, .int .i64 m, .slice none 0 0] 2 w4 bx wr v k xs) => show Below W.heap.size W wr from Kept.back (unhide HB4) h.1 (unhide HB4).size (fun q e => by rw [e]; exact (unhide Hne).2.2.2))
  go_loopw [42] (fun i wr => ∃ (y : Nat) (v : Value), y ≤ m ∧ i = .int .i64 y ∧ AP 4 [.int .i64 n, .int .i64 m, .slice none 0 0] 2 w4 bx wr v (y * n) (bvals F (y * n)) ∧ ∀ j, j < y * n → CS n e p px j) (fun i _ => m - (intOf i).toNat)
  case atStart => exact ⟨0, _, by omega, rfl, by rw [Nat.zero_mul]; exact unhide HAP, fun j hj => by omega⟩
  case round =>
    clear HAP
    obtain ⟨y, v, hy, rfl, hA, hcs⟩ := hrel
    have HA := hide hA
    have HBw := hide (unhide HBb _ _ _ _ hA)
    have Hcs := hide hcs
    clear hA hcs
    by_cases hlt : y < m
    · have qy : (y : Int) < (m : Int) := by omega
      obtain ⟨b2, i2, rfl, _, hcp⟩ := ((unhide H2).keep (unhide HBw)).at hlt
      obtain ⟨_, o0, o1⟩ := (unhide OS4).but' (unhide HA).1 (unhide Hne).1
      obtain ⟨py, hpy⟩ : ∃ z, z = p y := ⟨_, rfl⟩
      have Hpy := hide hpy
      rw [← hpy] at hcp
      clear hpy
      go_wp2
      clear o0 o1 hcp
      have A0 := hide (show AP 4 [.int .i64 n, .int .i64 m, .slice none 0 0] 2 w4 bx wr v (y * n + 0) (bvals F (y * n + 0)) from unhide HA)
      clear HA HBw
      go_loopw [50] (fun i wr => ∃ (x : Nat) (v : Value), x ≤ n ∧ i = .int .i64 x ∧ AP 4 [.int .i64 n, .int .i64 m, .slice none 0 0] 2 w4 bx wr v (y * n + x) (bvals F (y * n + x)) ∧ ∀ j, j < y * n + x → CS n e p px j) (fun i _ => n - (intOf i).toNat)
      case atStart => exact ⟨0, _, by omega, rfl, unhide A0, fun j hj => unhide Hcs j (by omega)⟩
      case round =>
        clear A0 Hcs
        obtain ⟨x, v, hx, rfl, hA, hcs⟩ := hrel
        have HA := hide hA
        have HBw := hide (unhide HBb _ _ _ _ hA)
        have Hcs := hide hcs
        clear hA hcs
        by_cases hlx : x < n
        · have qx : (x : Int) < (n : Int) := by omega
          obtain ⟨yw, k, -, -, hk2, e1, e2, hk, hn4, hyw, hmod, hdiv⟩ := place_nums n2 m2 (unhide Hn) hlx hlt
          rw [← hk2] at HA Hcs
          obtain ⟨b1, i1, rfl, _, hce⟩ := ((unhide H1).keep (unhide HBw)).at hlx
          obtain ⟨b3, i3, rfl, _, hcf⟩ := ((unhide H3).keep (unhide HBw)).at hk
          obtain ⟨_, o2, o3, o4, o5⟩ := (unhide OM4).but (unhide HA).1 (unhide Hne).2.1
          obtain ⟨x3, y3⟩ := (unhide HA).2.1.2 2 v rfl
          have HFk := hide (show F k = (px k == e x) by rw [unhide HF]; dsimp only; rw [hmod])
          have Hk := hide (show y * n + (x + 1) = k + 1 by omega)
          have HCk := hide (show CS n e p px k ↔ (e x = px k ∨ py = px k) by unfold CS; rw [hmod, hdiv, unhide Hpy])
          have Hkn := hide (show k < n * m by rw [← unhide Hn]; exact hk)
          have qk : (k : Int) < (nc : Int) := by omega
          have qk0 : (0 : Int) ≤ (k : Int) := by omega
          have hk4 : k ≤ 4096 := by omega
          clear hmod hdiv hk2 hk hn4
          generalize px k = c at *
          generalize e x = ex at *
          have hsz := (unhide HA).1.size
          by_cases t1 : c = ex
          · have HC := hide (show true = F k by rw [unhide HFk, t1]; simp)
            have Hok := hide (show ex = c ∨ py = c from .inl t1.symm)
            have hne : (c != ex) = false := by simp [t1]
            have heq : (c == ex) = true := by simp [t1]
            clear t1
            have HO := hide (own_keep (unhide HA).2.2.1 (bnew wr (.cells #[.bool true] 4)))
            have HS := hide ((unhide HA).keep (bnew wr (.cells #[.bool true] 4)))
            have HL := hide (lit_row wr (.bool true) 4)
            go_wp2_with (at_builtin; refine wl_app rfl rfl Try.underlying25 info4 rfl (by decide) rfl rfl (unhide HO) (unhide HL) (lit_one rfl) (by unfold maxLen; omega) (by omega) (by rw [World.size_alloc]; omega) ?_)
            intro v' w5 hown' hgrow _
            obtain ⟨hx5, hk5⟩ := (unhide HS).grown hgrow
            obtain ⟨x5, y5⟩ := hx5.2 2 v rfl
            obtain ⟨q5, cp5, rfl⟩ := own_form hown'
            have HN := hide (show AP 4 [.int .i64 n, .int .i64 m, .slice none 0 0] 2 w4 bx (w5.setCell ⟨bx, 2, none⟩ (.slice q5 (k + 1) cp5)) (.slice q5 (k + 1) cp5) (y * n + (x + 1)) (bvals F (y * n + (x + 1))) from by
              rw [unhide Hk]
              exact AP.step ⟨hx5, hk5⟩ (unhide HA).2.2.2 (by rw [bvals_succ, ← unhide HC]; exact hown'))
            have HNc := hide (show ∀ j, j < y * n + (x + 1) → CS n e p px j from fun j hj => by
              rw [unhide Hk] at hj
              by_cases ej : j = k
              · rw [ej]; exact (unhide HCk).2 (unhide Hok)
              · exact unhide Hcs j (by omega))
            clear hown' hgrow hx5 hk5 HO HS HL o2 o3 o4 o5 x3 y3 hce hcf
            go_wp2
            go_roundw
            case rel => exact ⟨x + 1, _, by omega, by go_num, unhide HN, unhide HNc⟩
            case measure => simp [intOf]; omega
          · have hne : (c != ex) = true := by simp [t1]
            have heq : (c == ex) = false := by simp [t1]
            by_cases t2 : c = py
            · have HC := hide (show false = F k by rw [unhide HFk, heq])
              have Hok := hide (show ex = c ∨ py = c from .inr t2.symm)
              have hne2 : (c != py) = false := by simp [t2]
              clear t1 t2
              have HO := hide (own_keep (unhide HA).2.2.1 (bnew wr (.cells #[.bool false] 4)))
              have HS := hide ((unhide HA).keep (bnew wr (.cells #[.bool false] 4)))
              have HL := hide (lit_row wr (.bool false) 4)
              go_wp2_with (at_builtin; refine wl_app rfl rfl Try.underlying25 info4 rfl (by decide) rfl rfl (unhide HO) (unhide HL) (lit_one rfl) (by unfold maxLen; omega) (by omega) (by rw [World.size_alloc]; omega) ?_)
              intro v' w5 hown' hgrow _
              obtain ⟨hx5, hk5⟩ := (unhide HS).grown hgrow
              obtain ⟨x5, y5⟩ := hx5.2 2 v rfl
              obtain ⟨q5, cp5, rfl⟩ := own_form hown'
              have HN := hide (show AP 4 [.int .i64 n, .int .i64 m, .slice none 0 0] 2 w4 bx (w5.setCell ⟨bx, 2, none⟩ (.slice q5 (k + 1) cp5)) (.slice q5 (k + 1) cp5) (y * n + (x + 1)) (bvals F (y * n + (x + 1))) from by
                rw [unhide Hk]
                exact AP.step ⟨hx5, hk5⟩ (unhide HA).2.2.2 (by rw [bvals_succ, ← unhide HC]; exact hown'))
              have HNc := hide (show ∀ j, j < y * n + (x + 1) → CS n e p px j from fun j hj => by
                rw [unhide Hk] at hj
                by_cases ej : j = k
                · rw [ej]; exact (unhide HCk).2 (unhide Hok)
                · exact unhide Hcs j (by omega))
              clear hown' hgrow hx5 hk5 HO HS HL o2 o3 o4 o5 x3 y3 hce hcf
              go_wp2
              go_roundw
              case rel => exact ⟨x + 1, _, by omega, by go_num, unhide HN, unhide HNc⟩
              case measure => simp [intOf]; omega
            · have hne2 : (c != py) = true := by simp [t2]
              have HR := hide (show ClR n m e p 4 n m nc px 6 0 0 0 (fun _ => false) from .inr ⟨unhide HE, .inr ⟨rfl, rfl, rfl, rfl, fun hall => by
                rcases (unhide HCk).1 (hall k (unhide Hkn)) with r | r
                · exact t1 r.symm
                · exact t2 r.symm⟩⟩)
              have hz := (unhide OZ4).but (unhide HA).1 (unhide Hne).2.2.1
              obtain ⟨z0, a0⟩ := hz.2 0 _ rfl
              obtain ⟨z1, a1⟩ := hz.2 1 _ rfl
              obtain ⟨z2, a2⟩ := hz.2 2 _ rfl
              obtain ⟨w6, hw6, hb6, hk6, hx6⟩ := put27 (unhide HBw) (show W.heap.size ≤ W.heap.size + 1 + 1 by omega) hz rfl (.int .i64 0) (.int .i64 0) (.slice none 0 0)
              have HX := hide hx6
              have HB6 := hide hb6
              clear hx6 hb6 hk6 hz t1 t2
              go_wp2_with fail
              have u0 := ((unhide HX).2 0 _ rfl).1
              have u1 := ((unhide HX).2 1 _ rfl).1
              have u2 := ((unhide HX).2 2 _ rfl).1
              exact bodyPost_ret (v := .tuple #[T.tr 0 0 none 0 0, .int .i64 6]) (by simp [results, Try.results12, go_sem, u0, u1, u2]) rfl (ClP.err (unhide HR) (unhide HB6))
        · obtain rfl : x = n := by omega
          have cl : ¬ ((x : Int) < (x : Int)) := by omega
          have HN := hide (show AP 4 [.int .i64 x, .int .i64 m, .slice none 0 0] 2 w4 bx wr v ((y + 1) * x) (bvals F ((y + 1) * x)) ∧ ∀ j, j < (y + 1) * x → CS x e p px j by rw [← row_next]; exact ⟨unhide HA, unhide Hcs⟩)
          go_wp2
          go_roundw
          case rel => exact ⟨y + 1, _, by omega, by go_num, unhide HN⟩
          case measure => simp [intOf]; omega
    · obtain rfl : y = m := by omega
      have cl : ¬ ((y : Int) < (y : Int)) := by omega
      obtain ⟨x0, y0⟩ := (unhide HA).2.1.2 0 _ rfl
      obtain ⟨x1, y1⟩ := (unhide HA).2.1.2 1 _ rfl
      obtain ⟨x2, y2⟩ := (unhide HA).2.1.2 2 _ rfl
      have hz := (unhide OZ4).but (unhide HA).1 (unhide Hne).2.2.1
      obtain ⟨z0, a0⟩ := hz.2 0 _ rfl
      obtain ⟨z1, a1⟩ := hz.2 1 _ rfl
      obtain ⟨z2, a2⟩ := hz.2 2 _ rfl
      obtain ⟨q5, cp5, rfl⟩ := own_form (unhide HA).2.2.1
      obtain ⟨w6, hw6, hb6, hk6, hx6⟩ := put27 (unhide HBw) (show W.heap.size ≤ W.heap.size + 1 + 1 by omega) hz rfl (.int .i64 n) (.int .i64 y) (.slice q5 (y * n) cp5)
      have HX := hide hx6
      have HB6 := hide hb6
      have HI := hide (show T.Bs w6 q5 (y * n) cp5 F from own_bs (own_but (unhide HA).2.2.1 hk6 (fun i hi e' => by have := ((unhide HA).2.2.1.lt i hi).1; have := (unhide OZ4).1; omega)))
      have Hyn := hide (Nat.mul_comm y n)
      have HR := hide (show ClR n y e p 4 n y nc px 0 n y (y * n) F from .inr ⟨unhide HE, .inl ⟨rfl, rfl, rfl, unhide Hyn, fun j _ => by rw [unhide HF], fun j hj => unhide Hcs j (by rw [unhide Hyn]; exact hj)⟩⟩)
      clear hx6 hb6 hk6 hz Hcs HBb
      generalize y * n = kk at *
      go_wp2_with fail
      have u0 := ((unhide HX).2 0 _ rfl).1
      have u1 := ((unhide HX).2 1 _ rfl).1
      have u2 := ((unhide HX).2 2 _ rfl).1
      exact bodyPost_ret (v := .tuple #[T.tr n y q5 kk cp5, .int .i64 0]) (by simp [results, Try.results12, go_sem, u0, u1, u2]) rfl ⟨0, n, y, kk, F, q5, cp5, rfl, unhide HI, unhide HB6, unhide HR⟩

theorem cloth_any (q1 : Option Addr) (n c1 : Nat) (q2 : Option Addr) (m c2 : Nat) (e p : Nat → Int) (g w h : Int) (q3 : Option Addr) (nc c3 : Nat) (px : Nat → Int) (W : World) (h1 : T.Is W q1 n e) (h2 : T.Is W q2 m p) (h3 : T.Is W q3 nc px) :
    Calls Try.prog 12 #[sg q1 n c1 q2 m c2, Ch.ch g w h q3 nc c3] W (ClP n m e p g w h nc px W) := by
  by_cases hs : sE n m e p = 0
  · by_cases ht : pE g w h nc px = 0
    · by_cases hf : (n : Int) = w ∧ (m : Int) = h
      · obtain ⟨rfl, rfl⟩ := hf
        obtain rfl : g = 4 := (pE_zero ht).1
        exact cloth_ok q1 n c1 q2 m c2 e p q3 nc c3 px W h1 h2 h3 hs ht
      · exact cloth_fit q1 n c1 q2 m c2 e p g w h q3 nc c3 px W h1 h2 h3 hs ht hf
    · exact cloth_picture q1 n c1 q2 m c2 e p g w h q3 nc c3 px W h1 h2 h3 hs ht
  · exact cloth_threads q1 n c1 q2 m c2 e p g w h q3 nc c3 px W h1 h2 h3 hs
end Go.Proofs.Ytbmgjoocpbikkaa
