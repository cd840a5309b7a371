/-
  Shown where something is wrong.
-/
import Derived.Test.YtbmgjoocpbikkaaSh
namespace Go.Proofs.Ytbmgjoocpbikkaa
open Go.RowKit

set_option maxRecDepth 100000 in
set_option maxHeartbeats 2000000 in
theorem shown_threads (q1 : Option Addr) (n c1 : Nat) (q2 : Option Addr) (m c2 : Nat) (e p : Nat → Int) (w h : Int) (q3 : Option Addr) (nb c3 : Nat) (f : Nat → Bool) (W : World) (h1 : T.Is W q1 n e) (h2 : T.Is W q2 m p) (hs : sE n m e p ≠ 0) :
    Calls Try.prog 6 #[sg q1 n c1 q2 m c2, T.tr w h q3 nb c3] W (ShP n m e p w h nb f W) := by
  have HE := hide (show shE n m e p w h nb ≠ 0 by unfold shE; rw [if_neg hs]; exact hs)
  have HQ := hide (show sE n m e p = shE n m e p w h nb by unfold shE; rw [if_neg hs])
  have B0 := hide (bal (o := .cells #[.int .i64 0, .int .i64 0, .int .i64 0, .slice none 0 0] 29) (bal (o := .cells #[.int .i64 w, .int .i64 h, .slice q3 nb c3] 27) (bnew W (.cells #[.slice q1 n c1, .slice q2 m c2] 24))))
  have OS := hide (((OwnS.new W q1 n c1 q2 m c2 24).keep (bnew _ (.cells #[.int .i64 w, .int .i64 h, .slice q3 nb c3] 27))).keep (bnew _ (.cells #[.int .i64 0, .int .i64 0, .int .i64 0, .slice none 0 0] 29)))
  have hM := T.OwnM.new (W.alloc (.cells #[.slice q1 n c1, .slice q2 m c2] 24)) w h q3 nb c3 27
  rw [World.size_alloc] at hM
  have OM := hide (hM.keep (bnew _ (.cells #[.int .i64 0, .int .i64 0, .int .i64 0, .slice none 0 0] 29)))
  have hZ := Bx.new ((W.alloc (.cells #[.slice q1 n c1, .slice q2 m c2] 24)).alloc (.cells #[.int .i64 w, .int .i64 h, .slice q3 nb c3] 27)) #[.int .i64 0, .int .i64 0, .int .i64 0, .slice none 0 0] 29
  rw [World.size_alloc, World.size_alloc] at hZ
  have OZ := hide hZ
  have Hs := hide (threads_any q1 n c1 q2 m c2 e p _ (h1.keep (unhide B0)) (h2.keep (unhide B0)))
  have Ht := hide (fun V => T.wrong_any w h q3 nb c3 V)
  unfold T.WrongIs at Ht
  have Hg := hide (fun V => goes_any q1 n c1 q2 m c2 w h V)
  clear h1 h2 hM hZ
  have hne : (sE n m e p != 0) = true := by simp [hs]
  clear hs
  generalize sE n m e p = er at *
  go_enter Try.func6, Try.ntmps6
  go_upto_region 3 with (go_at_call 16; refine (unhide Hs).mono ?_; rintro e' w1 ⟨rfl, hb1⟩; obtain ⟨_, o0, o1⟩ := (unhide OS).keep hb1; obtain ⟨_, o2, o3, o4⟩ := (unhide OM).keep hb1)
  clear o0 o1 o2 o3 o4
  have hz := ((unhide OZ).keep hb1)
  obtain ⟨z0, a0⟩ := hz.2 0 _ rfl
  obtain ⟨z1, a1⟩ := hz.2 1 _ rfl
  obtain ⟨z2, a2⟩ := hz.2 2 _ rfl
  obtain ⟨z3, a3⟩ := hz.2 3 _ rfl
  obtain ⟨w6, hw6, hb6, hk6, hx6⟩ := put29 (btrans (unhide B0) hb1) (show W.heap.size ≤ W.heap.size + 1 + 1 by omega) hz rfl (.int .i64 0) (.int .i64 0) (.int .i64 0) (.slice none 0 0)
  have HX := hide hx6
  have HB6 := hide hb6
  clear hx6 hb6 hk6 hz
  go_wp2_with fail
  have u0 := ((unhide HX).2 0 _ rfl).1
  have u1 := ((unhide HX).2 1 _ rfl).1
  have u2 := ((unhide HX).2 2 _ rfl).1
  have u3 := ((unhide HX).2 3 _ rfl).1
  exact bodyPost_ret (v := .tuple #[Ch.ch 0 0 0 none 0 0, .int .i64 er]) (by simp [results, Try.results6, go_sem, u0, u1, u2, u3]) rfl (ShP.err (unhide HE) (unhide HQ) (unhide HB6))

set_option maxRecDepth 100000 in
set_option maxHeartbeats 2000000 in
theorem shown_truth (q1 : Option Addr) (n c1 : Nat) (q2 : Option Addr) (m c2 : Nat) (e p : Nat → Int) (w h : Int) (q3 : Option Addr) (nb c3 : Nat) (f : Nat → Bool) (W : World) (h1 : T.Is W q1 n e) (h2 : T.Is W q2 m p) (hs : sE n m e p = 0) (ht : T.wE w h nb ≠ 0) :
    Calls Try.prog 6 #[sg q1 n c1 q2 m c2, T.tr w h q3 nb c3] W (ShP n m e p w h nb f W) := by
  have HE := hide (show shE n m e p w h nb ≠ 0 by unfold shE; rw [if_pos hs, if_neg ht]; exact ht)
  have HQ := hide (show T.wE w h nb = shE n m e p w h nb by unfold shE; rw [if_pos hs, if_neg ht])
  have B0 := hide (bal (o := .cells #[.int .i64 0, .int .i64 0, .int .i64 0, .slice none 0 0] 29) (bal (o := .cells #[.int .i64 w, .int .i64 h, .slice q3 nb c3] 27) (bnew W (.cells #[.slice q1 n c1, .slice q2 m c2] 24))))
  have OS := hide (((OwnS.new W q1 n c1 q2 m c2 24).keep (bnew _ (.cells #[.int .i64 w, .int .i64 h, .slice q3 nb c3] 27))).keep (bnew _ (.cells #[.int .i64 0, .int .i64 0, .int .i64 0, .slice none 0 0] 29)))
  have hM := T.OwnM.new (W.alloc (.cells #[.slice q1 n c1, .slice q2 m c2] 24)) w h q3 nb c3 27
  rw [World.size_alloc] at hM
  have OM := hide (hM.keep (bnew _ (.cells #[.int .i64 0, .int .i64 0, .int .i64 0, .slice none 0 0] 29)))
  have hZ := Bx.new ((W.alloc (.cells #[.slice q1 n c1, .slice q2 m c2] 24)).alloc (.cells #[.int .i64 w, .int .i64 h, .slice q3 nb c3] 27)) #[.int .i64 0, .int .i64 0, .int .i64 0, .slice none 0 0] 29
  rw [World.size_alloc, World.size_alloc] at hZ
  have OZ := hide hZ
  have Hs := hide (threads_any q1 n c1 q2 m c2 e p _ (h1.keep (unhide B0)) (h2.keep (unhide B0)))
  have Ht := hide (fun V => T.wrong_any w h q3 nb c3 V)
  unfold T.WrongIs at Ht
  have Hg := hide (fun V => goes_any q1 n c1 q2 m c2 w h V)
  clear h1 h2 hM hZ
  rw [hs] at Hs
  have hne : (T.wE w h nb != 0) = true := by simp [ht]
  clear hs ht
  generalize T.wE w h nb = er at *
  go_enter Try.func6, Try.ntmps6
  go_upto_region 6 with (first | (go_at_call 16; refine (unhide Hs).mono ?_; rintro e' w1 ⟨rfl, hb1⟩; obtain ⟨_, o0, o1⟩ := (unhide OS).keep hb1; obtain ⟨_, o2, o3, o4⟩ := (unhide OM).keep hb1) | (go_at_call 17; refine (unhide Ht _).mono ?_; rintro e' w2 ⟨rfl, hb2⟩; clear o0 o1 o2 o3 o4; obtain ⟨_, o0, o1⟩ := ((unhide OS).keep hb1).keep hb2; obtain ⟨_, o2, o3, o4⟩ := ((unhide OM).keep hb1).keep hb2))
  clear o0 o1 o2 o3 o4
  have hz := (((unhide OZ).keep hb1).keep hb2)
  obtain ⟨z0, a0⟩ := hz.2 0 _ rfl
  obtain ⟨z1, a1⟩ := hz.2 1 _ rfl
  obtain ⟨z2, a2⟩ := hz.2 2 _ rfl
  obtain ⟨z3, a3⟩ := hz.2 3 _ rfl
  obtain ⟨w6, hw6, hb6, hk6, hx6⟩ := put29 (btrans (btrans (unhide B0) hb1) hb2) (show W.heap.size ≤ W.heap.size + 1 + 1 by omega) hz rfl (.int .i64 0) (.int .i64 0) (.int .i64 0) (.slice none 0 0)
  have HX := hide hx6
  have HB6 := hide hb6
  clear hx6 hb6 hk6 hz
  go_wp2_with fail
  have u0 := ((unhide HX).2 0 _ rfl).1
  have u1 := ((unhide HX).2 1 _ rfl).1
  have u2 := ((unhide HX).2 2 _ rfl).1
  have u3 := ((unhide HX).2 3 _ rfl).1
  exact bodyPost_ret (v := .tuple #[Ch.ch 0 0 0 none 0 0, .int .i64 er]) (by simp [results, Try.results6, go_sem, u0, u1, u2, u3]) rfl (ShP.err (unhide HE) (unhide HQ) (unhide HB6))

set_option maxRecDepth 100000 in
set_option maxHeartbeats 2000000 in
theorem shown_fit (q1 : Option Addr) (n c1 : Nat) (q2 : Option Addr) (m c2 : Nat) (e p : Nat → Int) (w h : Int) (q3 : Option Addr) (nb c3 : Nat) (f : Nat → Bool) (W : World) (h1 : T.Is W q1 n e) (h2 : T.Is W q2 m p) (hs : sE n m e p = 0) (ht : T.wE w h nb = 0) (hf : ¬ ((n : Int) = w ∧ (m : Int) = h)) :
    Calls Try.prog 6 #[sg q1 n c1 q2 m c2, T.tr w h q3 nb c3] W (ShP n m e p w h nb f W) := by
  have HE := hide (show shE n m e p w h nb ≠ 0 by unfold shE; rw [if_pos hs, if_pos ht, if_neg hf]; decide)
  have HQ := hide (show 8 = shE n m e p w h nb by unfold shE; rw [if_pos hs, if_pos ht, if_neg hf])
  have B0 := hide (bal (o := .cells #[.int .i64 0, .int .i64 0, .int .i64 0, .slice none 0 0] 29) (bal (o := .cells #[.int .i64 w, .int .i64 h, .slice q3 nb c3] 27) (bnew W (.cells #[.slice q1 n c1, .slice q2 m c2] 24))))
  have OS := hide (((OwnS.new W q1 n c1 q2 m c2 24).keep (bnew _ (.cells #[.int .i64 w, .int .i64 h, .slice q3 nb c3] 27))).keep (bnew _ (.cells #[.int .i64 0, .int .i64 0, .int .i64 0, .slice none 0 0] 29)))
  have hM := T.OwnM.new (W.alloc (.cells #[.slice q1 n c1, .slice q2 m c2] 24)) w h q3 nb c3 27
  rw [World.size_alloc] at hM
  have OM := hide (hM.keep (bnew _ (.cells #[.int .i64 0, .int .i64 0, .int .i64 0, .slice none 0 0] 29)))
  have hZ := Bx.new ((W.alloc (.cells #[.slice q1 n c1, .slice q2 m c2] 24)).alloc (.cells #[.int .i64 w, .int .i64 h, .slice q3 nb c3] 27)) #[.int .i64 0, .int .i64 0, .int .i64 0, .slice none 0 0] 29
  rw [World.size_alloc, World.size_alloc] at hZ
  have OZ := hide hZ
  have Hs := hide (threads_any q1 n c1 q2 m c2 e p _ (h1.keep (unhide B0)) (h2.keep (unhide B0)))
  have Ht := hide (fun V => T.wrong_any w h q3 nb c3 V)
  unfold T.WrongIs at Ht
  have Hg := hide (fun V => goes_any q1 n c1 q2 m c2 w h V)
  clear h1 h2 hM hZ
  rw [hs] at Hs
  rw [ht] at Ht
  rw [show (decide ((n : Int) = w) && decide ((m : Int) = h)) = false by simp; exact fun a b => hf ⟨a, b⟩] at Hg
  clear hs ht hf
  go_enter Try.func6, Try.ntmps6
  go_upto_region 8 with (first | (go_at_call 16; refine (unhide Hs).mono ?_; rintro e' w1 ⟨rfl, hb1⟩; obtain ⟨_, o0, o1⟩ := (unhide OS).keep hb1; obtain ⟨_, o2, o3, o4⟩ := (unhide OM).keep hb1) | (go_at_call 17; refine (unhide Ht _).mono ?_; rintro e' w2 ⟨rfl, hb2⟩; clear o0 o1 o2 o3 o4; obtain ⟨_, o0, o1⟩ := ((unhide OS).keep hb1).keep hb2; obtain ⟨_, o2, o3, o4⟩ := ((unhide OM).keep hb1).keep hb2) | (go_at_call 18; refine (unhide Hg _).mono ?_; rintro e' w3 ⟨rfl, hb3⟩; clear o0 o1 o2 o3 o4))
  have hz := ((((unhide OZ).keep hb1).keep hb2).keep hb3)
  obtain ⟨z0, a0⟩ := hz.2 0 _ rfl
  obtain ⟨z1, a1⟩ := hz.2 1 _ rfl
  obtain ⟨z2, a2⟩ := hz.2 2 _ rfl
  obtain ⟨z3, a3⟩ := hz.2 3 _ rfl
  obtain ⟨w6, hw6, hb6, hk6, hx6⟩ := put29 (btrans (btrans (btrans (unhide B0) hb1) hb2) hb3) (show W.heap.size ≤ W.heap.size + 1 + 1 by omega) hz rfl (.int .i64 0) (.int .i64 0) (.int .i64 0) (.slice none 0 0)
  have HX := hide hx6
  have HB6 := hide hb6
  clear hx6 hb6 hk6 hz
  go_wp2_with fail
  have u0 := ((unhide HX).2 0 _ rfl).1
  have u1 := ((unhide HX).2 1 _ rfl).1
  have u2 := ((unhide HX).2 2 _ rfl).1
  have u3 := ((unhide HX).2 3 _ rfl).1
  exact bodyPost_ret (v := .tuple #[Ch.ch 0 0 0 none 0 0, .int .i64 8]) (by simp [results, Try.results6, go_sem, u0, u1, u2, u3]) rfl (ShP.err (unhide HE) (unhide HQ) (unhide HB6))

theorem shown_any (q1 : Option Addr) (n c1 : Nat) (q2 : Option Addr) (m c2 : Nat) (e p : Nat → Int) (w h : Int) (q3 : Option Addr) (nb c3 : Nat) (f : Nat → Bool) (W : World) (h1 : T.Is W q1 n e) (h2 : T.Is W q2 m p) (h3 : T.Bs W q3 nb c3 f) :
    Calls Try.prog 6 #[sg q1 n c1 q2 m c2, T.tr w h q3 nb c3] W (ShP n m e p w h nb f W) := by
  by_cases hs : sE n m e p = 0
  · by_cases ht : T.wE w h nb = 0
    · by_cases hf : (n : Int) = w ∧ (m : Int) = h
      · obtain ⟨rfl, rfl⟩ := hf
        obtain ⟨w', h', e1, e2, e3, e4, e5⟩ := T.wE_zero _ _ _ ht
        obtain rfl : n = w' := by omega
        obtain rfl : m = h' := by omega
        exact shown_ok q1 n c1 q2 m c2 e p q3 nb c3 f W h1 h2 ⟨e3, e4, e5, h3⟩ hs
      · exact shown_fit q1 n c1 q2 m c2 e p w h q3 nb c3 f W h1 h2 hs ht hf
    · exact shown_truth q1 n c1 q2 m c2 e p w h q3 nb c3 f W h1 h2 hs ht
  · exact shown_threads q1 n c1 q2 m c2 e p w h q3 nb c3 f W h1 h2 hs
end Go.Proofs.Ytbmgjoocpbikkaa
