/-
  The reference's Shown.
-/
import Derived.Test.YtbmgjoocpbikkaaShE
namespace Go.Proofs.Ytbmgjoocpbikkaa
open Go.RowKit

theorem g11_0 {a0 a1 a2 a3 a4 a5 a6 a7 a8 a9 a10 : Oper} : (#[a0, a1, a2, a3, a4, a5, a6, a7, a8, a9, a10] : Array Oper)[0]? = some a0 := rfl
theorem g11_1 {a0 a1 a2 a3 a4 a5 a6 a7 a8 a9 a10 : Oper} : (#[a0, a1, a2, a3, a4, a5, a6, a7, a8, a9, a10] : Array Oper)[1]? = some a1 := rfl
theorem g11_2 {a0 a1 a2 a3 a4 a5 a6 a7 a8 a9 a10 : Oper} : (#[a0, a1, a2, a3, a4, a5, a6, a7, a8, a9, a10] : Array Oper)[2]? = some a2 := rfl
theorem g11_3 {a0 a1 a2 a3 a4 a5 a6 a7 a8 a9 a10 : Oper} : (#[a0, a1, a2, a3, a4, a5, a6, a7, a8, a9, a10] : Array Oper)[3]? = some a3 := rfl
theorem g11_4 {a0 a1 a2 a3 a4 a5 a6 a7 a8 a9 a10 : Oper} : (#[a0, a1, a2, a3, a4, a5, a6, a7, a8, a9, a10] : Array Oper)[4]? = some a4 := rfl
theorem g11_5 {a0 a1 a2 a3 a4 a5 a6 a7 a8 a9 a10 : Oper} : (#[a0, a1, a2, a3, a4, a5, a6, a7, a8, a9, a10] : Array Oper)[5]? = some a5 := rfl
theorem g11_6 {a0 a1 a2 a3 a4 a5 a6 a7 a8 a9 a10 : Oper} : (#[a0, a1, a2, a3, a4, a5, a6, a7, a8, a9, a10] : Array Oper)[6]? = some a6 := rfl
theorem g11_7 {a0 a1 a2 a3 a4 a5 a6 a7 a8 a9 a10 : Oper} : (#[a0, a1, a2, a3, a4, a5, a6, a7, a8, a9, a10] : Array Oper)[7]? = some a7 := rfl
theorem g11_8 {a0 a1 a2 a3 a4 a5 a6 a7 a8 a9 a10 : Oper} : (#[a0, a1, a2, a3, a4, a5, a6, a7, a8, a9, a10] : Array Oper)[8]? = some a8 := rfl
theorem g11_9 {a0 a1 a2 a3 a4 a5 a6 a7 a8 a9 a10 : Oper} : (#[a0, a1, a2, a3, a4, a5, a6, a7, a8, a9, a10] : Array Oper)[9]? = some a9 := rfl
theorem g11_10 {a0 a1 a2 a3 a4 a5 a6 a7 a8 a9 a10 : Oper} : (#[a0, a1, a2, a3, a4, a5, a6, a7, a8, a9, a10] : Array Oper)[10]? = some a10 := rfl
set_option maxRecDepth 100000 in
set_option maxHeartbeats 2000000 in
theorem rshown_threads (q1 : Option Addr) (n c1 : Nat) (q2 : Option Addr) (m c2 : Nat) (e p : Nat → Int) (w h : Int) (q3 : Option Addr) (nb c3 : Nat) (f : Nat → Bool) (W : World) (h1 : T.Is W q1 n e) (h2 : T.Is W q2 m p) (hs : sE n m e p ≠ 0) :
    Calls Try.prog 7 #[sg q1 n c1 q2 m c2, T.tr w h q3 nb c3] W (ShP n m e p w h nb f W) := by
  have HE := hide (show shE n m e p w h nb ≠ 0 by unfold shE; rw [if_neg hs]; exact hs)
  have HQ := hide (show sE n m e p = shE n m e p w h nb by unfold shE; rw [if_neg hs])
  have B0 := hide (bal (o := .cells #[.int .i64 0, .int .i64 0, .int .i64 0, .slice none 0 0] 29) (bal (o := .cells #[.int .i64 w, .int .i64 h, .slice q3 nb c3] 27) (bnew W (.cells #[.slice q1 n c1, .slice q2 m c2] 24))))
  have OS := hide (((OwnS.new W q1 n c1 q2 m c2 24).keep (bnew _ (.cells #[.int .i64 w, .int .i64 h, .slice q3 nb c3] 27))).keep (bnew _ (.cells #[.int .i64 0, .int .i64 0, .int .i64 0, .slice none 0 0] 29)))
  have hM := T.OwnM.new (W.alloc (.cells #[.slice q1 n c1, .slice q2 m c2] 24)) w h q3 nb c3 27
  rw [World.size_alloc] at hM
  have OM := hide (hM.keep (bnew _ (.cells #[.int .i64 0, .int .i64 0, .int .i64 0, .slice none 0 0] 29)))
  have hZ := Bx.new ((W.alloc (.cells #[.slice q1 n c1, .slice q2 m c2] 24)).alloc (.cells #[.int .i64 w, .int .i64 h, .slice q3 nb c3] 27)) #[.int .i64 0, .int .i64 0, .int .i64 0, .slice none 0 0] 29
  rw [World.size_alloc, World.size_alloc] at hZ
  have OZ := hide hZ
  have Hs := hide (rthreads_any q1 n c1 q2 m c2 e p _ (h1.keep (unhide B0)) (h2.keep (unhide B0)))
  have Ht := hide (fun V => T.rwrong_any w h q3 nb c3 V)
  unfold T.WrongIs at Ht
  clear h1 h2 hM hZ
  have hne : (sE n m e p != 0) = true := by simp [hs]
  clear hs
  generalize sE n m e p = er at *
  go_enter Try.func7, Try.ntmps7
  go_upto_region 3 with (go_at_call 19; refine (unhide Hs).mono ?_; rintro e' w1 ⟨rfl, hb1⟩; obtain ⟨_, o0, o1⟩ := (unhide OS).keep hb1; obtain ⟨_, o2, o3, o4⟩ := (unhide OM).keep hb1)
  clear o0 o1 o2 o3 o4
  have hz := ((unhide OZ).keep hb1)
  obtain ⟨z0, a0⟩ := hz.2 0 _ rfl
  obtain ⟨z1, a1⟩ := hz.2 1 _ rfl
  obtain ⟨z2, a2⟩ := hz.2 2 _ rfl
  obtain ⟨z3, a3⟩ := hz.2 3 _ rfl
  obtain ⟨w6, hw6, hb6, hk6, hx6⟩ := put29 (btrans (unhide B0) hb1) (show W.heap.size ≤ W.heap.size + 1 + 1 by omega) hz rfl (.int .i64 0) (.int .i64 0) (.int .i64 0) (.slice none 0 0)
  have HX := hide hx6
  have HB6 := hide hb6
  clear hx6 hb6 hk6 hz
  go_wp2_with fail
  have u0 := ((unhide HX).2 0 _ rfl).1
  have u1 := ((unhide HX).2 1 _ rfl).1
  have u2 := ((unhide HX).2 2 _ rfl).1
  have u3 := ((unhide HX).2 3 _ rfl).1
  exact bodyPost_ret (v := .tuple #[Ch.ch 0 0 0 none 0 0, .int .i64 er]) (by simp [results, Try.results7, go_sem, u0, u1, u2, u3]) rfl (ShP.err (unhide HE) (unhide HQ) (unhide HB6))

set_option maxRecDepth 100000 in
set_option maxHeartbeats 2000000 in
theorem rshown_truth (q1 : Option Addr) (n c1 : Nat) (q2 : Option Addr) (m c2 : Nat) (e p : Nat → Int) (w h : Int) (q3 : Option Addr) (nb c3 : Nat) (f : Nat → Bool) (W : World) (h1 : T.Is W q1 n e) (h2 : T.Is W q2 m p) (hs : sE n m e p = 0) (ht : T.wE w h nb ≠ 0) :
    Calls Try.prog 7 #[sg q1 n c1 q2 m c2, T.tr w h q3 nb c3] W (ShP n m e p w h nb f W) := by
  have HE := hide (show shE n m e p w h nb ≠ 0 by unfold shE; rw [if_pos hs, if_neg ht]; exact ht)
  have HQ := hide (show T.wE w h nb = shE n m e p w h nb by unfold shE; rw [if_pos hs, if_neg ht])
  have B0 := hide (bal (o := .cells #[.int .i64 0, .int .i64 0, .int .i64 0, .slice none 0 0] 29) (bal (o := .cells #[.int .i64 w, .int .i64 h, .slice q3 nb c3] 27) (bnew W (.cells #[.slice q1 n c1, .slice q2 m c2] 24))))
  have OS := hide (((OwnS.new W q1 n c1 q2 m c2 24).keep (bnew _ (.cells #[.int .i64 w, .int .i64 h, .slice q3 nb c3] 27))).keep (bnew _ (.cells #[.int .i64 0, .int .i64 0, .int .i64 0, .slice none 0 0] 29)))
  have hM := T.OwnM.new (W.alloc (.cells #[.slice q1 n c1, .slice q2 m c2] 24)) w h q3 nb c3 27
  rw [World.size_alloc] at hM
  have OM := hide (hM.keep (bnew _ (.cells #[.int .i64 0, .int .i64 0, .int .i64 0, .slice none 0 0] 29)))
  have hZ := Bx.new ((W.alloc (.cells #[.slice q1 n c1, .slice q2 m c2] 24)).alloc (.cells #[.int .i64 w, .int .i64 h, .slice q3 nb c3] 27)) #[.int .i64 0, .int .i64 0, .int .i64 0, .slice none 0 0] 29
  rw [World.size_alloc, World.size_alloc] at hZ
  have OZ := hide hZ
  have Hs := hide (rthreads_any q1 n c1 q2 m c2 e p _ (h1.keep (unhide B0)) (h2.keep (unhide B0)))
  have Ht := hide (fun V => T.rwrong_any w h q3 nb c3 V)
  unfold T.WrongIs at Ht
  clear h1 h2 hM hZ
  rw [hs] at Hs
  have hne : (T.wE w h nb != 0) = true := by simp [ht]
  clear hs ht
  generalize T.wE w h nb = er at *
  go_enter Try.func7, Try.ntmps7
  go_upto_region 6 with (first | (go_at_call 19; refine (unhide Hs).mono ?_; rintro e' w1 ⟨rfl, hb1⟩; obtain ⟨_, o0, o1⟩ := (unhide OS).keep hb1; obtain ⟨_, o2, o3, o4⟩ := (unhide OM).keep hb1) | (go_at_call 20; refine (unhide Ht _).mono ?_; rintro e' w2 ⟨rfl, hb2⟩; clear o0 o1 o2 o3 o4; obtain ⟨_, o0, o1⟩ := ((unhide OS).keep hb1).keep hb2; obtain ⟨_, o2, o3, o4⟩ := ((unhide OM).keep hb1).keep hb2))
  clear o0 o1 o2 o3 o4
  have hz := (((unhide OZ).keep hb1).keep hb2)
  obtain ⟨z0, a0⟩ := hz.2 0 _ rfl
  obtain ⟨z1, a1⟩ := hz.2 1 _ rfl
  obtain ⟨z2, a2⟩ := hz.2 2 _ rfl
  obtain ⟨z3, a3⟩ := hz.2 3 _ rfl
  obtain ⟨w6, hw6, hb6, hk6, hx6⟩ := put29 (btrans (btrans (unhide B0) hb1) hb2) (show W.heap.size ≤ W.heap.size + 1 + 1 by omega) hz rfl (.int .i64 0) (.int .i64 0) (.int .i64 0) (.slice none 0 0)
  have HX := hide hx6
  have HB6 := hide hb6
  clear hx6 hb6 hk6 hz
  go_wp2_with fail
  have u0 := ((unhide HX).2 0 _ rfl).1
  have u1 := ((unhide HX).2 1 _ rfl).1
  have u2 := ((unhide HX).2 2 _ rfl).1
  have u3 := ((unhide HX).2 3 _ rfl).1
  exact bodyPost_ret (v := .tuple #[Ch.ch 0 0 0 none 0 0, .int .i64 er]) (by simp [results, Try.results7, go_sem, u0, u1, u2, u3]) rfl (ShP.err (unhide HE) (unhide HQ) (unhide HB6))

set_option maxRecDepth 100000 in
set_option maxHeartbeats 2000000 in
theorem rshown_fit (q1 : Option Addr) (n c1 : Nat) (q2 : Option Addr) (m c2 : Nat) (e p : Nat → Int) (w h : Int) (q3 : Option Addr) (nb c3 : Nat) (f : Nat → Bool) (W : World) (h1 : T.Is W q1 n e) (h2 : T.Is W q2 m p) (hs : sE n m e p = 0) (ht : T.wE w h nb = 0) (hf : ¬ ((n : Int) = w ∧ (m : Int) = h)) :
    Calls Try.prog 7 #[sg q1 n c1 q2 m c2, T.tr w h q3 nb c3] W (ShP n m e p w h nb f W) := by
  have HE := hide (show shE n m e p w h nb ≠ 0 by unfold shE; rw [if_pos hs, if_pos ht, if_neg hf]; decide)
  have HQ := hide (show 8 = shE n m e p w h nb by unfold shE; rw [if_pos hs, if_pos ht, if_neg hf])
  have B0 := hide (bal (o := .cells #[.int .i64 0, .int .i64 0, .int .i64 0, .slice none 0 0] 29) (bal (o := .cells #[.int .i64 w, .int .i64 h, .slice q3 nb c3] 27) (bnew W (.cells #[.slice q1 n c1, .slice q2 m c2] 24))))
  have OS := hide (((OwnS.new W q1 n c1 q2 m c2 24).keep (bnew _ (.cells #[.int .i64 w, .int .i64 h, .slice q3 nb c3] 27))).keep (bnew _ (.cells #[.int .i64 0, .int .i64 0, .int .i64 0, .slice none 0 0] 29)))
  have hM := T.OwnM.new (W.alloc (.cells #[.slice q1 n c1, .slice q2 m c2] 24)) w h q3 nb c3 27
  rw [World.size_alloc] at hM
  have OM := hide (hM.keep (bnew _ (.cells #[.int .i64 0, .int .i64 0, .int .i64 0, .slice none 0 0] 29)))
  have hZ := Bx.new ((W.alloc (.cells #[.slice q1 n c1, .slice q2 m c2] 24)).alloc (.cells #[.int .i64 w, .int .i64 h, .slice q3 nb c3] 27)) #[.int .i64 0, .int .i64 0, .int .i64 0, .slice none 0 0] 29
  rw [World.size_alloc, World.size_alloc] at hZ
  have OZ := hide hZ
  have Hs := hide (rthreads_any q1 n c1 q2 m c2 e p _ (h1.keep (unhide B0)) (h2.keep (unhide B0)))
  have Ht := hide (fun V => T.rwrong_any w h q3 nb c3 V)
  unfold T.WrongIs at Ht
  clear h1 h2 hM hZ
  rw [hs] at Hs
  rw [ht] at Ht
  clear hs ht
  by_cases hw : w = (n : Int)
  · have e1 : (w != (n : Int)) = false := by simp [hw]
    have e2 : (h != (m : Int)) = true := by
      have : h ≠ (m : Int) := fun e => hf ⟨hw.symm, e.symm⟩
      simp [this]
    clear hf hw
    go_enter Try.func7, Try.ntmps7
    go_upto_region 8 with (first | (go_at_call 19; refine (unhide Hs).mono ?_; rintro e' w1 ⟨rfl, hb1⟩; obtain ⟨_, o0, o1⟩ := (unhide OS).keep hb1; obtain ⟨_, o2, o3, o4⟩ := (unhide OM).keep hb1) | (go_at_call 20; refine (unhide Ht _).mono ?_; rintro e' w2 ⟨rfl, hb2⟩; clear o0 o1 o2 o3 o4; obtain ⟨_, o0, o1⟩ := ((unhide OS).keep hb1).keep hb2; obtain ⟨_, o2, o3, o4⟩ := ((unhide OM).keep hb1).keep hb2))
    clear o0 o1 o2 o3 o4
    have hz := (((unhide OZ).keep hb1).keep hb2)
    obtain ⟨z0, a0⟩ := hz.2 0 _ rfl
    obtain ⟨z1, a1⟩ := hz.2 1 _ rfl
    obtain ⟨z2, a2⟩ := hz.2 2 _ rfl
    obtain ⟨z3, a3⟩ := hz.2 3 _ rfl
    obtain ⟨w6, hw6, hb6, hk6, hx6⟩ := put29 (btrans (btrans (unhide B0) hb1) hb2) (show W.heap.size ≤ W.heap.size + 1 + 1 by omega) hz rfl (.int .i64 0) (.int .i64 0) (.int .i64 0) (.slice none 0 0)
    have HX := hide hx6
    have HB6 := hide hb6
    clear hx6 hb6 hk6 hz
    go_wp2_with fail
    have u0 := ((unhide HX).2 0 _ rfl).1
    have u1 := ((unhide HX).2 1 _ rfl).1
    have u2 := ((unhide HX).2 2 _ rfl).1
    have u3 := ((unhide HX).2 3 _ rfl).1
    exact bodyPost_ret (v := .tuple #[Ch.ch 0 0 0 none 0 0, .int .i64 8]) (by simp [results, Try.results7, go_sem, u0, u1, u2, u3]) rfl (ShP.err (unhide HE) (unhide HQ) (unhide HB6))
  · have e1 : (w != (n : Int)) = true := by simp [hw]
    clear hf hw
    go_enter Try.func7, Try.ntmps7
    go_upto_region 8 with (first | (go_at_call 19; refine (unhide Hs).mono ?_; rintro e' w1 ⟨rfl, hb1⟩; obtain ⟨_, o0, o1⟩ := (unhide OS).keep hb1; obtain ⟨_, o2, o3, o4⟩ := (unhide OM).keep hb1) | (go_at_call 20; refine (unhide Ht _).mono ?_; rintro e' w2 ⟨rfl, hb2⟩; clear o0 o1 o2 o3 o4; obtain ⟨_, o0, o1⟩ := ((unhide OS).keep hb1).keep hb2; obtain ⟨_, o2, o3, o4⟩ := ((unhide OM).keep hb1).keep hb2))
    clear o0 o1 o2 o3 o4
    have hz := (((unhide OZ).keep hb1).keep hb2)
    obtain ⟨z0, a0⟩ := hz.2 0 _ rfl
    obtain ⟨z1, a1⟩ := hz.2 1 _ rfl
    obtain ⟨z2, a2⟩ := hz.2 2 _ rfl
    obtain ⟨z3, a3⟩ := hz.2 3 _ rfl
    obtain ⟨w6, hw6, hb6, hk6, hx6⟩ := put29 (btrans (btrans (unhide B0) hb1) hb2) (show W.heap.size ≤ W.heap.size + 1 + 1 by omega) hz rfl (.int .i64 0) (.int .i64 0) (.int .i64 0) (.slice none 0 0)
    have HX := hide hx6
    have HB6 := hide hb6
    clear hx6 hb6 hk6 hz
    go_wp2_with fail
    have u0 := ((unhide HX).2 0 _ rfl).1
    have u1 := ((unhide HX).2 1 _ rfl).1
    have u2 := ((unhide HX).2 2 _ rfl).1
    have u3 := ((unhide HX).2 3 _ rfl).1
    exact bodyPost_ret (v := .tuple #[Ch.ch 0 0 0 none 0 0, .int .i64 8]) (by simp [results, Try.results7, go_sem, u0, u1, u2, u3]) rfl (ShP.err (unhide HE) (unhide HQ) (unhide HB6))

set_option maxRecDepth 100000 in
set_option maxHeartbeats 4000000 in
theorem rshown_ok (q1 : Option Addr) (n c1 : Nat) (q2 : Option Addr) (m c2 : Nat) (e p : Nat → Int) (q3 : Option Addr) (nb c3 : Nat) (f : Nat → Bool) (W : World) (h1 : T.Is W q1 n e) (h2 : T.Is W q2 m p) (h3 : T.Rt W n m q3 nb c3 f) (hs : sE n m e p = 0) :
    Calls Try.prog 7 #[sg q1 n c1 q2 m c2, T.tr n m q3 nb c3] W (ShP n m e p n m nb f W) := by
  obtain ⟨⟨n1, n2⟩, ⟨m1, m2⟩, -, -⟩ := sE_zero hs
  have hnb := h3.2.2.1
  have hwe : T.wE n m nb = 0 := by
    unfold T.wE
    rw [if_pos (by simp [T.sd]; omega), if_pos (by rw [hnb]; simp)]
  have HE := hide (show shE n m e p n m nb = 0 by unfold shE; rw [if_pos hs, if_pos hwe, if_pos ⟨rfl, rfl⟩])
  have B0 := hide (bal (o := .cells #[.int .i64 0, .int .i64 0, .int .i64 0, .slice none 0 0] 29) (bal (o := .cells #[.int .i64 n, .int .i64 m, .slice q3 nb c3] 27) (bnew W (.cells #[.slice q1 n c1, .slice q2 m c2] 24))))
  have OS := hide (((OwnS.new W q1 n c1 q2 m c2 24).keep (bnew _ (.cells #[.int .i64 n, .int .i64 m, .slice q3 nb c3] 27))).keep (bnew _ (.cells #[.int .i64 0, .int .i64 0, .int .i64 0, .slice none 0 0] 29)))
  have hM := T.OwnM.new (W.alloc (.cells #[.slice q1 n c1, .slice q2 m c2] 24)) n m q3 nb c3 27
  rw [World.size_alloc] at hM
  have OM := hide (hM.keep (bnew _ (.cells #[.int .i64 0, .int .i64 0, .int .i64 0, .slice none 0 0] 29)))
  have hZ := Bx.new ((W.alloc (.cells #[.slice q1 n c1, .slice q2 m c2] 24)).alloc (.cells #[.int .i64 n, .int .i64 m, .slice q3 nb c3] 27)) #[.int .i64 0, .int .i64 0, .int .i64 0, .slice none 0 0] 29
  rw [World.size_alloc, World.size_alloc] at hZ
  have OZ := hide hZ
  have Hs := hide (rthreads_any q1 n c1 q2 m c2 e p _ (h1.keep (unhide B0)) (h2.keep (unhide B0)))
  rw [hs] at Hs
  have Ht := hide (fun V => T.rwrong_any n m q3 nb c3 V)
  unfold T.WrongIs at Ht
  rw [hwe] at Ht
  have e1 : ((n : Int) != (n : Int)) = false := by simp
  have e2 : ((m : Int) != (m : Int)) = false := by simp
  have H1 := hide h1
  have H2 := hide h2
  have H3 := hide h3
  have Hn := hide hnb
  clear h1 h2 h3 hM hZ hs hwe hnb
  go_enter Try.func7, Try.ntmps7
  go_upto_region 10 with (first
    | (go_at_call 19; refine (unhide Hs).mono ?_; rintro e' w1 ⟨rfl, hb1⟩; obtain ⟨_, o0, o1⟩ := (unhide OS).keep hb1; obtain ⟨_, o2, o3, o4⟩ := (unhide OM).keep hb1)
    | (go_at_call 20; refine (unhide Ht _).mono ?_; rintro e' w2 ⟨rfl, hb2⟩; clear o0 o1 o2 o3 o4; obtain ⟨_, o0, o1⟩ := ((unhide OS).keep hb1).keep hb2; obtain ⟨_, o2, o3, o4⟩ := ((unhide OM).keep hb1).keep hb2))
  clear o0 o1 o2 o3 o4
  have hb4 := btrans (btrans (unhide B0) hb1) hb2
  have HB4 := hide (bal (o := .cells #[.int .i64 4, .int .i64 n, .int .i64 m, .slice none 0 0] 29) hb4)
  have OS4 := hide ((((unhide OS).keep hb1).keep hb2).keep (bnew w2 (.cells #[.int .i64 4, .int .i64 n, .int .i64 m, .slice none 0 0] 29)))
  have OM4 := hide ((((unhide OM).keep hb1).keep hb2).keep (bnew w2 (.cells #[.int .i64 4, .int .i64 n, .int .i64 m, .slice none 0 0] 29)))
  have hz3 := ((unhide OZ).keep hb1).keep hb2
  have OZ4 := hide (hz3.keep (bnew w2 (.cells #[.int .i64 4, .int .i64 n, .int .i64 m, .slice none 0 0] 29)))
  have hbx := hz3.1
  have HAP := hide (show AP 3 [.int .i64 4, .int .i64 n, .int .i64 m, .slice none 0 0] 3 (w2.alloc (.cells #[.int .i64 4, .int .i64 n, .int .i64 m, .slice none 0 0] 29)) w2.heap.size (w2.alloc (.cells #[.int .i64 4, .int .i64 n, .int .i64 m, .slice none 0 0] 29)) (.slice none 0 0) 0 [] from AP.new (Bx.new w2 #[.int .i64 4, .int .i64 n, .int .i64 m, .slice none 0 0] 29))
  have Hne := hide (show W.heap.size ≠ w2.heap.size ∧ W.heap.size + 1 ≠ w2.heap.size ∧ W.heap.size + 1 + 1 ≠ w2.heap.size ∧ W.heap.size ≤ w2.heap.size by omega)
  clear hb1 hb2 hb4 hz3 hbx B0 OS OM OZ Hs Ht
  generalize w2.alloc (.cells #[.int .i64 4, .int .i64 n, .int .i64 m, .slice none 0 0] 29) = w4 at *
  generalize w2.heap.size = bx at *
  go_wp2
  obtain ⟨F, hF⟩ : ∃ F, F = shw n e p f := ⟨_, rfl⟩
  have HF := hide hF
  clear hF
  have HBb := hide (fun (wr : World) (v : Value) (k : Nat) (xs : List Value) (h : AP 3 [.int .i64 4, .int .i64 n, .int .i64 m, .slice none 0 0] 3 w4 bx wr v k xs) => show Below W.heap.size W wr from Kept.back (unhide HB4) h.1 (unhide HB4).size (fun q e => by rw [e]; exact (unhide Hne).2.2.2))
  go_loopw [9] (fun i wr => ∃ (y : Nat) (v : Value), y ≤ m ∧ i = .int .i64 y ∧ AP 3 [.int .i64 4, .int .i64 n, .int .i64 m, .slice none 0 0] 3 w4 bx wr v (y * n) (vals F (y * n))) (fun i _ => m - (intOf i).toNat)
  case atStart => exact ⟨0, _, by omega, rfl, by rw [Nat.zero_mul]; exact unhide HAP⟩
  case round =>
    clear HAP
    obtain ⟨y, v, hy, rfl, hA⟩ := hrel
    have HA := hide hA
    have HBw := hide (unhide HBb _ _ _ _ hA)
    clear hA
    obtain ⟨_, o2, o3, o4⟩ := OwnM_but (unhide OM4) (unhide HA).1 (unhide Hne).2.1
    by_cases hlt : y < m
    · have qy : (y : Int) < (m : Int) := by omega
      go_wp2
      clear o2 o3 o4
      have A0 := hide (show AP 3 [.int .i64 4, .int .i64 n, .int .i64 m, .slice none 0 0] 3 w4 bx wr v (y * n + 0) (vals F (y * n + 0)) from unhide HA)
      clear HA HBw
      go_loopw [10] (fun i wr => ∃ (x : Nat) (v : Value), x ≤ n ∧ i = .int .i64 x ∧ AP 3 [.int .i64 4, .int .i64 n, .int .i64 m, .slice none 0 0] 3 w4 bx wr v (y * n + x) (vals F (y * n + x))) (fun i _ => n - (intOf i).toNat)
      case atStart => exact ⟨0, _, by omega, rfl, unhide A0⟩
      case round =>
        clear A0
        obtain ⟨x, v, hx, rfl, hA⟩ := hrel
        have HA := hide hA
        have HBw := hide (unhide HBb _ _ _ _ hA)
        clear hA
        obtain ⟨_, o2, o3, o4⟩ := OwnM_but (unhide OM4) (unhide HA).1 (unhide Hne).2.1
        by_cases hlx : x < n
        · have qx : (x : Int) < (n : Int) := by omega
          obtain ⟨yw, k, -, -, hk2, e3, e4, hk, hn4, hyw, hmod, hdiv⟩ := place_nums n2 m2 (unhide Hn) hlx hlt
          rw [← hk2] at HA
          have HBit := hide (T.bit_ok ((unhide H3).keep (unhide HBw)) y x hlt hlx)
          rw [← hk2] at HBit
          have HFk := hide (show F k = if f k then e x else p y by rw [unhide HF]; unfold shw; rw [hmod, hdiv])
          have Hk := hide (show y * n + (x + 1) = k + 1 by omega)
          have hk4 : k ≤ 4096 := by omega
          clear hmod hdiv hk2 hk hn4 e3 e4 hyw
          generalize f k = bt at *
          cases bt
          · go_wp2_with (go_at_call 21; refine (unhide HBit).mono ?_; rintro e' w7 ⟨rfl, hb7⟩)
            have HA7 := hide ((unhide HA).keep hb7)
            have HB7 := hide (btrans (unhide HBw) hb7)
            clear o2 o3 o4 hb7 HBit
            have HC := hide (show p y = F k by rw [unhide HFk]; rfl)
            obtain ⟨cc, hcc⟩ : ∃ cc, cc = p y := ⟨_, rfl⟩
            have Hcc := hide hcc
            rw [← hcc] at HC
            clear hcc
            have HS := (unhide HA7).keep (bdrew w7)
            have HB8 := btrans (unhide HB7) (bdrew w7)
            refine wp_region_noPanic ?_
            refine wp_region_held_drew (S := fun V => Kept (fun i => i = bx) w4 V) (by kernel_rfl) (HS.1) ?_
            intro _
            generalize w7.drew = w8 at *
            obtain ⟨bi, oi, e8, hl8, hc8⟩ := ((unhide H2).keep (unhide HBw)).at (show y < m by omega)
            have hcell : ∀ V, Kept (fun i => i = bx) w4 V → ∃ b o, q2 = some ⟨b, o, none⟩ ∧ V.cell? ⟨b, o + y, none⟩ = some (.int .i64 cc) := fun V hV => by
              obtain ⟨b, o, e1, _, h2⟩ := ((unhide H2).keep (Kept.back (unhide HB4) hV (unhide HB4).size (fun q e => by rw [e]; exact (unhide Hne).2.2.2))).at (show y < m by omega)
              exact ⟨b, o, e1, by rw [unhide Hcc]; exact h2⟩
            subst e8
            clear hc8
            refine wpAnyH_take (i := 0) (oi := _) (v := .pointer (some ⟨bx, 3, none⟩)) g11_0 (by kernel_rfl) (by kernel_rfl) (by kernel_rfl) (fun _ _ _ h => h) (Or.inl ⟨by rfl, ?_⟩) (by assumption) ?_
            · intro V hSw
              try dsimp only at hSw
              go_simp
            simp only [Act.put, List.setIfInBounds_toArray, List.set_cons_zero, List.set_cons_succ]
            refine wpAnyH_take (i := 2) (oi := _) (v := .pointer (some ⟨W.heap.size, 1, none⟩)) g11_2 (by kernel_rfl) (by kernel_rfl) (by kernel_rfl) (fun _ _ _ h => h) (Or.inl ⟨by rfl, ?_⟩) (by assumption) ?_
            · intro V hSw
              try dsimp only at hSw
              go_simp
            simp only [Act.put, List.setIfInBounds_toArray, List.set_cons_zero, List.set_cons_succ]
            refine wpAnyH_take (i := 3) (oi := _) (v := .slice (some ⟨bi, oi, none⟩) m c2) g11_3 (by kernel_rfl) (by kernel_rfl) (by kernel_rfl) (fun _ _ _ h => h) (Or.inl ⟨by rfl, ?_⟩) (by assumption) ?_
            · intro V hSw
              try dsimp only at hSw
              obtain ⟨_, s0, s1⟩ := OwnS.but' (unhide OS4) hSw (unhide Hne).1
              go_simp
            simp only [Act.put, List.setIfInBounds_toArray, List.set_cons_zero, List.set_cons_succ]
            refine wpAnyH_take (i := 4) (oi := _) (v := .int .i64 (y : Int)) g11_4 (by kernel_rfl) (by kernel_rfl) (by kernel_rfl) (fun _ _ _ h => h) (Or.inl ⟨by rfl, ?_⟩) (by assumption) ?_
            · intro V hSw
              try dsimp only at hSw
              go_simp
            simp only [Act.put, List.setIfInBounds_toArray, List.set_cons_zero, List.set_cons_succ]
            refine wpAnyH_take (i := 5) (oi := _) (v := .pointer (some ⟨bi, oi + y, none⟩)) g11_5 (by kernel_rfl) (by kernel_rfl) (by kernel_rfl) (fun _ _ _ h => h) (Or.inl ⟨by rfl, ?_⟩) (by assumption) ?_
            · intro V hSw
              try dsimp only at hSw
              have q9 : (y : Int) < (m : Int) := by omega
              go_simp
            simp only [Act.put, List.setIfInBounds_toArray, List.set_cons_zero, List.set_cons_succ]
            refine wpAnyH_take (i := 6) (oi := _) (v := .int .i64 cc) g11_6 (by kernel_rfl) (by kernel_rfl) (by kernel_rfl) (fun _ _ _ h => h) (Or.inl ⟨by rfl, ?_⟩) (by assumption) ?_
            · intro V hSw
              try dsimp only at hSw
              obtain ⟨b', o', e9, h9⟩ := hcell _ hSw
              cases e9
              go_simp
            simp only [Act.put, List.setIfInBounds_toArray, List.set_cons_zero, List.set_cons_succ]
            refine wpAnyH_ready (rs := [1, 7]) (by kernel_rfl) (by simp) ?_
            refine (AllReadyH.cons (o := _) g11_1 (fun K hK => ?_) (AllReadyH.cons (o := _) g11_7 (fun K hK => ?_) AllReadyH.nil))
            · obtain ⟨x3, y3⟩ := HS.2.1.2 3 v rfl
              go_simp
              refine hK.out _ _ (HS.1) (fun _ => ?_)
              clear hK K
              refine wpAnyH_ready (rs := [7]) (by kernel_rfl) (by simp) ?_
              refine AllReadyH.cons (o := _) g11_7 (fun K hK => ?_) AllReadyH.nil
              go_simp
              have HO := own_keep HS.2.2.1 (bnew w8 (.cells #[.int .i64 cc] 3))
              have HS9 := HS.keep (bnew w8 (.cells #[.int .i64 cc] 3))
              refine hK.out _ _ (HS9.1) (fun _ => ?_)
              clear hK K
              refine wpAnyH_ready (rs := [8]) (by kernel_rfl) (by simp) ?_
              refine AllReadyH.cons (o := _) g11_8 (fun K hK => ?_) AllReadyH.nil
              refine wp_app (t := 22) (e := 3) rfl Try.underlying22 info3 rfl (by decide) rfl rfl HO (lit_row w8 (.int .i64 cc) 3) (lit_one rfl) (by unfold maxLen; omega) (by omega) (by have := HS.1.size; rw [World.size_alloc]; omega) ?_
              intro v' w5 hown' hgrow _
              obtain ⟨hx5, hk5⟩ := HS9.grown hgrow
              refine hK.out _ _ (hk5) (fun _ => ?_)
              clear hK K
              refine wpAnyH_take (i := 9) (oi := _) (v := .pointer (some ⟨bx, 3, none⟩)) g11_9 (by kernel_rfl) (by kernel_rfl) (by kernel_rfl) (fun _ _ _ h => h) (Or.inl ⟨by rfl, ?_⟩) (by assumption) ?_
              · intro V hSw
                try dsimp only at hSw
                go_simp
              simp only [Act.put, List.setIfInBounds_toArray, List.set_cons_zero, List.set_cons_succ]
              refine wpAnyH_ready (rs := [10]) (by kernel_rfl) (by simp) ?_
              refine AllReadyH.cons (o := _) g11_10 (fun K hK => ?_) AllReadyH.nil
              obtain ⟨x5, y5⟩ := hx5.2 3 v rfl
              obtain ⟨q5, cp5, rfl⟩ := own_form hown'
              have HN := hide (show AP 3 [.int .i64 4, .int .i64 n, .int .i64 m, .slice none 0 0] 3 w4 bx (w5.setCell ⟨bx, 3, none⟩ (.slice q5 (k + 1) cp5)) (.slice q5 (k + 1) cp5) (y * n + (x + 1)) (vals F (y * n + (x + 1))) from by
              rw [unhide Hk]
              exact AP.step ⟨hx5, hk5⟩ HS.2.2.2 (by rw [vals_succ, ← unhide HC]; exact hown'))
              go_simp
              refine hK.out _ _ ((unhide HN).1) (fun _ => ?_)
              clear hK K
              clear hown' hgrow hx5 hk5 HO HS9 x3 y3 x5 y5 HS HB8 hcell
              refine wpAnyH_done (by kernel_rfl) ?_ _
              refine NoPanic.normal ?_
              go_wp2
              go_roundw
              case rel => exact ⟨x + 1, _, by omega, by go_num, unhide HN⟩
              case measure => simp [intOf]; omega
            · go_simp
              have HO := own_keep HS.2.2.1 (bnew w8 (.cells #[.int .i64 cc] 3))
              have HS9 := HS.keep (bnew w8 (.cells #[.int .i64 cc] 3))
              refine hK.out _ _ (HS9.1) (fun _ => ?_)
              clear hK K
              refine wpAnyH_ready (rs := [1]) (by kernel_rfl) (by simp) ?_
              refine AllReadyH.cons (o := _) g11_1 (fun K hK => ?_) AllReadyH.nil
              obtain ⟨x3, y3⟩ := HS9.2.1.2 3 v rfl
              go_simp
              refine hK.out _ _ (HS9.1) (fun _ => ?_)
              clear hK K
              refine wpAnyH_ready (rs := [8]) (by kernel_rfl) (by simp) ?_
              refine AllReadyH.cons (o := _) g11_8 (fun K hK => ?_) AllReadyH.nil
              refine wp_app (t := 22) (e := 3) rfl Try.underlying22 info3 rfl (by decide) rfl rfl HO (lit_row w8 (.int .i64 cc) 3) (lit_one rfl) (by unfold maxLen; omega) (by omega) (by have := HS.1.size; rw [World.size_alloc]; omega) ?_
              intro v' w5 hown' hgrow _
              obtain ⟨hx5, hk5⟩ := HS9.grown hgrow
              refine hK.out _ _ (hk5) (fun _ => ?_)
              clear hK K
              refine wpAnyH_take (i := 9) (oi := _) (v := .pointer (some ⟨bx, 3, none⟩)) g11_9 (by kernel_rfl) (by kernel_rfl) (by kernel_rfl) (fun _ _ _ h => h) (Or.inl ⟨by rfl, ?_⟩) (by assumption) ?_
              · intro V hSw
                try dsimp only at hSw
                go_simp
              simp only [Act.put, List.setIfInBounds_toArray, List.set_cons_zero, List.set_cons_succ]
              refine wpAnyH_ready (rs := [10]) (by kernel_rfl) (by simp) ?_
              refine AllReadyH.cons (o := _) g11_10 (fun K hK => ?_) AllReadyH.nil
              obtain ⟨x5, y5⟩ := hx5.2 3 v rfl
              obtain ⟨q5, cp5, rfl⟩ := own_form hown'
              have HN := hide (show AP 3 [.int .i64 4, .int .i64 n, .int .i64 m, .slice none 0 0] 3 w4 bx (w5.setCell ⟨bx, 3, none⟩ (.slice q5 (k + 1) cp5)) (.slice q5 (k + 1) cp5) (y * n + (x + 1)) (vals F (y * n + (x + 1))) from by
              rw [unhide Hk]
              exact AP.step ⟨hx5, hk5⟩ HS.2.2.2 (by rw [vals_succ, ← unhide HC]; exact hown'))
              go_simp
              refine hK.out _ _ ((unhide HN).1) (fun _ => ?_)
              clear hK K
              clear hown' hgrow hx5 hk5 HO HS9 x3 y3 x5 y5 HS HB8 hcell
              refine wpAnyH_done (by kernel_rfl) ?_ _
              refine NoPanic.normal ?_
              go_wp2
              go_roundw
              case rel => exact ⟨x + 1, _, by omega, by go_num, unhide HN⟩
              case measure => simp [intOf]; omega
          · go_wp2_with (go_at_call 21; refine (unhide HBit).mono ?_; rintro e' w7 ⟨rfl, hb7⟩)
            have HA7 := hide ((unhide HA).keep hb7)
            have HB7 := hide (btrans (unhide HBw) hb7)
            clear o2 o3 o4 hb7 HBit
            have HC := hide (show e x = F k by rw [unhide HFk]; rfl)
            obtain ⟨cc, hcc⟩ : ∃ cc, cc = e x := ⟨_, rfl⟩
            have Hcc := hide hcc
            rw [← hcc] at HC
            clear hcc
            have HS := (unhide HA7).keep (bdrew w7)
            have HB8 := btrans (unhide HB7) (bdrew w7)
            refine wp_region_noPanic ?_
            refine wp_region_held_drew (S := fun V => Kept (fun i => i = bx) w4 V) (by kernel_rfl) (HS.1) ?_
            intro _
            generalize w7.drew = w8 at *
            obtain ⟨bi, oi, e8, hl8, hc8⟩ := ((unhide H1).keep (unhide HBw)).at (show x < n by omega)
            have hcell : ∀ V, Kept (fun i => i = bx) w4 V → ∃ b o, q1 = some ⟨b, o, none⟩ ∧ V.cell? ⟨b, o + x, none⟩ = some (.int .i64 cc) := fun V hV => by
              obtain ⟨b, o, e1, _, h2⟩ := ((unhide H1).keep (Kept.back (unhide HB4) hV (unhide HB4).size (fun q e => by rw [e]; exact (unhide Hne).2.2.2))).at (show x < n by omega)
              exact ⟨b, o, e1, by rw [unhide Hcc]; exact h2⟩
            subst e8
            clear hc8
            refine wpAnyH_take (i := 0) (oi := _) (v := .pointer (some ⟨bx, 3, none⟩)) g11_0 (by kernel_rfl) (by kernel_rfl) (by kernel_rfl) (fun _ _ _ h => h) (Or.inl ⟨by rfl, ?_⟩) (by assumption) ?_
            · intro V hSw
              try dsimp only at hSw
              go_simp
            simp only [Act.put, List.setIfInBounds_toArray, List.set_cons_zero, List.set_cons_succ]
            refine wpAnyH_take (i := 2) (oi := _) (v := .pointer (some ⟨W.heap.size, 0, none⟩)) g11_2 (by kernel_rfl) (by kernel_rfl) (by kernel_rfl) (fun _ _ _ h => h) (Or.inl ⟨by rfl, ?_⟩) (by assumption) ?_
            · intro V hSw
              try dsimp only at hSw
              go_simp
            simp only [Act.put, List.setIfInBounds_toArray, List.set_cons_zero, List.set_cons_succ]
            refine wpAnyH_take (i := 3) (oi := _) (v := .slice (some ⟨bi, oi, none⟩) n c1) g11_3 (by kernel_rfl) (by kernel_rfl) (by kernel_rfl) (fun _ _ _ h => h) (Or.inl ⟨by rfl, ?_⟩) (by assumption) ?_
            · intro V hSw
              try dsimp only at hSw
              obtain ⟨_, s0, s1⟩ := OwnS.but' (unhide OS4) hSw (unhide Hne).1
              go_simp
            simp only [Act.put, List.setIfInBounds_toArray, List.set_cons_zero, List.set_cons_succ]
            refine wpAnyH_take (i := 4) (oi := _) (v := .int .i64 (x : Int)) g11_4 (by kernel_rfl) (by kernel_rfl) (by kernel_rfl) (fun _ _ _ h => h) (Or.inl ⟨by rfl, ?_⟩) (by assumption) ?_
            · intro V hSw
              try dsimp only at hSw
              go_simp
            simp only [Act.put, List.setIfInBounds_toArray, List.set_cons_zero, List.set_cons_succ]
            refine wpAnyH_take (i := 5) (oi := _) (v := .pointer (some ⟨bi, oi + x, none⟩)) g11_5 (by kernel_rfl) (by kernel_rfl) (by kernel_rfl) (fun _ _ _ h => h) (Or.inl ⟨by rfl, ?_⟩) (by assumption) ?_
            · intro V hSw
              try dsimp only at hSw
              have q9 : (x : Int) < (n : Int) := by omega
              go_simp
            simp only [Act.put, List.setIfInBounds_toArray, List.set_cons_zero, List.set_cons_succ]
            refine wpAnyH_take (i := 6) (oi := _) (v := .int .i64 cc) g11_6 (by kernel_rfl) (by kernel_rfl) (by kernel_rfl) (fun _ _ _ h => h) (Or.inl ⟨by rfl, ?_⟩) (by assumption) ?_
            · intro V hSw
              try dsimp only at hSw
              obtain ⟨b', o', e9, h9⟩ := hcell _ hSw
              cases e9
              go_simp
            simp only [Act.put, List.setIfInBounds_toArray, List.set_cons_zero, List.set_cons_succ]
            refine wpAnyH_ready (rs := [1, 7]) (by kernel_rfl) (by simp) ?_
            refine (AllReadyH.cons (o := _) g11_1 (fun K hK => ?_) (AllReadyH.cons (o := _) g11_7 (fun K hK => ?_) AllReadyH.nil))
            · obtain ⟨x3, y3⟩ := HS.2.1.2 3 v rfl
              go_simp
              refine hK.out _ _ (HS.1) (fun _ => ?_)
              clear hK K
              refine wpAnyH_ready (rs := [7]) (by kernel_rfl) (by simp) ?_
              refine AllReadyH.cons (o := _) g11_7 (fun K hK => ?_) AllReadyH.nil
              go_simp
              have HO := own_keep HS.2.2.1 (bnew w8 (.cells #[.int .i64 cc] 3))
              have HS9 := HS.keep (bnew w8 (.cells #[.int .i64 cc] 3))
              refine hK.out _ _ (HS9.1) (fun _ => ?_)
              clear hK K
              refine wpAnyH_ready (rs := [8]) (by kernel_rfl) (by simp) ?_
              refine AllReadyH.cons (o := _) g11_8 (fun K hK => ?_) AllReadyH.nil
              refine wp_app (t := 22) (e := 3) rfl Try.underlying22 info3 rfl (by decide) rfl rfl HO (lit_row w8 (.int .i64 cc) 3) (lit_one rfl) (by unfold maxLen; omega) (by omega) (by have := HS.1.size; rw [World.size_alloc]; omega) ?_
              intro v' w5 hown' hgrow _
              obtain ⟨hx5, hk5⟩ := HS9.grown hgrow
              refine hK.out _ _ (hk5) (fun _ => ?_)
              clear hK K
              refine wpAnyH_take (i := 9) (oi := _) (v := .pointer (some ⟨bx, 3, none⟩)) g11_9 (by kernel_rfl) (by kernel_rfl) (by kernel_rfl) (fun _ _ _ h => h) (Or.inl ⟨by rfl, ?_⟩) (by assumption) ?_
              · intro V hSw
                try dsimp only at hSw
                go_simp
              simp only [Act.put, List.setIfInBounds_toArray, List.set_cons_zero, List.set_cons_succ]
              refine wpAnyH_ready (rs := [10]) (by kernel_rfl) (by simp) ?_
              refine AllReadyH.cons (o := _) g11_10 (fun K hK => ?_) AllReadyH.nil
              obtain ⟨x5, y5⟩ := hx5.2 3 v rfl
              obtain ⟨q5, cp5, rfl⟩ := own_form hown'
              have HN := hide (show AP 3 [.int .i64 4, .int .i64 n, .int .i64 m, .slice none 0 0] 3 w4 bx (w5.setCell ⟨bx, 3, none⟩ (.slice q5 (k + 1) cp5)) (.slice q5 (k + 1) cp5) (y * n + (x + 1)) (vals F (y * n + (x + 1))) from by
              rw [unhide Hk]
              exact AP.step ⟨hx5, hk5⟩ HS.2.2.2 (by rw [vals_succ, ← unhide HC]; exact hown'))
              go_simp
              refine hK.out _ _ ((unhide HN).1) (fun _ => ?_)
              clear hK K
              clear hown' hgrow hx5 hk5 HO HS9 x3 y3 x5 y5 HS HB8 hcell
              refine wpAnyH_done (by kernel_rfl) ?_ _
              refine NoPanic.normal ?_
              go_wp2
              go_roundw
              case rel => exact ⟨x + 1, _, by omega, by go_num, unhide HN⟩
              case measure => simp [intOf]; omega
            · go_simp
              have HO := own_keep HS.2.2.1 (bnew w8 (.cells #[.int .i64 cc] 3))
              have HS9 := HS.keep (bnew w8 (.cells #[.int .i64 cc] 3))
              refine hK.out _ _ (HS9.1) (fun _ => ?_)
              clear hK K
              refine wpAnyH_ready (rs := [1]) (by kernel_rfl) (by simp) ?_
              refine AllReadyH.cons (o := _) g11_1 (fun K hK => ?_) AllReadyH.nil
              obtain ⟨x3, y3⟩ := HS9.2.1.2 3 v rfl
              go_simp
              refine hK.out _ _ (HS9.1) (fun _ => ?_)
              clear hK K
              refine wpAnyH_ready (rs := [8]) (by kernel_rfl) (by simp) ?_
              refine AllReadyH.cons (o := _) g11_8 (fun K hK => ?_) AllReadyH.nil
              refine wp_app (t := 22) (e := 3) rfl Try.underlying22 info3 rfl (by decide) rfl rfl HO (lit_row w8 (.int .i64 cc) 3) (lit_one rfl) (by unfold maxLen; omega) (by omega) (by have := HS.1.size; rw [World.size_alloc]; omega) ?_
              intro v' w5 hown' hgrow _
              obtain ⟨hx5, hk5⟩ := HS9.grown hgrow
              refine hK.out _ _ (hk5) (fun _ => ?_)
              clear hK K
              refine wpAnyH_take (i := 9) (oi := _) (v := .pointer (some ⟨bx, 3, none⟩)) g11_9 (by kernel_rfl) (by kernel_rfl) (by kernel_rfl) (fun _ _ _ h => h) (Or.inl ⟨by rfl, ?_⟩) (by assumption) ?_
              · intro V hSw
                try dsimp only at hSw
                go_simp
              simp only [Act.put, List.setIfInBounds_toArray, List.set_cons_zero, List.set_cons_succ]
              refine wpAnyH_ready (rs := [10]) (by kernel_rfl) (by simp) ?_
              refine AllReadyH.cons (o := _) g11_10 (fun K hK => ?_) AllReadyH.nil
              obtain ⟨x5, y5⟩ := hx5.2 3 v rfl
              obtain ⟨q5, cp5, rfl⟩ := own_form hown'
              have HN := hide (show AP 3 [.int .i64 4, .int .i64 n, .int .i64 m, .slice none 0 0] 3 w4 bx (w5.setCell ⟨bx, 3, none⟩ (.slice q5 (k + 1) cp5)) (.slice q5 (k + 1) cp5) (y * n + (x + 1)) (vals F (y * n + (x + 1))) from by
              rw [unhide Hk]
              exact AP.step ⟨hx5, hk5⟩ HS.2.2.2 (by rw [vals_succ, ← unhide HC]; exact hown'))
              go_simp
              refine hK.out _ _ ((unhide HN).1) (fun _ => ?_)
              clear hK K
              clear hown' hgrow hx5 hk5 HO HS9 x3 y3 x5 y5 HS HB8 hcell
              refine wpAnyH_done (by kernel_rfl) ?_ _
              refine NoPanic.normal ?_
              go_wp2
              go_roundw
              case rel => exact ⟨x + 1, _, by omega, by go_num, unhide HN⟩
              case measure => simp [intOf]; omega
        · obtain rfl : x = n := by omega
          have cl : ¬ ((x : Int) < (x : Int)) := by omega
          have HN := hide (show AP 3 [.int .i64 4, .int .i64 x, .int .i64 m, .slice none 0 0] 3 w4 bx wr v ((y + 1) * x) (vals F ((y + 1) * x)) by rw [← row_next]; exact unhide HA)
          go_wp2
          go_roundw
          case rel => exact ⟨y + 1, _, by omega, by go_num, unhide HN⟩
          case measure => simp [intOf]; omega
    · obtain rfl : y = m := by omega
      have cl : ¬ ((y : Int) < (y : Int)) := by omega
      obtain ⟨x0, y0⟩ := (unhide HA).2.1.2 0 _ rfl
      obtain ⟨x1, y1⟩ := (unhide HA).2.1.2 1 _ rfl
      obtain ⟨x2, y2⟩ := (unhide HA).2.1.2 2 _ rfl
      obtain ⟨x3, y3⟩ := (unhide HA).2.1.2 3 _ rfl
      have hz := (unhide OZ4).but (unhide HA).1 (unhide Hne).2.2.1
      obtain ⟨z0, a0⟩ := hz.2 0 _ rfl
      obtain ⟨z1, a1⟩ := hz.2 1 _ rfl
      obtain ⟨z2, a2⟩ := hz.2 2 _ rfl
      obtain ⟨z3, a3⟩ := hz.2 3 _ rfl
      obtain ⟨q5, cp5, rfl⟩ := own_form (unhide HA).2.2.1
      obtain ⟨w6, hw6, hb6, hk6, hx6⟩ := put29 (unhide HBw) (show W.heap.size ≤ W.heap.size + 1 + 1 by omega) hz rfl (.int .i64 4) (.int .i64 n) (.int .i64 y) (.slice q5 (y * n) cp5)
      have HX := hide hx6
      have HB6 := hide hb6
      have HI := hide (show T.Is w6 q5 (y * n) F from ir_of (own_but (unhide HA).2.2.1 hk6 (fun i hi e' => by have := ((unhide HA).2.2.1.lt i hi).1; have := (unhide OZ4).1; omega)))
      have Hyn := hide (Nat.mul_comm y n)
      clear hx6 hb6 hk6 hz
      generalize y * n = kk at *
      go_wp2_with fail
      have u0 := ((unhide HX).2 0 _ rfl).1
      have u1 := ((unhide HX).2 1 _ rfl).1
      have u2 := ((unhide HX).2 2 _ rfl).1
      have u3 := ((unhide HX).2 3 _ rfl).1
      exact bodyPost_ret (v := .tuple #[Ch.ch 4 n y q5 kk cp5, .int .i64 0]) (by simp [results, Try.results7, go_sem, u0, u1, u2, u3]) rfl ⟨0, 4, n, y, kk, F, q5, cp5, rfl, unhide HI, unhide HB6, .inr ⟨unhide HE, rfl, rfl, rfl, rfl, unhide Hyn, fun j _ => by rw [unhide HF]⟩⟩

theorem rshown_any (q1 : Option Addr) (n c1 : Nat) (q2 : Option Addr) (m c2 : Nat) (e p : Nat → Int) (w h : Int) (q3 : Option Addr) (nb c3 : Nat) (f : Nat → Bool) (W : World) (h1 : T.Is W q1 n e) (h2 : T.Is W q2 m p) (h3 : T.Bs W q3 nb c3 f) :
    Calls Try.prog 7 #[sg q1 n c1 q2 m c2, T.tr w h q3 nb c3] W (ShP n m e p w h nb f W) := by
  by_cases hs : sE n m e p = 0
  · by_cases ht : T.wE w h nb = 0
    · by_cases hf : (n : Int) = w ∧ (m : Int) = h
      · obtain ⟨rfl, rfl⟩ := hf
        obtain ⟨w', h', e1, e2, e3, e4, e5⟩ := T.wE_zero _ _ _ ht
        obtain rfl : n = w' := by omega
        obtain rfl : m = h' := by omega
        exact rshown_ok q1 n c1 q2 m c2 e p q3 nb c3 f W h1 h2 ⟨e3, e4, e5, h3⟩ hs
      · exact rshown_fit q1 n c1 q2 m c2 e p w h q3 nb c3 f W h1 h2 hs ht hf
    · exact rshown_truth q1 n c1 q2 m c2 e p w h q3 nb c3 f W h1 h2 hs ht
  · exact rshown_threads q1 n c1 q2 m c2 e p w h q3 nb c3 f W h1 h2 hs
end Go.Proofs.Ytbmgjoocpbikkaa
