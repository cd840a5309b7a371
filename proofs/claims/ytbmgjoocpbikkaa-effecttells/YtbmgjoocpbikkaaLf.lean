/-
  EffectFirst: of all threads that can show a picture those are told that come first.
-/
import Derived.Test.YtbmgjoocpbikkaaLm
namespace Go.Proofs.Ytbmgjoocpbikkaa
open Go.RowKit

theorem g16_0 {a0 a1 a2 a3 a4 a5 a6 a7 a8 a9 a10 a11 a12 a13 a14 a15 : Oper} : (#[a0, a1, a2, a3, a4, a5, a6, a7, a8, a9, a10, a11, a12, a13, a14, a15] : Array Oper)[0]? = some a0 := rfl
theorem g16_1 {a0 a1 a2 a3 a4 a5 a6 a7 a8 a9 a10 a11 a12 a13 a14 a15 : Oper} : (#[a0, a1, a2, a3, a4, a5, a6, a7, a8, a9, a10, a11, a12, a13, a14, a15] : Array Oper)[1]? = some a1 := rfl
theorem g16_2 {a0 a1 a2 a3 a4 a5 a6 a7 a8 a9 a10 a11 a12 a13 a14 a15 : Oper} : (#[a0, a1, a2, a3, a4, a5, a6, a7, a8, a9, a10, a11, a12, a13, a14, a15] : Array Oper)[2]? = some a2 := rfl
theorem g16_3 {a0 a1 a2 a3 a4 a5 a6 a7 a8 a9 a10 a11 a12 a13 a14 a15 : Oper} : (#[a0, a1, a2, a3, a4, a5, a6, a7, a8, a9, a10, a11, a12, a13, a14, a15] : Array Oper)[3]? = some a3 := rfl
theorem g16_4 {a0 a1 a2 a3 a4 a5 a6 a7 a8 a9 a10 a11 a12 a13 a14 a15 : Oper} : (#[a0, a1, a2, a3, a4, a5, a6, a7, a8, a9, a10, a11, a12, a13, a14, a15] : Array Oper)[4]? = some a4 := rfl
theorem g16_5 {a0 a1 a2 a3 a4 a5 a6 a7 a8 a9 a10 a11 a12 a13 a14 a15 : Oper} : (#[a0, a1, a2, a3, a4, a5, a6, a7, a8, a9, a10, a11, a12, a13, a14, a15] : Array Oper)[5]? = some a5 := rfl
theorem g16_6 {a0 a1 a2 a3 a4 a5 a6 a7 a8 a9 a10 a11 a12 a13 a14 a15 : Oper} : (#[a0, a1, a2, a3, a4, a5, a6, a7, a8, a9, a10, a11, a12, a13, a14, a15] : Array Oper)[6]? = some a6 := rfl
theorem g16_7 {a0 a1 a2 a3 a4 a5 a6 a7 a8 a9 a10 a11 a12 a13 a14 a15 : Oper} : (#[a0, a1, a2, a3, a4, a5, a6, a7, a8, a9, a10, a11, a12, a13, a14, a15] : Array Oper)[7]? = some a7 := rfl
theorem g16_8 {a0 a1 a2 a3 a4 a5 a6 a7 a8 a9 a10 a11 a12 a13 a14 a15 : Oper} : (#[a0, a1, a2, a3, a4, a5, a6, a7, a8, a9, a10, a11, a12, a13, a14, a15] : Array Oper)[8]? = some a8 := rfl
theorem g16_9 {a0 a1 a2 a3 a4 a5 a6 a7 a8 a9 a10 a11 a12 a13 a14 a15 : Oper} : (#[a0, a1, a2, a3, a4, a5, a6, a7, a8, a9, a10, a11, a12, a13, a14, a15] : Array Oper)[9]? = some a9 := rfl
theorem g16_10 {a0 a1 a2 a3 a4 a5 a6 a7 a8 a9 a10 a11 a12 a13 a14 a15 : Oper} : (#[a0, a1, a2, a3, a4, a5, a6, a7, a8, a9, a10, a11, a12, a13, a14, a15] : Array Oper)[10]? = some a10 := rfl
theorem g16_11 {a0 a1 a2 a3 a4 a5 a6 a7 a8 a9 a10 a11 a12 a13 a14 a15 : Oper} : (#[a0, a1, a2, a3, a4, a5, a6, a7, a8, a9, a10, a11, a12, a13, a14, a15] : Array Oper)[11]? = some a11 := rfl
theorem g16_12 {a0 a1 a2 a3 a4 a5 a6 a7 a8 a9 a10 a11 a12 a13 a14 a15 : Oper} : (#[a0, a1, a2, a3, a4, a5, a6, a7, a8, a9, a10, a11, a12, a13, a14, a15] : Array Oper)[12]? = some a12 := rfl
theorem g16_13 {a0 a1 a2 a3 a4 a5 a6 a7 a8 a9 a10 a11 a12 a13 a14 a15 : Oper} : (#[a0, a1, a2, a3, a4, a5, a6, a7, a8, a9, a10, a11, a12, a13, a14, a15] : Array Oper)[13]? = some a13 := rfl
theorem g16_14 {a0 a1 a2 a3 a4 a5 a6 a7 a8 a9 a10 a11 a12 a13 a14 a15 : Oper} : (#[a0, a1, a2, a3, a4, a5, a6, a7, a8, a9, a10, a11, a12, a13, a14, a15] : Array Oper)[14]? = some a14 := rfl
theorem g16_15 {a0 a1 a2 a3 a4 a5 a6 a7 a8 a9 a10 a11 a12 a13 a14 a15 : Oper} : (#[a0, a1, a2, a3, a4, a5, a6, a7, a8, a9, a10, a11, a12, a13, a14, a15] : Array Oper)[15]? = some a15 := rfl

/-- two rows lie in two blocks -/
def Df (v u : Value) : Prop := ∀ i, v.ownBlock = some i → u.ownBlock ≠ some i
theorem Df.symm {v u : Value} (h : Df v u) : Df u v := fun i h1 h2 => h i h2 h1
theorem Df.new {W : World} {B : Nat} {e : TypeId} {z n : Nat} {v : Value} {xs : List Value} (h : W.ownsRow B e z v n xs) (k : Nat) : Df v (.slice (some ⟨W.heap.size, 0, none⟩) k k) := fun i h1 h2 => by
  have := (h.lt i h1).2
  simp [Value.ownBlock] at h2
  omega
theorem Df.app {W : World} {B : Nat} {e : TypeId} {z n : Nat} {v v' u : Value} {xs : List Value} (h : Df v u) (hu : W.ownsRow B e z u n xs) (hat : v'.ownBlock = v.ownBlock ∨ v'.ownBlock = some W.heap.size) : Df v' u := fun i h1 h2 => by
  rcases hat with q | q
  · exact h i (by rw [← q]; exact h1) h2
  · rw [q] at h1
    have := (hu.lt i h2).2
    cases h1
    omega
theorem Df.kept {W V : World} {B : Nat} {e : TypeId} {z n : Nat} {v u : Value} {xs : List Value} (h : Df v u) (hu : W.ownsRow B e z u n xs) (hg : W.grownBy V v.ownBlock) : V.ownsRow B e z u n xs :=
  own_but hu (grown_kept (S := fun i => v.ownBlock = some i) hg fun _ hr => .inl hr) (fun i hi e' => h i e' hi)
theorem lit_zero {w : World} {B : Nat} (hB : B ≤ w.heap.size) : IR (w.alloc (.cells #[] 3)) B (.slice (some ⟨w.heap.size, 0, none⟩) 0 0) 0 (fun _ => 0) := own_lit (e := 3) (z := 1) (k := 0) w #[] hB (by unfold maxLen; omega) rfl
theorem row_back {n : Nat} {F p1 : Nat → Int} (h : Hid (p1 = fun y => F (n + y))) (k : Nat) : (if k < n then F k else p1 (k - n)) = F k := by
  by_cases c : k < n
  · rw [if_pos c]
  · rw [if_neg c, unhide h]
    dsimp only
    rw [show n + (k - n) = k by omega]
/-- where they first differ they are less -/
theorem first_less {P : Pic} {F G : Nat → Int} (h : First P F) (hT : Tot P G) (hG : Good P G) {i : Nat} (hi : i < P.n) (hb : ∀ j, j < i → F j = G j) (hne : F i ≠ G i) : F i < G i := by
  rcases h.2.2 G hT hG with r | ⟨j, j1, j2, j3⟩
  · exact absurd (r i hi).symm hne
  · rcases Nat.lt_trichotomy i j with q | q | q
    · exact absurd (j3 i q) hne
    · subst q; exact j2
    · have := hb j q; omega

set_option maxRecDepth 100000 in
set_option maxHeartbeats 4000000 in
theorem first_wrong (q1 : Option Addr) (n c1 : Nat) (q2 : Option Addr) (m c2 : Nat) (e p : Nat → Int) (g w h : Int) (q4 : Option Addr) (nc c4 : Nat) (px : Nat → Int) (W : World) (h1 : T.Is W q1 n e) (h2 : T.Is W q2 m p) (h4 : T.Is W q4 nc px) (he : pE g w h nc px ≠ 0) :
    Calls Try.prog 5 #[sg q1 n c1 q2 m c2, Ch.ch g w h q4 nc c4] W fun e' w' => e' = .returned (.bool true) ∧ Below W.heap.size W w' := by
  have B0 := hide (bal (o := .cells #[.int .i64 g, .int .i64 w, .int .i64 h, .slice q4 nc c4] 29) (bnew W (.cells #[.slice q1 n c1, .slice q2 m c2] 24)))
  have OS := (OwnS.new W q1 n c1 q2 m c2 24).keep (bnew _ (.cells #[.int .i64 g, .int .i64 w, .int .i64 h, .slice q4 nc c4] 29))
  have OC := OwnC.new (W.alloc (.cells #[.slice q1 n c1, .slice q2 m c2] 24)) g w h q4 nc c4 29
  rw [World.size_alloc] at OC
  have I1 := h1.keep (unhide B0)
  have I2 := h2.keep (unhide B0)
  have I4 := h4.keep (unhide B0)
  clear h1 h2 h4
  go_enter Try.func5, Try.ntmps5
  go_upto_region 3 with (go_at_call 15; refine (alive_any _).mono ?_; rintro e' w1 ⟨rfl, hb1⟩)
  replace OS := OS.keep hb1
  replace OC := OC.keep hb1
  replace I1 := I1.keep hb1
  replace I2 := I2.keep hb1
  replace I4 := I4.keep hb1
  have Hb1 := hide (btrans (unhide B0) hb1)
  clear hb1 B0
  have hC := OC
  obtain ⟨_, o0, o1, o2, o3⟩ := hC
  go_wp2_with (go_at_call 9; refine (stringX I4 he).mono ?_; rintro e' w2 ⟨er, r1, k1, d1, r2, k2, d2, rfl, hne, heq, h6, hb2⟩)
  go_ret
  exact ⟨rfl, bal (btrans (unhide Hb1) hb2)⟩

set_option maxRecDepth 100000 in
set_option maxHeartbeats 4000000 in
theorem first_none (q1 : Option Addr) (n c1 : Nat) (q2 : Option Addr) (m c2 : Nat) (e p : Nat → Int) (a b : Nat) (q4 : Option Addr) (nc c4 : Nat) (px : Nat → Int) (W : World) (h1 : T.Is W q1 n e) (h2 : T.Is W q2 m p) (h4 : T.Is W q4 nc px) (he : pE 4 a b nc px = 0) (hG : ∀ f, Tot (pic a b px) f → ¬ Good (pic a b px) f) :
    Calls Try.prog 5 #[sg q1 n c1 q2 m c2, Ch.ch 4 a b q4 nc c4] W fun e' w' => e' = .returned (.bool true) ∧ Below W.heap.size W w' := by
  have B0 := hide (bal (o := .cells #[.int .i64 4, .int .i64 a, .int .i64 b, .slice q4 nc c4] 29) (bnew W (.cells #[.slice q1 n c1, .slice q2 m c2] 24)))
  have OS := (OwnS.new W q1 n c1 q2 m c2 24).keep (bnew _ (.cells #[.int .i64 4, .int .i64 a, .int .i64 b, .slice q4 nc c4] 29))
  have OC := OwnC.new (W.alloc (.cells #[.slice q1 n c1, .slice q2 m c2] 24)) 4 a b q4 nc c4 29
  rw [World.size_alloc] at OC
  have I1 := h1.keep (unhide B0)
  have I2 := h2.keep (unhide B0)
  have I4 := h4.keep (unhide B0)
  clear h1 h2 h4
  go_enter Try.func5, Try.ntmps5
  go_upto_region 3 with (go_at_call 15; refine (alive_any _).mono ?_; rintro e' w1 ⟨rfl, hb1⟩)
  replace OS := OS.keep hb1
  replace OC := OC.keep hb1
  replace I1 := I1.keep hb1
  replace I2 := I2.keep hb1
  replace I4 := I4.keep hb1
  have Hb1 := hide (btrans (unhide B0) hb1)
  clear hb1 B0
  have hC := OC
  obtain ⟨_, o0, o1, o2, o3⟩ := hC
  go_wp2_with (go_at_call 9; refine (string6 I4 he hG).mono ?_; rintro e' w2 ⟨r1, k1, d1, r2, k2, d2, rfl, hb2⟩)
  go_ret
  exact ⟨rfl, bal (btrans (unhide Hb1) hb2)⟩

set_option maxRecDepth 100000 in
set_option maxHeartbeats 4000000 in
theorem first_other (q1 : Option Addr) (n c1 : Nat) (q2 : Option Addr) (m c2 : Nat) (e p : Nat → Int) (a b : Nat) (q4 : Option Addr) (nc c4 : Nat) (px : Nat → Int) (W : World) (h1 : T.Is W q1 n e) (h2 : T.Is W q2 m p) (h4 : T.Is W q4 nc px) (he : pE 4 a b nc px = 0) (f0 : Nat → Int) (hT0 : Tot (pic a b px) f0) (hG0 : Good (pic a b px) f0) (hcl : clE n m e p 4 a b nc px = 0 → ¬ ∀ j, j < n * m → CS n e p px j) :
    Calls Try.prog 5 #[sg q1 n c1 q2 m c2, Ch.ch 4 a b q4 nc c4] W fun e' w' => e' = .returned (.bool true) ∧ Below W.heap.size W w' := by
  have B0 := hide (bal (o := .cells #[.int .i64 4, .int .i64 a, .int .i64 b, .slice q4 nc c4] 29) (bnew W (.cells #[.slice q1 n c1, .slice q2 m c2] 24)))
  have OS := (OwnS.new W q1 n c1 q2 m c2 24).keep (bnew _ (.cells #[.int .i64 4, .int .i64 a, .int .i64 b, .slice q4 nc c4] 29))
  have OC := OwnC.new (W.alloc (.cells #[.slice q1 n c1, .slice q2 m c2] 24)) 4 a b q4 nc c4 29
  rw [World.size_alloc] at OC
  have I1 := h1.keep (unhide B0)
  have I2 := h2.keep (unhide B0)
  have I4 := h4.keep (unhide B0)
  clear h1 h2 h4
  go_enter Try.func5, Try.ntmps5
  go_upto_region 3 with (go_at_call 15; refine (alive_any _).mono ?_; rintro e' w1 ⟨rfl, hb1⟩)
  replace OS := OS.keep hb1
  replace OC := OC.keep hb1
  replace I1 := I1.keep hb1
  replace I2 := I2.keep hb1
  replace I4 := I4.keep hb1
  have Hb1 := hide (btrans (unhide B0) hb1)
  clear hb1 B0
  have hC := OC
  obtain ⟨_, o0, o1, o2, o3⟩ := hC
  have HS := hide (string0 (cap := c4) I4 he hT0 hG0)
  clear he hT0 hG0
  go_upto_region 6 with (go_at_call 9; refine (unhide HS).mono ?_; rintro e' w2 ⟨F, r1, d1, r2, d2, rfl, J1, J2, hb2, hF⟩)
  clear o0 o1 o2 o3 HS
  replace OS := (OS.keep hb2).keep (bnew w2 (.cells #[.slice r1 a d1, .slice r2 b d2] 24))
  replace OC := (OC.keep hb2).keep (bnew w2 (.cells #[.slice r1 a d1, .slice r2 b d2] 24))
  replace I1 := (I1.keep hb2).keep (bnew w2 (.cells #[.slice r1 a d1, .slice r2 b d2] 24))
  replace I2 := (I2.keep hb2).keep (bnew w2 (.cells #[.slice r1 a d1, .slice r2 b d2] 24))
  replace I4 := (I4.keep hb2).keep (bnew w2 (.cells #[.slice r1 a d1, .slice r2 b d2] 24))
  replace J1 := J1.keep (bnew w2 (.cells #[.slice r1 a d1, .slice r2 b d2] 24))
  replace J2 := J2.keep (bnew w2 (.cells #[.slice r1 a d1, .slice r2 b d2] 24))
  have OT := OwnS.new w2 r1 a d1 r2 b d2 24
  have Hb2 := hide (bal (o := .cells #[.slice r1 a d1, .slice r2 b d2] 24) (btrans (unhide Hb1) hb2))
  have HF := hide hF
  clear hb2 hF
  generalize w2.alloc (.cells #[.slice r1 a d1, .slice r2 b d2] 24) = w3 at *
  generalize w2.heap.size = bt at *
  have hC := OC
  obtain ⟨_, o0, o1, o2, o3⟩ := hC
  have hS := OS
  obtain ⟨_, s0, s1⟩ := hS
  go_wp2_with (go_at_call 12; refine (cloth1 I1 I2 I4 hcl).mono ?_; rintro e' w4 ⟨er, u1, u2, u3, u4, u5, rfl, hne, hb4⟩)
  go_ret
  exact ⟨rfl, bal (btrans (unhide Hb2) hb4)⟩

set_option maxRecDepth 100000 in
set_option maxHeartbeats 4000000 in
theorem first_ok (q1 : Option Addr) (n c1 : Nat) (q2 : Option Addr) (m c2 : Nat) (e p : Nat → Int) (q4 : Option Addr) (nc c4 : Nat) (px : Nat → Int) (W : World) (h1 : T.Is W q1 n e) (h2 : T.Is W q2 m p) (h4 : T.Is W q4 nc px) (hs : sE n m e p = 0) (hn : nc = n * m) (he : pE 4 n m nc px = 0) (hcs : ∀ j, j < n * m → CS n e p px j) :
    Calls Try.prog 5 #[sg q1 n c1 q2 m c2, Ch.ch 4 n m q4 nc c4] W fun e' w' => e' = .returned (.bool true) ∧ Below W.heap.size W w' := by
  obtain ⟨⟨n1, n2⟩, ⟨m1, m2⟩, s3, s4⟩ := sE_zero hs
  have hT0 : Tot (pic n m px) (thr n e p) := thr_tot s3 s4
  have hG0 : Good (pic n m px) (thr n e p) := cs_good hcs
  have HT := hide hT0
  have HG := hide hG0
  have He := hide he
  have Hn := hide hn
  have Hs := hide hs
  have Hcs := hide hcs
  clear s3 s4 hs hn hcs
  have B0 := hide (bal (o := .cells #[.int .i64 4, .int .i64 n, .int .i64 m, .slice q4 nc c4] 29) (bnew W (.cells #[.slice q1 n c1, .slice q2 m c2] 24)))
  have OS := (OwnS.new W q1 n c1 q2 m c2 24).keep (bnew _ (.cells #[.int .i64 4, .int .i64 n, .int .i64 m, .slice q4 nc c4] 29))
  have OC := OwnC.new (W.alloc (.cells #[.slice q1 n c1, .slice q2 m c2] 24)) 4 n m q4 nc c4 29
  rw [World.size_alloc] at OC
  have I1 := h1.keep (unhide B0)
  have I2 := h2.keep (unhide B0)
  have I4 := h4.keep (unhide B0)
  clear h1 h2 h4
  go_enter Try.func5, Try.ntmps5
  go_upto_region 3 with (go_at_call 15; refine (alive_any _).mono ?_; rintro e' w1 ⟨rfl, hb1⟩)
  replace OS := OS.keep hb1
  replace OC := OC.keep hb1
  replace I1 := I1.keep hb1
  replace I2 := I2.keep hb1
  replace I4 := I4.keep hb1
  have Hb1 := hide (btrans (unhide B0) hb1)
  clear hb1 B0
  have hC := OC
  obtain ⟨_, o0, o1, o2, o3⟩ := hC
  have HS := hide (string0 (cap := c4) I4 he hT0 hG0)
  clear he hT0 hG0
  go_upto_region 6 with (go_at_call 9; refine (unhide HS).mono ?_; rintro e' w2 ⟨F, r1, d1, r2, d2, rfl, J1, J2, hb2, hF⟩)
  clear o0 o1 o2 o3 HS
  replace OS := (OS.keep hb2).keep (bnew w2 (.cells #[.slice r1 n d1, .slice r2 m d2] 24))
  replace OC := (OC.keep hb2).keep (bnew w2 (.cells #[.slice r1 n d1, .slice r2 m d2] 24))
  replace I1 := (I1.keep hb2).keep (bnew w2 (.cells #[.slice r1 n d1, .slice r2 m d2] 24))
  replace I2 := (I2.keep hb2).keep (bnew w2 (.cells #[.slice r1 n d1, .slice r2 m d2] 24))
  replace I4 := (I4.keep hb2).keep (bnew w2 (.cells #[.slice r1 n d1, .slice r2 m d2] 24))
  replace J1 := J1.keep (bnew w2 (.cells #[.slice r1 n d1, .slice r2 m d2] 24))
  replace J2 := J2.keep (bnew w2 (.cells #[.slice r1 n d1, .slice r2 m d2] 24))
  have OT := OwnS.new w2 r1 n d1 r2 m d2 24
  have Hb2 := hide (bal (o := .cells #[.slice r1 n d1, .slice r2 m d2] 24) (btrans (unhide Hb1) hb2))
  have HF := hide hF
  clear hb2 hF
  generalize w2.alloc (.cells #[.slice r1 n d1, .slice r2 m d2] 24) = w3 at *
  generalize w2.heap.size = bt at *
  have hC := OC
  obtain ⟨_, o0, o1, o2, o3⟩ := hC
  have hS := OS
  obtain ⟨_, s0, s1⟩ := hS
  clear Hb1
  have HCl := hide (cloth0 (c1 := c1) (c2 := c2) (c3 := c4) I1 I2 I4 (unhide Hn) (unhide Hs) (unhide He) (unhide Hcs))
  go_upto_region 9 with (go_at_call 12; refine (unhide HCl).mono ?_; rintro e' w4 ⟨f, u3, u5, rfl, -, hb4, -⟩)
  clear o0 o1 o2 o3 s0 s1 HCl OC I4
  replace OS := (OS.keep hb4).keep (bnew w4 (.cells #[.int .i64 n, .int .i64 m, .slice u3 (n * m) u5] 27))
  replace OT := (OT.keep hb4).keep (bnew w4 (.cells #[.int .i64 n, .int .i64 m, .slice u3 (n * m) u5] 27))
  replace I1 := (I1.keep hb4).keep (bnew w4 (.cells #[.int .i64 n, .int .i64 m, .slice u3 (n * m) u5] 27))
  replace I2 := (I2.keep hb4).keep (bnew w4 (.cells #[.int .i64 n, .int .i64 m, .slice u3 (n * m) u5] 27))
  replace J1 := (J1.keep hb4).keep (bnew w4 (.cells #[.int .i64 n, .int .i64 m, .slice u3 (n * m) u5] 27))
  replace J2 := (J2.keep hb4).keep (bnew w4 (.cells #[.int .i64 n, .int .i64 m, .slice u3 (n * m) u5] 27))
  have hb5 := bal (o := .cells #[.int .i64 n, .int .i64 m, .slice u3 (n * m) u5] 27) (btrans (unhide Hb2) hb4)
  clear hb4
  generalize w4.alloc (.cells #[.int .i64 n, .int .i64 m, .slice u3 (n * m) u5] 27) = w5 at *
  replace OS := OS.keep (bdrew w5)
  replace OT := OT.keep (bdrew w5)
  replace I1 := I1.keep (bdrew w5)
  replace I2 := I2.keep (bdrew w5)
  replace J1 := J1.keep (bdrew w5)
  replace J2 := J2.keep (bdrew w5)
  have Hb6 := hide (btrans hb5 (bdrew w5))
  clear hb5 Hb2
  obtain ⟨p1, hp1⟩ : ∃ p1 : Nat → Int, p1 = fun y => F (n + y) := ⟨_, rfl⟩
  rw [← hp1] at J2
  have Hp1 := hide hp1
  clear hp1
  refine wp_region_noPanic ?_
  refine wp_region_held_drew (S := fun V => Below w5.drew.heap.size w5.drew V) (by kernel_rfl) (Below.refl _ _) ?_
  intro _
  generalize w5.drew = w8 at *
  refine wpAnyH_take (i := 1) (oi := _) (v := .pointer (some ⟨bt, 0, none⟩)) g16_1 (by kernel_rfl) (by kernel_rfl) (by kernel_rfl) (fun _ _ _ h => h) (Or.inl ⟨by rfl, ?_⟩) (by assumption) ?_
  · intro V hSw
    try dsimp only at hSw
    go_simp
  simp only [Act.put, List.setIfInBounds_toArray, List.set_cons_zero, List.set_cons_succ]
  refine wpAnyH_take (i := 2) (oi := _) (v := .slice r1 n d1) g16_2 (by kernel_rfl) (by kernel_rfl) (by kernel_rfl) (fun _ _ _ h => h) (Or.inl ⟨by rfl, ?_⟩) (by assumption) ?_
  · intro V hSw
    try dsimp only at hSw
    obtain ⟨_, t0, t1⟩ := OT.keep hSw
    go_simp
  simp only [Act.put, List.setIfInBounds_toArray, List.set_cons_zero, List.set_cons_succ]
  refine wpAnyH_take (i := 4) (oi := _) (v := .pointer (some ⟨bt, 1, none⟩)) g16_4 (by kernel_rfl) (by kernel_rfl) (by kernel_rfl) (fun _ _ _ h => h) (Or.inl ⟨by rfl, ?_⟩) (by assumption) ?_
  · intro V hSw
    try dsimp only at hSw
    go_simp
  simp only [Act.put, List.setIfInBounds_toArray, List.set_cons_zero, List.set_cons_succ]
  refine wpAnyH_take (i := 5) (oi := _) (v := .slice r2 m d2) g16_5 (by kernel_rfl) (by kernel_rfl) (by kernel_rfl) (fun _ _ _ h => h) (Or.inl ⟨by rfl, ?_⟩) (by assumption) ?_
  · intro V hSw
    try dsimp only at hSw
    obtain ⟨_, t0, t1⟩ := OT.keep hSw
    go_simp
  simp only [Act.put, List.setIfInBounds_toArray, List.set_cons_zero, List.set_cons_succ]
  refine wpAnyH_take (i := 8) (oi := _) (v := .pointer (some ⟨W.heap.size, 0, none⟩)) g16_8 (by kernel_rfl) (by kernel_rfl) (by kernel_rfl) (fun _ _ _ h => h) (Or.inl ⟨by rfl, ?_⟩) (by assumption) ?_
  · intro V hSw
    try dsimp only at hSw
    go_simp
  simp only [Act.put, List.setIfInBounds_toArray, List.set_cons_zero, List.set_cons_succ]
  refine wpAnyH_take (i := 9) (oi := _) (v := .slice q1 n c1) g16_9 (by kernel_rfl) (by kernel_rfl) (by kernel_rfl) (fun _ _ _ h => h) (Or.inl ⟨by rfl, ?_⟩) (by assumption) ?_
  · intro V hSw
    try dsimp only at hSw
    obtain ⟨_, t0, t1⟩ := OS.keep hSw
    go_simp
  simp only [Act.put, List.setIfInBounds_toArray, List.set_cons_zero, List.set_cons_succ]
  refine wpAnyH_take (i := 11) (oi := _) (v := .pointer (some ⟨W.heap.size, 1, none⟩)) g16_11 (by kernel_rfl) (by kernel_rfl) (by kernel_rfl) (fun _ _ _ h => h) (Or.inl ⟨by rfl, ?_⟩) (by assumption) ?_
  · intro V hSw
    try dsimp only at hSw
    go_simp
  simp only [Act.put, List.setIfInBounds_toArray, List.set_cons_zero, List.set_cons_succ]
  refine wpAnyH_take (i := 12) (oi := _) (v := .slice q2 m c2) g16_12 (by kernel_rfl) (by kernel_rfl) (by kernel_rfl) (fun _ _ _ h => h) (Or.inl ⟨by rfl, ?_⟩) (by assumption) ?_
  · intro V hSw
    try dsimp only at hSw
    obtain ⟨_, t0, t1⟩ := OS.keep hSw
    go_simp
  simp only [Act.put, List.setIfInBounds_toArray, List.set_cons_zero, List.set_cons_succ]
  have hb9 := Below.refl w8.heap.size w8
  clear OS OT
  have J1w := J1
  have J2w := J2
  have I1w := I1
  have I2w := I2
  refine wpAnyH_ready (rs := [0, 7]) (by kernel_rfl) (by simp) ?_
  refine (AllReadyH.cons (o := _) g16_0 (fun K hK => ?_) (AllReadyH.cons (o := _) g16_7 (fun K hK => ?_) AllReadyH.nil))
  · go_simp
    have hb101 := hb9.trans ((bnew w8 (.cells #[] 3)).mono hb9.size)
    have hL101 := lit_zero (w := w8) hb9.size
    refine hK.out _ _ (hb101) (fun _ => ?_)
    clear hK K
    clear hb9
    have hb9 := hb101
    clear hb101
    have hA := hL101
    clear hL101
    replace J1 := J1.keep (bnew w8 (.cells #[] 3))
    replace J2 := J2.keep (bnew w8 (.cells #[] 3))
    replace I1 := I1.keep (bnew w8 (.cells #[] 3))
    replace I2 := I2.keep (bnew w8 (.cells #[] 3))
    generalize w8.alloc (.cells #[] 3) = w101 at *
    refine wpAnyH_ready (rs := [3, 7]) (by kernel_rfl) (by simp) ?_
    refine (AllReadyH.cons (o := _) g16_3 (fun K hK => ?_) (AllReadyH.cons (o := _) g16_7 (fun K hK => ?_) AllReadyH.nil))
    · refine wp_src (t := 22) (e := 3) rfl Try.underlying22 info3 rfl (by decide) rfl rfl hA (is_src J1 n1 d1) (vals_one F n) (by unfold maxLen; omega) (by omega) hb9.size ?_
      intro v103 w103 ho103 hg103 hat103
      have hb103 := hb9.grown hg103 hb9.size (fun i hi => (hA.lt i hi).1)
      refine hK.out _ _ (hb103) (fun _ => ?_)
      clear hK K
      have ho := ho103
      rw [show (vals (fun _ => (0 : Int)) 0 ++ vals F n) = vals F n from rfl, Nat.zero_add] at ho
      clear hA hb9 hg103 hat103 ho103
      have hA := ho
      clear ho
      have hb9 := hb103
      clear hb103
      have J1 := J1w.keep hb9
      have J2 := J2w.keep hb9
      have I1 := I1w.keep hb9
      have I2 := I2w.keep hb9
      refine wpAnyH_ready (rs := [6, 7]) (by kernel_rfl) (by simp) ?_
      refine (AllReadyH.cons (o := _) g16_6 (fun K hK => ?_) (AllReadyH.cons (o := _) g16_7 (fun K hK => ?_) AllReadyH.nil))
      · refine wp_src (t := 22) (e := 3) rfl Try.underlying22 info3 rfl (by decide) rfl rfl hA (is_src J2 m1 d2) (vals_one p1 m) (by unfold maxLen; omega) (by omega) hb9.size ?_
        intro v105 w105 ho105 hg105 hat105
        have hb105 := hb9.grown hg105 hb9.size (fun i hi => (hA.lt i hi).1)
        refine hK.out _ _ (hb105) (fun _ => ?_)
        clear hK K
        have ho := ho105
        rw [vals_app] at ho
        clear hA hb9 hg105 hat105 ho105
        have hA := ho
        clear ho
        have hb9 := hb105
        clear hb105
        have J1 := J1w.keep hb9
        have J2 := J2w.keep hb9
        have I1 := I1w.keep hb9
        have I2 := I2w.keep hb9
        refine wpAnyH_ready (rs := [7]) (by kernel_rfl) (by simp) ?_
        refine (AllReadyH.cons (o := _) g16_7 (fun K hK => ?_) AllReadyH.nil)
        · go_simp
          have hb107 := hb9.trans ((bnew w105 (.cells #[] 3)).mono hb9.size)
          have hL107 := lit_zero (w := w105) hb9.size
          refine hK.out _ _ (hb107) (fun _ => ?_)
          clear hK K
          have hD := Df.new hA 0
          replace hA := own_keep hA (bnew w105 (.cells #[] 3))
          clear hb9
          have hb9 := hb107
          clear hb107
          have hB := hL107
          clear hL107
          replace J1 := J1.keep (bnew w105 (.cells #[] 3))
          replace J2 := J2.keep (bnew w105 (.cells #[] 3))
          replace I1 := I1.keep (bnew w105 (.cells #[] 3))
          replace I2 := I2.keep (bnew w105 (.cells #[] 3))
          generalize w105.alloc (.cells #[] 3) = w107 at *
          generalize w105.heap.size = b107 at *
          refine wpAnyH_ready (rs := [10]) (by kernel_rfl) (by simp) ?_
          refine (AllReadyH.cons (o := _) g16_10 (fun K hK => ?_) AllReadyH.nil)
          · refine wp_src (t := 22) (e := 3) rfl Try.underlying22 info3 rfl (by decide) rfl rfl hB (is_src I1 n1 c1) (vals_one e n) (by unfold maxLen; omega) (by omega) hb9.size ?_
            intro v108 w108 ho108 hg108 hat108
            have hb108 := hb9.grown hg108 hb9.size (fun i hi => (hB.lt i hi).1)
            refine hK.out _ _ (hb108) (fun _ => ?_)
            clear hK K
            have hD108 := (hD.symm).app hA hat108
            replace hA := (hD.symm).kept hA hg108
            have ho := ho108
            rw [show (vals (fun _ => (0 : Int)) 0 ++ vals e n) = vals e n from rfl, Nat.zero_add] at ho
            clear hB hb9 hg108 hat108 ho108
            have hB := ho
            clear ho
            have hb9 := hb108
            clear hb108
            clear hD
            have hD := hD108.symm
            clear hD108
            have J1 := J1w.keep hb9
            have J2 := J2w.keep hb9
            have I1 := I1w.keep hb9
            have I2 := I2w.keep hb9
            refine wpAnyH_ready (rs := [13]) (by kernel_rfl) (by simp) ?_
            refine (AllReadyH.cons (o := _) g16_13 (fun K hK => ?_) AllReadyH.nil)
            · refine wp_src (t := 22) (e := 3) rfl Try.underlying22 info3 rfl (by decide) rfl rfl hB (is_src I2 m1 c2) (vals_one p m) (by unfold maxLen; omega) (by omega) hb9.size ?_
              intro v109 w109 ho109 hg109 hat109
              have hb109 := hb9.grown hg109 hb9.size (fun i hi => (hB.lt i hi).1)
              refine hK.out _ _ (hb109) (fun _ => ?_)
              clear hK K
              have hD109 := (hD.symm).app hA hat109
              replace hA := (hD.symm).kept hA hg109
              have ho := ho109
              rw [vals_app] at ho
              clear hB hb9 hg109 hat109 ho109
              have hB := ho
              clear ho
              have hb9 := hb109
              clear hb109
              clear hD
              have hD := hD109.symm
              clear hD109
              have J1 := J1w.keep hb9
              have J2 := J2w.keep hb9
              have I1 := I1w.keep hb9
              have I2 := I2w.keep hb9
              obtain ⟨qa, ca, rfl⟩ := own_form hA
              obtain ⟨qb, cb, rfl⟩ := own_form hB
              have IA := hide ((ir_of hA).congr (g := F) (fun k hk => row_back Hp1 k))
              have IB := hide (show T.Is w109 qb (n + m) (thr n e p) from ir_of hB)
              have HW := hide ((unhide Hb6).trans (hb9.mono (unhide Hb6).size))
              clear hA hB hD hb9 J1 J2 I1 I2 J1w J2w I1w I2w
              have hK8 : n + m ≤ 128 := by omega
              generalize hKk : n + m = Kk at *
              refine wpAnyH_take (i := 14) (oi := _) (v := .slice qa Kk ca) g16_14 (by kernel_rfl) (by kernel_rfl) (by kernel_rfl) (fun _ _ _ h => h) (Or.inl ⟨by rfl, ?_⟩) (by assumption) ?_
              · intro V hSw
                try dsimp only at hSw
                go_simp
              simp only [Act.put, List.setIfInBounds_toArray, List.set_cons_zero, List.set_cons_succ]
              refine wpAnyH_take (i := 15) (oi := _) (v := .slice qb Kk cb) g16_15 (by kernel_rfl) (by kernel_rfl) (by kernel_rfl) (fun _ _ _ h => h) (Or.inl ⟨by rfl, ?_⟩) (by assumption) ?_
              · intro V hSw
                try dsimp only at hSw
                go_simp
              simp only [Act.put, List.setIfInBounds_toArray, List.set_cons_zero, List.set_cons_succ]
              refine wpAnyH_done (by kernel_rfl) ?_ _
              refine NoPanic.normal ?_
              have hnk : ((Kk : Int) == (Kk : Int)) = true := by simp
              have HKn := hide (show (pic n m px).n = Kk from hKk)
              clear hKk
              go_wp2
              go_loopw [45] (fun v wr => ∃ i : Nat, i ≤ Kk ∧ v = .int .i64 i ∧ (∀ j, j < i → F j = thr n e p j) ∧ Below w109.heap.size w109 wr) (fun v _ => Kk - (intOf v).toNat)
              case atStart => exact ⟨0, by omega, rfl, fun j hj => by omega, Below.refl _ _⟩
              case round =>
                obtain ⟨i, hi, rfl, hj, hb⟩ := hrel
                have Hj := hide hj
                clear hj
                by_cases hlt : i < Kk
                · have qi : (i : Int) < (Kk : Int) := by omega
                  have qi0 : (0 : Int) ≤ (i : Int) := by omega
                  obtain ⟨x1, y1, rfl, _, z1⟩ := ((unhide IA).keep hb).at hlt
                  obtain ⟨x2, y2, rfl, _, z2⟩ := ((unhide IB).keep hb).at hlt
                  have HL := hide (fun hne => first_less (unhide HF) (unhide HT) (unhide HG) (by rw [unhide HKn]; exact hlt) (unhide Hj) hne)
                  obtain ⟨u, hu⟩ : ∃ u, u = F i := ⟨_, rfl⟩
                  obtain ⟨v, hv⟩ : ∃ v, v = thr n e p i := ⟨_, rfl⟩
                  have Hu := hide hu
                  have Hv := hide hv
                  rw [← hu, ← hv] at HL
                  rw [← hu] at z1
                  rw [← hv] at z2
                  clear hu hv
                  by_cases huv : u = v
                  · have hne : (u != v) = false := by simp [huv]
                    have HN := hide (show ∀ j, j < i + 1 → F j = thr n e p j from fun j hj => by
                      by_cases e' : j = i
                      · rw [e', ← unhide Hu, ← unhide Hv, huv]
                      · exact unhide Hj j (by omega))
                    clear huv HL
                    go_wp2_with fail
                    go_quiet (fail)
                    go_wp2
                    go_roundw
                    case rel => exact ⟨i + 1, by omega, by go_num, unhide HN, btrans hb (Joins.below_draws _ _ _)⟩
                    case measure => simp [intOf]; omega
                  · have hne : (u != v) = true := by simp [huv]
                    have hlt2 : u < v := unhide HL huv
                    clear huv HL
                    go_wp2_with fail
                    go_quiet (fail)
                    go_wp2_with fail
                    go_quiet (fail)
                    go_wp2
                    go_ret
                    exact ⟨rfl, btrans (unhide HW) (btrans hb (btrans (Joins.below_draws _ _ _) (Joins.below_draws _ _ _)))⟩
                · obtain rfl : i = Kk := by omega
                  have cl : ¬ ((i : Int) < (i : Int)) := by omega
                  go_wp2
                  go_ret
                  exact ⟨rfl, btrans (unhide HW) hb⟩
      · go_simp
        have hb106 := hb9.trans ((bnew w103 (.cells #[] 3)).mono hb9.size)
        have hL106 := lit_zero (w := w103) hb9.size
        refine hK.out _ _ (hb106) (fun _ => ?_)
        clear hK K
        have hD := Df.new hA 0
        replace hA := own_keep hA (bnew w103 (.cells #[] 3))
        clear hb9
        have hb9 := hb106
        clear hb106
        have hB := hL106
        clear hL106
        replace J1 := J1.keep (bnew w103 (.cells #[] 3))
        replace J2 := J2.keep (bnew w103 (.cells #[] 3))
        replace I1 := I1.keep (bnew w103 (.cells #[] 3))
        replace I2 := I2.keep (bnew w103 (.cells #[] 3))
        generalize w103.alloc (.cells #[] 3) = w106 at *
        generalize w103.heap.size = b106 at *
        refine wpAnyH_ready (rs := [6]) (by kernel_rfl) (by simp) ?_
        refine (AllReadyH.cons (o := _) g16_6 (fun K hK => ?_) AllReadyH.nil)
        · refine wp_src (t := 22) (e := 3) rfl Try.underlying22 info3 rfl (by decide) rfl rfl hA (is_src J2 m1 d2) (vals_one p1 m) (by unfold maxLen; omega) (by omega) hb9.size ?_
          intro v110 w110 ho110 hg110 hat110
          have hb110 := hb9.grown hg110 hb9.size (fun i hi => (hA.lt i hi).1)
          refine hK.out _ _ (hb110) (fun _ => ?_)
          clear hK K
          have hD110 := (hD).app hB hat110
          replace hB := (hD).kept hB hg110
          have ho := ho110
          rw [vals_app] at ho
          clear hA hb9 hg110 hat110 ho110
          have hA := ho
          clear ho
          have hb9 := hb110
          clear hb110
          clear hD
          have hD := hD110
          clear hD110
          have J1 := J1w.keep hb9
          have J2 := J2w.keep hb9
          have I1 := I1w.keep hb9
          have I2 := I2w.keep hb9
          refine wpAnyH_ready (rs := [10]) (by kernel_rfl) (by simp) ?_
          refine (AllReadyH.cons (o := _) g16_10 (fun K hK => ?_) AllReadyH.nil)
          · refine wp_src (t := 22) (e := 3) rfl Try.underlying22 info3 rfl (by decide) rfl rfl hB (is_src I1 n1 c1) (vals_one e n) (by unfold maxLen; omega) (by omega) hb9.size ?_
            intro v111 w111 ho111 hg111 hat111
            have hb111 := hb9.grown hg111 hb9.size (fun i hi => (hB.lt i hi).1)
            refine hK.out _ _ (hb111) (fun _ => ?_)
            clear hK K
            have hD111 := (hD.symm).app hA hat111
            replace hA := (hD.symm).kept hA hg111
            have ho := ho111
            rw [show (vals (fun _ => (0 : Int)) 0 ++ vals e n) = vals e n from rfl, Nat.zero_add] at ho
            clear hB hb9 hg111 hat111 ho111
            have hB := ho
            clear ho
            have hb9 := hb111
            clear hb111
            clear hD
            have hD := hD111.symm
            clear hD111
            have J1 := J1w.keep hb9
            have J2 := J2w.keep hb9
            have I1 := I1w.keep hb9
            have I2 := I2w.keep hb9
            refine wpAnyH_ready (rs := [13]) (by kernel_rfl) (by simp) ?_
            refine (AllReadyH.cons (o := _) g16_13 (fun K hK => ?_) AllReadyH.nil)
            · refine wp_src (t := 22) (e := 3) rfl Try.underlying22 info3 rfl (by decide) rfl rfl hB (is_src I2 m1 c2) (vals_one p m) (by unfold maxLen; omega) (by omega) hb9.size ?_
              intro v112 w112 ho112 hg112 hat112
              have hb112 := hb9.grown hg112 hb9.size (fun i hi => (hB.lt i hi).1)
              refine hK.out _ _ (hb112) (fun _ => ?_)
              clear hK K
              have hD112 := (hD.symm).app hA hat112
              replace hA := (hD.symm).kept hA hg112
              have ho := ho112
              rw [vals_app] at ho
              clear hB hb9 hg112 hat112 ho112
              have hB := ho
              clear ho
              have hb9 := hb112
              clear hb112
              clear hD
              have hD := hD112.symm
              clear hD112
              have J1 := J1w.keep hb9
              have J2 := J2w.keep hb9
              have I1 := I1w.keep hb9
              have I2 := I2w.keep hb9
              obtain ⟨qa, ca, rfl⟩ := own_form hA
              obtain ⟨qb, cb, rfl⟩ := own_form hB
              have IA := hide ((ir_of hA).congr (g := F) (fun k hk => row_back Hp1 k))
              have IB := hide (show T.Is w112 qb (n + m) (thr n e p) from ir_of hB)
              have HW := hide ((unhide Hb6).trans (hb9.mono (unhide Hb6).size))
              clear hA hB hD hb9 J1 J2 I1 I2 J1w J2w I1w I2w
              have hK8 : n + m ≤ 128 := by omega
              generalize hKk : n + m = Kk at *
              refine wpAnyH_take (i := 14) (oi := _) (v := .slice qa Kk ca) g16_14 (by kernel_rfl) (by kernel_rfl) (by kernel_rfl) (fun _ _ _ h => h) (Or.inl ⟨by rfl, ?_⟩) (by assumption) ?_
              · intro V hSw
                try dsimp only at hSw
                go_simp
              simp only [Act.put, List.setIfInBounds_toArray, List.set_cons_zero, List.set_cons_succ]
              refine wpAnyH_take (i := 15) (oi := _) (v := .slice qb Kk cb) g16_15 (by kernel_rfl) (by kernel_rfl) (by kernel_rfl) (fun _ _ _ h => h) (Or.inl ⟨by rfl, ?_⟩) (by assumption) ?_
              · intro V hSw
                try dsimp only at hSw
                go_simp
              simp only [Act.put, List.setIfInBounds_toArray, List.set_cons_zero, List.set_cons_succ]
              refine wpAnyH_done (by kernel_rfl) ?_ _
              refine NoPanic.normal ?_
              have hnk : ((Kk : Int) == (Kk : Int)) = true := by simp
              have HKn := hide (show (pic n m px).n = Kk from hKk)
              clear hKk
              go_wp2
              go_loopw [45] (fun v wr => ∃ i : Nat, i ≤ Kk ∧ v = .int .i64 i ∧ (∀ j, j < i → F j = thr n e p j) ∧ Below w112.heap.size w112 wr) (fun v _ => Kk - (intOf v).toNat)
              case atStart => exact ⟨0, by omega, rfl, fun j hj => by omega, Below.refl _ _⟩
              case round =>
                obtain ⟨i, hi, rfl, hj, hb⟩ := hrel
                have Hj := hide hj
                clear hj
                by_cases hlt : i < Kk
                · have qi : (i : Int) < (Kk : Int) := by omega
                  have qi0 : (0 : Int) ≤ (i : Int) := by omega
                  obtain ⟨x1, y1, rfl, _, z1⟩ := ((unhide IA).keep hb).at hlt
                  obtain ⟨x2, y2, rfl, _, z2⟩ := ((unhide IB).keep hb).at hlt
                  have HL := hide (fun hne => first_less (unhide HF) (unhide HT) (unhide HG) (by rw [unhide HKn]; exact hlt) (unhide Hj) hne)
                  obtain ⟨u, hu⟩ : ∃ u, u = F i := ⟨_, rfl⟩
                  obtain ⟨v, hv⟩ : ∃ v, v = thr n e p i := ⟨_, rfl⟩
                  have Hu := hide hu
                  have Hv := hide hv
                  rw [← hu, ← hv] at HL
                  rw [← hu] at z1
                  rw [← hv] at z2
                  clear hu hv
                  by_cases huv : u = v
                  · have hne : (u != v) = false := by simp [huv]
                    have HN := hide (show ∀ j, j < i + 1 → F j = thr n e p j from fun j hj => by
                      by_cases e' : j = i
                      · rw [e', ← unhide Hu, ← unhide Hv, huv]
                      · exact unhide Hj j (by omega))
                    clear huv HL
                    go_wp2_with fail
                    go_quiet (fail)
                    go_wp2
                    go_roundw
                    case rel => exact ⟨i + 1, by omega, by go_num, unhide HN, btrans hb (Joins.below_draws _ _ _)⟩
                    case measure => simp [intOf]; omega
                  · have hne : (u != v) = true := by simp [huv]
                    have hlt2 : u < v := unhide HL huv
                    clear huv HL
                    go_wp2_with fail
                    go_quiet (fail)
                    go_wp2_with fail
                    go_quiet (fail)
                    go_wp2
                    go_ret
                    exact ⟨rfl, btrans (unhide HW) (btrans hb (btrans (Joins.below_draws _ _ _) (Joins.below_draws _ _ _)))⟩
                · obtain rfl : i = Kk := by omega
                  have cl : ¬ ((i : Int) < (i : Int)) := by omega
                  go_wp2
                  go_ret
                  exact ⟨rfl, btrans (unhide HW) hb⟩
    · go_simp
      have hb104 := hb9.trans ((bnew w101 (.cells #[] 3)).mono hb9.size)
      have hL104 := lit_zero (w := w101) hb9.size
      refine hK.out _ _ (hb104) (fun _ => ?_)
      clear hK K
      have hD := Df.new hA 0
      replace hA := own_keep hA (bnew w101 (.cells #[] 3))
      clear hb9
      have hb9 := hb104
      clear hb104
      have hB := hL104
      clear hL104
      replace J1 := J1.keep (bnew w101 (.cells #[] 3))
      replace J2 := J2.keep (bnew w101 (.cells #[] 3))
      replace I1 := I1.keep (bnew w101 (.cells #[] 3))
      replace I2 := I2.keep (bnew w101 (.cells #[] 3))
      generalize w101.alloc (.cells #[] 3) = w104 at *
      generalize w101.heap.size = b104 at *
      refine wpAnyH_ready (rs := [3]) (by kernel_rfl) (by simp) ?_
      refine (AllReadyH.cons (o := _) g16_3 (fun K hK => ?_) AllReadyH.nil)
      · refine wp_src (t := 22) (e := 3) rfl Try.underlying22 info3 rfl (by decide) rfl rfl hA (is_src J1 n1 d1) (vals_one F n) (by unfold maxLen; omega) (by omega) hb9.size ?_
        intro v113 w113 ho113 hg113 hat113
        have hb113 := hb9.grown hg113 hb9.size (fun i hi => (hA.lt i hi).1)
        refine hK.out _ _ (hb113) (fun _ => ?_)
        clear hK K
        have hD113 := (hD).app hB hat113
        replace hB := (hD).kept hB hg113
        have ho := ho113
        rw [show (vals (fun _ => (0 : Int)) 0 ++ vals F n) = vals F n from rfl, Nat.zero_add] at ho
        clear hA hb9 hg113 hat113 ho113
        have hA := ho
        clear ho
        have hb9 := hb113
        clear hb113
        clear hD
        have hD := hD113
        clear hD113
        have J1 := J1w.keep hb9
        have J2 := J2w.keep hb9
        have I1 := I1w.keep hb9
        have I2 := I2w.keep hb9
        refine wpAnyH_ready (rs := [6]) (by kernel_rfl) (by simp) ?_
        refine (AllReadyH.cons (o := _) g16_6 (fun K hK => ?_) AllReadyH.nil)
        · refine wp_src (t := 22) (e := 3) rfl Try.underlying22 info3 rfl (by decide) rfl rfl hA (is_src J2 m1 d2) (vals_one p1 m) (by unfold maxLen; omega) (by omega) hb9.size ?_
          intro v114 w114 ho114 hg114 hat114
          have hb114 := hb9.grown hg114 hb9.size (fun i hi => (hA.lt i hi).1)
          refine hK.out _ _ (hb114) (fun _ => ?_)
          clear hK K
          have hD114 := (hD).app hB hat114
          replace hB := (hD).kept hB hg114
          have ho := ho114
          rw [vals_app] at ho
          clear hA hb9 hg114 hat114 ho114
          have hA := ho
          clear ho
          have hb9 := hb114
          clear hb114
          clear hD
          have hD := hD114
          clear hD114
          have J1 := J1w.keep hb9
          have J2 := J2w.keep hb9
          have I1 := I1w.keep hb9
          have I2 := I2w.keep hb9
          refine wpAnyH_ready (rs := [10]) (by kernel_rfl) (by simp) ?_
          refine (AllReadyH.cons (o := _) g16_10 (fun K hK => ?_) AllReadyH.nil)
          · refine wp_src (t := 22) (e := 3) rfl Try.underlying22 info3 rfl (by decide) rfl rfl hB (is_src I1 n1 c1) (vals_one e n) (by unfold maxLen; omega) (by omega) hb9.size ?_
            intro v115 w115 ho115 hg115 hat115
            have hb115 := hb9.grown hg115 hb9.size (fun i hi => (hB.lt i hi).1)
            refine hK.out _ _ (hb115) (fun _ => ?_)
            clear hK K
            have hD115 := (hD.symm).app hA hat115
            replace hA := (hD.symm).kept hA hg115
            have ho := ho115
            rw [show (vals (fun _ => (0 : Int)) 0 ++ vals e n) = vals e n from rfl, Nat.zero_add] at ho
            clear hB hb9 hg115 hat115 ho115
            have hB := ho
            clear ho
            have hb9 := hb115
            clear hb115
            clear hD
            have hD := hD115.symm
            clear hD115
            have J1 := J1w.keep hb9
            have J2 := J2w.keep hb9
            have I1 := I1w.keep hb9
            have I2 := I2w.keep hb9
            refine wpAnyH_ready (rs := [13]) (by kernel_rfl) (by simp) ?_
            refine (AllReadyH.cons (o := _) g16_13 (fun K hK => ?_) AllReadyH.nil)
            · refine wp_src (t := 22) (e := 3) rfl Try.underlying22 info3 rfl (by decide) rfl rfl hB (is_src I2 m1 c2) (vals_one p m) (by unfold maxLen; omega) (by omega) hb9.size ?_
              intro v116 w116 ho116 hg116 hat116
              have hb116 := hb9.grown hg116 hb9.size (fun i hi => (hB.lt i hi).1)
              refine hK.out _ _ (hb116) (fun _ => ?_)
              clear hK K
              have hD116 := (hD.symm).app hA hat116
              replace hA := (hD.symm).kept hA hg116
              have ho := ho116
              rw [vals_app] at ho
              clear hB hb9 hg116 hat116 ho116
              have hB := ho
              clear ho
              have hb9 := hb116
              clear hb116
              clear hD
              have hD := hD116.symm
              clear hD116
              have J1 := J1w.keep hb9
              have J2 := J2w.keep hb9
              have I1 := I1w.keep hb9
              have I2 := I2w.keep hb9
              obtain ⟨qa, ca, rfl⟩ := own_form hA
              obtain ⟨qb, cb, rfl⟩ := own_form hB
              have IA := hide ((ir_of hA).congr (g := F) (fun k hk => row_back Hp1 k))
              have IB := hide (show T.Is w116 qb (n + m) (thr n e p) from ir_of hB)
              have HW := hide ((unhide Hb6).trans (hb9.mono (unhide Hb6).size))
              clear hA hB hD hb9 J1 J2 I1 I2 J1w J2w I1w I2w
              have hK8 : n + m ≤ 128 := by omega
              generalize hKk : n + m = Kk at *
              refine wpAnyH_take (i := 14) (oi := _) (v := .slice qa Kk ca) g16_14 (by kernel_rfl) (by kernel_rfl) (by kernel_rfl) (fun _ _ _ h => h) (Or.inl ⟨by rfl, ?_⟩) (by assumption) ?_
              · intro V hSw
                try dsimp only at hSw
                go_simp
              simp only [Act.put, List.setIfInBounds_toArray, List.set_cons_zero, List.set_cons_succ]
              refine wpAnyH_take (i := 15) (oi := _) (v := .slice qb Kk cb) g16_15 (by kernel_rfl) (by kernel_rfl) (by kernel_rfl) (fun _ _ _ h => h) (Or.inl ⟨by rfl, ?_⟩) (by assumption) ?_
              · intro V hSw
                try dsimp only at hSw
                go_simp
              simp only [Act.put, List.setIfInBounds_toArray, List.set_cons_zero, List.set_cons_succ]
              refine wpAnyH_done (by kernel_rfl) ?_ _
              refine NoPanic.normal ?_
              have hnk : ((Kk : Int) == (Kk : Int)) = true := by simp
              have HKn := hide (show (pic n m px).n = Kk from hKk)
              clear hKk
              go_wp2
              go_loopw [45] (fun v wr => ∃ i : Nat, i ≤ Kk ∧ v = .int .i64 i ∧ (∀ j, j < i → F j = thr n e p j) ∧ Below w116.heap.size w116 wr) (fun v _ => Kk - (intOf v).toNat)
              case atStart => exact ⟨0, by omega, rfl, fun j hj => by omega, Below.refl _ _⟩
              case round =>
                obtain ⟨i, hi, rfl, hj, hb⟩ := hrel
                have Hj := hide hj
                clear hj
                by_cases hlt : i < Kk
                · have qi : (i : Int) < (Kk : Int) := by omega
                  have qi0 : (0 : Int) ≤ (i : Int) := by omega
                  obtain ⟨x1, y1, rfl, _, z1⟩ := ((unhide IA).keep hb).at hlt
                  obtain ⟨x2, y2, rfl, _, z2⟩ := ((unhide IB).keep hb).at hlt
                  have HL := hide (fun hne => first_less (unhide HF) (unhide HT) (unhide HG) (by rw [unhide HKn]; exact hlt) (unhide Hj) hne)
                  obtain ⟨u, hu⟩ : ∃ u, u = F i := ⟨_, rfl⟩
                  obtain ⟨v, hv⟩ : ∃ v, v = thr n e p i := ⟨_, rfl⟩
                  have Hu := hide hu
                  have Hv := hide hv
                  rw [← hu, ← hv] at HL
                  rw [← hu] at z1
                  rw [← hv] at z2
                  clear hu hv
                  by_cases huv : u = v
                  · have hne : (u != v) = false := by simp [huv]
                    have HN := hide (show ∀ j, j < i + 1 → F j = thr n e p j from fun j hj => by
                      by_cases e' : j = i
                      · rw [e', ← unhide Hu, ← unhide Hv, huv]
                      · exact unhide Hj j (by omega))
                    clear huv HL
                    go_wp2_with fail
                    go_quiet (fail)
                    go_wp2
                    go_roundw
                    case rel => exact ⟨i + 1, by omega, by go_num, unhide HN, btrans hb (Joins.below_draws _ _ _)⟩
                    case measure => simp [intOf]; omega
                  · have hne : (u != v) = true := by simp [huv]
                    have hlt2 : u < v := unhide HL huv
                    clear huv HL
                    go_wp2_with fail
                    go_quiet (fail)
                    go_wp2_with fail
                    go_quiet (fail)
                    go_wp2
                    go_ret
                    exact ⟨rfl, btrans (unhide HW) (btrans hb (btrans (Joins.below_draws _ _ _) (Joins.below_draws _ _ _)))⟩
                · obtain rfl : i = Kk := by omega
                  have cl : ¬ ((i : Int) < (i : Int)) := by omega
                  go_wp2
                  go_ret
                  exact ⟨rfl, btrans (unhide HW) hb⟩
  · go_simp
    have hb102 := hb9.trans ((bnew w8 (.cells #[] 3)).mono hb9.size)
    have hL102 := lit_zero (w := w8) hb9.size
    refine hK.out _ _ (hb102) (fun _ => ?_)
    clear hK K
    clear hb9
    have hb9 := hb102
    clear hb102
    have hB := hL102
    clear hL102
    replace J1 := J1.keep (bnew w8 (.cells #[] 3))
    replace J2 := J2.keep (bnew w8 (.cells #[] 3))
    replace I1 := I1.keep (bnew w8 (.cells #[] 3))
    replace I2 := I2.keep (bnew w8 (.cells #[] 3))
    generalize w8.alloc (.cells #[] 3) = w102 at *
    refine wpAnyH_ready (rs := [0]) (by kernel_rfl) (by simp) ?_
    refine (AllReadyH.cons (o := _) g16_0 (fun K hK => ?_) AllReadyH.nil)
    · go_simp
      have hb117 := hb9.trans ((bnew w102 (.cells #[] 3)).mono hb9.size)
      have hL117 := lit_zero (w := w102) hb9.size
      refine hK.out _ _ (hb117) (fun _ => ?_)
      clear hK K
      have hD := (Df.new hB 0).symm
      replace hB := own_keep hB (bnew w102 (.cells #[] 3))
      clear hb9
      have hb9 := hb117
      clear hb117
      have hA := hL117
      clear hL117
      replace J1 := J1.keep (bnew w102 (.cells #[] 3))
      replace J2 := J2.keep (bnew w102 (.cells #[] 3))
      replace I1 := I1.keep (bnew w102 (.cells #[] 3))
      replace I2 := I2.keep (bnew w102 (.cells #[] 3))
      generalize w102.alloc (.cells #[] 3) = w117 at *
      generalize w102.heap.size = b117 at *
      refine wpAnyH_ready (rs := [3]) (by kernel_rfl) (by simp) ?_
      refine (AllReadyH.cons (o := _) g16_3 (fun K hK => ?_) AllReadyH.nil)
      · refine wp_src (t := 22) (e := 3) rfl Try.underlying22 info3 rfl (by decide) rfl rfl hA (is_src J1 n1 d1) (vals_one F n) (by unfold maxLen; omega) (by omega) hb9.size ?_
        intro v118 w118 ho118 hg118 hat118
        have hb118 := hb9.grown hg118 hb9.size (fun i hi => (hA.lt i hi).1)
        refine hK.out _ _ (hb118) (fun _ => ?_)
        clear hK K
        have hD118 := (hD).app hB hat118
        replace hB := (hD).kept hB hg118
        have ho := ho118
        rw [show (vals (fun _ => (0 : Int)) 0 ++ vals F n) = vals F n from rfl, Nat.zero_add] at ho
        clear hA hb9 hg118 hat118 ho118
        have hA := ho
        clear ho
        have hb9 := hb118
        clear hb118
        clear hD
        have hD := hD118
        clear hD118
        have J1 := J1w.keep hb9
        have J2 := J2w.keep hb9
        have I1 := I1w.keep hb9
        have I2 := I2w.keep hb9
        refine wpAnyH_ready (rs := [6]) (by kernel_rfl) (by simp) ?_
        refine (AllReadyH.cons (o := _) g16_6 (fun K hK => ?_) AllReadyH.nil)
        · refine wp_src (t := 22) (e := 3) rfl Try.underlying22 info3 rfl (by decide) rfl rfl hA (is_src J2 m1 d2) (vals_one p1 m) (by unfold maxLen; omega) (by omega) hb9.size ?_
          intro v119 w119 ho119 hg119 hat119
          have hb119 := hb9.grown hg119 hb9.size (fun i hi => (hA.lt i hi).1)
          refine hK.out _ _ (hb119) (fun _ => ?_)
          clear hK K
          have hD119 := (hD).app hB hat119
          replace hB := (hD).kept hB hg119
          have ho := ho119
          rw [vals_app] at ho
          clear hA hb9 hg119 hat119 ho119
          have hA := ho
          clear ho
          have hb9 := hb119
          clear hb119
          clear hD
          have hD := hD119
          clear hD119
          have J1 := J1w.keep hb9
          have J2 := J2w.keep hb9
          have I1 := I1w.keep hb9
          have I2 := I2w.keep hb9
          refine wpAnyH_ready (rs := [10]) (by kernel_rfl) (by simp) ?_
          refine (AllReadyH.cons (o := _) g16_10 (fun K hK => ?_) AllReadyH.nil)
          · refine wp_src (t := 22) (e := 3) rfl Try.underlying22 info3 rfl (by decide) rfl rfl hB (is_src I1 n1 c1) (vals_one e n) (by unfold maxLen; omega) (by omega) hb9.size ?_
            intro v120 w120 ho120 hg120 hat120
            have hb120 := hb9.grown hg120 hb9.size (fun i hi => (hB.lt i hi).1)
            refine hK.out _ _ (hb120) (fun _ => ?_)
            clear hK K
            have hD120 := (hD.symm).app hA hat120
            replace hA := (hD.symm).kept hA hg120
            have ho := ho120
            rw [show (vals (fun _ => (0 : Int)) 0 ++ vals e n) = vals e n from rfl, Nat.zero_add] at ho
            clear hB hb9 hg120 hat120 ho120
            have hB := ho
            clear ho
            have hb9 := hb120
            clear hb120
            clear hD
            have hD := hD120.symm
            clear hD120
            have J1 := J1w.keep hb9
            have J2 := J2w.keep hb9
            have I1 := I1w.keep hb9
            have I2 := I2w.keep hb9
            refine wpAnyH_ready (rs := [13]) (by kernel_rfl) (by simp) ?_
            refine (AllReadyH.cons (o := _) g16_13 (fun K hK => ?_) AllReadyH.nil)
            · refine wp_src (t := 22) (e := 3) rfl Try.underlying22 info3 rfl (by decide) rfl rfl hB (is_src I2 m1 c2) (vals_one p m) (by unfold maxLen; omega) (by omega) hb9.size ?_
              intro v121 w121 ho121 hg121 hat121
              have hb121 := hb9.grown hg121 hb9.size (fun i hi => (hB.lt i hi).1)
              refine hK.out _ _ (hb121) (fun _ => ?_)
              clear hK K
              have hD121 := (hD.symm).app hA hat121
              replace hA := (hD.symm).kept hA hg121
              have ho := ho121
              rw [vals_app] at ho
              clear hB hb9 hg121 hat121 ho121
              have hB := ho
              clear ho
              have hb9 := hb121
              clear hb121
              clear hD
              have hD := hD121.symm
              clear hD121
              have J1 := J1w.keep hb9
              have J2 := J2w.keep hb9
              have I1 := I1w.keep hb9
              have I2 := I2w.keep hb9
              obtain ⟨qa, ca, rfl⟩ := own_form hA
              obtain ⟨qb, cb, rfl⟩ := own_form hB
              have IA := hide ((ir_of hA).congr (g := F) (fun k hk => row_back Hp1 k))
              have IB := hide (show T.Is w121 qb (n + m) (thr n e p) from ir_of hB)
              have HW := hide ((unhide Hb6).trans (hb9.mono (unhide Hb6).size))
              clear hA hB hD hb9 J1 J2 I1 I2 J1w J2w I1w I2w
              have hK8 : n + m ≤ 128 := by omega
              generalize hKk : n + m = Kk at *
              refine wpAnyH_take (i := 14) (oi := _) (v := .slice qa Kk ca) g16_14 (by kernel_rfl) (by kernel_rfl) (by kernel_rfl) (fun _ _ _ h => h) (Or.inl ⟨by rfl, ?_⟩) (by assumption) ?_
              · intro V hSw
                try dsimp only at hSw
                go_simp
              simp only [Act.put, List.setIfInBounds_toArray, List.set_cons_zero, List.set_cons_succ]
              refine wpAnyH_take (i := 15) (oi := _) (v := .slice qb Kk cb) g16_15 (by kernel_rfl) (by kernel_rfl) (by kernel_rfl) (fun _ _ _ h => h) (Or.inl ⟨by rfl, ?_⟩) (by assumption) ?_
              · intro V hSw
                try dsimp only at hSw
                go_simp
              simp only [Act.put, List.setIfInBounds_toArray, List.set_cons_zero, List.set_cons_succ]
              refine wpAnyH_done (by kernel_rfl) ?_ _
              refine NoPanic.normal ?_
              have hnk : ((Kk : Int) == (Kk : Int)) = true := by simp
              have HKn := hide (show (pic n m px).n = Kk from hKk)
              clear hKk
              go_wp2
              go_loopw [45] (fun v wr => ∃ i : Nat, i ≤ Kk ∧ v = .int .i64 i ∧ (∀ j, j < i → F j = thr n e p j) ∧ Below w121.heap.size w121 wr) (fun v _ => Kk - (intOf v).toNat)
              case atStart => exact ⟨0, by omega, rfl, fun j hj => by omega, Below.refl _ _⟩
              case round =>
                obtain ⟨i, hi, rfl, hj, hb⟩ := hrel
                have Hj := hide hj
                clear hj
                by_cases hlt : i < Kk
                · have qi : (i : Int) < (Kk : Int) := by omega
                  have qi0 : (0 : Int) ≤ (i : Int) := by omega
                  obtain ⟨x1, y1, rfl, _, z1⟩ := ((unhide IA).keep hb).at hlt
                  obtain ⟨x2, y2, rfl, _, z2⟩ := ((unhide IB).keep hb).at hlt
                  have HL := hide (fun hne => first_less (unhide HF) (unhide HT) (unhide HG) (by rw [unhide HKn]; exact hlt) (unhide Hj) hne)
                  obtain ⟨u, hu⟩ : ∃ u, u = F i := ⟨_, rfl⟩
                  obtain ⟨v, hv⟩ : ∃ v, v = thr n e p i := ⟨_, rfl⟩
                  have Hu := hide hu
                  have Hv := hide hv
                  rw [← hu, ← hv] at HL
                  rw [← hu] at z1
                  rw [← hv] at z2
                  clear hu hv
                  by_cases huv : u = v
                  · have hne : (u != v) = false := by simp [huv]
                    have HN := hide (show ∀ j, j < i + 1 → F j = thr n e p j from fun j hj => by
                      by_cases e' : j = i
                      · rw [e', ← unhide Hu, ← unhide Hv, huv]
                      · exact unhide Hj j (by omega))
                    clear huv HL
                    go_wp2_with fail
                    go_quiet (fail)
                    go_wp2
                    go_roundw
                    case rel => exact ⟨i + 1, by omega, by go_num, unhide HN, btrans hb (Joins.below_draws _ _ _)⟩
                    case measure => simp [intOf]; omega
                  · have hne : (u != v) = true := by simp [huv]
                    have hlt2 : u < v := unhide HL huv
                    clear huv HL
                    go_wp2_with fail
                    go_quiet (fail)
                    go_wp2_with fail
                    go_quiet (fail)
                    go_wp2
                    go_ret
                    exact ⟨rfl, btrans (unhide HW) (btrans hb (btrans (Joins.below_draws _ _ _) (Joins.below_draws _ _ _)))⟩
                · obtain rfl : i = Kk := by omega
                  have cl : ¬ ((i : Int) < (i : Int)) := by omega
                  go_wp2
                  go_ret
                  exact ⟨rfl, btrans (unhide HW) hb⟩
end Go.Proofs.Ytbmgjoocpbikkaa
