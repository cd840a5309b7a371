/-
  The document's Run.
-/
import Derived.Test.YtancniamgfppiaaRfK
import Derived.Test.YtancniamgfppiaaLwS
namespace Go.Proofs.Ytancniamgfppiaa
open Go.RowKit

set_option maxRecDepth 100000 in
set_option maxHeartbeats 4000000 in
theorem rrun_new (n : Int) (W : World) (q : Option Addr) (l c : Nat) (h : n < 1 ∨ 128 < n) : Calls Try.prog 18 #[.int .i64 n, .slice q l c] W fun e w' => e = .returned (.tuple #[zeroK, fltV 3 0]) ∧ Below W.heap.size W w' := by
  have HN := hide (fun V => rknit_new n V q l c h)
  have B0 := hide (btrans (bnew W (.cells #[.slice none 0 0, .slice none 0 0, .slice none 0 0, .slice none 0 0, .int .i64 0] 29)) (bnew _ (.cells #[.int .i64 0, .int .i64 0] 32)))
  have HKb := hide ((KB.new W (.slice none 0 0) (.slice none 0 0) (.slice none 0 0) (.slice none 0 0) 0).keep (bnew _ (.cells #[.int .i64 0, .int .i64 0] 32)))
  have HFb := hide (show FB ((W.alloc (.cells #[.slice none 0 0, .slice none 0 0, .slice none 0 0, .slice none 0 0, .int .i64 0] 29)).alloc (.cells #[.int .i64 0, .int .i64 0] 32)) (W.heap.size + 1) 0 0 by have := FB.new (W.alloc (.cells #[.slice none 0 0, .slice none 0 0, .slice none 0 0, .slice none 0 0, .int .i64 0] 29)) 0 0; simpa using this)
  clear h
  go_enter Try.func18, Try.ntmps18
  go_upto_region 1 with fail
  generalize (W.alloc (.cells #[.slice none 0 0, .slice none 0 0, .slice none 0 0, .slice none 0 0, .int .i64 0] 29)).alloc (.cells #[.int .i64 0, .int .i64 0] 32) = w0 at *
  obtain ⟨kb, hkb⟩ : ∃ kb, kb = W.heap.size := ⟨_, rfl⟩
  obtain ⟨fb, hfb⟩ : ∃ fb, fb = W.heap.size + 1 := ⟨_, rfl⟩
  rw [← hkb] at HKb
  rw [← hfb] at HFb
  rw [← hfb, ← hkb]
  have Hkb := hide (show W.heap.size ≤ kb by omega)
  have Hfb := hide (show W.heap.size ≤ fb by omega)
  have Hkf := hide (show ¬ fb = kb ∧ ¬ kb = fb by omega)
  clear hkb hfb
  go_wp2_with fail
  refine (unhide HN _).mono ?_
  rintro e w1 ⟨rfl, hb1⟩
  have HB2 := hide (btrans (btrans (unhide B0) hb1) (bnew w1 (.cells #[.slice none 0 0, .slice none 0 0, .slice none 0 0, .slice none 0 0, .int .i64 0] 29)))
  have HKc := hide (((unhide HKb).keep hb1).keep (bnew w1 (.cells #[.slice none 0 0, .slice none 0 0, .slice none 0 0, .slice none 0 0, .int .i64 0] 29)))
  have HFc := hide (((unhide HFb).keep hb1).keep (bnew w1 (.cells #[.slice none 0 0, .slice none 0 0, .slice none 0 0, .slice none 0 0, .int .i64 0] 29)))
  clear hb1 HKb HFb HN
  go_upto_region 2 with fail
  generalize w1.alloc (.cells #[.slice none 0 0, .slice none 0 0, .slice none 0 0, .slice none 0 0, .int .i64 0] 29) = w2 at *
  obtain ⟨-, ⟨r0, r1, r2, r3, r4⟩, rf⟩ := unhide HKc
  have rf0 := rf 0 (by decide)
  have rf1 := rf 1 (by decide)
  have rf2 := rf 2 (by decide)
  have rf3 := rf 3 (by decide)
  have rf4 := rf 4 (by decide)
  clear rf
  obtain ⟨-, ⟨y0, y1⟩, g0, g1⟩ := unhide HFc
  obtain ⟨x9, hx9, hK9, hL9⟩ : ∃ x9, put27 w2 kb (.slice none 0 0) (.slice none 0 0) (.slice none 0 0) (.slice none 0 0) 0 = x9 ∧ KB x9 kb (.slice none 0 0) (.slice none 0 0) (.slice none 0 0) (.slice none 0 0) 0 ∧ Kept (fun i => i = kb) w2 x9 := ⟨_, rfl, (unhide HKc).put _ _ _ _ _, put27_kept _ _ _ _ _ _ _⟩
  unfold put27 at hx9
  have HF9 := hide ((unhide HFc).kept hL9 (unhide Hkf).1)
  have HK9 := hide hK9
  have HL9 := hide hL9
  clear hK9 hL9
  obtain ⟨x8, hx8, hF8, hL8⟩ : ∃ x8, put30 x9 fb 3 0 = x8 ∧ FB x8 fb 3 0 ∧ Kept (fun i => i = fb) x9 x8 := ⟨_, rfl, (unhide HF9).put _ _, put30_kept _ _ _ _⟩
  unfold put30 at hx8
  have HF8 := hide hF8
  have HL8 := hide hL8
  have HK8 := hide ((unhide HK9).kept hL8 (unhide Hkf).2)
  clear hF8 hL8
  obtain ⟨-, ⟨y0', y1'⟩, g0', g1'⟩ := unhide HF9
  go_wp2
  obtain ⟨-, ⟨z0, z1, z2, z3, z4⟩, -⟩ := unhide HK8
  obtain ⟨-, ⟨t0, t1⟩, -⟩ := unhide HF8
  refine bodyPost_ret (v := .tuple #[zeroK, fltV 3 0]) ?_ rfl ?_
  · simp [results, Try.results18, go_sem, z0, z1, z2, z3, z4, t0, t1]
  · have b8 := unhide HB2
    exact ⟨rfl, Kept.back (Kept.back b8 (unhide HL9) b8.size (fun i e => by have := unhide Hkb; omega)) (unhide HL8) (Nat.le_trans b8.size (unhide HL9).size) (fun i e => by have := unhide Hfb; omega)⟩

set_option maxRecDepth 100000 in
set_option maxHeartbeats 4000000 in
theorem rrun_ok {N : Nat} {W : World} {q : Option Addr} {n c : Nat} {f : Nat → Sx} (h1 : 1 ≤ N) (hN : N ≤ 128) (hs : Sc W q n f) (hn : n * 40 + 4096 ≤ 140737488355328) (hall : ∀ i, i < n → erS N f i = 0) : Calls Try.prog 18 #[.int .i64 (N : Int), .slice q n c] W fun e w' => ∃ v, e = .returned (.tuple #[v, fltV 0 0]) ∧ KR w' 0 v (tell N (knS N f n)) ∧ Below W.heap.size W w' := by
  have HN := hide (show ∀ V, Below W.heap.size W V → RKnit N n f #[.int .i64 (N : Int), .slice q n c] V from fun V hV => rknit_ok h1 hN (hs.keep hV) hn)
  have B0 := hide (btrans (bnew W (.cells #[.slice none 0 0, .slice none 0 0, .slice none 0 0, .slice none 0 0, .int .i64 0] 29)) (bnew _ (.cells #[.int .i64 0, .int .i64 0] 32)))
  have HKb := hide ((KB.new W (.slice none 0 0) (.slice none 0 0) (.slice none 0 0) (.slice none 0 0) 0).keep (bnew _ (.cells #[.int .i64 0, .int .i64 0] 32)))
  have HFb := hide (show FB ((W.alloc (.cells #[.slice none 0 0, .slice none 0 0, .slice none 0 0, .slice none 0 0, .int .i64 0] 29)).alloc (.cells #[.int .i64 0, .int .i64 0] 32)) (W.heap.size + 1) 0 0 by have := FB.new (W.alloc (.cells #[.slice none 0 0, .slice none 0 0, .slice none 0 0, .slice none 0 0, .int .i64 0] 29)) 0 0; simpa using this)
  have Hall := hide hall
  clear hs hall
  go_enter Try.func18, Try.ntmps18
  go_upto_region 1 with fail
  generalize (W.alloc (.cells #[.slice none 0 0, .slice none 0 0, .slice none 0 0, .slice none 0 0, .int .i64 0] 29)).alloc (.cells #[.int .i64 0, .int .i64 0] 32) = w0 at *
  obtain ⟨kb, hkb⟩ : ∃ kb, kb = W.heap.size := ⟨_, rfl⟩
  obtain ⟨fb, hfb⟩ : ∃ fb, fb = W.heap.size + 1 := ⟨_, rfl⟩
  rw [← hkb] at HKb
  rw [← hfb] at HFb
  rw [← hfb, ← hkb]
  have Hkb := hide (show W.heap.size ≤ kb by omega)
  have Hfb := hide (show W.heap.size ≤ fb by omega)
  have Hkf := hide (show ¬ fb = kb ∧ ¬ kb = fb by omega)
  clear hkb hfb
  go_wp2_with fail
  refine (unhide HN _ (unhide B0)).mono ?_
  rintro e w1 ⟨ov, v1, rfl, hO1, hR1, hb1⟩
  obtain ⟨oq, oc, rfl⟩ := own_form hO1
  obtain ⟨u1, u2, u3, u4, rfl, hu1, hu2, hu3, hu4⟩ := id hR1
  obtain ⟨a1, a2, a3, rfl⟩ := hu1.form
  obtain ⟨a4, a5, a6, rfl⟩ := hu2.form
  obtain ⟨a7, a8, a9, rfl⟩ := hu3.form
  obtain ⟨d1, d2, rfl⟩ := hu4.form
  obtain ⟨d3, hd3⟩ : ∃ d, d = (tell N (knS N f n)).loose.length := ⟨_, rfl⟩
  obtain ⟨rk, hrk⟩ : ∃ rk, rk = (tell N (knS N f n)).rack := ⟨_, rfl⟩
  rw [← hd3] at hu4
  rw [← hd3, ← hrk]
  have Hrk := hide hrk
  clear hd3 hrk
  have hbx := bnew w1 (.cells #[.slice a1 a2 a3, .slice a4 a5 a6, .slice a7 a8 a9, .slice d1 d3 d2, .int .i64 rk] 29)
  have Hu := hide (show LPR (w1.alloc (.cells #[.slice a1 a2 a3, .slice a4 a5 a6, .slice a7 a8 a9, .slice d1 d3 d2, .int .i64 rk] 29)) 0 (.slice a1 a2 a3) (tell N (knS N f n)).loops ∧ LR (w1.alloc (.cells #[.slice a1 a2 a3, .slice a4 a5 a6, .slice a7 a8 a9, .slice d1 d3 d2, .int .i64 rk] 29)) 0 (.slice a4 a5 a6) (tell N (knS N f n)).front ∧ LR (w1.alloc (.cells #[.slice a1 a2 a3, .slice a4 a5 a6, .slice a7 a8 a9, .slice d1 d3 d2, .int .i64 rk] 29)) 0 (.slice a7 a8 a9) (tell N (knS N f n)).back ∧ NR (w1.alloc (.cells #[.slice a1 a2 a3, .slice a4 a5 a6, .slice a7 a8 a9, .slice d1 d3 d2, .int .i64 rk] 29)) 0 (.slice d1 d3 d2) (tell N (knS N f n)).loose from ⟨hu1.keep hbx, hu2.keep hbx, hu3.keep hbx, hu4.keep hbx⟩)
  have HO := hide (own_keep hO1 hbx)
  have HV := hide (KB.new w1 (.slice a1 a2 a3) (.slice a4 a5 a6) (.slice a7 a8 a9) (.slice d1 d3 d2) rk)
  have HB2 := hide (btrans (btrans (unhide B0) hb1) hbx)
  have HKc := hide (((unhide HKb).keep hb1).keep hbx)
  have HFc := hide (((unhide HFb).keep hb1).keep hbx)
  clear hR1 hu1 hu2 hu3 hu4 hO1 hb1 hbx HKb HFb HN
  go_upto_region 2 with fail
  generalize w1.alloc (.cells #[.slice a1 a2 a3, .slice a4 a5 a6, .slice a7 a8 a9, .slice d1 d3 d2, .int .i64 rk] 29) = w2 at *
  generalize w1.heap.size = vb at *
  go_wp2
  go_loopw [25] (fun i wr => ∃ x : Nat, x ≤ n ∧ i = .int .i64 x ∧ wr = w2) (fun i _ => n - (intOf i).toNat)
  case atStart => exact ⟨0, Nat.zero_le _, rfl, by trivial⟩
  case round =>
    obtain ⟨x, hx, rfl, hw⟩ := hrel
    rw [hw]
    clear hw
    by_cases hlt : x < n
    · have p1 : (x : Int) < (n : Int) := by omega
      have p2 : (0 : Int) ≤ (x : Int) := by omega
      obtain ⟨g, rfl, ce⟩ := err_at (unhide HO) hlt
      rw [unhide Hall x hlt] at ce
      go_wp2
      go_roundw
      case rel => exact ⟨x + 1, by omega, by go_num, by first | rfl | trivial⟩
      case measure => simp [intOf]; omega
    · obtain rfl : n = x := by omega
      have cl : ¬ ((n : Int) < (n : Int)) := by omega
      obtain ⟨-, ⟨k0, k1, k2, k3, k4⟩, -⟩ := unhide HV
      obtain ⟨-, ⟨r0, r1, r2, r3, r4⟩, rf⟩ := unhide HKc
      have rf0 := rf 0 (by decide)
      have rf1 := rf 1 (by decide)
      have rf2 := rf 2 (by decide)
      have rf3 := rf 3 (by decide)
      have rf4 := rf 4 (by decide)
      clear rf
      obtain ⟨-, ⟨y0, y1⟩, g0, g1⟩ := unhide HFc
      obtain ⟨x9, hx9, hK9, hL9⟩ : ∃ x9, put27 w2 kb (.slice a1 a2 a3) (.slice a4 a5 a6) (.slice a7 a8 a9) (.slice d1 d3 d2) rk = x9 ∧ KB x9 kb (.slice a1 a2 a3) (.slice a4 a5 a6) (.slice a7 a8 a9) (.slice d1 d3 d2) rk ∧ Kept (fun i => i = kb) w2 x9 := ⟨_, rfl, (unhide HKc).put _ _ _ _ _, put27_kept _ _ _ _ _ _ _⟩
      unfold put27 at hx9
      have HF9 := hide ((unhide HFc).kept hL9 (unhide Hkf).1)
      have HK9 := hide hK9
      have HL9 := hide hL9
      clear hK9 hL9
      obtain ⟨x8, hx8, hF8, hL8⟩ : ∃ x8, put30 x9 fb 0 0 = x8 ∧ FB x8 fb 0 0 ∧ Kept (fun i => i = fb) x9 x8 := ⟨_, rfl, (unhide HF9).put _ _, put30_kept _ _ _ _⟩
      unfold put30 at hx8
      have HF8 := hide hF8
      have HL8 := hide hL8
      have HK8 := hide ((unhide HK9).kept hL8 (unhide Hkf).2)
      clear hF8 hL8
      obtain ⟨-, ⟨y0', y1'⟩, g0', g1'⟩ := unhide HF9
      go_wp2
      obtain ⟨-, ⟨z0, z1, z2, z3, z4⟩, -⟩ := unhide HK8
      obtain ⟨-, ⟨t0, t1⟩, -⟩ := unhide HF8
      refine bodyPost_ret (v := .tuple #[.agg #[.slice a1 a2 a3, .slice a4 a5 a6, .slice a7 a8 a9, .slice d1 d3 d2, .int .i64 rk], fltV 0 0]) ?_ rfl ?_
      · simp [results, Try.results18, go_sem, z0, z1, z2, z3, z4, t0, t1]
      · obtain ⟨hu1, hu2, hu3, hu4⟩ := unhide Hu
        have t27 : Tg w2 kb 29 := (unhide HKc).1.2
        have t30 : Tg x9 fb 32 := (unhide HF9).1.2
        have n27 : ∀ {u : TypeId}, (29 : TypeId) ≠ u → ∀ i, i = kb → ¬ Tg w2 i u := fun h i e t => tg_not (show Tg w2 i 29 from e ▸ t27) h t
        have n30 : ∀ {u : TypeId}, (32 : TypeId) ≠ u → ∀ i, i = fb → ¬ Tg x9 i u := fun h i e t => tg_not (show Tg x9 i 32 from e ▸ t30) h t
        have b8 := unhide HB2
        refine ⟨_, rfl, ⟨_, _, _, _, by rw [unhide Hrk], ?_, ?_, ?_, ?_⟩, ?_⟩
        · exact (hu1.kept (unhide HL9) (n27 (by decide)) (n27 (by decide))).kept (unhide HL8) (n30 (by decide)) (n30 (by decide))
        · exact (hu2.kept (unhide HL9) (n27 (by decide)) (n27 (by decide))).kept (unhide HL8) (n30 (by decide)) (n30 (by decide))
        · exact (hu3.kept (unhide HL9) (n27 (by decide)) (n27 (by decide))).kept (unhide HL8) (n30 (by decide)) (n30 (by decide))
        · exact (hu4.kept (unhide HL9) (n27 (by decide))).kept (unhide HL8) (n30 (by decide))
        · exact Kept.back (Kept.back b8 (unhide HL9) b8.size (fun i e => by have := unhide Hkb; omega)) (unhide HL8) (Nat.le_trans b8.size (unhide HL9).size) (fun i e => by have := unhide Hfb; omega)

set_option maxRecDepth 100000 in
set_option maxHeartbeats 4000000 in
theorem rrun_bad {N : Nat} {W : World} {q : Option Addr} {n c : Nat} {f : Nat → Sx} (h1 : 1 ≤ N) (hN : N ≤ 128) (hs : Sc W q n f) (hn : n * 40 + 4096 ≤ 140737488355328) (k : Nat) (hk : k < n) (hall : ∀ i, i < k → erS N f i = 0) (hbad : erS N f k ≠ 0) : Calls Try.prog 18 #[.int .i64 (N : Int), .slice q n c] W fun e w' => e = .returned (.tuple #[zeroK, fltV (erS N f k) k]) ∧ Below W.heap.size W w' := by
  have HN := hide (show ∀ V, Below W.heap.size W V → RKnit N n f #[.int .i64 (N : Int), .slice q n c] V from fun V hV => rknit_ok h1 hN (hs.keep hV) hn)
  have B0 := hide (btrans (bnew W (.cells #[.slice none 0 0, .slice none 0 0, .slice none 0 0, .slice none 0 0, .int .i64 0] 29)) (bnew _ (.cells #[.int .i64 0, .int .i64 0] 32)))
  have HKb := hide ((KB.new W (.slice none 0 0) (.slice none 0 0) (.slice none 0 0) (.slice none 0 0) 0).keep (bnew _ (.cells #[.int .i64 0, .int .i64 0] 32)))
  have HFb := hide (show FB ((W.alloc (.cells #[.slice none 0 0, .slice none 0 0, .slice none 0 0, .slice none 0 0, .int .i64 0] 29)).alloc (.cells #[.int .i64 0, .int .i64 0] 32)) (W.heap.size + 1) 0 0 by have := FB.new (W.alloc (.cells #[.slice none 0 0, .slice none 0 0, .slice none 0 0, .slice none 0 0, .int .i64 0] 29)) 0 0; simpa using this)
  have Hall := hide hall
  obtain ⟨er, her⟩ : ∃ er, er = erS N f k := ⟨_, rfl⟩
  rw [← her] at hbad
  rw [← her]
  have Her := hide her
  have hbad' : (er != 0) = true := by simpa using hbad
  clear hs hall her hbad
  go_enter Try.func18, Try.ntmps18
  go_upto_region 1 with fail
  generalize (W.alloc (.cells #[.slice none 0 0, .slice none 0 0, .slice none 0 0, .slice none 0 0, .int .i64 0] 29)).alloc (.cells #[.int .i64 0, .int .i64 0] 32) = w0 at *
  obtain ⟨kb, hkb⟩ : ∃ kb, kb = W.heap.size := ⟨_, rfl⟩
  obtain ⟨fb, hfb⟩ : ∃ fb, fb = W.heap.size + 1 := ⟨_, rfl⟩
  rw [← hkb] at HKb
  rw [← hfb] at HFb
  rw [← hfb, ← hkb]
  have Hkb := hide (show W.heap.size ≤ kb by omega)
  have Hfb := hide (show W.heap.size ≤ fb by omega)
  have Hkf := hide (show ¬ fb = kb ∧ ¬ kb = fb by omega)
  clear hkb hfb
  go_wp2_with fail
  refine (unhide HN _ (unhide B0)).mono ?_
  rintro e w1 ⟨ov, v1, rfl, hO1, hR1, hb1⟩
  obtain ⟨oq, oc, rfl⟩ := own_form hO1
  obtain ⟨u1, u2, u3, u4, rfl, hu1, hu2, hu3, hu4⟩ := id hR1
  obtain ⟨a1, a2, a3, rfl⟩ := hu1.form
  obtain ⟨a4, a5, a6, rfl⟩ := hu2.form
  obtain ⟨a7, a8, a9, rfl⟩ := hu3.form
  obtain ⟨d1, d2, rfl⟩ := hu4.form
  obtain ⟨d3, hd3⟩ : ∃ d, d = (tell N (knS N f n)).loose.length := ⟨_, rfl⟩
  obtain ⟨rk, hrk⟩ : ∃ rk, rk = (tell N (knS N f n)).rack := ⟨_, rfl⟩
  rw [← hd3] at hu4
  rw [← hd3, ← hrk]
  have Hrk := hide hrk
  clear hd3 hrk
  have hbx := bnew w1 (.cells #[.slice a1 a2 a3, .slice a4 a5 a6, .slice a7 a8 a9, .slice d1 d3 d2, .int .i64 rk] 29)
  have Hu := hide (show LPR (w1.alloc (.cells #[.slice a1 a2 a3, .slice a4 a5 a6, .slice a7 a8 a9, .slice d1 d3 d2, .int .i64 rk] 29)) 0 (.slice a1 a2 a3) (tell N (knS N f n)).loops ∧ LR (w1.alloc (.cells #[.slice a1 a2 a3, .slice a4 a5 a6, .slice a7 a8 a9, .slice d1 d3 d2, .int .i64 rk] 29)) 0 (.slice a4 a5 a6) (tell N (knS N f n)).front ∧ LR (w1.alloc (.cells #[.slice a1 a2 a3, .slice a4 a5 a6, .slice a7 a8 a9, .slice d1 d3 d2, .int .i64 rk] 29)) 0 (.slice a7 a8 a9) (tell N (knS N f n)).back ∧ NR (w1.alloc (.cells #[.slice a1 a2 a3, .slice a4 a5 a6, .slice a7 a8 a9, .slice d1 d3 d2, .int .i64 rk] 29)) 0 (.slice d1 d3 d2) (tell N (knS N f n)).loose from ⟨hu1.keep hbx, hu2.keep hbx, hu3.keep hbx, hu4.keep hbx⟩)
  have HO := hide (own_keep hO1 hbx)
  have HV := hide (KB.new w1 (.slice a1 a2 a3) (.slice a4 a5 a6) (.slice a7 a8 a9) (.slice d1 d3 d2) rk)
  have HB2 := hide (btrans (btrans (unhide B0) hb1) hbx)
  have HKc := hide (((unhide HKb).keep hb1).keep hbx)
  have HFc := hide (((unhide HFb).keep hb1).keep hbx)
  clear hR1 hu1 hu2 hu3 hu4 hO1 hb1 hbx HKb HFb HN
  go_upto_region 2 with fail
  generalize w1.alloc (.cells #[.slice a1 a2 a3, .slice a4 a5 a6, .slice a7 a8 a9, .slice d1 d3 d2, .int .i64 rk] 29) = w2 at *
  generalize w1.heap.size = vb at *
  go_wp2
  go_loopw [25] (fun i wr => ∃ x : Nat, x ≤ k ∧ i = .int .i64 x ∧ wr = w2) (fun i _ => k - (intOf i).toNat)
  case atStart => exact ⟨0, Nat.zero_le _, rfl, by trivial⟩
  case round =>
    obtain ⟨x, hx, rfl, hw⟩ := hrel
    rw [hw]
    clear hw
    have p1 : (x : Int) < (n : Int) := by omega
    have p2 : (0 : Int) ≤ (x : Int) := by omega
    obtain ⟨g, rfl, ce⟩ := err_at (unhide HO) (show x < n by omega)
    by_cases hlt : x < k
    · rw [unhide Hall x hlt] at ce
      go_wp2
      go_roundw
      case rel => exact ⟨x + 1, by omega, by go_num, by first | rfl | trivial⟩
      case measure => simp [intOf]; omega
    · obtain rfl : k = x := by omega
      rw [← unhide Her] at ce
      obtain ⟨-, ⟨r0, r1, r2, r3, r4⟩, rf⟩ := unhide HKc
      have rf0 := rf 0 (by decide)
      have rf1 := rf 1 (by decide)
      have rf2 := rf 2 (by decide)
      have rf3 := rf 3 (by decide)
      have rf4 := rf 4 (by decide)
      clear rf
      obtain ⟨-, ⟨y0, y1⟩, g0, g1⟩ := unhide HFc
      obtain ⟨x9, hx9, hK9, hL9⟩ : ∃ x9, put27 w2 kb (.slice none 0 0) (.slice none 0 0) (.slice none 0 0) (.slice none 0 0) 0 = x9 ∧ KB x9 kb (.slice none 0 0) (.slice none 0 0) (.slice none 0 0) (.slice none 0 0) 0 ∧ Kept (fun i => i = kb) w2 x9 := ⟨_, rfl, (unhide HKc).put _ _ _ _ _, put27_kept _ _ _ _ _ _ _⟩
      unfold put27 at hx9
      have HF9 := hide ((unhide HFc).kept hL9 (unhide Hkf).1)
      have HK9 := hide hK9
      have HL9 := hide hL9
      clear hK9 hL9
      obtain ⟨x8, hx8, hF8, hL8⟩ : ∃ x8, put30 x9 fb er k = x8 ∧ FB x8 fb er k ∧ Kept (fun i => i = fb) x9 x8 := ⟨_, rfl, (unhide HF9).put _ _, put30_kept _ _ _ _⟩
      unfold put30 at hx8
      have HF8 := hide hF8
      have HL8 := hide hL8
      have HK8 := hide ((unhide HK9).kept hL8 (unhide Hkf).2)
      clear hF8 hL8
      obtain ⟨-, ⟨y0', y1'⟩, g0', g1'⟩ := unhide HF9
      go_wp2
      obtain ⟨-, ⟨z0, z1, z2, z3, z4⟩, -⟩ := unhide HK8
      obtain ⟨-, ⟨t0, t1⟩, -⟩ := unhide HF8
      refine bodyPost_ret (v := .tuple #[zeroK, fltV er k]) ?_ rfl ?_
      · simp [results, Try.results18, go_sem, z0, z1, z2, z3, z4, t0, t1]
      · have b8 := unhide HB2
        exact ⟨rfl, Kept.back (Kept.back b8 (unhide HL9) b8.size (fun i e => by have := unhide Hkb; omega)) (unhide HL8) (Nat.le_trans b8.size (unhide HL9).size) (fun i e => by have := unhide Hfb; omega)⟩
end Go.Proofs.Ytancniamgfppiaa
