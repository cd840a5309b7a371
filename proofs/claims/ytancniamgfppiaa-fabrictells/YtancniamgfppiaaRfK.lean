/-
  The document's Knit.
-/
import Derived.Test.YtancniamgfppiaaRfI
import Derived.Test.YtancniamgfppiaaRfJ
namespace Go.Proofs.Ytancniamgfppiaa
open Go.RowKit

/-- what the document's machine is made of, kept where only rows and boxes of another kind changed -/
def Pt (W : World) (lv hv sv : Value) (r : Rs) : Prop := LO W 0 lv r.loops ∧ HR W 0 hv r.held ∧ NR W 0 sv r.loose
theorem Pt.kept {S : Nat → Prop} {W V : World} {t : TypeId} {lv hv sv : Value} {r : Rs} (h : Pt W lv hv sv r) (e : Kept S W V) (hS : ∀ i, S i → Tg W i t) (h1 : t ≠ 43) (h2 : t ≠ 113) (h3 : t ≠ 3) : Pt V lv hv sv r := by
  obtain ⟨⟨hs, a1, a2, a3⟩, b, c⟩ := h
  exact ⟨⟨hs, a1, own_kept a2 e (fun i q t => tg_not (hS i q) h1 t), fun x hx => (a3 x hx).kept e (fun i q t => tg_not (hS i q) h3 t)⟩, own_kept b e (fun i q t => tg_not (hS i q) h2 t), c.kept e (fun i q t => tg_not (hS i q) h3 t)⟩
theorem Pt.keep {W V : World} {lv hv sv : Value} {r : Rs} (h : Pt W lv hv sv r) (e : Below W.heap.size W V) : Pt V lv hv sv r := ⟨h.1.keep e, h.2.1.keep e, h.2.2.keep e⟩
theorem Pt.form {W : World} {lv hv sv : Value} {r : Rs} (h : Pt W lv hv sv r) : ∃ q1 c1 q2 c2 q3 c3, lv = .slice q1 r.loops.length c1 ∧ hv = .slice q2 r.held.length c2 ∧ sv = .slice q3 r.loose.length c3 := by
  obtain ⟨q1, c1, e1⟩ := h.1.form
  obtain ⟨q2, c2, e2⟩ := h.2.1.form
  obtain ⟨q3, c3, e3⟩ := h.2.2.form
  exact ⟨q1, c1, q2, c2, q3, c3, e1, e2, e3⟩
/-- the machine in its box behind some stitches -/
def Kb (w0 : World) (sb N : Nat) (r : Rs) (wr : World) : Prop := ∃ lv hv sv, SB wr sb N lv hv sv r.rack r.done ∧ Pt wr lv hv sv r ∧ Kept (fun i => i = sb) w0 wr
/-- what the document's Knit answers -/
def RKnit (N n : Nat) (f : Nat → Sx) (args : Array Value) (W : World) : Prop :=
  Calls Try.prog 39 args W fun e w' => ∃ ov v, e = .returned (.tuple #[ov, v, .int .i64 0]) ∧ w'.ownsRow W.heap.size 30 1 ov n (errV N f n) ∧ KR w' 0 v (tell N (knS N f n)) ∧ Below W.heap.size W w'

set_option maxRecDepth 100000 in
set_option maxHeartbeats 4000000 in
theorem rknit_new (n : Int) (W : World) (q : Option Addr) (l c : Nat) (h : n < 1 ∨ 128 < n) : Calls Try.prog 39 #[.int .i64 n, .slice q l c] W fun e w' => e = .returned (.tuple #[.slice none 0 0, zeroK, .int .i64 3]) ∧ Below W.heap.size W w' := by
  have B0 := hide (bnew W (.cells #[.slice none 0 0, .slice none 0 0, .slice none 0 0, .slice none 0 0, .int .i64 0] 29))
  have HKb := hide (KB.new W (.slice none 0 0) (.slice none 0 0) (.slice none 0 0) (.slice none 0 0) 0)
  go_enter Try.func39, Try.ntmps39
  go_upto_region 1 with fail
  generalize W.alloc (.cells #[.slice none 0 0, .slice none 0 0, .slice none 0 0, .slice none 0 0, .int .i64 0] 29) = w1 at *
  obtain ⟨kb, hkb⟩ : ∃ kb, kb = W.heap.size := ⟨_, rfl⟩
  rw [← hkb] at HKb
  rw [← hkb]
  have Hkb := hide hkb
  clear hkb
  obtain ⟨-, ⟨r0, r1, r2, r3, r4⟩, rf⟩ := unhide HKb
  have rf0 := rf 0 (by decide)
  have rf1 := rf 1 (by decide)
  have rf2 := rf 2 (by decide)
  have rf3 := rf 3 (by decide)
  have rf4 := rf 4 (by decide)
  clear rf
  obtain ⟨x9, hx9, hK9, hL9⟩ : ∃ x9, put27 w1 kb (.slice none 0 0) (.slice none 0 0) (.slice none 0 0) (.slice none 0 0) 0 = x9 ∧ KB x9 kb (.slice none 0 0) (.slice none 0 0) (.slice none 0 0) (.slice none 0 0) 0 ∧ Kept (fun i => i = kb) w1 x9 := ⟨_, rfl, (unhide HKb).put _ _ _ _ _, put27_kept _ _ _ _ _ _ _⟩
  unfold put27 at hx9
  have HK9 := hide hK9
  have HL9 := hide hL9
  clear hK9 hL9
  by_cases h1 : n < 1
  · clear h
    go_wp2
    obtain ⟨-, ⟨z0, z1, z2, z3, z4⟩, -⟩ := unhide HK9
    refine bodyPost_ret (v := .tuple #[.slice none 0 0, zeroK, .int .i64 3]) ?_ rfl ?_
    · simp [results, Try.results39, go_sem, z0, z1, z2, z3, z4]
    · exact ⟨rfl, Kept.back (unhide B0) (unhide HL9) (unhide B0).size (fun i e => by have := unhide Hkb; omega)⟩
  · have h2 : 128 < n := by omega
    clear h
    go_wp2
    obtain ⟨-, ⟨z0, z1, z2, z3, z4⟩, -⟩ := unhide HK9
    refine bodyPost_ret (v := .tuple #[.slice none 0 0, zeroK, .int .i64 3]) ?_ rfl ?_
    · simp [results, Try.results39, go_sem, z0, z1, z2, z3, z4]
    · exact ⟨rfl, Kept.back (unhide B0) (unhide HL9) (unhide B0).size (fun i e => by have := unhide Hkb; omega)⟩

set_option maxRecDepth 100000 in
set_option maxHeartbeats 4000000 in
theorem rknit_ok {N : Nat} {W : World} {q : Option Addr} {n c : Nat} {f : Nat → Sx} (h1 : 1 ≤ N) (hN : N ≤ 128) (hs : Sc W q n f) (hn : n * 40 + 4096 ≤ 140737488355328) : RKnit N n f #[.int .i64 (N : Int), .slice q n c] W := by
  unfold RKnit
  have B0 := hide (btrans (bnew W (.cells #[.slice none 0 0, .slice none 0 0, .slice none 0 0, .slice none 0 0, .int .i64 0] 29)) (bnew _ (.cells #[.int .i64 (N : Int), .slice none 0 0, .slice none 0 0, .slice none 0 0, .int .i64 0, .int .i64 0] 87)))
  have HKb0 := hide (KB.new W (.slice none 0 0) (.slice none 0 0) (.slice none 0 0) (.slice none 0 0) 0)
  have HKb := hide ((unhide HKb0).keep (bnew _ (.cells #[.int .i64 (N : Int), .slice none 0 0, .slice none 0 0, .slice none 0 0, .int .i64 0, .int .i64 0] 87)))
  have HSB0 := hide (show SB ((W.alloc (.cells #[.slice none 0 0, .slice none 0 0, .slice none 0 0, .slice none 0 0, .int .i64 0] 29)).alloc (.cells #[.int .i64 (N : Int), .slice none 0 0, .slice none 0 0, .slice none 0 0, .int .i64 0, .int .i64 0] 87)) (W.heap.size + 1) N (.slice none 0 0) (.slice none 0 0) (.slice none 0 0) 0 0 by have := SB.new (W.alloc (.cells #[.slice none 0 0, .slice none 0 0, .slice none 0 0, .slice none 0 0, .int .i64 0] 29)) N (.slice none 0 0) (.slice none 0 0) (.slice none 0 0) 0 0; simpa using this)
  have HS := hide hs
  clear hs
  have l1 : ¬ ((N : Int) < 1) := by omega
  have l2 : ¬ ((128 : Int) < (N : Int)) := by omega
  go_enter Try.func39, Try.ntmps39
  go_upto_region 4 with fail
  generalize (W.alloc (.cells #[.slice none 0 0, .slice none 0 0, .slice none 0 0, .slice none 0 0, .int .i64 0] 29)).alloc (.cells #[.int .i64 (N : Int), .slice none 0 0, .slice none 0 0, .slice none 0 0, .int .i64 0, .int .i64 0] 87) = w0 at *
  obtain ⟨kb, hkb⟩ : ∃ kb, kb = W.heap.size := ⟨_, rfl⟩
  obtain ⟨sb, hsb⟩ : ∃ sb, sb = W.heap.size + 1 := ⟨_, rfl⟩
  rw [← hkb] at HKb
  rw [← hsb] at HSB0
  rw [← hsb, ← hkb]
  have Hkb := hide (show W.heap.size ≤ kb by omega)
  have Hsb := hide (show W.heap.size ≤ sb by omega)
  have Hks := hide (show ¬ kb = sb by omega)
  have H54 := hide (unhide HSB0).1.2
  clear hkb hsb HKb0 l1 l2
  have HP0 := hide (show Pt w0 (.slice none 0 0) (.slice none 0 0) (.slice none 0 0) r0 from ⟨⟨[], rfl, World.ownsRow_nil _ _ _ _, fun e he => by cases he⟩, World.ownsRow_nil _ _ _ _, NR.nil _ _⟩)
  go_wp2
  go_loopw [8, 23] (fun ov i wr => ∃ x : Nat, x ≤ n ∧ i = .int .i64 x ∧ wr.ownsRow w0.heap.size 30 1 ov x (errV N f x) ∧ Kb w0 sb N (rkS N f x) wr) (fun _ i _ => n - (intOf i).toNat)
  case atStart => exact ⟨0, Nat.zero_le _, rfl, World.ownsRow_nil _ _ _ _, _, _, _, unhide HSB0, unhide HP0, Kept.refl _ _⟩
  case round =>
    clear HSB0 HP0
    obtain ⟨x, hx, rfl, hO, lv, hv, sv, hSB, hP, hKe⟩ := hrel
    obtain ⟨oq, oc, rfl⟩ := own_form hO
    obtain ⟨q1, c1, q2, c2, q3, c3, rfl, rfl, rfl⟩ := hP.form
    have HO := hide hO
    have HSB := hide hSB
    have HP := hide hP
    have HKe := hide hKe
    clear hO hSB hP hKe
    have HA := hide (rk_abs N f x).1
    have HI := hide (rk_abs N f x).2
    have Hsu := hide (errV_succ N f x)
    have Hn0 := hide (show erS N f x = 0 → rkS N f (x + 1) = rdS (rkS N f x) (f x) from fun e => by rw [rkS, (rk_abs N f x).1]; exact if_pos e)
    have Hn1 := hide (show erS N f x ≠ 0 → rkS N f (x + 1) = rkS N f x from fun e => by rw [rkS, (rk_abs N f x).1]; exact if_neg e)
    have Hwe := hide (show wrE N (absS (rkS N f x)) (f x) = erS N f x by rw [(rk_abs N f x).1]; rfl)
    have HB := hide (Kept.back (unhide B0) (unhide HKe) (unhide B0).size (fun i e => by have := unhide Hsb; omega))
    generalize erS N f x = er at *
    obtain ⟨r, hr⟩ : ∃ r, r = rkS N f x := ⟨_, rfl⟩
    rw [← hr] at HSB HP HA HI Hn0 Hn1 Hwe
    have Hr := hide hr
    clear hr
    obtain ⟨rk, hrk⟩ : ∃ rk, rk = r.rack := ⟨_, rfl⟩
    obtain ⟨dn, hdn⟩ : ∃ dn, dn = r.done := ⟨_, rfl⟩
    obtain ⟨m1, hm1⟩ : ∃ m, m = r.loops.length := ⟨_, rfl⟩
    obtain ⟨m2, hm2⟩ : ∃ m, m = r.held.length := ⟨_, rfl⟩
    obtain ⟨m3, hm3⟩ : ∃ m, m = r.loose.length := ⟨_, rfl⟩
    rw [← hrk, ← hdn, ← hm1, ← hm2, ← hm3] at HSB
    rw [← hm1, ← hm2, ← hm3] at HP
    have Hrk := hide hrk
    have Hdn := hide hdn
    clear hrk hdn hm1 hm2 hm3
    by_cases hlt : x < n
    · have p1 : (x : Int) < (n : Int) := by omega
      have p2 : (0 : Int) ≤ (x : Int) := by omega
      obtain ⟨b5, o5, rfl, c0', c1', c2', c3', c4'⟩ := ((unhide HS).up (unhide HB) (Nat.le_refl _)).at hlt
      have HX := hide (XB.new wr (f x))
      have hbx := bnew wr (.cells #[.int .i64 (f x).dk, .int .i64 (f x).bed, .int .i64 (f x).ndl, .int .i64 (f x).car, .int .i64 (f x).tt] 24)
      have HSB2 := hide ((unhide HSB).keep hbx)
      have HP2 := hide ((unhide HP).keep hbx)
      have HO2 := hide (own_keep (unhide HO) hbx)
      have HK2 := hide ((unhide HKe).below hbx)
      clear hbx
      go_upto_region 8 with fail
      generalize wr.alloc (.cells #[.int .i64 (f x).dk, .int .i64 (f x).bed, .int .i64 (f x).ndl, .int .i64 (f x).car, .int .i64 (f x).tt] 24) = w2 at *
      have Hxs := hide (show ¬ wr.heap.size = sb by have := (unhide HSB).1.1; omega)
      generalize wr.heap.size = xb at *
      clear c0' c1' c2' c3' c4' HSB HP HO HKe HB
      have HW := hide (rwrong_any (q1 := q1) (m1 := m1) (c1 := c1) (q3 := q3) (m3 := m3) (c3 := c3) (unhide HP2).2.1 (unhide HI) hN (f x))
      rw [unhide Hwe, ← unhide Hrk, ← unhide Hdn] at HW
      obtain ⟨-, x0, x1, x2, x3, x4⟩ := unhide HX
      obtain ⟨-, ⟨s0', s1', s2', s3', s4', s5'⟩, -⟩ := unhide HSB2
      go_wp2_with fail
      refine (unhide HW).mono ?_
      rintro e w3 ⟨rfl, hb3⟩
      clear x0 x1 x2 x3 x4 s0' s1' s2' s3' s4' s5'
      have HSB3 := hide ((unhide HSB2).keep hb3)
      have HP3 := hide ((unhide HP2).keep hb3)
      have HX3 := hide ((unhide HX).keep hb3)
      have HK3 := hide ((unhide HK2).below hb3)
      have HO3 := hide (own_keep (own_keep (unhide HO2) hb3) (bnew w3 (.cells #[.int .i64 er] 30)))
      have HY3 := hide (own_lit (B := 0) (e := 30) (z := 1) (k := 1) w3 #[.int .i64 er] (Nat.zero_le _) (by unfold maxLen; omega) rfl)
      have H1 := hide (show ∀ u ∈ (#[Value.int .i64 er] : Array Value).toList, u.oneCell' = true by intro u hu; simp at hu; subst hu; rfl)
      clear hb3 HW HSB2 HP2 HX HK2 HO2
      go_wp2_with (at_builtin; refine wl_app rfl rfl Try.underlying65 info28 rfl (by decide) (B := w0.heap.size) (C := 0) (n := x) (m := 1) rfl rfl (unhide HO3) (unhide HY3) (unhide H1) (by unfold maxLen; omega) (by omega) (by have := (unhide HK3).size; simp; omega) ?_)
      intro v' w5 hown' hgrow _
      have t28 : ∀ i, (Value.slice oq x oc).ownBlock = some i → Tg (w3.alloc (.cells #[.int .i64 er] 30)) i 30 := fun i e => own_tg (unhide HO3) e
      have K5 : Kept (fun i => (Value.slice oq x oc).ownBlock = some i) (w3.alloc (.cells #[.int .i64 er] 30)) w5 := grown_kept hgrow (fun r e => .inl e)
      have HSB5 := hide (((unhide HSB3).keep (bnew w3 (.cells #[.int .i64 er] 30))).kept K5 (fun e => tg_not (t28 _ e) (by decide) ((unhide HSB3).keep (bnew w3 (.cells #[.int .i64 er] 30))).1.2))
      have HX5 := hide (((unhide HX3).keep (bnew w3 (.cells #[.int .i64 er] 30))).kept K5 (fun e => tg_not (t28 _ e) (by decide) ((unhide HX3).keep (bnew w3 (.cells #[.int .i64 er] 30))).1.2))
      have HP5 := hide (((unhide HP3).keep (bnew w3 (.cells #[.int .i64 er] 30))).kept K5 t28 (by decide) (by decide) (by decide))
      have HK5 := hide (kept_step ((unhide HK3).below (bnew w3 (.cells #[.int .i64 er] 30))) hgrow (fun i e => ((unhide HO3).lt i e).1))
      have HO5 := hide (show w5.ownsRow w0.heap.size 30 1 v' (x + 1) (errV N f (x + 1)) by rw [unhide Hsu]; exact hown')
      obtain ⟨q', cap', rfl⟩ := own_form hown'
      clear hown' hgrow K5 t28 HSB3 HX3 HP3 HK3 HO3 HY3 H1
      by_cases he : er = 0
      · have HD := hide (rdo_any (W := w5) (N := N) (v := rsV N (.slice q1 m1 c1) (.slice q2 m2 c2) (.slice q3 m3 c3) rk dn) (r := r) (x := f x) ⟨_, _, _, by rw [← unhide Hrk, ← unhide Hdn], (unhide HP5).1, (unhide HP5).2.1, (unhide HP5).2.2⟩ (unhide HI) hN (by rw [unhide Hwe]; exact he))
        have Hnx := hide (unhide Hn0 he)
        obtain ⟨-, x0, x1, x2, x3, x4⟩ := unhide HX5
        obtain ⟨-, ⟨s0', s1', s2', s3', s4', s5'⟩, -⟩ := unhide HSB5
        subst he
        go_wp2_with fail
        refine (unhide HD).mono ?_
        clear x0 x1 x2 x3 x4 s0' s1' s2' s3' s4' s5'
        rintro e w6 ⟨v6, rfl, ⟨lv6, hv6, sv6, rfl, hp1, hp2, hp3⟩, hb6⟩
        rw [← unhide Hnx] at hp1 hp2 hp3
        rw [← unhide Hnx]
        have HP6 := hide (show Pt w6 lv6 hv6 sv6 (rkS N f (x + 1)) from ⟨hp1, hp2, hp3⟩)
        obtain ⟨rk6, hrk6⟩ : ∃ rk, rk = (rkS N f (x + 1)).rack := ⟨_, rfl⟩
        obtain ⟨dn6, hdn6⟩ : ∃ dn, dn = (rkS N f (x + 1)).done := ⟨_, rfl⟩
        rw [← hrk6, ← hdn6]
        have Hrk6 := hide hrk6
        have Hdn6 := hide hdn6
        clear hrk6 hdn6
        obtain ⟨q1', c1', q2', c2', q3', c3', rfl, rfl, rfl⟩ := (unhide HP6).form
        generalize (rkS N f (x + 1)).loops.length = m1' at *
        generalize (rkS N f (x + 1)).held.length = m2' at *
        generalize (rkS N f (x + 1)).loose.length = m3' at *
        have HSB6 := hide ((unhide HSB5).keep hb6)
        have HK6 := hide ((unhide HK5).below hb6)
        have HO6 := hide (own_keep (unhide HO5) hb6)
        clear hp1 hp2 hp3 hb6 HD HSB5 HX5 HP5 HK5 HO5
        obtain ⟨-, ⟨s0', s1', s2', s3', s4', s5'⟩, sf⟩ := unhide HSB6
        have sf0 := sf 0 (by decide)
        have sf1 := sf 1 (by decide)
        have sf2 := sf 2 (by decide)
        have sf3 := sf 3 (by decide)
        have sf4 := sf 4 (by decide)
        have sf5 := sf 5 (by decide)
        clear sf
        obtain ⟨x9, hx9, hS9, hL9⟩ : ∃ x9, put54 w6 sb N (.slice q1' m1' c1') (.slice q2' m2' c2') (.slice q3' m3' c3') rk6 dn6 = x9 ∧ SB x9 sb N (.slice q1' m1' c1') (.slice q2' m2' c2') (.slice q3' m3' c3') rk6 dn6 ∧ Kept (fun i => i = sb) w6 x9 := ⟨_, rfl, (unhide HSB6).put _ _ _ _ _ _, put54_kept _ _ _ _ _ _ _ _⟩
        unfold put54 at hx9
        have HS9 := hide hS9
        have HL9 := hide hL9
        clear hS9 hL9
        go_wp2
        go_roundw
        case rel =>
          have t54 : ∀ i, i = sb → Tg w6 i 87 := fun i e => e ▸ (unhide HSB6).1.2
          refine ⟨x + 1, by omega, by go_num, own_kept (unhide HO6) (unhide HL9) (fun i e t => tg_not (t54 i e) (by decide) t), _, _, _, ?_, (unhide HP6).kept (unhide HL9) t54 (by decide) (by decide) (by decide), (unhide HK6).trans (unhide HL9)⟩
          rw [← unhide Hrk6, ← unhide Hdn6]
          exact unhide HS9
        case measure => simp [intOf]; omega
      · have he' : (er == 0) = false := by simpa using he
        have Hnx := hide (unhide Hn1 he)
        clear he
        go_wp2
        go_roundw
        case rel =>
          refine ⟨x + 1, by omega, by go_num, unhide HO5, ?_⟩
          rw [unhide Hnx]
          refine ⟨_, _, _, ?_, unhide HP5, unhide HK5⟩
          rw [← unhide Hrk, ← unhide Hdn]
          exact unhide HSB5
        case measure => simp [intOf]; omega
    · obtain rfl : n = x := by omega
      have cl : ¬ ((n : Int) < (n : Int)) := by omega
      have HT := hide (told_any (W := wr) (N := N) (v := rsV N (.slice q1 m1 c1) (.slice q2 m2 c2) (.slice q3 m3 c3) rk dn) (r := r) ⟨_, _, _, by rw [← unhide Hrk, ← unhide Hdn], (unhide HP).1, (unhide HP).2.1, (unhide HP).2.2⟩ (unhide HI) hN)
      rw [unhide HA] at HT
      obtain ⟨-, ⟨s0', s1', s2', s3', s4', s5'⟩, -⟩ := unhide HSB
      go_wp2_with fail
      refine (unhide HT).mono ?_
      clear s0' s1' s2' s3' s4' s5'
      rintro e w8 ⟨v8, rfl, hR8, hb8⟩
      have HB8 := hide ((unhide HB).trans (hb8.mono (unhide HB).size))
      have HO8 := hide (own_keep (unhide HO) hb8)
      have HKc := hide (((unhide HKb).kept (unhide HKe) (unhide Hks)).keep hb8)
      obtain ⟨u1, u2, u3, u4, rfl, hu1, hu2, hu3, hu4⟩ := id hR8
      obtain ⟨a1, a2, a3, rfl⟩ := hu1.form
      obtain ⟨a4, a5, a6, rfl⟩ := hu2.form
      obtain ⟨a7, a8, a9, rfl⟩ := hu3.form
      obtain ⟨d1, d2, rfl⟩ := hu4.form
      have Hu := hide (show LPR w8 0 (.slice a1 a2 a3) (knS N f n).loops ∧ LR w8 0 (.slice a4 a5 a6) ((List.range N).map ((knS N f n).on 0)) ∧ LR w8 0 (.slice a7 a8 a9) ((List.range N).map ((knS N f n).on 1)) ∧ NR w8 0 (.slice d1 (tell N (knS N f n)).loose.length d2) (knS N f n).loose from ⟨hu1, hu2, hu3, hu4⟩)
      clear hR8 hb8 hu1 hu2 hu3 hu4 HT
      generalize (tell N (knS N f n)).loose.length = d3 at *
      obtain ⟨rk8, hrk8⟩ : ∃ rk, rk = (tell N (knS N f n)).rack := ⟨_, rfl⟩
      rw [← hrk8]
      have Hrk8 := hide hrk8
      clear hrk8
      obtain ⟨-, ⟨r0, r1, r2, r3, r4⟩, rf⟩ := unhide HKc
      have rf0 := rf 0 (by decide)
      have rf1 := rf 1 (by decide)
      have rf2 := rf 2 (by decide)
      have rf3 := rf 3 (by decide)
      have rf4 := rf 4 (by decide)
      clear rf
      obtain ⟨x9, hx9, hK9, hL9⟩ : ∃ x9, put27 w8 kb (.slice a1 a2 a3) (.slice a4 a5 a6) (.slice a7 a8 a9) (.slice d1 d3 d2) rk8 = x9 ∧ KB x9 kb (.slice a1 a2 a3) (.slice a4 a5 a6) (.slice a7 a8 a9) (.slice d1 d3 d2) rk8 ∧ Kept (fun i => i = kb) w8 x9 := ⟨_, rfl, (unhide HKc).put _ _ _ _ _, put27_kept _ _ _ _ _ _ _⟩
      unfold put27 at hx9
      have HK9 := hide hK9
      have HL9 := hide hL9
      clear hK9 hL9
      go_wp2
      obtain ⟨-, ⟨z0, z1, z2, z3, z4⟩, -⟩ := unhide HK9
      refine bodyPost_ret (v := .tuple #[.slice oq n oc, .agg #[.slice a1 a2 a3, .slice a4 a5 a6, .slice a7 a8 a9, .slice d1 d3 d2, .int .i64 rk8], .int .i64 0]) ?_ rfl ?_
      · simp [results, Try.results39, go_sem, z0, z1, z2, z3, z4]
      · obtain ⟨hu1, hu2, hu3, hu4⟩ := unhide Hu
        have t27 : Tg w8 kb 29 := (unhide HKc).1.2
        have n27 : ∀ {u : TypeId}, (29 : TypeId) ≠ u → ∀ i, i = kb → ¬ Tg w8 i u := fun h i e t => tg_not (show Tg w8 i 29 from e ▸ t27) h t
        have b8 := unhide HB8
        refine ⟨_, _, rfl, own_le (own_kept (unhide HO8) (unhide HL9) (n27 (by decide))) (unhide B0).size, ⟨_, _, _, _, by rw [unhide Hrk8], ?_, ?_, ?_, ?_⟩, ?_⟩
        · exact hu1.kept (unhide HL9) (n27 (by decide)) (n27 (by decide))
        · exact hu2.kept (unhide HL9) (n27 (by decide)) (n27 (by decide))
        · exact hu3.kept (unhide HL9) (n27 (by decide)) (n27 (by decide))
        · exact hu4.kept (unhide HL9) (n27 (by decide))
        · exact Kept.back b8 (unhide HL9) b8.size (fun i e => by have := unhide Hkb; omega)
end Go.Proofs.Ytancniamgfppiaa
