/-
  TwillMakes: what both sides answer, and the law's walk.
-/
import Derived.Test.YtpefcpbkdofblaaTrD
namespace Go.Proofs.Ytpefcpbkdofblaa
open Go.RowKit Go.Shelf

theorem twill_pair (n : Nat) (r : Nat → Int) (mv : Int) : ∃ (pw ph : Int) (pn : Nat) (pf : Nat → Bool) (pe : Int), pn ≤ 4096 ∧
    (∀ V q c, Is V q n r → AnsO 6 #[.slice q n c, .int .i64 mv] V pw ph pn pf pe) ∧ (∀ V q c, Is V q n r → AnsO 7 #[.slice q n c, .int .i64 mv] V pw ph pn pf pe) := by
  by_cases hn : n = 0 ∨ n % 2 = 1 ∨ 16 < n
  · have h5 : rE n r = 5 := by unfold rE; rw [if_pos hn]
    refine ⟨0, 0, 0, fun _ => false, 5, Nat.zero_le _, fun V q c hq => ?_, fun V q c _ => ?_⟩
    · refine (twill_err1 q n c r mv V hq 5 h5 (by omega)).mono ?_
      rintro e V' ⟨rfl, hb⟩
      exact ⟨_, _, rfl, ⟨bs_zero _ _ _ _, fun _ _ => .inl rfl⟩, hb⟩
    · refine (rtwill_many q n c mv V hn).mono ?_
      rintro e V' ⟨rfl, hb⟩
      exact ⟨_, _, rfl, ⟨bs_zero _ _ _ _, fun _ _ => .inl rfl⟩, hb⟩
  · by_cases h0 : rE n r = 0
    · obtain ⟨k, hk, hr⟩ := rE_right h0
      have hsu := suI_nat r k n hk
      by_cases hm : 1 ≤ mv ∧ mv < (sN k n : Int)
      · obtain ⟨m', rfl⟩ := Int.eq_ofNat_of_zero_le (show 0 ≤ mv by omega)
        have hs64 : sN k n ≤ 64 := hr.2.2.2.2
        refine ⟨sN k n, sN k n, sN k n * sN k n, wvF (upF k n) (sN k n) m', 0, Nat.mul_le_mul hs64 hs64, fun V q c hq => ?_, fun V q c hq => ?_⟩
        · refine (twill_ok q n c k m' V (hq.congr hk) hr _ rfl (by omega) (by omega) _ rfl).mono ?_
          rintro e V' ⟨q', cp, rfl, hR, hb⟩
          exact ⟨_, _, rfl, ⟨hR.1.2.2.2, hR.2⟩, hb⟩
        · refine (rtwill_ok q n c k m' V (hq.congr hk) hr _ rfl (by omega) (by omega) _ rfl).mono ?_
          rintro e V' ⟨q', cp, rfl, hR, hb⟩
          exact ⟨_, _, rfl, ⟨hR.1.2.2.2, hR.2⟩, hb⟩
      · refine ⟨0, 0, 0, fun _ => false, 3, Nat.zero_le _, fun V q c hq => ?_, fun V q c hq => ?_⟩
        · refine (twill_err2 q n c k mv V (hq.congr hk) hr hm).mono ?_
          rintro e V' ⟨rfl, hb⟩
          exact ⟨_, _, rfl, ⟨bs_zero _ _ _ _, fun _ _ => .inl rfl⟩, hb⟩
        · refine (rtwill_bad q n c r mv V hq hn 3 (by rw [if_pos h0]) (fun _ => by rw [hsu]; exact hm)).mono ?_
          rintro e V' ⟨rfl, hb⟩
          exact ⟨_, _, rfl, ⟨bs_zero _ _ _ _, fun _ _ => .inl rfl⟩, hb⟩
    · have hp : 1 ≤ rE n r := by have := rE_cases n r; omega
      refine ⟨0, 0, 0, fun _ => false, rE n r, Nat.zero_le _, fun V q c hq => ?_, fun V q c hq => ?_⟩
      · refine (twill_err1 q n c r mv V hq _ rfl hp).mono ?_
        rintro e V' ⟨rfl, hb⟩
        exact ⟨_, _, rfl, ⟨bs_zero _ _ _ _, fun _ _ => .inl rfl⟩, hb⟩
      · refine (rtwill_bad q n c r mv V hq hn _ (by rw [if_neg h0]) (fun h => absurd h h0)).mono ?_
        rintro e V' ⟨rfl, hb⟩
        exact ⟨_, _, rfl, ⟨bs_zero _ _ _ _, fun _ _ => .inl rfl⟩, hb⟩
theorem moves_pair (e : Int) : ∃ (pn : Nat) (pf : Nat → Nat) (pe : Int), pn ≤ 64 ∧ (∀ V, AnsN 9 #[.int .i64 e] V pn pf pe) ∧ (∀ V, AnsN 10 #[.int .i64 e] V pn pf pe) := by
  by_cases h : 1 ≤ e ∧ e ≤ 64
  · obtain ⟨e', rfl⟩ := Int.eq_ofNat_of_zero_le (show 0 ≤ e by omega)
    exact ⟨(mvL e').length, fun k => (mvL e').getD k 0, 0, mvL_len e' (by omega), fun V => moves_ok e' V (by omega) (by omega), fun V => rmoves_ok e' V (by omega) (by omega)⟩
  · refine ⟨0, fun _ => 0, 3, Nat.zero_le _, fun V => ?_, fun V => ?_⟩
    · refine (moves_err e V h).mono ?_
      rintro r V' ⟨rfl, hb⟩
      exact ⟨_, _, rfl, .inl rfl, hb⟩
    · refine (rmoves_err e V h).mono ?_
      rintro r V' ⟨rfl, hb⟩
      exact ⟨_, _, rfl, .inl rfl, hb⟩
theorem satin_pair (e mv : Int) : ∃ (pw ph : Int) (pn : Nat) (pf : Nat → Bool) (pe : Int), pn ≤ 4096 ∧ (∀ V, AnsO 12 #[.int .i64 e, .int .i64 mv] V pw ph pn pf pe) ∧ (∀ V, AnsO 13 #[.int .i64 e, .int .i64 mv] V pw ph pn pf pe) := by
  by_cases h : 1 ≤ e ∧ e ≤ 64
  · obtain ⟨e', rfl⟩ := Int.eq_ofNat_of_zero_le (show 0 ≤ e by omega)
    cases hs : saB e' mv with
    | true =>
      have h2 : 2 ≤ mv := by simp [saB] at hs; omega
      obtain ⟨m', rfl⟩ := Int.eq_ofNat_of_zero_le (show 0 ≤ mv by omega)
      refine ⟨e', e', e' * e', saF e' m', 0, Nat.mul_le_mul (show e' ≤ 64 by omega) (show e' ≤ 64 by omega), fun V => ?_, fun V => ?_⟩
      · refine (satin_ok e' m' V (by omega) hs).mono ?_
        rintro r V' ⟨q', cp, rfl, hR, hb⟩
        exact ⟨_, _, rfl, ⟨hR.1.2.2.2, hR.2⟩, hb⟩
      · refine (rsatin_ok e' m' V (by omega) hs).mono ?_
        rintro r V' ⟨q', cp, rfl, hR, hb⟩
        exact ⟨_, _, rfl, ⟨hR.1.2.2.2, hR.2⟩, hb⟩
    | false =>
      refine ⟨0, 0, 0, fun _ => false, 6, Nat.zero_le _, fun V => ?_, fun V => ?_⟩
      · refine (satin_err2 e' mv V (by omega) (by omega) hs).mono ?_
        rintro r V' ⟨rfl, hb⟩
        exact ⟨_, _, rfl, ⟨bs_zero _ _ _ _, fun _ _ => .inl rfl⟩, hb⟩
      · refine (rsatin_err2 e' mv V (by omega) (by omega) hs).mono ?_
        rintro r V' ⟨rfl, hb⟩
        exact ⟨_, _, rfl, ⟨bs_zero _ _ _ _, fun _ _ => .inl rfl⟩, hb⟩
  · refine ⟨0, 0, 0, fun _ => false, 3, Nat.zero_le _, fun V => ?_, fun V => ?_⟩
    · refine (satin_err1 e mv V h).mono ?_
      rintro r V' ⟨rfl, hb⟩
      exact ⟨_, _, rfl, ⟨bs_zero _ _ _ _, fun _ _ => .inl rfl⟩, hb⟩
    · refine (rsatin_err1 e mv V h).mono ?_
      rintro r V' ⟨rfl, hb⟩
      exact ⟨_, _, rfl, ⟨bs_zero _ _ _ _, fun _ _ => .inl rfl⟩, hb⟩
theorem even_pair (w h : Int) (n : Nat) (f : Nat → Bool) : ∃ (b : Bool) (er : Int), (∀ V p cap, Bs V p n cap f → EvenIs 14 w h p n cap V b er) ∧ (∀ V p cap, Bs V p n cap f → EvenIs 15 w h p n cap V b er) := by
  by_cases e : wE w h n = 0
  · obtain ⟨wa, ha, rfl, rfl, h1, h2, h3⟩ := wE_zero _ _ _ e
    exact ⟨_, _, fun V p cap hf => even_ok ⟨h1, h2, h3, hf⟩, fun V p cap hf => reven_ok ⟨h1, h2, h3, hf⟩⟩
  · exact ⟨_, _, fun V p cap _ => even_err w h p n cap V _ rfl (wE_pos _ _ _ e), fun V p cap _ => reven_err w h p n cap V _ rfl (wE_pos _ _ _ e)⟩

def MakesIs (q : Option Addr) (n c : Nat) (mv e w h : Int) (p : Option Addr) (n2 cap : Nat) (W : World) : Prop := Calls Try.prog 3 #[.slice q n c, .int .i64 mv, .int .i64 e, tr w h p n2 cap] W fun r V => r = .returned (.bool true) ∧ Below W.heap.size W V

set_option maxHeartbeats 4000000 in
set_option maxRecDepth 100000 in
theorem makes_any (q : Option Addr) (n c : Nat) (r : Nat → Int) (mv e w h : Int) (p : Option Addr) (n2 cap : Nat) (f : Nat → Bool) (W : World) (hq : Is W q n r) (hf0 : Bs W p n2 cap f) : MakesIs q n c mv e w h p n2 cap W := by
  obtain ⟨pw, ph, pn, pf, pe, hpn, HP, HQ⟩ := twill_pair n r mv
  obtain ⟨an, af, ae, han, HA, HB⟩ := moves_pair e
  obtain ⟨tw, th, tn, tf, te, htn, HT, HU⟩ := satin_pair e mv
  obtain ⟨ev, ee, HE, HF⟩ := even_pair w h n2 f
  have HP := hide HP
  have HQ := hide HQ
  have HT := hide HT
  have HU := hide HU
  have HA := hide HA
  have HB := hide HB
  have HE := hide HE
  have HF := hide HF
  have B0 := bal (o := .cells #[.int .i64 w, .int .i64 h, .slice p n2 cap] 25) (Below.refl W.heap.size W)
  have S := hide B0
  have A := hide (OwnM.new W w h p n2 cap 25)
  have FA := hide (hf0.keep B0)
  have OA := hide (fun b (hb : W.heap.size ≤ b) => hf0.off hb)
  have HI := hide (fun V (hV : Below W.heap.size W V) => hq.keep hV)
  have z1 : (pe != pe) = false := by simp
  have z2 : (te != te) = false := by simp
  have z3 : (ae != ae) = false := by simp
  have z5 : (ee == ee) = true := by simp
  have hB0 : W.heap.size < (W.alloc (.cells #[.int .i64 w, .int .i64 h, .slice p n2 cap] 25)).heap.size := by simp
  clear B0 hf0 hq
  unfold MakesIs
  go_enter Try.func3, Try.ntmps3
  go_wp2_with fail
  generalize W.alloc (.cells #[.int .i64 w, .int .i64 h, .slice p n2 cap] 25) = w0 at *
  refine (unhide HP _ _ _ (unhide HI _ (unhide S))).mono ?_
  rintro e1 v1 ⟨q1, c1, rfl, hr, hb⟩
  have hb2 := bal (o := .cells #[.int .i64 pw, .int .i64 ph, .slice q1 pn c1] 25) hb
  have hxw : W.heap.size < v1.heap.size := Nat.lt_of_lt_of_le hB0 hb.size
  have An := hide ((unhide A).keep hb2)
  have FAn := hide ((unhide FA).keep hb2)
  have Sn := hide (btrans (unhide S) hb2)
  clear S A FA
  have A := An
  have FA := FAn
  have S := Sn
  clear Sn An FAn
  have FX := hide (hr.1.keep (bal (o := .cells #[.int .i64 pw, .int .i64 ph, .slice q1 pn c1] 25) (Below.refl _ _)))
  have X := hide (OwnY.new v1 pw ph q1 pn c1)
  clear hb hb2 hr hB0
  go_wp2_with fail
  generalize v1.alloc (.cells #[.int .i64 pw, .int .i64 ph, .slice q1 pn c1] 25) = x1 at *
  generalize v1.heap.size = bx at *
  refine (unhide HQ _ _ _ (unhide HI _ (unhide S))).mono ?_
  rintro e1 v2 ⟨q2, c2, rfl, hr, hb⟩
  have hb2 := bal (o := .cells #[.int .i64 pw, .int .i64 ph, .slice q2 pn c2] 25) hb
  have hyx : bx < v2.heap.size := Nat.lt_of_lt_of_le (unhide X).1.1 hb.size
  have An := hide ((unhide A).keep hb2)
  have FAn := hide ((unhide FA).keep hb2)
  have Xn := hide ((unhide X).keep hb2)
  have FXn := hide ((unhide FX).keep hb2)
  have Sn := hide (btrans (unhide S) hb2)
  clear S A FA X FX
  have A := An
  have FA := FAn
  have X := Xn
  have FX := FXn
  have S := Sn
  clear Sn An FAn Xn FXn
  have FY := hide (hr.1.keep (bal (o := .cells #[.int .i64 pw, .int .i64 ph, .slice q2 pn c2] 25) (Below.refl _ _)))
  have Y := hide (OwnY.new v2 pw ph q2 pn c2)
  clear hb hb2 hr
  have cX := (unhide X).1.2
  have cY := (unhide Y).1.2
  go_wp2_with fail
  clear cX cY
  generalize v2.alloc (.cells #[.int .i64 pw, .int .i64 ph, .slice q2 pn c2] 25) = x2 at *
  generalize v2.heap.size = bz at *
  refine (same_any pw ph q1 pn c1 pf q2 c2 pf x2 hpn (unhide FX) (unhide FY) (fun _ _ => rfl)).mono ?_
  rintro e1 v3 ⟨rfl, hb⟩
  have An := hide ((unhide A).keep hb)
  have FAn := hide ((unhide FA).keep hb)
  have Xn := hide ((unhide X).keep hb)
  have FXn := hide ((unhide FX).keep hb)
  have Yn := hide ((unhide Y).keep hb)
  have FYn := hide ((unhide FY).keep hb)
  have Sn := hide (btrans (unhide S) hb)
  clear S A FA X FX Y FY
  have A := An
  have FA := FAn
  have X := Xn
  have FX := FXn
  have Y := Yn
  have FY := FYn
  have S := Sn
  clear Sn An FAn Xn FXn Yn FYn
  clear hb FX FY
  go_wp2_with fail
  refine (unhide HA _).mono ?_
  rintro e1 v7 ⟨q5, c5, rfl, hr, hb⟩
  have An := hide ((unhide A).keep hb)
  have FAn := hide ((unhide FA).keep hb)
  have Xn := hide ((unhide X).keep hb)
  have Yn := hide ((unhide Y).keep hb)
  have Sn := hide (btrans (unhide S) hb)
  clear S A FA X Y
  have A := An
  have FA := FAn
  have X := Xn
  have Y := Yn
  have S := Sn
  clear Sn An FAn Xn Yn
  have N1 := hide hr
  clear hb hr
  go_wp2_with fail
  refine (unhide HB _).mono ?_
  rintro e1 v8 ⟨q6, c6, rfl, hr, hb⟩
  have An := hide ((unhide A).keep hb)
  have FAn := hide ((unhide FA).keep hb)
  have Xn := hide ((unhide X).keep hb)
  have Yn := hide ((unhide Y).keep hb)
  have N1n := hide ((unhide N1).keep hb)
  have Sn := hide (btrans (unhide S) hb)
  clear S A FA X Y N1
  have A := An
  have FA := FAn
  have X := Xn
  have Y := Yn
  have N1 := N1n
  have S := Sn
  clear Sn An FAn Xn Yn N1n
  have N2 := hide hr
  clear hb hr
  go_wp2_with fail
  refine (same_nums han (unhide N1) (unhide N2)).mono ?_
  rintro e1 v9 ⟨rfl, hb⟩
  clear N1 N2
  have An := hide ((unhide A).keep hb)
  have FAn := hide ((unhide FA).keep hb)
  have Xn := hide ((unhide X).keep hb)
  have Yn := hide ((unhide Y).keep hb)
  have Sn := hide (btrans (unhide S) hb)
  clear S A FA X Y
  have A := An
  have FA := FAn
  have X := Xn
  have Y := Yn
  have S := Sn
  clear Sn An FAn Xn Yn
  clear hb
  have hbx3 : bx < v9.heap.size := (unhide X).1.1
  have hby3 : bz < v9.heap.size := (unhide Y).1.1
  go_wp2_with fail
  refine (unhide HT _).mono ?_
  rintro e1 v4 ⟨q3, c3, rfl, hr, hb⟩
  have An := hide ((unhide A).keep hb)
  have FAn := hide ((unhide FA).keep hb)
  have Xn := hide ((unhide X).keep hb)
  have Yn := hide ((unhide Y).keep hb)
  have Sn := hide (btrans (unhide S) hb)
  clear S A FA X Y
  have A := An
  have FA := FAn
  have X := Xn
  have Y := Yn
  have S := Sn
  clear Sn An FAn Xn Yn
  have FX := hide hr.1
  have FXx := hide (hr.2 bx hbx3)
  have FXy := hide (hr.2 bz hby3)
  clear hb hr
  obtain ⟨⟨-, g0, g1, g2⟩, k0, k1, k2⟩ := unhide X
  have hn1 : W.heap.size ≠ bx := by omega
  have hn2 : bx ≠ W.heap.size := by omega
  have hn3 : W.heap.size ≠ bz := by omega
  have hn4 : bz ≠ W.heap.size := by omega
  have hn5 : bx ≠ bz := by omega
  have hn6 : bz ≠ bx := by omega
  obtain ⟨x4, Ex4, A4, FA4, X4, Y4, FX4, S4⟩ : ∃ x4, put3 v4 bx (.int .i64 tw) (.int .i64 th) (.slice q3 tn c3) = x4 ∧ OwnM x4 W.heap.size w h p n2 cap ∧ Bs x4 p n2 cap f ∧ OwnY x4 bx tw th q3 tn c3 ∧ OwnY x4 bz pw ph q2 pn c2 ∧ Bs x4 q3 tn c3 tf ∧ Below W.heap.size W x4 :=
    ⟨_, rfl, (unhide A).grown (gput bx (.int .i64 tw) (.int .i64 th) (.slice q3 tn c3)) (fun e => hn1 (Option.some.inj e)), (unhide FA).grown (gput bx (.int .i64 tw) (.int .i64 th) (.slice q3 tn c3)) (unhide OA bx (by omega)), (unhide X).put tw th q3 tn c3, (unhide Y).grown (gput bx (.int .i64 tw) (.int .i64 th) (.slice q3 tn c3)) (fun e => hn6 (Option.some.inj e)), (unhide FX).grown (gput bx (.int .i64 tw) (.int .i64 th) (.slice q3 tn c3)) (unhide FXx), (unhide S).grown (gput bx (.int .i64 tw) (.int .i64 th) (.slice q3 tn c3)) (unhide S).size (fun k e => by cases e; omega)⟩
  dsimp only [put3] at Ex4
  clear S A FA X Y FX
  have A := hide A4
  have FA := hide FA4
  have X := hide X4
  have Y := hide Y4
  have FX := hide FX4
  have S := hide S4
  clear A4 FA4 X4 Y4 FX4 S4
  go_wp2_with fail
  clear g0 g1 g2 k0 k1 k2
  clear Ex4
  have hbx4 : bx < x4.heap.size := (unhide X).1.1
  have hby4 : bz < x4.heap.size := (unhide Y).1.1
  refine (unhide HU _).mono ?_
  rintro e1 v5 ⟨q4, c4, rfl, hr, hb⟩
  have An := hide ((unhide A).keep hb)
  have FAn := hide ((unhide FA).keep hb)
  have Xn := hide ((unhide X).keep hb)
  have Yn := hide ((unhide Y).keep hb)
  have FXn := hide ((unhide FX).keep hb)
  have Sn := hide (btrans (unhide S) hb)
  clear S A FA X Y FX
  have A := An
  have FA := FAn
  have X := Xn
  have Y := Yn
  have FX := FXn
  have S := Sn
  clear Sn An FAn Xn Yn FXn
  have FY := hide hr.1
  have FYx := hide (hr.2 bx hbx4)
  have FYy := hide (hr.2 bz hby4)
  clear hb hr
  obtain ⟨⟨-, g0, g1, g2⟩, k0, k1, k2⟩ := unhide Y
  obtain ⟨x5, Ex5, A5, FA5, X5, Y5, FX5, FY5, S5⟩ : ∃ x5, put3 v5 bz (.int .i64 tw) (.int .i64 th) (.slice q4 tn c4) = x5 ∧ OwnM x5 W.heap.size w h p n2 cap ∧ Bs x5 p n2 cap f ∧ OwnY x5 bx tw th q3 tn c3 ∧ OwnY x5 bz tw th q4 tn c4 ∧ Bs x5 q3 tn c3 tf ∧ Bs x5 q4 tn c4 tf ∧ Below W.heap.size W x5 :=
    ⟨_, rfl, (unhide A).grown (gput bz (.int .i64 tw) (.int .i64 th) (.slice q4 tn c4)) (fun e => hn3 (Option.some.inj e)), (unhide FA).grown (gput bz (.int .i64 tw) (.int .i64 th) (.slice q4 tn c4)) (unhide OA bz (by omega)), (unhide X).grown (gput bz (.int .i64 tw) (.int .i64 th) (.slice q4 tn c4)) (fun e => hn5 (Option.some.inj e)), (unhide Y).put tw th q4 tn c4, (unhide FX).grown (gput bz (.int .i64 tw) (.int .i64 th) (.slice q4 tn c4)) (unhide FXy), (unhide FY).grown (gput bz (.int .i64 tw) (.int .i64 th) (.slice q4 tn c4)) (unhide FYy), (unhide S).grown (gput bz (.int .i64 tw) (.int .i64 th) (.slice q4 tn c4)) (unhide S).size (fun k e => by cases e; omega)⟩
  have cX := X5.1.2
  have cY := Y5.1.2
  dsimp only [put3] at Ex5
  clear S A FA X Y FX FY
  have A := hide A5
  have FA := hide FA5
  have FX := hide FX5
  have FY := hide FY5
  have S := hide S5
  clear A5 FA5 X5 Y5 FX5 FY5 S5
  go_wp2_with fail
  clear g0 g1 g2 k0 k1 k2 cX cY
  clear Ex5
  refine (same_any tw th q3 tn c3 tf q4 c4 tf x5 htn (unhide FX) (unhide FY) (fun _ _ => rfl)).mono ?_
  rintro e1 v6 ⟨rfl, hb⟩
  clear FX FY FXx FXy FYx FYy
  have An := hide ((unhide A).keep hb)
  have FAn := hide ((unhide FA).keep hb)
  have Sn := hide (btrans (unhide S) hb)
  clear S A FA
  have A := An
  have FA := FAn
  have S := Sn
  clear Sn An FAn
  clear hb
  have cA := (unhide A).2
  go_wp2_with fail
  clear cA
  refine (unhide HE _ _ _ (unhide FA)).mono ?_
  rintro e1 v10 ⟨rfl, hb⟩
  have An := hide ((unhide A).keep hb)
  have FAn := hide ((unhide FA).keep hb)
  have Sn := hide (btrans (unhide S) hb)
  clear S A FA
  have A := An
  have FA := FAn
  have S := Sn
  clear Sn An FAn
  clear hb
  have cA := (unhide A).2
  go_wp2_with fail
  clear cA
  refine (unhide HF _ _ _ (unhide FA)).mono ?_
  rintro e1 v11 ⟨rfl, hb⟩
  have An := hide ((unhide A).keep hb)
  have FAn := hide ((unhide FA).keep hb)
  have Sn := hide (btrans (unhide S) hb)
  clear S A FA
  have A := An
  have FA := FAn
  have S := Sn
  clear Sn An FAn
  clear hb
  cases ev
  all_goals
    go_wp2
    go_ret
    exact ⟨rfl, unhide S⟩
end Go.Proofs.Ytpefcpbkdofblaa
