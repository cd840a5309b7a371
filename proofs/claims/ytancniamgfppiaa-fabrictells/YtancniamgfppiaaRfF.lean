/-
  The document's Do: a knit.
-/
import Derived.Test.YtancniamgfppiaaRfD
namespace Go.Proofs.Ytancniamgfppiaa
open Go.RowKit

set_option maxRecDepth 100000 in
set_option maxHeartbeats 4000000 in
theorem rdo_knit {W : World} {N : Nat} {q1 q2 q3 : Option Addr} {m1 c1 m2 c2 m3 c3 : Nat} {r : Rs} {x : Sx} (hlo : LO W 0 (.slice q1 m1 c1) r.loops) (hhr : HR W 0 (.slice q2 m2 c2) r.held) (hnr : NR W 0 (.slice q3 m3 c3) r.loose) (hI : RIv r) (hN : N ≤ 128) (hz : wrE N (absS r) x = 0) (hk : x.dk = 1) : Calls Try.prog 52 #[rsV N (.slice q1 m1 c1) (.slice q2 m2 c2) (.slice q3 m3 c3) r.rack r.done, sxV x] W (RDoP W N (rdS r x)) := by
  have HE := hide (show rdS r x = { r with held := tkL r.held x.bed x.ndl ++ [(r.loops.length, x.bed.toNat, x.ndl.toNat)], loops := r.loops ++ [(x.car, onL r.held x.bed x.ndl)], done := r.done + 1 } by unfold rdS rdX; simp [hk])
  have g1 : (x.dk == 1) = true := by simp [hk]
  have g2 : (x.dk == 2) = false := by simp [hk]
  have g4 : (x.dk == 4) = false := by simp [hk]
  have g5 : (x.dk == 5) = false := by simp [hk]
  have g6 : (x.dk == 6) = false := by simp [hk]
  have u_ := hN
  clear u_
  obtain ⟨hIv, -, hhl⟩ := id hI
  obtain ⟨i1, i2, i3, i4, i5, i6⟩ := hIv
  obtain ⟨-, -, hd, -, hbn⟩ := wrE_zero hz
  have i2' : r.loops.length ≤ r.done := i2
  have i3' : r.loose.length ≤ 8 * r.done := i3
  have hd' : r.done < 4096 := hd
  have hm1 : m1 = r.loops.length := by obtain ⟨a, b, e⟩ := hlo.form; simpa using (Value.slice.inj e).2.1
  have hm2 : m2 = r.held.length := by obtain ⟨a, b, e⟩ := hhr.form; simpa using (Value.slice.inj e).2.1
  have hm3 : m3 = r.loose.length := by obtain ⟨a, b, e⟩ := hnr.form; simpa using (Value.slice.inj e).2.1
  have HLO := hide hlo
  have HHR := hide hhr
  have HNR := hide hnr
  obtain ⟨rk, hrk⟩ : ∃ rk, rk = r.rack := ⟨_, rfl⟩
  obtain ⟨dn, hdn⟩ : ∃ dn, dn = r.done := ⟨_, rfl⟩
  rw [← hdn] at i2' i3' hd' hhl
  rw [← hrk, ← hdn]
  have Hrk := hide hrk
  have Hdn := hide hdn
  have Hm1 := hide hm1
  have Hm2 := hide hm2
  have Hm3 := hide hm3
  have m1le : m1 ≤ 4096 := by omega
  have m2le : m2 ≤ 4096 := by omega
  have m3le : m3 ≤ 40000 := by omega
  clear hlo hhr hnr hrk hdn hm1 hm2 hm3 i1 i2 i3 i4 i5 i6 hd
  obtain ⟨w0, hw0, hSB0, hX0, hZ0, hB0⟩ := do_boxes W N (.slice q1 m1 c1) (.slice q2 m2 c2) (.slice q3 m3 c3) rk dn x
  have HSB0 := hide hSB0
  have HX0 := hide hX0
  have HZ0 := hide hZ0
  have B0 := hide hB0
  clear hSB0 hX0 hZ0 hB0
  obtain ⟨b, n, hbb, hnn, hb, hn, -, hw⟩ := hbn (by omega)
  have Hbt := hide (show ((x.bed.toNat : Nat) : Int) = x.bed by omega)
  have Hnt := hide (show ((x.ndl.toNat : Nat) : Int) = x.ndl by omega)
  clear hbn hz hI hk hw hbb hnn
  go_enter Try.func52, Try.ntmps52
  go_upto_region 1 with fail
  try rw [hw0]
  clear hw0
  obtain ⟨sb, hsb⟩ : ∃ sb, sb = W.heap.size := ⟨_, rfl⟩
  obtain ⟨xb, hxb⟩ : ∃ xb, xb = W.heap.size + 1 := ⟨_, rfl⟩
  obtain ⟨zb, hzb⟩ : ∃ zb, zb = W.heap.size + 2 := ⟨_, rfl⟩
  rw [← hzb] at HZ0
  rw [← hxb] at HX0
  rw [← hsb] at HSB0
  rw [← hzb, ← hxb, ← hsb]
  have Hsz := hide (show sb = W.heap.size ∧ zb = W.heap.size + 2 ∧ sb ≠ xb ∧ sb ≠ zb ∧ xb ≠ zb by omega)
  clear hsb hxb hzb
  have HSB1 := hide ((unhide HSB0).count (dn + 1))
  have K1 := hide (kset w0 sb 5 (.int .i64 ((dn + 1 : Nat) : Int)))
  have HX1 := hide ((unhide HX0).kept (unhide K1) (fun e => (unhide Hsz).2.2.1 e.symm))
  have HZ1 := hide ((unhide HZ0).kept (unhide K1) (fun e => (unhide Hsz).2.2.2.1 e.symm))
  have B1 := hide (Kept.back (unhide B0) (unhide K1) (unhide B0).size (fun i e => by have := (unhide Hsz).1; omega))
  have t54 := (unhide HSB0).1.2
  have HLO1 := hide (((unhide HLO).keep (unhide B0)).kept (unhide K1) (fun i e => e ▸ t54))
  have HHR1 := hide (((unhide HHR).keep (unhide B0)).kept (unhide K1) (fun i e => e ▸ t54))
  have HNR1 := hide (((unhide HNR).keep (unhide B0)).kept54 (unhide K1) (fun i e => e ▸ t54))
  obtain ⟨-, ⟨s0', s1', s2', s3', s4', s5'⟩, sf⟩ := unhide HSB0
  have sf5 := sf 5 (by decide)
  have eww : ∃ w1, w0.setCell ⟨sb, 5, none⟩ (.int .i64 ((dn + 1 : Nat) : Int)) = w1 := ⟨_, rfl⟩
  obtain ⟨w1, hw1⟩ := eww
  rw [hw1] at HSB1 HX1 HZ1 B1 HLO1 HHR1 HNR1
  have hw1' : w0.setCell ⟨sb, 5, none⟩ (.int .i64 ((dn : Int) + 1)) = w1 := by rw [← hw1]; rfl
  clear sf t54 K1 HLO HHR HNR B0 HX0 HZ0 hw1 HSB0
  go_upto_region 2 with fail
  try rw [hw1']
  clear hw1' s0' s1' s2' s3' s4' s5' sf5
  obtain ⟨dn1, hdn1⟩ : ∃ d, d = dn + 1 := ⟨_, rfl⟩
  rw [← hdn1] at HSB1
  have Hdn1 := hide hdn1
  clear hdn1
  have HOn := hide (on_any (N := N) (lv := .slice q1 m1 c1) (sv := .slice q3 m3 c3) (rk := rk) (dn := dn1) (unhide HHR1) (by rw [← unhide Hm2]; exact m2le) x.bed x.ndl)
  obtain ⟨-, ⟨s0', s1', s2', s3', s4', s5'⟩, -⟩ := unhide HSB1
  obtain ⟨-, x0, x1, x2, x3, x4⟩ := unhide HX1
  go_wp2_with fail
  refine (unhide HOn).mono ?_
  rintro e w2 ⟨lv, rfl, hlv, hb2⟩
  have HL := hide hlv
  have B2 := hide (btrans (unhide B1) hb2)
  have HSB := hide ((unhide HSB1).keep hb2)
  have HX := hide ((unhide HX1).keep hb2)
  have HZ := hide ((unhide HZ1).keep hb2)
  have HLO := hide ((unhide HLO1).keep hb2)
  have HHR := hide ((unhide HHR1).keep hb2)
  have HNR := hide ((unhide HNR1).keep hb2)
  obtain ⟨ll, hll⟩ : ∃ ll, ll = (onL r.held x.bed x.ndl).length := ⟨_, rfl⟩
  have hll4 : ll ≤ m2 := by have := tk_len r.held x.bed x.ndl; rw [unhide Hm2]; omega
  obtain ⟨lq, lc, hlq⟩ := hlv.form
  rw [← hll] at hlq
  subst hlq
  have Hll := hide hll
  have hsz2 := Nat.le_trans (unhide B1).size hb2.size
  clear hlv hb2 HSB1 HX1 HZ1 HLO1 HHR1 HNR1 HOn B1 hll s0' s1' s2' s3' s4' s5' x0 x1 x2 x3 x4
  obtain ⟨-, ⟨s0', s1', s2', s3', s4', s5'⟩, sf⟩ := unhide HSB
  have sf1 := sf 1 (by decide)
  have sf2 := sf 2 (by decide)
  have sf3 := sf 3 (by decide)
  have sf4 := sf 4 (by decide)
  clear sf
  obtain ⟨-, x0, x1, x2, x3, x4⟩ := unhide HX
  have HTk := hide (taken_any (N := N) (lv := (.slice q1 m1 c1)) (sv := (.slice q3 m3 c3)) (rk := rk) (dn := dn1) (unhide HHR) (by rw [← unhide Hm2]; exact m2le) ⟨_, _, _, rfl⟩ ⟨_, _, _, rfl⟩ x.bed x.ndl)
  go_wp2_with fail
  refine (unhide HTk).mono ?_
  rintro e wt ⟨tv, rfl, htv, hbt⟩
  obtain ⟨tl, htl⟩ : ∃ tl, tl = (tkL r.held x.bed x.ndl).length := ⟨_, rfl⟩
  have htl4 : tl ≤ m2 := by have := tk_len r.held x.bed x.ndl; rw [unhide Hm2]; omega
  obtain ⟨tq, tc, htq⟩ := htv.form
  rw [← htl] at htq
  subst htq
  have Htl := hide htl
  have HSBt := hide ((unhide HSB).keep hbt)
  have t54 := (unhide HSBt).1.2
  obtain ⟨w3, hw3, hSB3, hK3⟩ : ∃ w3, put54 wt sb N (.slice q1 m1 c1) (.slice tq tl tc) (.slice q3 m3 c3) rk dn1 = w3 ∧ SB w3 sb N (.slice q1 m1 c1) (.slice tq tl tc) (.slice q3 m3 c3) rk dn1 ∧ Kept (fun i => i = sb) wt w3 := ⟨_, rfl, (unhide HSBt).put _ _ _ _ _ _, put54_kept _ _ _ _ _ _ _ _⟩
  unfold put54 at hw3
  have Hxs := hide (show ¬ xb = sb from fun e => (unhide Hsz).2.2.1 e.symm)
  have HX3 := hide (((unhide HX).keep hbt).kept hK3 (unhide Hxs))
  have HZ3 := hide (((unhide HZ).keep hbt).kept hK3 (fun e => (unhide Hsz).2.2.2.1 e.symm))
  have HLO3 := hide (((unhide HLO).keep hbt).kept hK3 (fun i e => e ▸ t54))
  have HHR3 := hide (htv.kept hK3 (fun i e => e ▸ t54))
  have HNR3 := hide (((unhide HNR).keep hbt).kept54 hK3 (fun i e => e ▸ t54))
  have HL3 := hide (((unhide HL).keep hbt).kept54 hK3 (fun i e => e ▸ t54))
  have B3 := hide (Kept.back (btrans (unhide B2) hbt) hK3 (btrans (unhide B2) hbt).size (fun i e => by have := (unhide Hsz).1; omega))
  have hsz3 : w2.heap.size ≤ w3.heap.size := Nat.le_trans hbt.size hK3.size
  have HSB3 := hide hSB3
  obtain ⟨-, ⟨v0', v1', v2', v3', v4', v5'⟩, vf⟩ := unhide HSBt
  have vf0 := vf 0 (by decide)
  have vf1 := vf 1 (by decide)
  have vf2 := vf 2 (by decide)
  have vf3 := vf 3 (by decide)
  have vf4 := vf 4 (by decide)
  have vf5 := vf 5 (by decide)
  clear vf hSB3 hK3 t54 htv hbt htl HTk HSB HX HZ HLO HHR HNR HL B2
  obtain ⟨hs, hs1, hs2, hs3⟩ := unhide HLO3
  have hsl : m1 = hs.length := by rw [unhide Hm1, ← hs1, List.length_map]
  rw [← hsl] at hs2
  have HS1 := hide hs1
  have HS2 := hide hs2
  have HS3 := hide hs3
  have HSL := hide hsl
  have H1 := hide (lpC_one (fun e he => (hs3 e he).one))
  clear hs1 hs2 hs3 hsl
  have HTs := hide ((unhide HL3).le (Nat.zero_le _))
  have H2 := hide (show ∀ u ∈ (#[Value.int .i64 x.car, .slice lq ll lc] : Array Value).toList, u.oneCell' = true by intro u hu; simp at hu; rcases hu with rfl | rfl <;> rfl)
  go_upto_region 8 with fail
  try rw [hw3]
  clear s0' s1' s2' s3' s4' s5' sf1 sf2 sf3 sf4 x0 x1 x2 x3 x4
  clear hw3 v0' v1' v2' v3' v4' v5' vf0 vf1 vf2 vf3 vf4 vf5 HSBt
  go_cut [] (fun wd => LpQ w3 sb N (.slice tq tl tc) (.slice q3 m3 c3) rk dn1 (hs.map lpA ++ [(x.car, onL r.held x.bed x.ndl)]) wd)
  case first =>
    refine wp_region_noPanic ?_
    refine wp_region_held_drew (S := fun V => Kept (fun i => i = sb) w3 V) (by kernel_rfl) ((Kept.refl _ _).dr) ?_
    intro _
    obtain ⟨wd0, hwd0⟩ : ∃ w, w = w3.drew := ⟨_, rfl⟩
    have Bd := hide (show Below w3.heap.size w3 wd0 from by rw [hwd0]; exact bdrew _)
    rw [← hwd0]
    clear hwd0
    have hS0 : Kept (fun i => i = sb) w3 wd0 := Kept.of (unhide Bd)
    refine wpAnyH_take (i := 1) (oi := _) (v := .pointer (some ⟨sb, 1, none⟩)) g12_1 (by kernel_rfl) (by kernel_rfl) (by kernel_rfl) (fun _ _ _ h => h) (Or.inl ⟨by rfl, ?_⟩) (by assumption) ?_
    · intro V hSw
      try dsimp only at hSw
      go_simp
    simp only [Act.put, List.setIfInBounds_toArray, List.set_cons_zero, List.set_cons_succ]
    refine wpAnyH_take (i := 4) (oi := _) (v := .pointer (some ⟨xb, 3, none⟩)) g12_4 (by kernel_rfl) (by kernel_rfl) (by kernel_rfl) (fun _ _ _ h => h) (Or.inl ⟨by rfl, ?_⟩) (by assumption) ?_
    · intro V hSw
      try dsimp only at hSw
      go_simp
    simp only [Act.put, List.setIfInBounds_toArray, List.set_cons_zero, List.set_cons_succ]
    refine wpAnyH_take (i := 5) (oi := _) (v := .int .i64 x.car) g12_5 (by kernel_rfl) (by kernel_rfl) (by kernel_rfl) (fun _ _ _ h => h) (Or.inl ⟨by rfl, ?_⟩) (by assumption) ?_
    · intro V hSw
      try dsimp only at hSw
      obtain ⟨-, y0, y1, y2, y3, y4⟩ := (unhide HX3).kept hSw (unhide Hxs)
      go_simp
    simp only [Act.put, List.setIfInBounds_toArray, List.set_cons_zero, List.set_cons_succ]
    refine wpAnyH_take (i := 6) (oi := _) (v := .slice lq ll lc) g12_6 (by kernel_rfl) (by kernel_rfl) (by kernel_rfl) (fun _ _ _ h => h) (Or.inl ⟨by rfl, ?_⟩) (by assumption) ?_
    · intro V hSw
      try dsimp only at hSw
      go_simp
    simp only [Act.put, List.setIfInBounds_toArray, List.set_cons_zero, List.set_cons_succ]
    refine wpAnyH_take (i := 7) (oi := _) (v := .agg #[.int .i64 x.car, .slice lq ll lc]) g12_7 (by kernel_rfl) (by kernel_rfl) (by kernel_rfl) (fun _ _ _ h => h) (Or.inl ⟨by rfl, ?_⟩) (by assumption) ?_
    · intro V hSw
      try dsimp only at hSw
      go_simp
    simp only [Act.put, List.setIfInBounds_toArray, List.set_cons_zero, List.set_cons_succ]
    refine wpAnyH_ready (rs := [0, 2, 8]) (by kernel_rfl) (by simp) ?_
    refine (AllReadyH.cons (o := _) g12_0 (fun K hK => ?_) (AllReadyH.cons (o := _) g12_2 (fun K hK => ?_) (AllReadyH.cons (o := _) g12_8 (fun K hK => ?_) AllReadyH.nil)))
    · go_simp
      have EA := hide (own_lit (B := w3.heap.size) (e := 43) (z := 2) (k := 0) wd0 #[] (unhide Bd).size (by unfold maxLen; omega) rfl)
      have Bq1 := hide (btrans (unhide Bd) (bnew wd0 (.cells #[] 43)))
      refine hK.out _ _ (Kept.of (unhide Bq1)) (fun _ => ?_)
      clear hK K
      generalize wd0.alloc (.cells #[] 43) = w1x at *
      obtain ⟨ea, hea⟩ : ∃ ea, ea = wd0.heap.size := ⟨_, rfl⟩
      rw [← hea] at EA
      rw [← hea]
      have Hea := hide (show ea < w1x.heap.size from ((unhide EA).lt ea rfl).2)
      clear hea
      refine wpAnyH_ready (rs := [2, 8]) (by kernel_rfl) (by simp) ?_
      refine (AllReadyH.cons (o := _) g12_2 (fun K hK => ?_) (AllReadyH.cons (o := _) g12_8 (fun K hK => ?_) AllReadyH.nil))
      · have c1 := ((unhide HSB3).keep (unhide Bq1)).2.1.2.1
        go_simp
        refine hK.out _ _ (Kept.of (unhide Bq1)) (fun _ => ?_)
        clear hK K
        clear c1
        refine wpAnyH_ready (rs := [3, 8]) (by kernel_rfl) (by simp) ?_
        refine (AllReadyH.cons (o := _) g12_3 (fun K hK => ?_) (AllReadyH.cons (o := _) g12_8 (fun K hK => ?_) AllReadyH.nil))
        · refine wp_app rfl Try.underlying25 info41 rfl (by decide) (v := .slice (some ⟨ea, 0, none⟩) 0 0) (y := (.slice q1 m1 c1)) rfl rfl (unhide EA) (own_keep (unhide HS2) (unhide Bq1)) (unhide H1) (by unfold maxLen; omega) (by omega) (unhide Bq1).size ?_
          intro v1 w3x hown hgrow _
          have E1 := hide (show w3x.ownsRow w3.heap.size 43 2 v1 m1 (lpC hs) by simpa using hown)
          have Bq3 := hide ((unhide Bq1).grown hgrow (unhide Bq1).size (fun k hk => ((unhide EA).lt k hk).1))
          obtain ⟨f1, h1x, rfl⟩ := own_form (unhide E1)
          clear hown hgrow
          refine hK.out _ _ (Kept.of (unhide Bq3)) (fun _ => ?_)
          clear hK K
          refine wpAnyH_ready (rs := [8]) (by kernel_rfl) (by simp) ?_
          refine AllReadyH.cons (o := _) g12_8 (fun K hK => ?_) AllReadyH.nil
          go_simp
          have EC := hide (own_lit (B := 0) (e := 43) (z := 2) (k := 1) w3x #[.int .i64 x.car, .slice lq ll lc] (Nat.zero_le _) (by unfold maxLen; omega) rfl)
          have Bq4 := hide (btrans (unhide Bq3) (bnew w3x (.cells #[.int .i64 x.car, .slice lq ll lc] 43)))
          have E1 := hide (own_keep (unhide E1) (bnew w3x (.cells #[.int .i64 x.car, .slice lq ll lc] 43)))
          refine hK.out _ _ (Kept.of (unhide Bq4)) (fun _ => ?_)
          clear hK K
          generalize w3x.alloc (.cells #[.int .i64 x.car, .slice lq ll lc] 43) = w4x at *
          obtain ⟨ec, hec⟩ : ∃ ec, ec = w3x.heap.size := ⟨_, rfl⟩
          rw [← hec] at EC
          rw [← hec]
          have Hec := hide (show ec < w4x.heap.size from ((unhide EC).lt ec rfl).2)
          clear hec
          refine wpAnyH_ready (rs := [9]) (by kernel_rfl) (by simp) ?_
          refine AllReadyH.cons (o := _) g12_9 (fun K hK => ?_) AllReadyH.nil
          refine wp_app rfl Try.underlying25 info41 rfl (by decide) (v := .slice f1 m1 h1x) (y := .slice (some ⟨ec, 0, none⟩) 1 1) rfl rfl (unhide E1) (unhide EC) (unhide H2) (by unfold maxLen; omega) (by omega) (unhide Bq4).size ?_
          intro v2 w5x hown hgrow _
          have E2 := hide hown
          have Bq5 := hide ((unhide Bq4).grown hgrow (unhide Bq4).size (fun k hk => ((unhide E1).lt k hk).1))
          obtain ⟨f2, h2x, rfl⟩ := own_form (unhide E2)
          clear hown hgrow
          refine hK.out _ _ (Kept.of (unhide Bq5)) (fun _ => ?_)
          clear hK K
          refine wpAnyH_take (i := 10) (oi := _) (v := .pointer (some ⟨sb, 1, none⟩)) g12_10 (by kernel_rfl) (by kernel_rfl) (by kernel_rfl) (fun _ _ _ h => h) (Or.inl ⟨by rfl, ?_⟩) (by assumption) ?_
          · intro V hSw
            try dsimp only at hSw
            go_simp
          simp only [Act.put, List.setIfInBounds_toArray, List.set_cons_zero, List.set_cons_succ]
          refine wpAnyH_ready (rs := [11]) (by kernel_rfl) (by simp) ?_
          refine AllReadyH.cons (o := _) g12_11 (fun K hK => ?_) AllReadyH.nil
          have c1 := ((unhide HSB3).keep (unhide Bq5)).2.1.2.1
          have f1' := ((unhide HSB3).keep (unhide Bq5)).2.2 1 (by decide)
          go_simp
          have HF := hide (close_loops (ts := (onL r.held x.bed x.ndl)) (unhide HSL) (unhide HSB3) (unhide Bq5) (unhide HS3) (unhide HTs) (unhide E2))
          refine hK.out _ _ ((unhide HF).2.2) (fun _ => ?_)
          clear hK K c1 f1'
          refine wpAnyH_done (by kernel_rfl) ?_ _
          refine NoPanic.normal ?_
          go_wp2
          go_meet
          case rel => exact LpQ.of (unhide HF)
        · go_simp
          have EC := hide (own_lit (B := 0) (e := 43) (z := 2) (k := 1) w1x #[.int .i64 x.car, .slice lq ll lc] (Nat.zero_le _) (by unfold maxLen; omega) rfl)
          have Bq6 := hide (btrans (unhide Bq1) (bnew w1x (.cells #[.int .i64 x.car, .slice lq ll lc] 43)))
          have EA := hide (own_keep (unhide EA) (bnew w1x (.cells #[.int .i64 x.car, .slice lq ll lc] 43)))
          refine hK.out _ _ (Kept.of (unhide Bq6)) (fun _ => ?_)
          clear hK K
          generalize w1x.alloc (.cells #[.int .i64 x.car, .slice lq ll lc] 43) = w6x at *
          obtain ⟨ec, hec⟩ : ∃ ec, ec = w1x.heap.size := ⟨_, rfl⟩
          rw [← hec] at EC
          rw [← hec]
          have hne : ea ≠ ec := by have := unhide Hea; omega
          have Hec := hide (show ec < w6x.heap.size from ((unhide EC).lt ec rfl).2)
          clear hec
          refine wpAnyH_ready (rs := [3]) (by kernel_rfl) (by simp) ?_
          refine AllReadyH.cons (o := _) g12_3 (fun K hK => ?_) AllReadyH.nil
          refine wp_app rfl Try.underlying25 info41 rfl (by decide) (v := .slice (some ⟨ea, 0, none⟩) 0 0) (y := (.slice q1 m1 c1)) rfl rfl (unhide EA) (own_keep (unhide HS2) (unhide Bq6)) (unhide H1) (by unfold maxLen; omega) (by omega) (unhide Bq6).size ?_
          intro v1 w7x hown hgrow _
          have E1 := hide (show w7x.ownsRow w3.heap.size 43 2 v1 m1 (lpC hs) by simpa using hown)
          have Bq7 := hide ((unhide Bq6).grown hgrow (unhide Bq6).size (fun k hk => ((unhide EA).lt k hk).1))
          have EC := hide (own_grown (unhide EC) hgrow (fun i hi q => hne (by cases hi; cases q; rfl)))
          obtain ⟨f1, h1x, rfl⟩ := own_form (unhide E1)
          clear hown hgrow
          refine hK.out _ _ (Kept.of (unhide Bq7)) (fun _ => ?_)
          clear hK K
          refine wpAnyH_ready (rs := [9]) (by kernel_rfl) (by simp) ?_
          refine AllReadyH.cons (o := _) g12_9 (fun K hK => ?_) AllReadyH.nil
          refine wp_app rfl Try.underlying25 info41 rfl (by decide) (v := .slice f1 m1 h1x) (y := .slice (some ⟨ec, 0, none⟩) 1 1) rfl rfl (unhide E1) (unhide EC) (unhide H2) (by unfold maxLen; omega) (by omega) (unhide Bq7).size ?_
          intro v2 w8x hown hgrow _
          have E2 := hide hown
          have Bq8 := hide ((unhide Bq7).grown hgrow (unhide Bq7).size (fun k hk => ((unhide E1).lt k hk).1))
          obtain ⟨f2, h2x, rfl⟩ := own_form (unhide E2)
          clear hown hgrow
          refine hK.out _ _ (Kept.of (unhide Bq8)) (fun _ => ?_)
          clear hK K
          refine wpAnyH_take (i := 10) (oi := _) (v := .pointer (some ⟨sb, 1, none⟩)) g12_10 (by kernel_rfl) (by kernel_rfl) (by kernel_rfl) (fun _ _ _ h => h) (Or.inl ⟨by rfl, ?_⟩) (by assumption) ?_
          · intro V hSw
            try dsimp only at hSw
            go_simp
          simp only [Act.put, List.setIfInBounds_toArray, List.set_cons_zero, List.set_cons_succ]
          refine wpAnyH_ready (rs := [11]) (by kernel_rfl) (by simp) ?_
          refine AllReadyH.cons (o := _) g12_11 (fun K hK => ?_) AllReadyH.nil
          have c1 := ((unhide HSB3).keep (unhide Bq8)).2.1.2.1
          have f1' := ((unhide HSB3).keep (unhide Bq8)).2.2 1 (by decide)
          go_simp
          have HF := hide (close_loops (ts := (onL r.held x.bed x.ndl)) (unhide HSL) (unhide HSB3) (unhide Bq8) (unhide HS3) (unhide HTs) (unhide E2))
          refine hK.out _ _ ((unhide HF).2.2) (fun _ => ?_)
          clear hK K c1 f1'
          refine wpAnyH_done (by kernel_rfl) ?_ _
          refine NoPanic.normal ?_
          go_wp2
          go_meet
          case rel => exact LpQ.of (unhide HF)
      · go_simp
        have EC := hide (own_lit (B := 0) (e := 43) (z := 2) (k := 1) w1x #[.int .i64 x.car, .slice lq ll lc] (Nat.zero_le _) (by unfold maxLen; omega) rfl)
        have Bq9 := hide (btrans (unhide Bq1) (bnew w1x (.cells #[.int .i64 x.car, .slice lq ll lc] 43)))
        have EA := hide (own_keep (unhide EA) (bnew w1x (.cells #[.int .i64 x.car, .slice lq ll lc] 43)))
        refine hK.out _ _ (Kept.of (unhide Bq9)) (fun _ => ?_)
        clear hK K
        generalize w1x.alloc (.cells #[.int .i64 x.car, .slice lq ll lc] 43) = w9x at *
        obtain ⟨ec, hec⟩ : ∃ ec, ec = w1x.heap.size := ⟨_, rfl⟩
        rw [← hec] at EC
        rw [← hec]
        have hne : ea ≠ ec := by have := unhide Hea; omega
        have Hec := hide (show ec < w9x.heap.size from ((unhide EC).lt ec rfl).2)
        clear hec
        refine wpAnyH_ready (rs := [2]) (by kernel_rfl) (by simp) ?_
        refine AllReadyH.cons (o := _) g12_2 (fun K hK => ?_) AllReadyH.nil
        have c1 := ((unhide HSB3).keep (unhide Bq9)).2.1.2.1
        go_simp
        refine hK.out _ _ (Kept.of (unhide Bq9)) (fun _ => ?_)
        clear hK K
        clear c1
        refine wpAnyH_ready (rs := [3]) (by kernel_rfl) (by simp) ?_
        refine AllReadyH.cons (o := _) g12_3 (fun K hK => ?_) AllReadyH.nil
        refine wp_app rfl Try.underlying25 info41 rfl (by decide) (v := .slice (some ⟨ea, 0, none⟩) 0 0) (y := (.slice q1 m1 c1)) rfl rfl (unhide EA) (own_keep (unhide HS2) (unhide Bq9)) (unhide H1) (by unfold maxLen; omega) (by omega) (unhide Bq9).size ?_
        intro v1 w11x hown hgrow _
        have E1 := hide (show w11x.ownsRow w3.heap.size 43 2 v1 m1 (lpC hs) by simpa using hown)
        have Bq11 := hide ((unhide Bq9).grown hgrow (unhide Bq9).size (fun k hk => ((unhide EA).lt k hk).1))
        have EC := hide (own_grown (unhide EC) hgrow (fun i hi q => hne (by cases hi; cases q; rfl)))
        obtain ⟨f1, h1x, rfl⟩ := own_form (unhide E1)
        clear hown hgrow
        refine hK.out _ _ (Kept.of (unhide Bq11)) (fun _ => ?_)
        clear hK K
        refine wpAnyH_ready (rs := [9]) (by kernel_rfl) (by simp) ?_
        refine AllReadyH.cons (o := _) g12_9 (fun K hK => ?_) AllReadyH.nil
        refine wp_app rfl Try.underlying25 info41 rfl (by decide) (v := .slice f1 m1 h1x) (y := .slice (some ⟨ec, 0, none⟩) 1 1) rfl rfl (unhide E1) (unhide EC) (unhide H2) (by unfold maxLen; omega) (by omega) (unhide Bq11).size ?_
        intro v2 w12x hown hgrow _
        have E2 := hide hown
        have Bq12 := hide ((unhide Bq11).grown hgrow (unhide Bq11).size (fun k hk => ((unhide E1).lt k hk).1))
        obtain ⟨f2, h2x, rfl⟩ := own_form (unhide E2)
        clear hown hgrow
        refine hK.out _ _ (Kept.of (unhide Bq12)) (fun _ => ?_)
        clear hK K
        refine wpAnyH_take (i := 10) (oi := _) (v := .pointer (some ⟨sb, 1, none⟩)) g12_10 (by kernel_rfl) (by kernel_rfl) (by kernel_rfl) (fun _ _ _ h => h) (Or.inl ⟨by rfl, ?_⟩) (by assumption) ?_
        · intro V hSw
          try dsimp only at hSw
          go_simp
        simp only [Act.put, List.setIfInBounds_toArray, List.set_cons_zero, List.set_cons_succ]
        refine wpAnyH_ready (rs := [11]) (by kernel_rfl) (by simp) ?_
        refine AllReadyH.cons (o := _) g12_11 (fun K hK => ?_) AllReadyH.nil
        have c1 := ((unhide HSB3).keep (unhide Bq12)).2.1.2.1
        have f1' := ((unhide HSB3).keep (unhide Bq12)).2.2 1 (by decide)
        go_simp
        have HF := hide (close_loops (ts := (onL r.held x.bed x.ndl)) (unhide HSL) (unhide HSB3) (unhide Bq12) (unhide HS3) (unhide HTs) (unhide E2))
        refine hK.out _ _ ((unhide HF).2.2) (fun _ => ?_)
        clear hK K c1 f1'
        refine wpAnyH_done (by kernel_rfl) ?_ _
        refine NoPanic.normal ?_
        go_wp2
        go_meet
        case rel => exact LpQ.of (unhide HF)
    · have c1 := ((unhide HSB3).keep (unhide Bd)).2.1.2.1
      go_simp
      refine hK.out _ _ (Kept.of (unhide Bd)) (fun _ => ?_)
      clear hK K
      clear c1
      refine wpAnyH_ready (rs := [0, 8]) (by kernel_rfl) (by simp) ?_
      refine (AllReadyH.cons (o := _) g12_0 (fun K hK => ?_) (AllReadyH.cons (o := _) g12_8 (fun K hK => ?_) AllReadyH.nil))
      · go_simp
        have EA := hide (own_lit (B := w3.heap.size) (e := 43) (z := 2) (k := 0) wd0 #[] (unhide Bd).size (by unfold maxLen; omega) rfl)
        have Bq14 := hide (btrans (unhide Bd) (bnew wd0 (.cells #[] 43)))
        refine hK.out _ _ (Kept.of (unhide Bq14)) (fun _ => ?_)
        clear hK K
        generalize wd0.alloc (.cells #[] 43) = w14x at *
        obtain ⟨ea, hea⟩ : ∃ ea, ea = wd0.heap.size := ⟨_, rfl⟩
        rw [← hea] at EA
        rw [← hea]
        have Hea := hide (show ea < w14x.heap.size from ((unhide EA).lt ea rfl).2)
        clear hea
        refine wpAnyH_ready (rs := [3, 8]) (by kernel_rfl) (by simp) ?_
        refine (AllReadyH.cons (o := _) g12_3 (fun K hK => ?_) (AllReadyH.cons (o := _) g12_8 (fun K hK => ?_) AllReadyH.nil))
        · refine wp_app rfl Try.underlying25 info41 rfl (by decide) (v := .slice (some ⟨ea, 0, none⟩) 0 0) (y := (.slice q1 m1 c1)) rfl rfl (unhide EA) (own_keep (unhide HS2) (unhide Bq14)) (unhide H1) (by unfold maxLen; omega) (by omega) (unhide Bq14).size ?_
          intro v1 w15x hown hgrow _
          have E1 := hide (show w15x.ownsRow w3.heap.size 43 2 v1 m1 (lpC hs) by simpa using hown)
          have Bq15 := hide ((unhide Bq14).grown hgrow (unhide Bq14).size (fun k hk => ((unhide EA).lt k hk).1))
          obtain ⟨f1, h1x, rfl⟩ := own_form (unhide E1)
          clear hown hgrow
          refine hK.out _ _ (Kept.of (unhide Bq15)) (fun _ => ?_)
          clear hK K
          refine wpAnyH_ready (rs := [8]) (by kernel_rfl) (by simp) ?_
          refine AllReadyH.cons (o := _) g12_8 (fun K hK => ?_) AllReadyH.nil
          go_simp
          have EC := hide (own_lit (B := 0) (e := 43) (z := 2) (k := 1) w15x #[.int .i64 x.car, .slice lq ll lc] (Nat.zero_le _) (by unfold maxLen; omega) rfl)
          have Bq16 := hide (btrans (unhide Bq15) (bnew w15x (.cells #[.int .i64 x.car, .slice lq ll lc] 43)))
          have E1 := hide (own_keep (unhide E1) (bnew w15x (.cells #[.int .i64 x.car, .slice lq ll lc] 43)))
          refine hK.out _ _ (Kept.of (unhide Bq16)) (fun _ => ?_)
          clear hK K
          generalize w15x.alloc (.cells #[.int .i64 x.car, .slice lq ll lc] 43) = w16x at *
          obtain ⟨ec, hec⟩ : ∃ ec, ec = w15x.heap.size := ⟨_, rfl⟩
          rw [← hec] at EC
          rw [← hec]
          have Hec := hide (show ec < w16x.heap.size from ((unhide EC).lt ec rfl).2)
          clear hec
          refine wpAnyH_ready (rs := [9]) (by kernel_rfl) (by simp) ?_
          refine AllReadyH.cons (o := _) g12_9 (fun K hK => ?_) AllReadyH.nil
          refine wp_app rfl Try.underlying25 info41 rfl (by decide) (v := .slice f1 m1 h1x) (y := .slice (some ⟨ec, 0, none⟩) 1 1) rfl rfl (unhide E1) (unhide EC) (unhide H2) (by unfold maxLen; omega) (by omega) (unhide Bq16).size ?_
          intro v2 w17x hown hgrow _
          have E2 := hide hown
          have Bq17 := hide ((unhide Bq16).grown hgrow (unhide Bq16).size (fun k hk => ((unhide E1).lt k hk).1))
          obtain ⟨f2, h2x, rfl⟩ := own_form (unhide E2)
          clear hown hgrow
          refine hK.out _ _ (Kept.of (unhide Bq17)) (fun _ => ?_)
          clear hK K
          refine wpAnyH_take (i := 10) (oi := _) (v := .pointer (some ⟨sb, 1, none⟩)) g12_10 (by kernel_rfl) (by kernel_rfl) (by kernel_rfl) (fun _ _ _ h => h) (Or.inl ⟨by rfl, ?_⟩) (by assumption) ?_
          · intro V hSw
            try dsimp only at hSw
            go_simp
          simp only [Act.put, List.setIfInBounds_toArray, List.set_cons_zero, List.set_cons_succ]
          refine wpAnyH_ready (rs := [11]) (by kernel_rfl) (by simp) ?_
          refine AllReadyH.cons (o := _) g12_11 (fun K hK => ?_) AllReadyH.nil
          have c1 := ((unhide HSB3).keep (unhide Bq17)).2.1.2.1
          have f1' := ((unhide HSB3).keep (unhide Bq17)).2.2 1 (by decide)
          go_simp
          have HF := hide (close_loops (ts := (onL r.held x.bed x.ndl)) (unhide HSL) (unhide HSB3) (unhide Bq17) (unhide HS3) (unhide HTs) (unhide E2))
          refine hK.out _ _ ((unhide HF).2.2) (fun _ => ?_)
          clear hK K c1 f1'
          refine wpAnyH_done (by kernel_rfl) ?_ _
          refine NoPanic.normal ?_
          go_wp2
          go_meet
          case rel => exact LpQ.of (unhide HF)
        · go_simp
          have EC := hide (own_lit (B := 0) (e := 43) (z := 2) (k := 1) w14x #[.int .i64 x.car, .slice lq ll lc] (Nat.zero_le _) (by unfold maxLen; omega) rfl)
          have Bq18 := hide (btrans (unhide Bq14) (bnew w14x (.cells #[.int .i64 x.car, .slice lq ll lc] 43)))
          have EA := hide (own_keep (unhide EA) (bnew w14x (.cells #[.int .i64 x.car, .slice lq ll lc] 43)))
          refine hK.out _ _ (Kept.of (unhide Bq18)) (fun _ => ?_)
          clear hK K
          generalize w14x.alloc (.cells #[.int .i64 x.car, .slice lq ll lc] 43) = w18x at *
          obtain ⟨ec, hec⟩ : ∃ ec, ec = w14x.heap.size := ⟨_, rfl⟩
          rw [← hec] at EC
          rw [← hec]
          have hne : ea ≠ ec := by have := unhide Hea; omega
          have Hec := hide (show ec < w18x.heap.size from ((unhide EC).lt ec rfl).2)
          clear hec
          refine wpAnyH_ready (rs := [3]) (by kernel_rfl) (by simp) ?_
          refine AllReadyH.cons (o := _) g12_3 (fun K hK => ?_) AllReadyH.nil
          refine wp_app rfl Try.underlying25 info41 rfl (by decide) (v := .slice (some ⟨ea, 0, none⟩) 0 0) (y := (.slice q1 m1 c1)) rfl rfl (unhide EA) (own_keep (unhide HS2) (unhide Bq18)) (unhide H1) (by unfold maxLen; omega) (by omega) (unhide Bq18).size ?_
          intro v1 w19x hown hgrow _
          have E1 := hide (show w19x.ownsRow w3.heap.size 43 2 v1 m1 (lpC hs) by simpa using hown)
          have Bq19 := hide ((unhide Bq18).grown hgrow (unhide Bq18).size (fun k hk => ((unhide EA).lt k hk).1))
          have EC := hide (own_grown (unhide EC) hgrow (fun i hi q => hne (by cases hi; cases q; rfl)))
          obtain ⟨f1, h1x, rfl⟩ := own_form (unhide E1)
          clear hown hgrow
          refine hK.out _ _ (Kept.of (unhide Bq19)) (fun _ => ?_)
          clear hK K
          refine wpAnyH_ready (rs := [9]) (by kernel_rfl) (by simp) ?_
          refine AllReadyH.cons (o := _) g12_9 (fun K hK => ?_) AllReadyH.nil
          refine wp_app rfl Try.underlying25 info41 rfl (by decide) (v := .slice f1 m1 h1x) (y := .slice (some ⟨ec, 0, none⟩) 1 1) rfl rfl (unhide E1) (unhide EC) (unhide H2) (by unfold maxLen; omega) (by omega) (unhide Bq19).size ?_
          intro v2 w20x hown hgrow _
          have E2 := hide hown
          have Bq20 := hide ((unhide Bq19).grown hgrow (unhide Bq19).size (fun k hk => ((unhide E1).lt k hk).1))
          obtain ⟨f2, h2x, rfl⟩ := own_form (unhide E2)
          clear hown hgrow
          refine hK.out _ _ (Kept.of (unhide Bq20)) (fun _ => ?_)
          clear hK K
          refine wpAnyH_take (i := 10) (oi := _) (v := .pointer (some ⟨sb, 1, none⟩)) g12_10 (by kernel_rfl) (by kernel_rfl) (by kernel_rfl) (fun _ _ _ h => h) (Or.inl ⟨by rfl, ?_⟩) (by assumption) ?_
          · intro V hSw
            try dsimp only at hSw
            go_simp
          simp only [Act.put, List.setIfInBounds_toArray, List.set_cons_zero, List.set_cons_succ]
          refine wpAnyH_ready (rs := [11]) (by kernel_rfl) (by simp) ?_
          refine AllReadyH.cons (o := _) g12_11 (fun K hK => ?_) AllReadyH.nil
          have c1 := ((unhide HSB3).keep (unhide Bq20)).2.1.2.1
          have f1' := ((unhide HSB3).keep (unhide Bq20)).2.2 1 (by decide)
          go_simp
          have HF := hide (close_loops (ts := (onL r.held x.bed x.ndl)) (unhide HSL) (unhide HSB3) (unhide Bq20) (unhide HS3) (unhide HTs) (unhide E2))
          refine hK.out _ _ ((unhide HF).2.2) (fun _ => ?_)
          clear hK K c1 f1'
          refine wpAnyH_done (by kernel_rfl) ?_ _
          refine NoPanic.normal ?_
          go_wp2
          go_meet
          case rel => exact LpQ.of (unhide HF)
      · go_simp
        have EC := hide (own_lit (B := 0) (e := 43) (z := 2) (k := 1) wd0 #[.int .i64 x.car, .slice lq ll lc] (Nat.zero_le _) (by unfold maxLen; omega) rfl)
        have Bq21 := hide (btrans (unhide Bd) (bnew wd0 (.cells #[.int .i64 x.car, .slice lq ll lc] 43)))
        refine hK.out _ _ (Kept.of (unhide Bq21)) (fun _ => ?_)
        clear hK K
        generalize wd0.alloc (.cells #[.int .i64 x.car, .slice lq ll lc] 43) = w21x at *
        obtain ⟨ec, hec⟩ : ∃ ec, ec = wd0.heap.size := ⟨_, rfl⟩
        rw [← hec] at EC
        rw [← hec]
        have Hec := hide (show ec < w21x.heap.size from ((unhide EC).lt ec rfl).2)
        clear hec
        refine wpAnyH_ready (rs := [0]) (by kernel_rfl) (by simp) ?_
        refine AllReadyH.cons (o := _) g12_0 (fun K hK => ?_) AllReadyH.nil
        go_simp
        have EA := hide (own_lit (B := w3.heap.size) (e := 43) (z := 2) (k := 0) w21x #[] (unhide Bq21).size (by unfold maxLen; omega) rfl)
        have Bq22 := hide (btrans (unhide Bq21) (bnew w21x (.cells #[] 43)))
        have EC := hide (own_keep (unhide EC) (bnew w21x (.cells #[] 43)))
        refine hK.out _ _ (Kept.of (unhide Bq22)) (fun _ => ?_)
        clear hK K
        generalize w21x.alloc (.cells #[] 43) = w22x at *
        obtain ⟨ea, hea⟩ : ∃ ea, ea = w21x.heap.size := ⟨_, rfl⟩
        rw [← hea] at EA
        rw [← hea]
        have hne : ea ≠ ec := by have := unhide Hec; omega
        have Hea := hide (show ea < w22x.heap.size from ((unhide EA).lt ea rfl).2)
        clear hea
        refine wpAnyH_ready (rs := [3]) (by kernel_rfl) (by simp) ?_
        refine AllReadyH.cons (o := _) g12_3 (fun K hK => ?_) AllReadyH.nil
        refine wp_app rfl Try.underlying25 info41 rfl (by decide) (v := .slice (some ⟨ea, 0, none⟩) 0 0) (y := (.slice q1 m1 c1)) rfl rfl (unhide EA) (own_keep (unhide HS2) (unhide Bq22)) (unhide H1) (by unfold maxLen; omega) (by omega) (unhide Bq22).size ?_
        intro v1 w23x hown hgrow _
        have E1 := hide (show w23x.ownsRow w3.heap.size 43 2 v1 m1 (lpC hs) by simpa using hown)
        have Bq23 := hide ((unhide Bq22).grown hgrow (unhide Bq22).size (fun k hk => ((unhide EA).lt k hk).1))
        have EC := hide (own_grown (unhide EC) hgrow (fun i hi q => hne (by cases hi; cases q; rfl)))
        obtain ⟨f1, h1x, rfl⟩ := own_form (unhide E1)
        clear hown hgrow
        refine hK.out _ _ (Kept.of (unhide Bq23)) (fun _ => ?_)
        clear hK K
        refine wpAnyH_ready (rs := [9]) (by kernel_rfl) (by simp) ?_
        refine AllReadyH.cons (o := _) g12_9 (fun K hK => ?_) AllReadyH.nil
        refine wp_app rfl Try.underlying25 info41 rfl (by decide) (v := .slice f1 m1 h1x) (y := .slice (some ⟨ec, 0, none⟩) 1 1) rfl rfl (unhide E1) (unhide EC) (unhide H2) (by unfold maxLen; omega) (by omega) (unhide Bq23).size ?_
        intro v2 w24x hown hgrow _
        have E2 := hide hown
        have Bq24 := hide ((unhide Bq23).grown hgrow (unhide Bq23).size (fun k hk => ((unhide E1).lt k hk).1))
        obtain ⟨f2, h2x, rfl⟩ := own_form (unhide E2)
        clear hown hgrow
        refine hK.out _ _ (Kept.of (unhide Bq24)) (fun _ => ?_)
        clear hK K
        refine wpAnyH_take (i := 10) (oi := _) (v := .pointer (some ⟨sb, 1, none⟩)) g12_10 (by kernel_rfl) (by kernel_rfl) (by kernel_rfl) (fun _ _ _ h => h) (Or.inl ⟨by rfl, ?_⟩) (by assumption) ?_
        · intro V hSw
          try dsimp only at hSw
          go_simp
        simp only [Act.put, List.setIfInBounds_toArray, List.set_cons_zero, List.set_cons_succ]
        refine wpAnyH_ready (rs := [11]) (by kernel_rfl) (by simp) ?_
        refine AllReadyH.cons (o := _) g12_11 (fun K hK => ?_) AllReadyH.nil
        have c1 := ((unhide HSB3).keep (unhide Bq24)).2.1.2.1
        have f1' := ((unhide HSB3).keep (unhide Bq24)).2.2 1 (by decide)
        go_simp
        have HF := hide (close_loops (ts := (onL r.held x.bed x.ndl)) (unhide HSL) (unhide HSB3) (unhide Bq24) (unhide HS3) (unhide HTs) (unhide E2))
        refine hK.out _ _ ((unhide HF).2.2) (fun _ => ?_)
        clear hK K c1 f1'
        refine wpAnyH_done (by kernel_rfl) ?_ _
        refine NoPanic.normal ?_
        go_wp2
        go_meet
        case rel => exact LpQ.of (unhide HF)
    · go_simp
      have EC := hide (own_lit (B := 0) (e := 43) (z := 2) (k := 1) wd0 #[.int .i64 x.car, .slice lq ll lc] (Nat.zero_le _) (by unfold maxLen; omega) rfl)
      have Bq25 := hide (btrans (unhide Bd) (bnew wd0 (.cells #[.int .i64 x.car, .slice lq ll lc] 43)))
      refine hK.out _ _ (Kept.of (unhide Bq25)) (fun _ => ?_)
      clear hK K
      generalize wd0.alloc (.cells #[.int .i64 x.car, .slice lq ll lc] 43) = w25x at *
      obtain ⟨ec, hec⟩ : ∃ ec, ec = wd0.heap.size := ⟨_, rfl⟩
      rw [← hec] at EC
      rw [← hec]
      have Hec := hide (show ec < w25x.heap.size from ((unhide EC).lt ec rfl).2)
      clear hec
      refine wpAnyH_ready (rs := [0, 2]) (by kernel_rfl) (by simp) ?_
      refine (AllReadyH.cons (o := _) g12_0 (fun K hK => ?_) (AllReadyH.cons (o := _) g12_2 (fun K hK => ?_) AllReadyH.nil))
      · go_simp
        have EA := hide (own_lit (B := w3.heap.size) (e := 43) (z := 2) (k := 0) w25x #[] (unhide Bq25).size (by unfold maxLen; omega) rfl)
        have Bq26 := hide (btrans (unhide Bq25) (bnew w25x (.cells #[] 43)))
        have EC := hide (own_keep (unhide EC) (bnew w25x (.cells #[] 43)))
        refine hK.out _ _ (Kept.of (unhide Bq26)) (fun _ => ?_)
        clear hK K
        generalize w25x.alloc (.cells #[] 43) = w26x at *
        obtain ⟨ea, hea⟩ : ∃ ea, ea = w25x.heap.size := ⟨_, rfl⟩
        rw [← hea] at EA
        rw [← hea]
        have hne : ea ≠ ec := by have := unhide Hec; omega
        have Hea := hide (show ea < w26x.heap.size from ((unhide EA).lt ea rfl).2)
        clear hea
        refine wpAnyH_ready (rs := [2]) (by kernel_rfl) (by simp) ?_
        refine AllReadyH.cons (o := _) g12_2 (fun K hK => ?_) AllReadyH.nil
        have c1 := ((unhide HSB3).keep (unhide Bq26)).2.1.2.1
        go_simp
        refine hK.out _ _ (Kept.of (unhide Bq26)) (fun _ => ?_)
        clear hK K
        clear c1
        refine wpAnyH_ready (rs := [3]) (by kernel_rfl) (by simp) ?_
        refine AllReadyH.cons (o := _) g12_3 (fun K hK => ?_) AllReadyH.nil
        refine wp_app rfl Try.underlying25 info41 rfl (by decide) (v := .slice (some ⟨ea, 0, none⟩) 0 0) (y := (.slice q1 m1 c1)) rfl rfl (unhide EA) (own_keep (unhide HS2) (unhide Bq26)) (unhide H1) (by unfold maxLen; omega) (by omega) (unhide Bq26).size ?_
        intro v1 w28x hown hgrow _
        have E1 := hide (show w28x.ownsRow w3.heap.size 43 2 v1 m1 (lpC hs) by simpa using hown)
        have Bq28 := hide ((unhide Bq26).grown hgrow (unhide Bq26).size (fun k hk => ((unhide EA).lt k hk).1))
        have EC := hide (own_grown (unhide EC) hgrow (fun i hi q => hne (by cases hi; cases q; rfl)))
        obtain ⟨f1, h1x, rfl⟩ := own_form (unhide E1)
        clear hown hgrow
        refine hK.out _ _ (Kept.of (unhide Bq28)) (fun _ => ?_)
        clear hK K
        refine wpAnyH_ready (rs := [9]) (by kernel_rfl) (by simp) ?_
        refine AllReadyH.cons (o := _) g12_9 (fun K hK => ?_) AllReadyH.nil
        refine wp_app rfl Try.underlying25 info41 rfl (by decide) (v := .slice f1 m1 h1x) (y := .slice (some ⟨ec, 0, none⟩) 1 1) rfl rfl (unhide E1) (unhide EC) (unhide H2) (by unfold maxLen; omega) (by omega) (unhide Bq28).size ?_
        intro v2 w29x hown hgrow _
        have E2 := hide hown
        have Bq29 := hide ((unhide Bq28).grown hgrow (unhide Bq28).size (fun k hk => ((unhide E1).lt k hk).1))
        obtain ⟨f2, h2x, rfl⟩ := own_form (unhide E2)
        clear hown hgrow
        refine hK.out _ _ (Kept.of (unhide Bq29)) (fun _ => ?_)
        clear hK K
        refine wpAnyH_take (i := 10) (oi := _) (v := .pointer (some ⟨sb, 1, none⟩)) g12_10 (by kernel_rfl) (by kernel_rfl) (by kernel_rfl) (fun _ _ _ h => h) (Or.inl ⟨by rfl, ?_⟩) (by assumption) ?_
        · intro V hSw
          try dsimp only at hSw
          go_simp
        simp only [Act.put, List.setIfInBounds_toArray, List.set_cons_zero, List.set_cons_succ]
        refine wpAnyH_ready (rs := [11]) (by kernel_rfl) (by simp) ?_
        refine AllReadyH.cons (o := _) g12_11 (fun K hK => ?_) AllReadyH.nil
        have c1 := ((unhide HSB3).keep (unhide Bq29)).2.1.2.1
        have f1' := ((unhide HSB3).keep (unhide Bq29)).2.2 1 (by decide)
        go_simp
        have HF := hide (close_loops (ts := (onL r.held x.bed x.ndl)) (unhide HSL) (unhide HSB3) (unhide Bq29) (unhide HS3) (unhide HTs) (unhide E2))
        refine hK.out _ _ ((unhide HF).2.2) (fun _ => ?_)
        clear hK K c1 f1'
        refine wpAnyH_done (by kernel_rfl) ?_ _
        refine NoPanic.normal ?_
        go_wp2
        go_meet
        case rel => exact LpQ.of (unhide HF)
      · have c1 := ((unhide HSB3).keep (unhide Bq25)).2.1.2.1
        go_simp
        refine hK.out _ _ (Kept.of (unhide Bq25)) (fun _ => ?_)
        clear hK K
        clear c1
        refine wpAnyH_ready (rs := [0]) (by kernel_rfl) (by simp) ?_
        refine AllReadyH.cons (o := _) g12_0 (fun K hK => ?_) AllReadyH.nil
        go_simp
        have EA := hide (own_lit (B := w3.heap.size) (e := 43) (z := 2) (k := 0) w25x #[] (unhide Bq25).size (by unfold maxLen; omega) rfl)
        have Bq31 := hide (btrans (unhide Bq25) (bnew w25x (.cells #[] 43)))
        have EC := hide (own_keep (unhide EC) (bnew w25x (.cells #[] 43)))
        refine hK.out _ _ (Kept.of (unhide Bq31)) (fun _ => ?_)
        clear hK K
        generalize w25x.alloc (.cells #[] 43) = w31x at *
        obtain ⟨ea, hea⟩ : ∃ ea, ea = w25x.heap.size := ⟨_, rfl⟩
        rw [← hea] at EA
        rw [← hea]
        have hne : ea ≠ ec := by have := unhide Hec; omega
        have Hea := hide (show ea < w31x.heap.size from ((unhide EA).lt ea rfl).2)
        clear hea
        refine wpAnyH_ready (rs := [3]) (by kernel_rfl) (by simp) ?_
        refine AllReadyH.cons (o := _) g12_3 (fun K hK => ?_) AllReadyH.nil
        refine wp_app rfl Try.underlying25 info41 rfl (by decide) (v := .slice (some ⟨ea, 0, none⟩) 0 0) (y := (.slice q1 m1 c1)) rfl rfl (unhide EA) (own_keep (unhide HS2) (unhide Bq31)) (unhide H1) (by unfold maxLen; omega) (by omega) (unhide Bq31).size ?_
        intro v1 w32x hown hgrow _
        have E1 := hide (show w32x.ownsRow w3.heap.size 43 2 v1 m1 (lpC hs) by simpa using hown)
        have Bq32 := hide ((unhide Bq31).grown hgrow (unhide Bq31).size (fun k hk => ((unhide EA).lt k hk).1))
        have EC := hide (own_grown (unhide EC) hgrow (fun i hi q => hne (by cases hi; cases q; rfl)))
        obtain ⟨f1, h1x, rfl⟩ := own_form (unhide E1)
        clear hown hgrow
        refine hK.out _ _ (Kept.of (unhide Bq32)) (fun _ => ?_)
        clear hK K
        refine wpAnyH_ready (rs := [9]) (by kernel_rfl) (by simp) ?_
        refine AllReadyH.cons (o := _) g12_9 (fun K hK => ?_) AllReadyH.nil
        refine wp_app rfl Try.underlying25 info41 rfl (by decide) (v := .slice f1 m1 h1x) (y := .slice (some ⟨ec, 0, none⟩) 1 1) rfl rfl (unhide E1) (unhide EC) (unhide H2) (by unfold maxLen; omega) (by omega) (unhide Bq32).size ?_
        intro v2 w33x hown hgrow _
        have E2 := hide hown
        have Bq33 := hide ((unhide Bq32).grown hgrow (unhide Bq32).size (fun k hk => ((unhide E1).lt k hk).1))
        obtain ⟨f2, h2x, rfl⟩ := own_form (unhide E2)
        clear hown hgrow
        refine hK.out _ _ (Kept.of (unhide Bq33)) (fun _ => ?_)
        clear hK K
        refine wpAnyH_take (i := 10) (oi := _) (v := .pointer (some ⟨sb, 1, none⟩)) g12_10 (by kernel_rfl) (by kernel_rfl) (by kernel_rfl) (fun _ _ _ h => h) (Or.inl ⟨by rfl, ?_⟩) (by assumption) ?_
        · intro V hSw
          try dsimp only at hSw
          go_simp
        simp only [Act.put, List.setIfInBounds_toArray, List.set_cons_zero, List.set_cons_succ]
        refine wpAnyH_ready (rs := [11]) (by kernel_rfl) (by simp) ?_
        refine AllReadyH.cons (o := _) g12_11 (fun K hK => ?_) AllReadyH.nil
        have c1 := ((unhide HSB3).keep (unhide Bq33)).2.1.2.1
        have f1' := ((unhide HSB3).keep (unhide Bq33)).2.2 1 (by decide)
        go_simp
        have HF := hide (close_loops (ts := (onL r.held x.bed x.ndl)) (unhide HSL) (unhide HSB3) (unhide Bq33) (unhide HS3) (unhide HTs) (unhide E2))
        refine hK.out _ _ ((unhide HF).2.2) (fun _ => ?_)
        clear hK K c1 f1'
        refine wpAnyH_done (by kernel_rfl) ?_ _
        refine NoPanic.normal ?_
        go_wp2
        go_meet
        case rel => exact LpQ.of (unhide HF)
  case rest =>
  unfold LpQ at hcut
  obtain ⟨v9, hSB9, hLO9, hK9⟩ := hcut
  obtain ⟨w4, hw4⟩ : ∃ x : World, x = wc := ⟨_, rfl⟩
  rw [← hw4] at hSB9 hLO9 hK9
  rw [← hw4]
  clear hw4
  have t54 := (unhide HSB3).1.2
  have HX4 := hide ((unhide HX3).kept hK9 (unhide Hxs))
  have HZ4 := hide ((unhide HZ3).kept hK9 (fun e => (unhide Hsz).2.2.2.1 e.symm))
  have HHR4 := hide ((unhide HHR3).kept hK9 (fun i e => e ▸ t54))
  have HNR4 := hide ((unhide HNR3).kept54 hK9 (fun i e => e ▸ t54))
  have B4 := hide (Kept.back (unhide B3) hK9 (unhide B3).size (fun i e => by have := (unhide Hsz).1; omega))
  have hsz4 : w2.heap.size ≤ w4.heap.size := Nat.le_trans hsz3 hK9.size
  obtain ⟨f9, c9, hv9⟩ := hLO9.form
  obtain ⟨n9, hn9⟩ : ∃ n9, n9 = (hs.map lpA ++ [(x.car, onL r.held x.bed x.ndl)]).length := ⟨_, rfl⟩
  have hn9' : n9 = m1 + 1 := by rw [hn9, List.length_append, List.length_map, ← unhide HSL]; rfl
  rw [← hn9] at hv9
  subst hv9
  have e7 : (n9 : Int) - 1 = (m1 : Int) := by omega
  have HSB4 := hide hSB9
  have HLO4 := hide hLO9
  rw [unhide HS1] at HLO4
  have HH4 := hide (show w4.ownsRow w2.heap.size 113 3 (.slice tq tl tc) tl (hdV (tkL r.held x.bed x.ndl)) by have h := unhide HHR4; unfold HR at h; rw [← unhide Htl] at h; exact h)
  have H3 := hide (show ∀ u ∈ (#[Value.int .i64 (m1 : Int), .int .i64 x.bed, .int .i64 x.ndl] : Array Value).toList, u.oneCell' = true by intro u hu; simp at hu; rcases hu with rfl | rfl | rfl <;> rfl)
  have HHa := hide (own_keep (unhide HH4) (bnew w4 (.cells #[.int .i64 (m1 : Int), .int .i64 x.bed, .int .i64 x.ndl] 113)))
  have HYa := hide (own_lit (B := 0) (e := 113) (z := 3) (k := 1) w4 #[.int .i64 (m1 : Int), .int .i64 x.bed, .int .i64 x.ndl] (Nat.zero_le _) (by unfold maxLen; omega) rfl)
  clear hSB9 hLO9 hK9 hn9 hn9' t54 HSB3 HX3 HZ3 HHR3 HNR3 B3 HLO3 HS1 HS2 HS3 HSL HTs H1 H2
  obtain ⟨-, ⟨s0', s1', s2', s3', s4', s5'⟩, sf⟩ := unhide HSB4
  have sf2 := sf 2 (by decide)
  clear sf
  obtain ⟨-, x0, x1, x2, x3, x4⟩ := unhide HX4
  go_wp2_with (at_builtin; refine wl_app rfl rfl Try.underlying85 info75 rfl (by decide) (B := w2.heap.size) (C := 0) (n := tl) (m := 1) rfl rfl (unhide HHa) (unhide HYa) (unhide H3) (by unfold maxLen; omega) (by omega) (by simp; omega) ?_)
  intro v' w6 hown' hgrow _
  have hgk : Kept (fun i => w2.heap.size ≤ i ∧ Tg (w4.alloc (.cells #[.int .i64 (m1 : Int), .int .i64 x.bed, .int .i64 x.ndl] 113)) i 113) (w4.alloc (.cells #[.int .i64 (m1 : Int), .int .i64 x.bed, .int .i64 x.ndl] 113)) w6 := grown_kept hgrow (fun i e => .inl ⟨((unhide HHa).lt i e).1, own_tg (unhide HHa) e⟩)
  have bn := bnew w4 (.cells #[.int .i64 (m1 : Int), .int .i64 x.bed, .int .i64 x.ndl] 113)
  have nt : ∀ {u : TypeId}, (113 : TypeId) ≠ u → ∀ i, (w2.heap.size ≤ i ∧ Tg (w4.alloc (.cells #[.int .i64 (m1 : Int), .int .i64 x.bed, .int .i64 x.ndl] 113)) i 113) → ¬ Tg (w4.alloc (.cells #[.int .i64 (m1 : Int), .int .i64 x.bed, .int .i64 x.ndl] 113)) i u := fun h i q t => tg_not q.2 h t
  have S5 := ((unhide HSB4).keep bn).kept hgk (fun q => nt (by decide) _ q ((unhide HSB4).keep bn).1.2)
  have Z5 := ((unhide HZ4).keep bn).kept hgk (fun q => nt (by decide) _ q ((unhide HZ4).keep bn).1.2)
  have L5 : LO w6 0 (.slice f9 n9 c9) (r.loops ++ [(x.car, onL r.held x.bed x.ndl)]) := by
    obtain ⟨h1, h2, h3, h4⟩ := (unhide HLO4).keep bn
    exact ⟨h1, h2, own_kept h3 hgk (nt (by decide)), fun e he => (h4 e he).kept hgk (nt (by decide))⟩
  have N5 := ((unhide HNR4).keep bn).kept hgk (nt (by decide))
  have B5 := (btrans (unhide B4) bn).grown hgrow (btrans (unhide B4) bn).size (fun k hk => by have := ((unhide HHa).lt k hk).1; omega)
  obtain ⟨f8, c8, hv8⟩ := own_form hown'
  subst hv8
  obtain ⟨n8, hn8⟩ : ∃ n8, n8 = tl + 1 := ⟨_, rfl⟩
  have O5 := hown'
  rw [← hn8] at O5
  rw [← hn8]
  obtain ⟨w7, hw7, hSB7, hK7⟩ : ∃ w7, w6.setCell ⟨sb, 2, none⟩ (.slice f8 n8 c8) = w7 ∧ SB w7 sb N (.slice f9 n9 c9) (.slice f8 n8 c8) (.slice q3 m3 c3) rk dn1 ∧ Kept (fun i => i = sb) w6 w7 := ⟨_, rfl, S5.held _, kset _ _ _ _⟩
  have t54 := S5.1.2
  have HSB7 := hide hSB7
  have HZ7 := hide (Z5.kept hK7 (fun e => (unhide Hsz).2.2.2.1 e.symm))
  have HLO7 := hide (L5.kept hK7 (fun i e => e ▸ t54))
  have HNR7 := hide (N5.kept54 hK7 (fun i e => e ▸ t54))
  have HHR7 := hide (show HR w7 0 (.slice f8 n8 c8) (tkL r.held x.bed x.ndl ++ [(r.loops.length, x.bed.toNat, x.ndl.toNat)]) by
    have h := own_kept O5 hK7 (fun i e t => tg_not (show Tg w6 i 87 from e ▸ t54) (by decide) t)
    unfold HR
    rw [List.length_append, hdV_app, ← unhide Htl, ← unhide Hm1, show hdV [(m1, x.bed.toNat, x.ndl.toNat)] = [.int .i64 (m1 : Int), .int .i64 x.bed, .int .i64 x.ndl] by simp only [hdV, List.map_cons, List.map_nil, List.flatten_cons, List.flatten_nil, List.append_nil, unhide Hbt, unhide Hnt]]
    rw [hn8] at h
    rw [hn8]
    exact own_le h (Nat.zero_le _))
  have B7 := hide (Kept.back B5 hK7 B5.size (fun i e => by have := (unhide Hsz).1; omega))
  have s2w := S5.2.1.2.2.1
  have f2w := S5.2.2 2 (by decide)
  clear hown' hgrow hgk bn nt S5 Z5 L5 N5 B5 O5 hn8 hSB7 hK7 t54 HSB4 HX4 HZ4 HHR4 HNR4 B4 HLO4 HH4 HHa HYa H3 e7
  go_upto_region 24 with fail
  try rw [hw7]
  clear hw7 s0' s1' s2' s3' s4' s5' sf2 x0 x1 x2 x3 x4 s2w f2w
  obtain ⟨-, ⟨s0', s1', s2', s3', s4', s5'⟩, -⟩ := unhide HSB7
  obtain ⟨x9, hx9, hS9, hK9⟩ : ∃ x9, put54 w7 zb N (.slice f9 n9 c9) (.slice f8 n8 c8) (.slice q3 m3 c3) rk dn1 = x9 ∧ SB x9 zb N (.slice f9 n9 c9) (.slice f8 n8 c8) (.slice q3 m3 c3) rk dn1 ∧ Kept (fun i => i = zb) w7 x9 := ⟨_, rfl, (unhide HZ7).put _ _ _ _ _ _, put54_kept _ _ _ _ _ _ _ _⟩
  unfold put54 at hx9
  have HS9 := hide hS9
  have HK9 := hide hK9
  clear hS9 hK9
  obtain ⟨-, ⟨u0', u1', u2', u3', u4', u5'⟩, uf⟩ := unhide HZ7
  have uf0 := uf 0 (by decide)
  have uf1 := uf 1 (by decide)
  have uf2 := uf 2 (by decide)
  have uf3 := uf 3 (by decide)
  have uf4 := uf 4 (by decide)
  have uf5 := uf 5 (by decide)
  clear uf
  go_wp2
  obtain ⟨-, ⟨z0, z1, z2, z3, z4, z5⟩, -⟩ := unhide HS9
  refine bodyPost_ret (v := rsV N (.slice f9 n9 c9) (.slice f8 n8 c8) (.slice q3 m3 c3) rk dn1) ?_ rfl ?_
  · simp [results, Try.results52, go_sem, z0, z1, z2, z3, z4, z5]
  · have t54 := (unhide HZ7).1.2
    unfold RDoP
    refine ⟨_, rfl, ?_, Kept.back (unhide B7) (unhide HK9) (unhide B7).size (fun i e => by have := (unhide Hsz).2.1; omega)⟩
    rw [unhide HE]
    exact ⟨_, _, _, by rw [unhide Hrk, unhide Hdn1, unhide Hdn], (unhide HLO7).kept (unhide HK9) (fun i e => e ▸ t54), (unhide HHR7).kept (unhide HK9) (fun i e => e ▸ t54), (unhide HNR7).kept54 (unhide HK9) (fun i e => e ▸ t54)⟩

end Go.Proofs.Ytancniamgfppiaa
