/-
  The document's Do: a move.
-/
import Derived.Test.YtancniamgfppiaaRfD
namespace Go.Proofs.Ytancniamgfppiaa
open Go.RowKit

/-- all is as it was but for the box and who is where -/
def Kh (B sb : Nat) (W V : World) : Prop := Kept (fun i => i = sb ∨ (B ≤ i ∧ Tg W i 113)) W V
theorem Kh.trans {B sb : Nat} {W V U : World} (h : Kh B sb W V) (k : Kh B sb V U) : Kh B sb W U :=
  ⟨k.1.trans h.1, k.2.1.trans h.2.1, k.2.2.1.trans h.2.2.1, Nat.le_trans h.size k.size, fun i hi hn => by
    have e := h.2.2.2.2 i hi hn
    rw [← e]
    refine k.2.2.2.2 i (Nat.lt_of_lt_of_le hi h.size) (fun q => hn ?_)
    rcases q with q | q
    · exact .inl q
    · exact .inr ⟨q.1, (tg_block e).1 q.2⟩⟩
theorem Kh.not {W : World} {B sb : Nat} {u : TypeId} (h : Tg W sb 87) (h1 : (87 : TypeId) ≠ u) (h2 : (113 : TypeId) ≠ u) : ∀ i, (i = sb ∨ (B ≤ i ∧ Tg W i 113)) → ¬ Tg W i u := by
  intro i q t
  rcases q with q | q
  · exact tg_not (show Tg W i 87 from q ▸ h) h1 t
  · exact tg_not q.2 h2 t
theorem mv_snoc {ks : List Nat} {k : Nat} (h : k < ks.length) (b n : Nat) : (ks.map (fun j => (j, b, n))).take (k + 1) = (ks.map (fun j => (j, b, n))).take k ++ [(ks[k], b, n)] := by
  rw [List.take_succ_eq_append_getElem (by simpa using h)]
  simp
set_option maxRecDepth 100000 in
set_option maxHeartbeats 4000000 in
theorem rdo_move {W : World} {N : Nat} {q1 q2 q3 : Option Addr} {m1 c1 m2 c2 m3 c3 : Nat} {r : Rs} {x : Sx} (hlo : LO W 0 (.slice q1 m1 c1) r.loops) (hhr : HR W 0 (.slice q2 m2 c2) r.held) (hnr : NR W 0 (.slice q3 m3 c3) r.loose) (hI : RIv r) (hN : N ≤ 128) (hz : wrE N (absS r) x = 0) (hk : x.dk = 4) : Calls Try.prog 52 #[rsV N (.slice q1 m1 c1) (.slice q2 m2 c2) (.slice q3 m3 c3) r.rack r.done, sxV x] W (RDoP W N (rdS r x)) := by
  have g1 : (x.dk == 1) = false := by simp [hk]
  have g2 : (x.dk == 2) = false := by simp [hk]
  have g4 : (x.dk == 4) = true := by simp [hk]
  have g5 : (x.dk == 5) = false := by simp [hk]
  have g6 : (x.dk == 6) = false := by simp [hk]
  have u_ := hN
  clear u_
  obtain ⟨hIv, -, hhl⟩ := id hI
  obtain ⟨i1, i2, i3, i4, i5, i6⟩ := hIv
  obtain ⟨-, -, hd, -, hbn⟩ := wrE_zero hz
  have i2' : r.loops.length ≤ r.done := i2
  have i3' : r.loose.length ≤ 8 * r.done := i3
  have hd' : r.done < 4096 := hd
  have hm1 : m1 = r.loops.length := by obtain ⟨a, b, e⟩ := hlo.form; simpa using (Value.slice.inj e).2.1
  have hm2 : m2 = r.held.length := by obtain ⟨a, b, e⟩ := hhr.form; simpa using (Value.slice.inj e).2.1
  have hm3 : m3 = r.loose.length := by obtain ⟨a, b, e⟩ := hnr.form; simpa using (Value.slice.inj e).2.1
  have HLO := hide hlo
  have HHR := hide hhr
  have HNR := hide hnr
  obtain ⟨rk, hrk⟩ : ∃ rk, rk = r.rack := ⟨_, rfl⟩
  obtain ⟨dn, hdn⟩ : ∃ dn, dn = r.done := ⟨_, rfl⟩
  rw [← hdn] at i2' i3' hd' hhl
  rw [← hrk, ← hdn]
  have Hrk := hide hrk
  have Hdn := hide hdn
  have Hm1 := hide hm1
  have Hm2 := hide hm2
  have Hm3 := hide hm3
  have m1le : m1 ≤ 4096 := by omega
  have m2le : m2 ≤ 4096 := by omega
  have m3le : m3 ≤ 40000 := by omega
  clear hlo hhr hnr hrk hdn hm1 hm2 hm3 i1 i2 i3 i4 i5 i6 hd
  obtain ⟨w0, hw0, hSB0, hX0, hZ0, hB0⟩ := do_boxes W N (.slice q1 m1 c1) (.slice q2 m2 c2) (.slice q3 m3 c3) rk dn x
  have HSB0 := hide hSB0
  have HX0 := hide hX0
  have HZ0 := hide hZ0
  have B0 := hide hB0
  clear hSB0 hX0 hZ0 hB0
  obtain ⟨b, n, hbb, hnn, hb, hn, -, hw⟩ := hbn (by omega)
  have Hbt := hide (show ((x.bed.toNat : Nat) : Int) = x.bed by omega)
  have Hnt := hide (show ((x.ndl.toNat : Nat) : Int) = x.ndl by omega)
  rw [hk] at hw
  obtain ⟨hfc, -, -⟩ := wnE_zero hw
  have hf := (hasB_iff _ _ _).1 (hfc rfl)
  have rk1 : -4 ≤ rk := by rw [unhide Hrk]; exact hI.1.2.2.2.2.1
  have rk2 : rk ≤ 4 := by rw [unhide Hrk]; exact hI.1.2.2.2.2.2
  have hf2 : (absS r).rack = rk := (unhide Hrk).symm
  rw [hf2] at hf
  obtain ⟨fb, hfb⟩ : ∃ fb, fb = fcB b := ⟨_, rfl⟩
  obtain ⟨fn, hfn⟩ : ∃ fn : Nat, fcN rk b n = fn := ⟨(fcN rk b n).toNat, by omega⟩
  have hn128 : n ≤ 128 := by omega
  have HFc := hide (fun V => rfacing_any (W := V) (N := N) (lv := (.slice q1 m1 c1)) (hv := (.slice q2 m2 c2)) (sv := (.slice q3 m3 c3)) (rk := rk) (dn := dn + 1) (b := b) (n := n) hb rk1 rk2 hn128 ⟨_, _, _, rfl⟩ ⟨_, _, _, rfl⟩ ⟨_, _, _, rfl⟩)
  rw [hfn, ← hfb, ← hbb, ← hnn] at HFc
  have HE := hide (show rdS r x = { r with held := tkL r.held x.bed x.ndl ++ (onL r.held x.bed x.ndl).map (fun k => (k, fb, fn)), done := r.done + 1 } by
    unfold rdS rdX
    rw [if_neg (by omega), if_neg (by omega), if_neg (by omega), if_pos hk, show x.bed.toNat = b by omega, ← hfb, hnn, ← unhide Hrk, hfn]
    rfl)
  clear hbn hz hI hk hw hbb hnn hf hfc hf2 hfb hfn hn128
  go_enter Try.func52, Try.ntmps52
  go_upto_region 1 with fail
  try rw [hw0]
  clear hw0
  obtain ⟨sb, hsb⟩ : ∃ sb, sb = W.heap.size := ⟨_, rfl⟩
  obtain ⟨xb, hxb⟩ : ∃ xb, xb = W.heap.size + 1 := ⟨_, rfl⟩
  obtain ⟨zb, hzb⟩ : ∃ zb, zb = W.heap.size + 2 := ⟨_, rfl⟩
  rw [← hzb] at HZ0
  rw [← hxb] at HX0
  rw [← hsb] at HSB0
  rw [← hzb, ← hxb, ← hsb]
  have Hsz := hide (show sb = W.heap.size ∧ zb = W.heap.size + 2 ∧ sb ≠ xb ∧ sb ≠ zb ∧ xb ≠ zb by omega)
  clear hsb hxb hzb
  have HSB1 := hide ((unhide HSB0).count (dn + 1))
  have K1 := hide (kset w0 sb 5 (.int .i64 ((dn + 1 : Nat) : Int)))
  have HX1 := hide ((unhide HX0).kept (unhide K1) (fun e => (unhide Hsz).2.2.1 e.symm))
  have HZ1 := hide ((unhide HZ0).kept (unhide K1) (fun e => (unhide Hsz).2.2.2.1 e.symm))
  have B1 := hide (Kept.back (unhide B0) (unhide K1) (unhide B0).size (fun i e => by have := (unhide Hsz).1; omega))
  have t54 := (unhide HSB0).1.2
  have HLO1 := hide (((unhide HLO).keep (unhide B0)).kept (unhide K1) (fun i e => e ▸ t54))
  have HHR1 := hide (((unhide HHR).keep (unhide B0)).kept (unhide K1) (fun i e => e ▸ t54))
  have HNR1 := hide (((unhide HNR).keep (unhide B0)).kept54 (unhide K1) (fun i e => e ▸ t54))
  obtain ⟨-, ⟨s0', s1', s2', s3', s4', s5'⟩, sf⟩ := unhide HSB0
  have sf5 := sf 5 (by decide)
  have eww : ∃ w1, w0.setCell ⟨sb, 5, none⟩ (.int .i64 ((dn + 1 : Nat) : Int)) = w1 := ⟨_, rfl⟩
  obtain ⟨w1, hw1⟩ := eww
  rw [hw1] at HSB1 HX1 HZ1 B1 HLO1 HHR1 HNR1
  have hw1' : w0.setCell ⟨sb, 5, none⟩ (.int .i64 ((dn : Int) + 1)) = w1 := by rw [← hw1]; rfl
  clear sf t54 K1 HLO HHR HNR B0 HX0 HZ0 hw1 HSB0
  go_upto_region 2 with fail
  try rw [hw1']
  clear hw1' s0' s1' s2' s3' s4' s5' sf5
  obtain ⟨dn1, hdn1⟩ : ∃ d, d = dn + 1 := ⟨_, rfl⟩
  rw [← hdn1] at HSB1
  have Hdn1 := hide hdn1
  clear hdn1
  have HOn := hide (on_any (N := N) (lv := .slice q1 m1 c1) (sv := .slice q3 m3 c3) (rk := rk) (dn := dn1) (unhide HHR1) (by rw [← unhide Hm2]; exact m2le) x.bed x.ndl)
  obtain ⟨-, ⟨s0', s1', s2', s3', s4', s5'⟩, -⟩ := unhide HSB1
  obtain ⟨-, x0, x1, x2, x3, x4⟩ := unhide HX1
  go_wp2_with fail
  refine (unhide HOn).mono ?_
  rintro e w2 ⟨lv, rfl, hlv, hb2⟩
  have HL := hide hlv
  have B2 := hide (btrans (unhide B1) hb2)
  have HSB := hide ((unhide HSB1).keep hb2)
  have HX := hide ((unhide HX1).keep hb2)
  have HZ := hide ((unhide HZ1).keep hb2)
  have HLO := hide ((unhide HLO1).keep hb2)
  have HHR := hide ((unhide HHR1).keep hb2)
  have HNR := hide ((unhide HNR1).keep hb2)
  obtain ⟨ll, hll⟩ : ∃ ll, ll = (onL r.held x.bed x.ndl).length := ⟨_, rfl⟩
  have hll4 : ll ≤ m2 := by have := tk_len r.held x.bed x.ndl; rw [unhide Hm2]; omega
  obtain ⟨lq, lc, hlq⟩ := hlv.form
  rw [← hll] at hlq
  subst hlq
  have Hll := hide hll
  have hsz2 := Nat.le_trans (unhide B1).size hb2.size
  clear hlv hb2 HSB1 HX1 HZ1 HLO1 HHR1 HNR1 HOn B1 hll s0' s1' s2' s3' s4' s5' x0 x1 x2 x3 x4
  have HFd := hide (unhide HFc)
  rw [← unhide Hdn1] at HFd
  obtain ⟨-, ⟨s0', s1', s2', s3', s4', s5'⟩, sf⟩ := unhide HSB
  have sf1 := sf 1 (by decide)
  have sf2 := sf 2 (by decide)
  have sf3 := sf 3 (by decide)
  have sf4 := sf 4 (by decide)
  clear sf
  obtain ⟨-, x0, x1, x2, x3, x4⟩ := unhide HX
  go_wp2_with fail
  refine (unhide HFd _).mono ?_
  rintro e wf ⟨rfl, hbf⟩
  have HL' := hide ((unhide HL).keep hbf)
  have HSB' := hide ((unhide HSB).keep hbf)
  have HX' := hide ((unhide HX).keep hbf)
  have HZ' := hide ((unhide HZ).keep hbf)
  have HLO' := hide ((unhide HLO).keep hbf)
  have HHR' := hide ((unhide HHR).keep hbf)
  have HNR' := hide ((unhide HNR).keep hbf)
  have B2' := hide (btrans (unhide B2) hbf)
  have hszf : W.heap.size ≤ wf.heap.size := (unhide B2').size
  clear s0' s1' s2' s3' s4' s5' sf1 sf2 sf3 sf4 x0 x1 x2 x3 x4
  clear HL HSB HX HZ HLO HHR HNR B2 hbf HFc HFd hsz2
  obtain ⟨-, ⟨s0', s1', s2', s3', s4', s5'⟩, sf⟩ := unhide HSB'
  have sf1 := sf 1 (by decide)
  have sf2 := sf 2 (by decide)
  have sf3 := sf 3 (by decide)
  have sf4 := sf 4 (by decide)
  clear sf
  obtain ⟨-, x0, x1, x2, x3, x4⟩ := unhide HX'
  have HTk := hide (taken_any (N := N) (lv := (.slice q1 m1 c1)) (sv := (.slice q3 m3 c3)) (rk := rk) (dn := dn1) (unhide HHR') (by rw [← unhide Hm2]; exact m2le) ⟨_, _, _, rfl⟩ ⟨_, _, _, rfl⟩ x.bed x.ndl)
  go_wp2_with fail
  refine (unhide HTk).mono ?_
  rintro e wt ⟨tv, rfl, htv, hbt⟩
  obtain ⟨tl, htl⟩ : ∃ tl, tl = (tkL r.held x.bed x.ndl).length := ⟨_, rfl⟩
  have htl4 : tl ≤ m2 := by have := tk_len r.held x.bed x.ndl; rw [unhide Hm2]; omega
  obtain ⟨tq, tc, htq⟩ := htv.form
  rw [← htl] at htq
  subst htq
  have Htl := hide htl
  have HSBt := hide ((unhide HSB').keep hbt)
  have t54 := (unhide HSBt).1.2
  obtain ⟨w3, hw3, hSB3, hK3⟩ : ∃ w3, put54 wt sb N (.slice q1 m1 c1) (.slice tq tl tc) (.slice q3 m3 c3) rk dn1 = w3 ∧ SB w3 sb N (.slice q1 m1 c1) (.slice tq tl tc) (.slice q3 m3 c3) rk dn1 ∧ Kept (fun i => i = sb) wt w3 := ⟨_, rfl, (unhide HSBt).put _ _ _ _ _ _, put54_kept _ _ _ _ _ _ _ _⟩
  unfold put54 at hw3
  have Hxs := hide (show ¬ xb = sb from fun e => (unhide Hsz).2.2.1 e.symm)
  have HX3 := hide (((unhide HX').keep hbt).kept hK3 (unhide Hxs))
  have HZ3 := hide (((unhide HZ').keep hbt).kept hK3 (fun e => (unhide Hsz).2.2.2.1 e.symm))
  have HLO3 := hide (((unhide HLO').keep hbt).kept hK3 (fun i e => e ▸ t54))
  have HHR3 := hide (htv.kept hK3 (fun i e => e ▸ t54))
  have HNR3 := hide (((unhide HNR').keep hbt).kept54 hK3 (fun i e => e ▸ t54))
  have HL3 := hide (((unhide HL').keep hbt).kept54 hK3 (fun i e => e ▸ t54))
  have B3 := hide (Kept.back (btrans (unhide B2') hbt) hK3 (btrans (unhide B2') hbt).size (fun i e => by have := (unhide Hsz).1; omega))
  have hsz3 : wf.heap.size ≤ w3.heap.size := Nat.le_trans hbt.size hK3.size
  have HSB3 := hide hSB3
  obtain ⟨-, ⟨v0', v1', v2', v3', v4', v5'⟩, vf⟩ := unhide HSBt
  have vf0 := vf 0 (by decide)
  have vf1 := vf 1 (by decide)
  have vf2 := vf 2 (by decide)
  have vf3 := vf 3 (by decide)
  have vf4 := vf 4 (by decide)
  have vf5 := vf 5 (by decide)
  clear vf hSB3 hK3 t54 htv hbt htl HTk HSB' HX' HZ' HLO' HHR' HNR' HL' B2'
  go_upto_region 16 with fail
  try rw [hw3]
  clear s0' s1' s2' s3' s4' s5' sf1 sf2 sf3 sf4 x0 x1 x2 x3 x4
  clear hw3 v0' v1' v2' v3' v4' v5' vf0 vf1 vf2 vf3 vf4 vf5 HSBt
  have t54 := (unhide HSB3).1.2
  have HT54 := hide t54
  clear t54
  go_wp2
  go_loopw [107] (fun i wr => ∃ (k : Nat) (f8 : Option Addr) (c8 : Nat), k ≤ ll ∧ i = .int .i64 k ∧ SB wr sb N (.slice q1 m1 c1) (.slice f8 (tl + k) c8) (.slice q3 m3 c3) rk dn1 ∧ wr.ownsRow wf.heap.size 113 3 (.slice f8 (tl + k) c8) (tl + k) (hdV (tkL r.held x.bed x.ndl ++ ((onL r.held x.bed x.ndl).map (fun j => (j, fb, fn))).take k)) ∧ Kh wf.heap.size sb w3 wr) (fun i _ => ll - (intOf i).toNat)
  case atStart => exact ⟨0, tq, tc, Nat.zero_le _, rfl, unhide HSB3, by have h := unhide HHR3; unfold HR at h; rw [← unhide Htl] at h; simpa using h, Kept.refl _ _⟩
  case round =>
    obtain ⟨k, f8, c8, hk, rfl, hS, hO, hKh⟩ := hrel
    have HS := hide hS
    have HO := hide hO
    have HKh := hide hKh
    clear hS hO hKh
    have HL4 := hide ((unhide HL3).kept (unhide HKh) (Kh.not (unhide HT54) (by decide) (by decide)))
    by_cases hlt : k < ll
    · have p1 : (k : Int) < (ll : Int) := by omega
      have p2 : (0 : Int) ≤ (k : Int) := by omega
      have hk' : k < (onL r.held x.bed x.ndl).length := by rw [← unhide Hll]; exact hlt
      obtain ⟨g2, cap2, e1, e2⟩ := (unhide HL4).at hk'
      simp only [Value.slice.injEq] at e1
      obtain ⟨rfl, -, rfl⟩ := e1
      have Hms := hide (mv_snoc hk' fb fn)
      generalize (onL r.held x.bed x.ndl)[k] = kk at *
      clear hk'
      obtain ⟨tk, htk⟩ : ∃ tk, tk = tl + k := ⟨_, rfl⟩
      rw [← htk] at HS HO
      have htk4 : tk ≤ 8192 := by omega
      have Htk := hide htk
      clear htk
      have bn := bnew wr (.cells #[.int .i64 (kk : Int), .int .i64 (fb : Int), .int .i64 (fn : Int)] 113)
      have HOa := hide (own_keep (unhide HO) bn)
      have HYa := hide (own_lit (B := 0) (e := 113) (z := 3) (k := 1) wr #[.int .i64 (kk : Int), .int .i64 (fb : Int), .int .i64 (fn : Int)] (Nat.zero_le _) (by unfold maxLen; omega) rfl)
      have H3 := hide (show ∀ u ∈ (#[Value.int .i64 (kk : Int), .int .i64 (fb : Int), .int .i64 (fn : Int)] : Array Value).toList, u.oneCell' = true by intro u hu; simp at hu; rcases hu with rfl | rfl | rfl <;> rfl)
      have hsw : wf.heap.size ≤ wr.heap.size := Nat.le_trans hsz3 (unhide HKh).size
      obtain ⟨-, ⟨s0', s1', s2', s3', s4', s5'⟩, -⟩ := unhide HS
      clear bn
      go_wp2_with (at_builtin; refine wl_app rfl rfl Try.underlying85 info75 rfl (by decide) (B := wf.heap.size) (C := 0) (n := tk) (m := 1) rfl rfl (unhide HOa) (unhide HYa) (unhide H3) (by unfold maxLen; omega) (by omega) (by simp; omega) ?_)
      intro v' w6 hown' hgrow _
      have bn := bnew wr (.cells #[.int .i64 (kk : Int), .int .i64 (fb : Int), .int .i64 (fn : Int)] 113)
      have hgk : Kh wf.heap.size sb (wr.alloc (.cells #[.int .i64 (kk : Int), .int .i64 (fb : Int), .int .i64 (fn : Int)] 113)) w6 := grown_kept hgrow (fun i e => .inl (.inr ⟨((unhide HOa).lt i e).1, own_tg (unhide HOa) e⟩))
      have hgs : Kept (fun i => Tg (wr.alloc (.cells #[.int .i64 (kk : Int), .int .i64 (fb : Int), .int .i64 (fn : Int)] 113)) i 113) (wr.alloc (.cells #[.int .i64 (kk : Int), .int .i64 (fb : Int), .int .i64 (fn : Int)] 113)) w6 := grown_kept hgrow (fun i e => .inl (own_tg (unhide HOa) e))
      have S5 := ((unhide HS).keep bn).kept hgs (fun q => tg_not q (by decide) ((unhide HS).keep bn).1.2)
      have K5 : Kh wf.heap.size sb w3 w6 := (unhide HKh).trans (Kh.trans (show Kh wf.heap.size sb wr (wr.alloc (.cells #[.int .i64 (kk : Int), .int .i64 (fb : Int), .int .i64 (fn : Int)] 113)) from Kept.of bn) hgk)
      obtain ⟨f9, c9, hv9⟩ := own_form hown'
      subst hv9
      have HO6 := hown'
      obtain ⟨n9, hn9⟩ : ∃ n9, n9 = tk + 1 := ⟨_, rfl⟩
      rw [← hn9] at HO6
      rw [← hn9]
      obtain ⟨w7, hw7, hSB7, hK7⟩ : ∃ w7, w6.setCell ⟨sb, 2, none⟩ (.slice f9 n9 c9) = w7 ∧ SB w7 sb N (.slice q1 m1 c1) (.slice f9 n9 c9) (.slice q3 m3 c3) rk dn1 ∧ Kept (fun i => i = sb) w6 w7 := ⟨_, rfl, S5.held _, kset _ _ _ _⟩
      have t54' := S5.1.2
      have HSB7 := hide hSB7
      have HO7 := hide (show w7.ownsRow wf.heap.size 113 3 (.slice f9 n9 c9) n9 (hdV (tkL r.held x.bed x.ndl ++ ((onL r.held x.bed x.ndl).map (fun j => (j, fb, fn))).take (k + 1))) by
        rw [unhide Hms, ← List.append_assoc, hdV_app]
        exact own_kept HO6 hK7 (fun i e t => tg_not (show Tg w6 i 87 from e ▸ t54') (by decide) t))
      have K7 := hide (K5.trans (hK7.more (T := fun i => i = sb ∨ (wf.heap.size ≤ i ∧ Tg w6 i 113)) (fun i q => .inl (.inl q))))
      have s2w := S5.2.1.2.2.1
      have f2w := S5.2.2 2 (by decide)
      have Hn9 := hide (show n9 = tl + (k + 1) by have := unhide Htk; omega)
      clear hown' hgrow hgk hgs bn S5 K5 HO6 hn9 hSB7 hK7 t54' s0' s1' s2' s3' s4' s5' e2
      go_wp2
      try rw [hw7]
      clear hw7 s2w f2w
      go_roundw
      case rel => exact ⟨k + 1, f9, c9, by omega, by go_num, by rw [← unhide Hn9]; exact unhide HSB7, by rw [← unhide Hn9]; exact unhide HO7, unhide K7⟩
      case measure => simp [intOf]; omega
    · obtain rfl : ll = k := by omega
      have cl : ¬ ((ll : Int) < (ll : Int)) := by omega
      have HZ4 := hide ((unhide HZ3).kept (unhide HKh) (fun q => by
        rcases q with q | q
        · exact (unhide Hsz).2.2.2.1 q.symm
        · exact tg_not q.2 (by decide) (unhide HZ3).1.2))
      have HLO4 := hide (show LO wr 0 (.slice q1 m1 c1) r.loops by
        obtain ⟨h1, h2, h3, h4⟩ := unhide HLO3
        exact ⟨h1, h2, own_kept h3 (unhide HKh) (Kh.not (unhide HT54) (by decide) (by decide)), fun e he => (h4 e he).kept (unhide HKh) (Kh.not (unhide HT54) (by decide) (by decide))⟩)
      have HNR4 := hide ((unhide HNR3).kept (unhide HKh) (Kh.not (unhide HT54) (by decide) (by decide)))
      have HHR4 := hide (show HR wr 0 (.slice f8 (tl + ll) c8) (tkL r.held x.bed x.ndl ++ (onL r.held x.bed x.ndl).map (fun j => (j, fb, fn))) by
        have h := unhide HO
        rw [show ((onL r.held x.bed x.ndl).map (fun j => (j, fb, fn))).take ll = (onL r.held x.bed x.ndl).map (fun j => (j, fb, fn)) from List.take_of_length_le (by rw [List.length_map, ← unhide Hll]; exact Nat.le_refl _)] at h
        unfold HR
        rw [List.length_append, List.length_map, ← unhide Htl, ← unhide Hll]
        exact own_le h (Nat.zero_le _))
      have B4 := hide (Kept.back (unhide B3) (unhide HKh) (unhide B3).size (fun i q => by
        rcases q with q | q
        · have := (unhide Hsz).1; omega
        · omega))
      obtain ⟨n8, hn8⟩ : ∃ n8, n8 = tl + ll := ⟨_, rfl⟩
      rw [← hn8] at HS HHR4
      clear hn8 HO HKh HL4 HSB3 HX3 HZ3 HLO3 HHR3 HNR3 HL3 B3
      obtain ⟨-, ⟨s0', s1', s2', s3', s4', s5'⟩, -⟩ := unhide HS
      obtain ⟨x9, hx9, hS9, hK9⟩ : ∃ x9, put54 wr zb N (.slice q1 m1 c1) (.slice f8 n8 c8) (.slice q3 m3 c3) rk dn1 = x9 ∧ SB x9 zb N (.slice q1 m1 c1) (.slice f8 n8 c8) (.slice q3 m3 c3) rk dn1 ∧ Kept (fun i => i = zb) wr x9 := ⟨_, rfl, (unhide HZ4).put _ _ _ _ _ _, put54_kept _ _ _ _ _ _ _ _⟩
      unfold put54 at hx9
      have HS9 := hide hS9
      have HK9 := hide hK9
      clear hS9 hK9
      obtain ⟨-, ⟨u0', u1', u2', u3', u4', u5'⟩, uf⟩ := unhide HZ4
      have uf0 := uf 0 (by decide)
      have uf1 := uf 1 (by decide)
      have uf2 := uf 2 (by decide)
      have uf3 := uf 3 (by decide)
      have uf4 := uf 4 (by decide)
      have uf5 := uf 5 (by decide)
      clear uf
      go_wp2
      obtain ⟨-, ⟨z0, z1, z2, z3, z4, z5⟩, -⟩ := unhide HS9
      refine bodyPost_ret (v := rsV N (.slice q1 m1 c1) (.slice f8 n8 c8) (.slice q3 m3 c3) rk dn1) ?_ rfl ?_
      · simp [results, Try.results52, go_sem, z0, z1, z2, z3, z4, z5]
      · have t54 := (unhide HZ4).1.2
        unfold RDoP
        refine ⟨_, rfl, ?_, Kept.back (unhide B4) (unhide HK9) (unhide B4).size (fun i e => by have := (unhide Hsz).2.1; omega)⟩
        rw [unhide HE]
        exact ⟨_, _, _, by rw [unhide Hrk, unhide Hdn1, unhide Hdn], (unhide HLO4).kept (unhide HK9) (fun i e => e ▸ t54), (unhide HHR4).kept (unhide HK9) (fun i e => e ▸ t54), (unhide HNR4).kept54 (unhide HK9) (fun i e => e ▸ t54)⟩

end Go.Proofs.Ytancniamgfppiaa
