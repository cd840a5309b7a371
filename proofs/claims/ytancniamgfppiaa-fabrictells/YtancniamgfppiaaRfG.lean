/-
  The document's Do: a drop.
-/
import Derived.Test.YtancniamgfppiaaRfD
namespace Go.Proofs.Ytancniamgfppiaa
open Go.RowKit

theorem kept_step {T : Nat → Prop} {a b c : World} {row : Option Nat} (h : Kept T a b) (g : b.grownBy c row) (hr : ∀ i, row = some i → a.heap.size ≤ i) : Kept T a c :=
  ⟨g.os.trans h.1, g.tape.trans h.2.1, g.output.trans h.2.2.1, Nat.le_trans h.size g.size, fun i hi hT => (g.block i (Nat.lt_of_lt_of_le hi h.size) (fun e => by have := hr i e.symm; omega)).trans (h.2.2.2.2 i hi hT)⟩
set_option maxRecDepth 100000 in
set_option maxHeartbeats 4000000 in
theorem rdo_drop {W : World} {N : Nat} {q1 q2 q3 : Option Addr} {m1 c1 m2 c2 m3 c3 : Nat} {r : Rs} {x : Sx} (hlo : LO W 0 (.slice q1 m1 c1) r.loops) (hhr : HR W 0 (.slice q2 m2 c2) r.held) (hnr : NR W 0 (.slice q3 m3 c3) r.loose) (hI : RIv r) (hN : N ≤ 128) (hz : wrE N (absS r) x = 0) (hk : x.dk = 5) : Calls Try.prog 52 #[rsV N (.slice q1 m1 c1) (.slice q2 m2 c2) (.slice q3 m3 c3) r.rack r.done, sxV x] W (RDoP W N (rdS r x)) := by
  have HE := hide (show rdS r x = { r with held := tkL r.held x.bed x.ndl, loose := r.loose ++ onL r.held x.bed x.ndl, done := r.done + 1 } by unfold rdS rdX; simp [hk])
  have g1 : (x.dk == 1) = false := by simp [hk]
  have g2 : (x.dk == 2) = false := by simp [hk]
  have g4 : (x.dk == 4) = false := by simp [hk]
  have g5 : (x.dk == 5) = true := by simp [hk]
  have g6 : (x.dk == 6) = false := by simp [hk]
  have u_ := hN
  clear u_
  obtain ⟨hIv, -, hhl⟩ := id hI
  obtain ⟨i1, i2, i3, i4, i5, i6⟩ := hIv
  obtain ⟨-, -, hd, -, hbn⟩ := wrE_zero hz
  have i2' : r.loops.length ≤ r.done := i2
  have i3' : r.loose.length ≤ 8 * r.done := i3
  have hd' : r.done < 4096 := hd
  have hm1 : m1 = r.loops.length := by obtain ⟨a, b, e⟩ := hlo.form; simpa using (Value.slice.inj e).2.1
  have hm2 : m2 = r.held.length := by obtain ⟨a, b, e⟩ := hhr.form; simpa using (Value.slice.inj e).2.1
  have hm3 : m3 = r.loose.length := by obtain ⟨a, b, e⟩ := hnr.form; simpa using (Value.slice.inj e).2.1
  have HLO := hide hlo
  have HHR := hide hhr
  have HNR := hide hnr
  obtain ⟨rk, hrk⟩ : ∃ rk, rk = r.rack := ⟨_, rfl⟩
  obtain ⟨dn, hdn⟩ : ∃ dn, dn = r.done := ⟨_, rfl⟩
  rw [← hdn] at i2' i3' hd' hhl
  rw [← hrk, ← hdn]
  have Hrk := hide hrk
  have Hdn := hide hdn
  have Hm1 := hide hm1
  have Hm2 := hide hm2
  have Hm3 := hide hm3
  have m1le : m1 ≤ 4096 := by omega
  have m2le : m2 ≤ 4096 := by omega
  have m3le : m3 ≤ 40000 := by omega
  clear hlo hhr hnr hrk hdn hm1 hm2 hm3 i1 i2 i3 i4 i5 i6 hd
  obtain ⟨w0, hw0, hSB0, hX0, hZ0, hB0⟩ := do_boxes W N (.slice q1 m1 c1) (.slice q2 m2 c2) (.slice q3 m3 c3) rk dn x
  have HSB0 := hide hSB0
  have HX0 := hide hX0
  have HZ0 := hide hZ0
  have B0 := hide hB0
  clear hSB0 hX0 hZ0 hB0
  clear hbn hz hI hk
  go_enter Try.func52, Try.ntmps52
  go_upto_region 1 with fail
  try rw [hw0]
  clear hw0
  obtain ⟨sb, hsb⟩ : ∃ sb, sb = W.heap.size := ⟨_, rfl⟩
  obtain ⟨xb, hxb⟩ : ∃ xb, xb = W.heap.size + 1 := ⟨_, rfl⟩
  obtain ⟨zb, hzb⟩ : ∃ zb, zb = W.heap.size + 2 := ⟨_, rfl⟩
  rw [← hzb] at HZ0
  rw [← hxb] at HX0
  rw [← hsb] at HSB0
  rw [← hzb, ← hxb, ← hsb]
  have Hsz := hide (show sb = W.heap.size ∧ zb = W.heap.size + 2 ∧ sb ≠ xb ∧ sb ≠ zb ∧ xb ≠ zb by omega)
  clear hsb hxb hzb
  have HSB1 := hide ((unhide HSB0).count (dn + 1))
  have K1 := hide (kset w0 sb 5 (.int .i64 ((dn + 1 : Nat) : Int)))
  have HX1 := hide ((unhide HX0).kept (unhide K1) (fun e => (unhide Hsz).2.2.1 e.symm))
  have HZ1 := hide ((unhide HZ0).kept (unhide K1) (fun e => (unhide Hsz).2.2.2.1 e.symm))
  have B1 := hide (Kept.back (unhide B0) (unhide K1) (unhide B0).size (fun i e => by have := (unhide Hsz).1; omega))
  have t54 := (unhide HSB0).1.2
  have HLO1 := hide (((unhide HLO).keep (unhide B0)).kept (unhide K1) (fun i e => e ▸ t54))
  have HHR1 := hide (((unhide HHR).keep (unhide B0)).kept (unhide K1) (fun i e => e ▸ t54))
  have HNR1 := hide (((unhide HNR).keep (unhide B0)).kept54 (unhide K1) (fun i e => e ▸ t54))
  obtain ⟨-, ⟨s0', s1', s2', s3', s4', s5'⟩, sf⟩ := unhide HSB0
  have sf5 := sf 5 (by decide)
  have eww : ∃ w1, w0.setCell ⟨sb, 5, none⟩ (.int .i64 ((dn + 1 : Nat) : Int)) = w1 := ⟨_, rfl⟩
  obtain ⟨w1, hw1⟩ := eww
  rw [hw1] at HSB1 HX1 HZ1 B1 HLO1 HHR1 HNR1
  have hw1' : w0.setCell ⟨sb, 5, none⟩ (.int .i64 ((dn : Int) + 1)) = w1 := by rw [← hw1]; rfl
  clear sf t54 K1 HLO HHR HNR B0 HX0 HZ0 hw1 HSB0
  go_upto_region 2 with fail
  try rw [hw1']
  clear hw1' s0' s1' s2' s3' s4' s5' sf5
  obtain ⟨dn1, hdn1⟩ : ∃ d, d = dn + 1 := ⟨_, rfl⟩
  rw [← hdn1] at HSB1
  have Hdn1 := hide hdn1
  clear hdn1
  have HOn := hide (on_any (N := N) (lv := .slice q1 m1 c1) (sv := .slice q3 m3 c3) (rk := rk) (dn := dn1) (unhide HHR1) (by rw [← unhide Hm2]; exact m2le) x.bed x.ndl)
  obtain ⟨-, ⟨s0', s1', s2', s3', s4', s5'⟩, -⟩ := unhide HSB1
  obtain ⟨-, x0, x1, x2, x3, x4⟩ := unhide HX1
  go_wp2_with fail
  refine (unhide HOn).mono ?_
  rintro e w2 ⟨lv, rfl, hlv, hb2⟩
  have HL := hide hlv
  have B2 := hide (btrans (unhide B1) hb2)
  have HSB := hide ((unhide HSB1).keep hb2)
  have HX := hide ((unhide HX1).keep hb2)
  have HZ := hide ((unhide HZ1).keep hb2)
  have HLO := hide ((unhide HLO1).keep hb2)
  have HHR := hide ((unhide HHR1).keep hb2)
  have HNR := hide ((unhide HNR1).keep hb2)
  obtain ⟨ll, hll⟩ : ∃ ll, ll = (onL r.held x.bed x.ndl).length := ⟨_, rfl⟩
  have hll4 : ll ≤ m2 := by have := tk_len r.held x.bed x.ndl; rw [unhide Hm2]; omega
  obtain ⟨lq, lc, hlq⟩ := hlv.form
  rw [← hll] at hlq
  subst hlq
  have Hll := hide hll
  have hsz2 := Nat.le_trans (unhide B1).size hb2.size
  clear hlv hb2 HSB1 HX1 HZ1 HLO1 HHR1 HNR1 HOn B1 hll s0' s1' s2' s3' s4' s5' x0 x1 x2 x3 x4
  obtain ⟨-, ⟨s0', s1', s2', s3', s4', s5'⟩, sf⟩ := unhide HSB
  have sf1 := sf 1 (by decide)
  have sf2 := sf 2 (by decide)
  have sf3 := sf 3 (by decide)
  have sf4 := sf 4 (by decide)
  clear sf
  obtain ⟨-, x0, x1, x2, x3, x4⟩ := unhide HX
  have HTk := hide (taken_any (N := N) (lv := (.slice q1 m1 c1)) (sv := (.slice q3 m3 c3)) (rk := rk) (dn := dn1) (unhide HHR) (by rw [← unhide Hm2]; exact m2le) ⟨_, _, _, rfl⟩ ⟨_, _, _, rfl⟩ x.bed x.ndl)
  go_wp2_with fail
  refine (unhide HTk).mono ?_
  rintro e wt ⟨tv, rfl, htv, hbt⟩
  obtain ⟨tl, htl⟩ : ∃ tl, tl = (tkL r.held x.bed x.ndl).length := ⟨_, rfl⟩
  have htl4 : tl ≤ m2 := by have := tk_len r.held x.bed x.ndl; rw [unhide Hm2]; omega
  obtain ⟨tq, tc, htq⟩ := htv.form
  rw [← htl] at htq
  subst htq
  have Htl := hide htl
  have HSBt := hide ((unhide HSB).keep hbt)
  have t54 := (unhide HSBt).1.2
  obtain ⟨w3, hw3, hSB3, hK3⟩ : ∃ w3, put54 wt sb N (.slice q1 m1 c1) (.slice tq tl tc) (.slice q3 m3 c3) rk dn1 = w3 ∧ SB w3 sb N (.slice q1 m1 c1) (.slice tq tl tc) (.slice q3 m3 c3) rk dn1 ∧ Kept (fun i => i = sb) wt w3 := ⟨_, rfl, (unhide HSBt).put _ _ _ _ _ _, put54_kept _ _ _ _ _ _ _ _⟩
  unfold put54 at hw3
  have Hxs := hide (show ¬ xb = sb from fun e => (unhide Hsz).2.2.1 e.symm)
  have HX3 := hide (((unhide HX).keep hbt).kept hK3 (unhide Hxs))
  have HZ3 := hide (((unhide HZ).keep hbt).kept hK3 (fun e => (unhide Hsz).2.2.2.1 e.symm))
  have HLO3 := hide (((unhide HLO).keep hbt).kept hK3 (fun i e => e ▸ t54))
  have HHR3 := hide (htv.kept hK3 (fun i e => e ▸ t54))
  have HNR3 := hide (((unhide HNR).keep hbt).kept54 hK3 (fun i e => e ▸ t54))
  have HL3 := hide (((unhide HL).keep hbt).kept54 hK3 (fun i e => e ▸ t54))
  have B3 := hide (Kept.back (btrans (unhide B2) hbt) hK3 (btrans (unhide B2) hbt).size (fun i e => by have := (unhide Hsz).1; omega))
  have hsz3 : w2.heap.size ≤ w3.heap.size := Nat.le_trans hbt.size hK3.size
  have HSB3 := hide hSB3
  obtain ⟨-, ⟨v0', v1', v2', v3', v4', v5'⟩, vf⟩ := unhide HSBt
  have vf0 := vf 0 (by decide)
  have vf1 := vf 1 (by decide)
  have vf2 := vf 2 (by decide)
  have vf3 := vf 3 (by decide)
  have vf4 := vf 4 (by decide)
  have vf5 := vf 5 (by decide)
  have HK23 := hide (show Kept (fun i => i = sb) w2 w3 from (Kept.of hbt).trans hK3)
  have T54 := hide (unhide HSB).1.2
  clear vf hSB3 hK3 t54 htv hbt htl HTk HX HZ HHR B2
  go_upto_region 23 with fail
  try rw [hw3]
  clear s0' s1' s2' s3' s4' s5' sf1 sf2 sf3 sf4 x0 x1 x2 x3 x4
  clear hw3 v0' v1' v2' v3' v4' v5' vf0 vf1 vf2 vf3 vf4 vf5 HSBt
  have bn := bnew w3 (.cells #[] 3)
  have HEa := hide (own_lit (B := w2.heap.size) (e := 3) (z := 1) (k := 0) w3 #[] hsz3 (by unfold maxLen; omega) rfl)
  have HOa := hide (show (w3.alloc (.cells #[] 3)).ownsRow 0 3 1 (.slice q3 m3 c3) m3 (numsV r.loose) by have h := (unhide HNR3).keep bn; unfold NR at h; rw [← unhide Hm3] at h; exact h)
  obtain ⟨-, ⟨s0', s1', s2', s3', s4', s5'⟩, sf⟩ := unhide HSB3
  have sf3 := sf 3 (by decide)
  have s3a := keepC bn (unhide HSB3).1.1 s3'
  clear sf bn
  go_wp2_with (at_builtin; refine wl_app rfl rfl Try.underlying27 info3 rfl (by decide) (B := w2.heap.size) (C := 0) (n := 0) (m := m3) rfl rfl (unhide HEa) (unhide HOa) numsV_one (by unfold maxLen; omega) (by omega) (by simp; omega) ?_)
  intro v1 w5 hown hgrow _
  have bn := bnew w3 (.cells #[] 3)
  have hb5 : Below w3.heap.size w3 w5 := bn.grown hgrow (by simp) (fun k hk => by cases hk; exact Nat.le_refl _)
  have HE1 := hide (show w5.ownsRow w2.heap.size 3 1 v1 m3 (numsV r.loose) by simpa using hown)
  have HL5 := hide (show w5.ownsRow 0 3 1 (.slice lq ll lc) ll (numsV (onL r.held x.bed x.ndl)) by have h := (unhide HL3).keep hb5; unfold NR at h; rw [← unhide Hll] at h; exact own_le h (Nat.zero_le _))
  obtain ⟨g1', c1', hv1⟩ := own_form (unhide HE1)
  subst hv1
  have HSB5 := hide ((unhide HSB3).keep hb5)
  have HZ5 := hide ((unhide HZ3).keep hb5)
  have HHR5 := hide ((unhide HHR3).keep hb5)
  have B5 := hide (btrans (unhide B3) hb5)
  have HK5 := hide ((unhide HK23).below hb5)
  have hsz5 : w2.heap.size ≤ w5.heap.size := Nat.le_trans hsz3 hb5.size
  clear hown hgrow bn hb5 s0' s1' s2' s3' s4' s5' sf3 s3a
  go_wp2_with (at_builtin; refine wl_app rfl rfl Try.underlying27 info3 rfl (by decide) (B := w2.heap.size) (C := 0) (n := m3) (m := ll) rfl rfl (unhide HE1) (unhide HL5) numsV_one (by unfold maxLen; omega) (by omega) hsz5 ?_)
  intro v2 w6 hown hgrow _
  have hgk : Kept (fun i => w2.heap.size ≤ i ∧ Tg w5 i 3) w5 w6 := grown_kept hgrow (fun i e => .inl ⟨((unhide HE1).lt i e).1, own_tg (unhide HE1) e⟩)
  have nt : ∀ {u : TypeId}, (3 : TypeId) ≠ u → ∀ i, (w2.heap.size ≤ i ∧ Tg w5 i 3) → ¬ Tg w5 i u := fun h i q t => tg_not q.2 h t
  have S6 := (unhide HSB5).kept hgk (fun q => nt (by decide) _ q (unhide HSB5).1.2)
  have Z6 := (unhide HZ5).kept hgk (fun q => nt (by decide) _ q (unhide HZ5).1.2)
  have H6 : HR w6 w2.heap.size (.slice tq tl tc) (tkL r.held x.bed x.ndl) := own_kept (unhide HHR5) hgk (nt (by decide))
  have K6 := kept_step (unhide HK5) hgrow (fun i e => ((unhide HE1).lt i e).1)
  have L6 := (unhide HLO).kept K6 (fun i e => e ▸ unhide T54)
  have B6 := (unhide B5).grown hgrow (unhide B5).size (fun k hk => by have := ((unhide HE1).lt k hk).1; omega)
  have N6 : NR w6 w2.heap.size v2 (r.loose ++ onL r.held x.bed x.ndl) := by unfold NR; rw [numsV_app, List.length_append, ← unhide Hm3, ← unhide Hll]; exact hown
  obtain ⟨f8, c8, hv8⟩ := own_form hown
  subst hv8
  obtain ⟨n8, hn8⟩ : ∃ n8, n8 = m3 + ll := ⟨_, rfl⟩
  rw [← hn8] at N6
  rw [← hn8]
  obtain ⟨w7, hw7, hSB7, hK7⟩ : ∃ w7, w6.setCell ⟨sb, 3, none⟩ (.slice f8 n8 c8) = w7 ∧ SB w7 sb N (.slice q1 m1 c1) (.slice tq tl tc) (.slice f8 n8 c8) rk dn1 ∧ Kept (fun i => i = sb) w6 w7 := ⟨_, rfl, S6.loose _, kset _ _ _ _⟩
  have t54 := S6.1.2
  have HSB7 := hide hSB7
  have HZ7 := hide (Z6.kept hK7 (fun e => (unhide Hsz).2.2.2.1 e.symm))
  have HLO7 := hide (L6.kept hK7 (fun i e => e ▸ t54))
  have HNR7 := hide ((N6.kept54 hK7 (fun i e => e ▸ t54)).le (Nat.zero_le _))
  have HHR7 := hide ((H6.kept hK7 (fun i e => e ▸ t54)).le (Nat.zero_le _))
  have B7 := hide (Kept.back B6 hK7 B6.size (fun i e => by have := (unhide Hsz).1; omega))
  have s3w := S6.2.1.2.2.2.1
  have f3w := S6.2.2 3 (by decide)
  clear hown hgrow hgk nt S6 Z6 L6 N6 B6 H6 K6 hn8 hSB7 hK7 t54 HSB5 HZ5 HHR5 B5 HK5 HSB HLO HNR HL
  go_upto_region 24 with fail
  try rw [hw7]
  clear hw7 s3w f3w
  obtain ⟨-, ⟨s0', s1', s2', s3', s4', s5'⟩, -⟩ := unhide HSB7
  obtain ⟨x9, hx9, hS9, hK9⟩ : ∃ x9, put54 w7 zb N (.slice q1 m1 c1) (.slice tq tl tc) (.slice f8 n8 c8) rk dn1 = x9 ∧ SB x9 zb N (.slice q1 m1 c1) (.slice tq tl tc) (.slice f8 n8 c8) rk dn1 ∧ Kept (fun i => i = zb) w7 x9 := ⟨_, rfl, (unhide HZ7).put _ _ _ _ _ _, put54_kept _ _ _ _ _ _ _ _⟩
  unfold put54 at hx9
  have HS9 := hide hS9
  have HK9 := hide hK9
  clear hS9 hK9
  obtain ⟨-, ⟨u0', u1', u2', u3', u4', u5'⟩, uf⟩ := unhide HZ7
  have uf0 := uf 0 (by decide)
  have uf1 := uf 1 (by decide)
  have uf2 := uf 2 (by decide)
  have uf3 := uf 3 (by decide)
  have uf4 := uf 4 (by decide)
  have uf5 := uf 5 (by decide)
  clear uf
  go_wp2
  obtain ⟨-, ⟨z0, z1, z2, z3, z4, z5⟩, -⟩ := unhide HS9
  refine bodyPost_ret (v := rsV N (.slice q1 m1 c1) (.slice tq tl tc) (.slice f8 n8 c8) rk dn1) ?_ rfl ?_
  · simp [results, Try.results52, go_sem, z0, z1, z2, z3, z4, z5]
  · have t54 := (unhide HZ7).1.2
    unfold RDoP
    refine ⟨_, rfl, ?_, Kept.back (unhide B7) (unhide HK9) (unhide B7).size (fun i e => by have := (unhide Hsz).2.1; omega)⟩
    rw [unhide HE]
    exact ⟨_, _, _, by rw [unhide Hrk, unhide Hdn1, unhide Hdn], (unhide HLO7).kept (unhide HK9) (fun i e => e ▸ t54), (unhide HHR7).kept (unhide HK9) (fun i e => e ▸ t54), (unhide HNR7).kept54 (unhide HK9) (fun i e => e ▸ t54)⟩

end Go.Proofs.Ytancniamgfppiaa
