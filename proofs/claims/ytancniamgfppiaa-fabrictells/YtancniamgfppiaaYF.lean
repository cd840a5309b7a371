/-
  Cloth: what has been knitted, numbered along its yarns.
-/
import Derived.Test.YtancniamgfppiaaYE
import Derived.Test.YtancniamgfppiaaLwS
namespace Go.Proofs.Ytancniamgfppiaa
open Go.RowKit


theorem KR.kept {S : Nat → Prop} {W V : World} {B : Nat} {v : Value} {k : Kn} (h : KR W B v k) (e : Kept S W V) (h1 : ∀ i, S i → ¬ Tg W i 43) (h2 : ∀ i, S i → ¬ Tg W i 27) (h3 : ∀ i, S i → ¬ Tg W i 3) : KR V B v k := by
  obtain ⟨v1, v2, v3, v4, h0, p1, p2, p3, p4⟩ := h
  exact ⟨v1, v2, v3, v4, h0, p1.kept e h1 h3, p2.kept e h2 h3, p3.kept e h2 h3, p4.kept e h3⟩
/-- what is told of a machine can be renumbered -/
theorem Gn.of {N : Nat} {s : St} (h : Bd s) (hI : Iv s) (hT : Th s) (hN : N ≤ 128) : Gn (tell N s) where
  cs := h.cs
  thr e he y hy := (h.thr e he).1 y hy
  fr x hx y hy := by
    obtain ⟨j, -, rfl⟩ := List.mem_map.1 hx
    exact h.on 0 j y hy
  bk x hx y hy := by
    obtain ⟨j, -, rfl⟩ := List.mem_map.1 hx
    exact h.on 1 j y hy
  lse y hy := h.loose y hy
  fit := Fit.of hI hT hN
/-- whose rows these are, where the numbers lie beside them -/
def oM (o : Nat → Nat × Nat) (B g0 : Nat) : Nat → Nat × Nat := fun i => if i < B ∨ i = g0 then (9, 9) else o i
theorem Gv.make {W V : World} {B g0 n cp : Nat} {v1 v2 v3 v4 : Value} {k : Kn} {o : Nat → Nat × Nat} (p1 : LPRo W B v1 k.loops o) (p2 : LRo W B v2 k.front o 1) (p3 : LRo W B v3 k.back o 2) (p4 : NR W B v4 k.loose) (p5 : Og o (3, 0) v4) (hb : Below W.heap.size W V)
    (hn : NR V W.heap.size (.slice (some ⟨g0, 0, none⟩) n cp) (rgL n (nm (carF k.loops) n))) (hB : B ≤ W.heap.size) : Gv V B g0 n cp v1 v2 v3 v4 k (oM o B g0) where
  lps := (p1.mix (fun i h1 h2 => by have := (World.ownsRow.lt hn g0 rfl).1; unfold oM; rw [if_neg (by omega)])).keep hb
  fr := (p2.mix (fun i h1 h2 => by have := (World.ownsRow.lt hn g0 rfl).1; unfold oM; rw [if_neg (by omega)])).keep hb
  bk := (p3.mix (fun i h1 h2 => by have := (World.ownsRow.lt hn g0 rfl).1; unfold oM; rw [if_neg (by omega)])).keep hb
  lse := ⟨p4.keep hb, fun i hi => by
    have := (World.ownsRow.lt hn g0 rfl).1
    have h := World.ownsRow.lt p4 i hi
    unfold oM
    rw [if_neg (by omega)]
    exact p5 i hi⟩
  num := hn.le hB
  own := by unfold oM; rw [if_pos (.inr rfl)]
  low i hi := by unfold oM; rw [if_pos (.inl hi)]

/-- what Cloth refuses -/
def RunNo (F : Nat) (args : Array Value) (W : World) (er at_ : Int) : Prop := Calls Try.prog F args W fun e w' => e = .returned (.tuple #[zeroK, fltV er at_]) ∧ Below W.heap.size W w'
set_option maxRecDepth 100000 in
set_option maxHeartbeats 4000000 in
theorem cloth_no {W : World} {n : Int} {q : Option Addr} {l c : Nat} {er at_ : Int} (her : er ≠ 0) (h : ∀ V, Below W.heap.size W V → RunNo 15 #[.int .i64 n, .slice q l c] V er at_) : RunNo 7 #[.int .i64 n, .slice q l c] W er at_ := by
  unfold RunNo at h ⊢
  have HR := hide h
  have B0 := hide (btrans (bnew W (.cells #[.slice none 0 0, .slice none 0 0, .slice none 0 0, .slice none 0 0, .int .i64 0] 29)) (bnew _ (.cells #[.int .i64 0, .int .i64 0] 32)))
  obtain ⟨tb1, tb2, -⟩ := two_boxes W (.slice none 0 0) (.slice none 0 0) (.slice none 0 0) (.slice none 0 0) 0 0 0
  have HKb := hide tb1
  have HFb := hide tb2
  have g0 : (er != 0) = true := by simpa using her
  clear h tb1 tb2 her
  go_enter Try.func7, Try.ntmps7
  go_upto_region 1 with fail
  generalize ((W.alloc (.cells #[.slice none 0 0, .slice none 0 0, .slice none 0 0, .slice none 0 0, .int .i64 0] 29)).alloc (.cells #[.int .i64 0, .int .i64 0] 32)) = w0 at *
  obtain ⟨kb, hkb⟩ : ∃ kb, kb = W.heap.size := ⟨_, rfl⟩
  obtain ⟨fb, hfb⟩ : ∃ fb, fb = W.heap.size + 1 := ⟨_, rfl⟩
  rw [← hkb] at HKb
  rw [← hfb] at HFb
  rw [← hfb]
  rw [← hkb]
  have Hkb := hide (show W.heap.size ≤ kb ∧ W.heap.size ≤ fb ∧ kb ≠ fb by omega)
  clear hkb hfb
  go_wp2_with fail
  refine (unhide HR _ (unhide B0)).mono ?_
  rintro e w1 ⟨rfl, hb1⟩
  obtain ⟨tb1, tb2, tb3⟩ := two_boxes w1 (.slice none 0 0) (.slice none 0 0) (.slice none 0 0) (.slice none 0 0) 0 er at_
  have HF2 := hide tb2
  have S2 := hide (btrans hb1 tb3)
  clear hb1 tb1 tb2 tb3
  go_upto_region 2 with fail
  generalize ((w1.alloc (.cells #[.slice none 0 0, .slice none 0 0, .slice none 0 0, .slice none 0 0, .int .i64 0] 29)).alloc (.cells #[.int .i64 er, .int .i64 at_] 32)) = w2 at *
  generalize w1.heap.size = kb2 at *
  obtain ⟨fb2, hfb2⟩ : ∃ b, b = kb2 + 1 := ⟨_, rfl⟩
  rw [← hfb2] at HF2
  rw [← hfb2]
  clear hfb2
  have HKc := hide ((unhide HKb).keep (unhide S2))
  have HFc := hide ((unhide HFb).keep (unhide S2))
  obtain ⟨-, ⟨q0, q1⟩, -⟩ := unhide HF2
  obtain ⟨-, ⟨r0, r1, r2, r3, r4⟩, rf⟩ := unhide HKc
  have rf0 := rf 0 (by decide)
  have rf1 := rf 1 (by decide)
  have rf2 := rf 2 (by decide)
  have rf3 := rf 3 (by decide)
  have rf4 := rf 4 (by decide)
  clear rf
  obtain ⟨-, ⟨s0, s1⟩, t0, t1⟩ := unhide HFc
  have n1 : kb ≠ fb2 := (unhide HKc).1.2.ne (unhide HF2).1.2 (by decide)
  have n2 : fb2 ≠ kb := fun e => n1 e.symm
  have n3 : kb ≠ fb := (unhide Hkb).2.2
  have n4 : fb ≠ kb := fun e => n3 e.symm
  have Hend := hide (show FB (put30 (put27 w2 kb (.slice none 0 0) (.slice none 0 0) (.slice none 0 0) (.slice none 0 0) 0) fb er at_) fb er at_ ∧ KB (put30 (put27 w2 kb (.slice none 0 0) (.slice none 0 0) (.slice none 0 0) (.slice none 0 0) 0) fb er at_) kb (.slice none 0 0) (.slice none 0 0) (.slice none 0 0) (.slice none 0 0) 0 ∧ Below W.heap.size W (put30 (put27 w2 kb (.slice none 0 0) (.slice none 0 0) (.slice none 0 0) (.slice none 0 0) 0) fb er at_) from by
    have k1 := put27_kept w2 kb (.slice none 0 0) (.slice none 0 0) (.slice none 0 0) (.slice none 0 0) 0
    have k2 := put30_kept (put27 w2 kb (.slice none 0 0) (.slice none 0 0) (.slice none 0 0) (.slice none 0 0) 0) fb er at_
    have b2 := btrans (unhide B0) (unhide S2)
    exact ⟨((unhide HFc).kept k1 n4).put _ _, ((unhide HKc).put _ _ _ _ _).kept k2 n3, Kept.back (Kept.back b2 k1 b2.size (fun i e => by rw [e]; exact (unhide Hkb).1)) k2 (Nat.le_trans b2.size k1.size) (fun i e => by rw [e]; exact (unhide Hkb).2.1)⟩)
  go_wp2
  go_region
  go_wp2
  unfold put30 put27 at Hend
  generalize ((((((w2.setCell ⟨kb, 0, none⟩ (.slice none 0 0)).setCell ⟨kb, 1, none⟩ (.slice none 0 0)).setCell ⟨kb, 2, none⟩ (.slice none 0 0)).setCell ⟨kb, 3, none⟩ (.slice none 0 0)).setCell ⟨kb, 4, none⟩ (.int .i64 0)).setCell ⟨fb, 0, none⟩ (.int .i64 er)).setCell ⟨fb, 1, none⟩ (.int .i64 at_) = wz at *
  obtain ⟨hF, hKk, hBl⟩ := unhide Hend
  obtain ⟨-, ⟨z0, z1, z2, z3, z4⟩, -⟩ := hKk.keep (bdrew wz)
  obtain ⟨-, ⟨t0, t1⟩, -⟩ := hF.keep (bdrew wz)
  refine bodyPost_ret (v := .tuple #[zeroK, fltV er at_]) ?_ rfl ⟨rfl, btrans hBl (bdrew wz)⟩
  simp [results, Try.results7, go_sem, z0, z1, z2, z3, z4, t0, t1]

set_option maxRecDepth 100000 in
set_option maxHeartbeats 4000000 in
theorem cloth_ok {N : Nat} {W : World} {q : Option Addr} {n c : Nat} {f : Nat → Sx} (h1 : 1 ≤ N) (hN : N ≤ 128) (hs : Sc W q n f) (hn : n * 40 + 4096 ≤ 140737488355328) (hall : ∀ i, i < n → erS N f i = 0) : Calls Try.prog 7 #[.int .i64 (N : Int), .slice q n c] W fun e w' => ∃ v, e = .returned (.tuple #[v, fltV 0 0]) ∧ KR w' W.heap.size v (reN (tell N (knS N f n))) ∧ Below W.heap.size W w' := by
  have HR := hide (show ∀ V, Below W.heap.size W V → Calls Try.prog 15 #[.int .i64 (N : Int), .slice q n c] V fun e w' => ∃ v, e = .returned (.tuple #[v, fltV 0 0]) ∧ KRe w' V.heap.size v (tell N (knS N f n)) ∧ Below V.heap.size V w' from fun V hV => run_ok h1 hN (hs.keep hV) hn hall)
  have HGn := hide (Gn.of (Bd.kn N f n) (Iv.kn N f n) (Th.kn N f n) hN)
  clear hs hall
  generalize tell N (knS N f n) = k at *
  have B0 := hide (btrans (bnew W (.cells #[.slice none 0 0, .slice none 0 0, .slice none 0 0, .slice none 0 0, .int .i64 0] 29)) (bnew _ (.cells #[.int .i64 0, .int .i64 0] 32)))
  obtain ⟨tb1, tb2, -⟩ := two_boxes W (.slice none 0 0) (.slice none 0 0) (.slice none 0 0) (.slice none 0 0) 0 0 0
  have HKb := hide tb1
  have HFb := hide tb2
  clear tb1 tb2
  go_enter Try.func7, Try.ntmps7
  go_upto_region 1 with fail
  generalize ((W.alloc (.cells #[.slice none 0 0, .slice none 0 0, .slice none 0 0, .slice none 0 0, .int .i64 0] 29)).alloc (.cells #[.int .i64 0, .int .i64 0] 32)) = w0 at *
  obtain ⟨kb, hkb⟩ : ∃ kb, kb = W.heap.size := ⟨_, rfl⟩
  obtain ⟨fb, hfb⟩ : ∃ fb, fb = W.heap.size + 1 := ⟨_, rfl⟩
  rw [← hkb] at HKb
  rw [← hfb] at HFb
  rw [← hfb]
  rw [← hkb]
  have Hkb := hide (show W.heap.size ≤ kb ∧ W.heap.size ≤ fb ∧ kb ≠ fb by omega)
  clear hkb hfb
  go_wp2_with fail
  refine (unhide HR _ (unhide B0)).mono ?_
  rintro e w1 ⟨v, rfl, ⟨o, v1, v2, v3, v4, rfl, p1, p2, p3, p4, p5⟩, hb1⟩
  obtain ⟨a1, a2, hv1⟩ := p1.lr.frm
  obtain ⟨a4, a5, hv2⟩ := p2.lr.frm
  obtain ⟨a7, a8, hv3⟩ := p3.lr.frm
  obtain ⟨d1, d2, hv4⟩ := p4.form
  have Hrn := hide (fun V (hV : Below w1.heap.size w1 V) g0 cp nu => renumbered_any (g0 := g0) (cp := cp) (Gv.make p1 p2 p3 p4 p5 hV nu hb1.size) (unhide HGn) (Nat.le_trans hb1.size hV.size))
  have Hal := hide (fun V (hV : Below w1.heap.size w1 V) => along_any (p1.lr.keep hV) (unhide HGn).cs (unhide HGn).fit.1)
  subst hv1 hv2 hv3 hv4
  clear p1 p2 p3 p4 p5 HR
  obtain ⟨nl, hnl⟩ : ∃ n, n = k.loops.length := ⟨_, rfl⟩
  obtain ⟨nf, hnf⟩ : ∃ n, n = k.front.length := ⟨_, rfl⟩
  obtain ⟨nb, hnb⟩ : ∃ n, n = k.back.length := ⟨_, rfl⟩
  obtain ⟨no, hno⟩ : ∃ n, n = k.loose.length := ⟨_, rfl⟩
  obtain ⟨rk, hrk⟩ : ∃ r, r = k.rack := ⟨_, rfl⟩
  rw [← hnl, ← hnf, ← hnb, ← hno, ← hrk] at Hrn
  rw [← hnl] at Hal
  rw [← hnl, ← hnf, ← hnb, ← hno, ← hrk]
  clear hnl hnf hnb hno hrk
  obtain ⟨tb1, tb2, tb3⟩ := two_boxes w1 (.slice a1 nl a2) (.slice a4 nf a5) (.slice a7 nb a8) (.slice d1 no d2) rk 0 0
  have HK2 := hide tb1
  have HF2 := hide tb2
  have S2 := hide (btrans hb1 tb3)
  have T2 := hide tb3
  have Hsz := hide hb1.size
  clear hb1 tb1 tb2 tb3
  go_upto_region 2 with fail
  generalize ((w1.alloc (.cells #[.slice a1 nl a2, .slice a4 nf a5, .slice a7 nb a8, .slice d1 no d2, .int .i64 rk] 29)).alloc (.cells #[.int .i64 0, .int .i64 0] 32)) = w2 at *
  obtain ⟨fb2, hfb2⟩ : ∃ b, b = w1.heap.size + 1 := ⟨_, rfl⟩
  rw [← hfb2] at HF2
  rw [← hfb2]
  obtain ⟨kb2, hkb2⟩ : ∃ b, b = w1.heap.size := ⟨_, rfl⟩
  rw [← hkb2] at HK2
  rw [← hkb2]
  have Hks := hide (show kb ≠ kb2 ∧ fb ≠ fb2 by have := (unhide HKb).1.1; have := (unhide HFb).1.1; have := unhide Hsz; omega)
  clear hkb2 hfb2
  have HKc := hide ((unhide HKb).keep (unhide S2))
  have HFc := hide ((unhide HFb).keep (unhide S2))
  obtain ⟨-, ⟨q0, q1⟩, -⟩ := unhide HF2
  go_upto_region 4 with fail
  refine wp_region_noPanic ?_
  refine wp_region_held_drew (S := fun V => KB V kb2 (.slice a1 nl a2) (.slice a4 nf a5) (.slice a7 nb a8) (.slice d1 no d2) rk ∧ FB V fb2 0 0) (by kernel_rfl) ⟨(unhide HK2).keep (bdrew _), (unhide HF2).keep (bdrew _)⟩ ?_
  intro _
  refine wpAnyH_take (i := 0) (oi := _) (v := .agg #[.slice a1 nl a2, .slice a4 nf a5, .slice a7 nb a8, .slice d1 no d2, .int .i64 rk]) g8_0 (by kernel_rfl) (by kernel_rfl) (by kernel_rfl) (fun _ _ _ h => h) (Or.inl ⟨by rfl, ?_⟩) (by assumption) ?_
  · intro V hSw
    try dsimp only at hSw
    obtain ⟨⟨-, ⟨m0, m1, m2, m3, m4⟩, -⟩, -⟩ := hSw
    go_simp
  simp only [Act.put, List.setIfInBounds_toArray, List.set_cons_zero, List.set_cons_succ]
  refine wpAnyH_take (i := 1) (oi := _) (v := .pointer (some ⟨kb2, 0, none⟩)) g8_1 (by kernel_rfl) (by kernel_rfl) (by kernel_rfl) (fun _ _ _ h => h) (Or.inl ⟨by rfl, ?_⟩) (by assumption) ?_
  · intro V hSw
    try dsimp only at hSw
    go_simp
  simp only [Act.put, List.setIfInBounds_toArray, List.set_cons_zero, List.set_cons_succ]
  refine wpAnyH_take (i := 2) (oi := _) (v := .slice a1 nl a2) g8_2 (by kernel_rfl) (by kernel_rfl) (by kernel_rfl) (fun _ _ _ h => h) (Or.inl ⟨by rfl, ?_⟩) (by assumption) ?_
  · intro V hSw
    try dsimp only at hSw
    obtain ⟨⟨-, ⟨m0, m1, m2, m3, m4⟩, -⟩, -⟩ := hSw
    go_simp
  simp only [Act.put, List.setIfInBounds_toArray, List.set_cons_zero, List.set_cons_succ]
  refine wpAnyH_take (i := 5) (oi := _) (v := fltV 0 0) g8_5 (by kernel_rfl) (by kernel_rfl) (by kernel_rfl) (fun _ _ _ h => h) (Or.inl ⟨by rfl, ?_⟩) (by assumption) ?_
  · intro V hSw
    try dsimp only at hSw
    obtain ⟨-, ⟨-, ⟨m0, m1⟩, -⟩⟩ := hSw
    go_simp
  simp only [Act.put, List.setIfInBounds_toArray, List.set_cons_zero, List.set_cons_succ]
  refine wpAnyH_ready (rs := [3]) (by kernel_rfl) (by simp) ?_
  refine AllReadyH.cons (o := _) g8_3 (fun K hK => ?_) AllReadyH.nil
  go_simp
  refine (unhide Hal _ (btrans (unhide T2) (bdrew w2))).mono ?_
  rintro e w3 ⟨g0, cp, rfl, hnu, hb3⟩
  have S3 := hide (btrans (bdrew w2) hb3)
  have Hren := hide (unhide Hrn w3 (btrans (unhide T2) (unhide S3)) g0 cp (own_le hnu (btrans (unhide T2) (bdrew w2)).size))
  clear hnu hb3
  refine hK.out _ _ ⟨(unhide HK2).keep (unhide S3), (unhide HF2).keep (unhide S3)⟩ (fun _ => ?_)
  clear hK K
  refine wpAnyH_ready (rs := [4]) (by kernel_rfl) (by simp) ?_
  refine AllReadyH.cons (o := _) g8_4 (fun K hK => ?_) AllReadyH.nil
  go_simp
  refine (unhide Hren).mono ?_
  rintro e w4 ⟨v', rfl, hR4, hb4, hK4⟩
  have F4 : ∀ {t : TypeId}, t ≠ 3 → ∀ i, Tg w3 i t → ¬ Tg w3 i 3 := fun h i q r => tg_not q h r
  have kA := (unhide HK2).keep (unhide S3)
  have fA := (unhide HF2).keep (unhide S3)
  have kB := (unhide HKc).keep (unhide S3)
  have fB := (unhide HFc).keep (unhide S3)
  have HK4 := hide (kA.kept hK4 (F4 (by decide) _ kA.1.2))
  have HF4 := hide (fA.kept hK4 (F4 (by decide) _ fA.1.2))
  have HKd := hide (kB.kept hK4 (F4 (by decide) _ kB.1.2))
  have HFd := hide (fB.kept hK4 (F4 (by decide) _ fB.1.2))
  have HB4 := hide ((btrans (unhide B0) (btrans (unhide S2) (unhide S3))).trans (hb4.mono (unhide B0).size))
  have HR4 := hide (hR4.le (unhide B0).size)
  obtain ⟨e1, e2, e3, e4, e5, e6, e7, e8, e9, e10, e11, e12, rfl⟩ := hR4.parts
  rw [show (reN k).rack = k.rack from rfl] at HR4
  rw [show (reN k).rack = k.rack from rfl]
  clear hR4 hb4 hK4 F4 kA fA kB fB Hren Hal Hrn
  generalize k.rack = rk2 at *
  refine hK.out _ _ ⟨unhide HK4, unhide HF4⟩ (fun _ => ?_)
  clear hK K
  refine wpAnyH_ready (rs := [6]) (by kernel_rfl) (by simp) ?_
  refine AllReadyH.cons (o := _) g8_6 (fun K hK => ?_) AllReadyH.nil
  obtain ⟨-, ⟨r0, r1, r2, r3, r4⟩, rf⟩ := unhide HKd
  have rf0 := rf 0 (by decide)
  have rf1 := rf 1 (by decide)
  have rf2 := rf 2 (by decide)
  have rf3 := rf 3 (by decide)
  have rf4 := rf 4 (by decide)
  clear rf
  have k1 := put27_kept w4 kb (.slice e1 e2 e3) (.slice e4 e5 e6) (.slice e7 e8 e9) (.slice e10 e12 e11) rk2
  have hS5 : KB (put27 w4 kb (.slice e1 e2 e3) (.slice e4 e5 e6) (.slice e7 e8 e9) (.slice e10 e12 e11) rk2) kb2 (.slice a1 nl a2) (.slice a4 nf a5) (.slice a7 nb a8) (.slice d1 no d2) rk ∧ FB (put27 w4 kb (.slice e1 e2 e3) (.slice e4 e5 e6) (.slice e7 e8 e9) (.slice e10 e12 e11) rk2) fb2 0 0 := ⟨(unhide HK4).kept k1 (fun e => (unhide Hks).1 e.symm), (unhide HF4).kept k1 (fun e => (unhide HKd).1.2.ne (unhide HF4).1.2 (by decide) e.symm)⟩
  have HKe := hide ((unhide HKd).put (.slice e1 e2 e3) (.slice e4 e5 e6) (.slice e7 e8 e9) (.slice e10 e12 e11) rk2)
  have HFe := hide ((unhide HFd).kept k1 (fun e => (unhide Hkb).2.2 e.symm))
  have t29 : Tg w4 kb 29 := (unhide HKd).1.2
  have n29 : ∀ {u : TypeId}, (29 : TypeId) ≠ u → ∀ i, i = kb → ¬ Tg w4 i u := fun h i e t => tg_not (show Tg w4 i 29 from e ▸ t29) h t
  have HRe := hide ((unhide HR4).kept k1 (n29 (by decide)) (n29 (by decide)) (n29 (by decide)))
  have HBe := hide (Kept.back (unhide HB4) k1 (unhide HB4).size (fun i e => by rw [e]; exact (unhide Hkb).1))
  have HSe := hide hS5
  clear k1 n29 t29
  go_simp
  refine hK.out _ _ hS5 (fun _ => ?_)
  clear hK K hS5
  obtain ⟨x9, hx9⟩ : ∃ x9, put27 w4 kb (.slice e1 e2 e3) (.slice e4 e5 e6) (.slice e7 e8 e9) (.slice e10 e12 e11) rk2 = x9 := ⟨_, rfl⟩
  rw [hx9] at HKe HFe HRe HBe HSe
  unfold put27 at hx9
  rw [hx9]
  clear hx9 r0 r1 r2 r3 r4 rf0 rf1 rf2 rf3 rf4
  refine wpAnyH_ready (rs := [7]) (by kernel_rfl) (by simp) ?_
  refine AllReadyH.cons (o := _) g8_7 (fun K hK => ?_) AllReadyH.nil
  obtain ⟨-, ⟨s0, s1⟩, t0, t1⟩ := unhide HFe
  have k2 := put30_kept x9 fb 0 0
  have hS6 : KB (put30 x9 fb 0 0) kb2 (.slice a1 nl a2) (.slice a4 nf a5) (.slice a7 nb a8) (.slice d1 no d2) rk ∧ FB (put30 x9 fb 0 0) fb2 0 0 := ⟨(unhide HSe).1.kept k2 (fun e => (unhide HSe).1.1.2.ne (unhide HFe).1.2 (by decide) e), (unhide HSe).2.kept k2 (fun e => (unhide Hks).2 e.symm)⟩
  have HFz := hide ((unhide HFe).put 0 0)
  have HKz := hide ((unhide HKe).kept k2 (unhide Hkb).2.2)
  have t32 : Tg x9 fb 32 := (unhide HFe).1.2
  have n32 : ∀ {u : TypeId}, (32 : TypeId) ≠ u → ∀ i, i = fb → ¬ Tg x9 i u := fun h i e t => tg_not (show Tg x9 i 32 from e ▸ t32) h t
  have HRz := hide ((unhide HRe).kept k2 (n32 (by decide)) (n32 (by decide)) (n32 (by decide)))
  have HBz := hide (Kept.back (unhide HBe) k2 (unhide HBe).size (fun i e => by rw [e]; exact (unhide Hkb).2.1))
  clear k2 n32 t32
  go_simp
  refine hK.out _ _ hS6 (fun _ => ?_)
  clear hK K hS6
  obtain ⟨x8, hx8⟩ : ∃ x8, put30 x9 fb 0 0 = x8 := ⟨_, rfl⟩
  rw [hx8] at HFz HKz HRz HBz
  unfold put30 at hx8
  rw [hx8]
  clear hx8
  refine wpAnyH_done (by kernel_rfl) ?_ _
  refine NoPanic.normal ?_
  obtain ⟨-, ⟨z0, z1, z2, z3, z4⟩, -⟩ := unhide HKz
  obtain ⟨-, ⟨y0, y1⟩, -⟩ := unhide HFz
  go_wp2
  refine bodyPost_ret (v := .tuple #[.agg #[.slice e1 e2 e3, .slice e4 e5 e6, .slice e7 e8 e9, .slice e10 e12 e11, .int .i64 rk2], fltV 0 0]) ?_ rfl ⟨_, rfl, unhide HRz, unhide HBz⟩
  simp [results, Try.results7, go_sem, z0, z1, z2, z3, z4, y0, y1]
end Go.Proofs.Ytancniamgfppiaa
