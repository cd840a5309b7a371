/-
  The document's Plan.
-/
import Derived.Test.YtpdknodnlamphaaU
namespace Go.Proofs.Ytpdknodnlamphaa
open Go.RowKit

/-- passes, as a row has them -/
def prV : List Ps → List Value
  | [] => []
  | p :: l => .int .i64 p.1 :: .int .i64 ((p.2 : Nat) : Int) :: prV l
theorem prV_app : ∀ (l m : List Ps), prV (l ++ m) = prV l ++ prV m
  | [], _ => rfl
  | p :: l, m => by simp [prV, prV_app l m]
theorem prV_at : ∀ (l : List Ps) (j : Nat), j < l.length → (prV l)[j * 2]? = some (.int .i64 (plF l j).1) ∧ (prV l)[j * 2 + 1]? = some (.int .i64 (plF l j).2)
  | [], j, h => by simp at h
  | p :: l, 0, _ => by simp [prV, plF]
  | p :: l, j + 1, h => by
    have := prV_at l j (by simpa using h)
    rw [show (j + 1) * 2 = j * 2 + 1 + 1 by omega]
    simpa [prV, plF] using this
theorem prV_sp {V : World} {B k cap : Nat} {q : Option Addr} {l : List Ps} (h : V.ownsRow B 44 2 (.slice q k cap) k (prV l)) (hl : l.length = k) : Sp V q k (plF l) := by
  rcases h.2 with ⟨hv, h0⟩ | ⟨g, c, cur, hv, _⟩
  · exact .inl h0
  · cases hv
    refine .inr ⟨g, 0, rfl, (h.lt g rfl).2, fun j hj => ?_⟩
    obtain ⟨h1, h2⟩ := prV_at l j (by omega)
    rw [Nat.zero_add, h.cellAt (j * 2) (by omega), h.cellAt (j * 2 + 1) (by omega)]
    exact ⟨h1, h2⟩
theorem plan_take {z : Pz} {k i : Nat} {l : List Int} (h : i < k) : (plan z k l).take (i + 1) = (plan z k l).take i ++ [pick z (k - i - 1) (planAt z k l i)] := by
  rw [List.take_add_one, (planAt_step h).2]
  rfl
/-- passes and an error are answered -/
def PP (W : World) (n : Nat) (f : Nat → Int × Int) (er : Int) (e : Ending) (V : World) : Prop := ∃ q cp, e = .returned (.tuple #[.slice q n cp, .int .i64 er]) ∧ Sp V q n f ∧ Below W.heap.size W V
theorem PP.mk {W V : World} {n : Nat} {f : Nat → Int × Int} {er : Int} (q : Option Addr) (cp : Nat) (h : Sp V q n f) (hb : Below W.heap.size W V) : PP W n f er (.returned (.tuple #[.slice q n cp, .int .i64 er])) V := ⟨q, cp, rfl, h, hb⟩

set_option maxRecDepth 100000 in
set_option maxHeartbeats 4000000 in
theorem rplan_err (q p : Option Addr) (n m c d : Nat) (f t : Nat → Int) (sl : Int) (W : World) (hq : Is W q n f) (hp : Is W p m t) (he : wE n m f t sl ≠ 0) :
    Calls Try.prog 9 #[.slice q n c, .slice p m d, .int .i64 sl] W (PP W 0 (fun _ => (0, 0)) (wE n m f t sl)) := by
  have HW := hide (rwrong_any q p n m c d f t sl W hq hp)
  generalize hx : wE n m f t sl = x at *
  have hx' : (x != 0) = true := by simpa using he
  clear hx hq hp
  go_enter Try.func9, Try.ntmps9
  go_wp2_with fail
  refine (unhide HW).mono ?_
  rintro e w1 ⟨rfl, j, hj⟩
  have B1 : Below W.heap.size W w1 := by rw [hj]; exact Joins.below_draws _ W j
  have HB := hide B1
  clear hj B1 he
  go_wp2
  exact bodyPost_ret (v := .tuple #[.slice none 0 0, .int .i64 x]) (by simp [results, Try.results9, go_sem]) rfl (PP.mk _ _ (.inl rfl) (unhide HB))

theorem nm_out {z : Pz} (hE : OkS z z.E) {G : Gd} (hok : ∀ g ∈ G, dst z g.2 g.1) {x : List Int} (hx : OkS z x) (hk : ¬ Kn G x) : ∀ p ∈ nG z.n G, p.1 ≠ nmV z.n x := fun p hp e => by
  obtain ⟨g, hg, rfl⟩ := List.mem_map.1 hp
  exact hk ⟨g.2, by rw [← nm_ne (rc_ok hE (hok g hg).1) hx e]; exact hg⟩

set_option maxRecDepth 100000 in
set_option maxHeartbeats 8000000 in
theorem rplan_none (q p : Option Addr) (c d : Nat) (f : Nat → Int) (z : Pz) (W : World) (hq : Is W q z.n f) (hp : Is W p z.n z.t) (he : wE z.n z.n f z.t z.sl = 0) (hno : ∀ k, ¬ rc z k (tl z.n f)) :
    Calls Try.prog 9 #[.slice q z.n c, .slice p z.n d, .int .i64 z.sl] W (PP W 0 (fun _ => (0, 0)) 6) := by
  obtain ⟨-, hR, -⟩ := wE_ok he
  have hR : Rt z f := hR
  have HW := hide (rwrong_any q p z.n z.n c d f z.t z.sl W hq hp)
  rw [he] at HW
  have hpE : ∀ i, i < z.n → f i = gt (tl z.n f) i := fun i hi => (gt_tl f hi).symm
  have HNm := hide (fun V (hb : Below W.heap.size W V) => rname_any q z.n c f V (hq.keep hb) (fun i hi => by rw [hpE i hi]; exact okS_bound hR.s i) hR.n5)
  rw [nmS_congr hpE] at HNm
  have HLy := hide (fun V (hb : Below W.heap.size W V) => rlayers_any z hR.n1 hR.n5 hR.e p d V (hp.keep hb))
  have hls : OkS z (tl z.n f) := hR.s
  obtain ⟨l, hl⟩ : ∃ l, l = tl z.n f := ⟨_, rfl⟩
  rw [← hl] at HNm hls hno
  obtain ⟨kl, hkl⟩ := key_nm hR.n5 (okS_bound hls)
  clear hq hp hpE hl
  go_enter Try.func9, Try.ntmps9
  go_wp2_with fail
  refine (unhide HW).mono ?_
  rintro e w1 ⟨rfl, j, hj⟩
  have B1 : Below W.heap.size W w1 := by rw [hj]; exact Joins.below_draws _ W j
  have HB1 := hide B1
  clear hj B1 HW
  go_wp2_with fail
  refine (unhide HLy w1 (unhide HB1)).mono ?_
  rintro e w2 ⟨bm, G, rfl, hM, hok, hall, hb2⟩
  have B2 := btrans (unhide HB1) hb2
  have hkn : ¬ Kn G l := fun ⟨j, hj⟩ => hno _ (hok _ hj).1
  have L1 := hM.missed keyed9 Try.underlying47 hkl (nm_out hR.e hok hls hkn) true
  simp only [if_true, nmV] at L1
  have HN2 := hide (unhide HNm w2 B2)
  have HB2 := hide B2
  clear hM hok hall hb2 B2 HNm HLy HB1 hkn hno hkl
  generalize nmS (gt l) z.n = nm at *
  go_wp2_with fail
  refine (unhide HN2).mono ?_
  rintro e w3 ⟨rfl, rfl⟩
  go_wp2
  exact bodyPost_ret (v := .tuple #[.slice none 0 0, .int .i64 6]) (by simp [results, Try.results9, go_sem]) rfl (PP.mk _ _ (.inl rfl) (unhide HB2))

set_option maxRecDepth 100000 in
set_option maxHeartbeats 8000000 in
theorem rplan_ok (q p : Option Addr) (c d : Nat) (f : Nat → Int) (z : Pz) (W : World) (hq : Is W q z.n f) (hp : Is W p z.n z.t) (he : wE z.n z.n f z.t z.sl = 0) (k : Nat) (hd : dst z k (tl z.n f)) :
    Calls Try.prog 9 #[.slice q z.n c, .slice p z.n d, .int .i64 z.sl] W (PP W k (plF (plan z k (tl z.n f))) 0) := by
  obtain ⟨-, hR, -⟩ := wE_ok he
  have hR : Rt z f := hR
  have HW := hide (rwrong_any q p z.n z.n c d f z.t z.sl W hq hp)
  rw [he] at HW
  have hpE : ∀ i, i < z.n → f i = gt (tl z.n f) i := fun i hi => (gt_tl f hi).symm
  have HNm := hide (fun V (hb : Below W.heap.size W V) => rname_any q z.n c f V (hq.keep hb) (fun i hi => by rw [hpE i hi]; exact okS_bound hR.s i) hR.n5)
  rw [nmS_congr hpE] at HNm
  have HLy := hide (fun V (hb : Below W.heap.size W V) => rlayers_any z hR.n1 hR.n5 hR.e p d V (hp.keep hb))
  have hls : OkS z (tl z.n f) := hR.s
  have hIx : Ix W W q z.n (tl z.n f) := by
    rcases hq with h | ⟨b, o, e, hb, hc⟩
    · have := hR.n1; omega
    · exact ⟨b, o, e, hb, .inl hb, fun k hk => by rw [hc k hk, hpE k hk]⟩
  have HP := hide (fun V (hb : Below W.heap.size W V) => hp.keep hb)
  obtain ⟨l, hl⟩ : ∃ l, l = tl z.n f := ⟨_, rfl⟩
  rw [← hl] at HNm hls hd hIx ⊢
  have hks : k + 1 ≤ 248832 := dst_small hR.e (by have := hR.n5; omega) hd
  have HIx := hide hIx
  clear hq hp hpE hl hIx
  go_enter Try.func9, Try.ntmps9
  go_wp2_with fail
  refine (unhide HW).mono ?_
  rintro e w1 ⟨rfl, j, hj⟩
  have B1 : Below W.heap.size W w1 := by rw [hj]; exact Joins.below_draws _ W j
  have HB1 := hide B1
  clear hj B1 HW
  go_wp2_with fail
  refine (unhide HLy w1 (unhide HB1)).mono ?_
  rintro e w2 ⟨bm, G, rfl, hM, hok, hall, hb2⟩
  have B2 := btrans (unhide HB1) hb2
  obtain ⟨k', hk'⟩ : Kn G l := hall k l hd.1
  obtain rfl : k' = k := dst_unique (hok _ hk') hd
  have L1 := hM.found keyed9 Try.underlying47 (x := nmV z.n l) (v := k') (List.mem_map.2 ⟨_, hk', rfl⟩) true
  simp only [if_true, nmV] at L1
  have HN2 := hide (unhide HNm w2 B2)
  have HB2 := hide B2
  have HM := hide hM
  have HIx2 := hide ((unhide HIx).keep B2)
  clear hM hb2 B2 HNm HLy HB1 hk' HIx
  have HF := hide (fun (x : Nat) (hx : x < k') => rfirst_any z hR.n5 hR.e (planAt z k' l x) (k' - x - 1) (by have := planAt_dst hR.e (i := x) (by omega) hd; rwa [show k' - x = k' - x - 1 + 1 by omega] at this) (rc_ok hR.e (planAt_dst hR.e (i := x) (by omega) hd).1) G hok (fun y hy => hall _ y hy))
  have HD := hide (fun (x : Nat) (hx : x ≤ k') => rc_ok hR.e (planAt_dst hR.e (i := x) hx hd).1)
  have HPk := hide (fun (x : Nat) (hx : x < k') => pick_ok (k := k' - x - 1) (l := planAt z k' l x) hR.e (by have := planAt_dst hR.e (i := x) (by omega) hd; rwa [show k' - x = k' - x - 1 + 1 by omega] at this))
  have hn5 := hR.n5
  have hn1 := hR.n1
  clear hok hall
  generalize nmS (gt l) z.n = nm at *
  go_wp2_with fail
  refine (unhide HN2).mono ?_
  rintro e w3 ⟨rfl, rfl⟩
  clear HN2
  go_wp2
  clear L1
  go_loopw [10, 12, 13] (fun lv ov av wr => ∃ (x r cp qc : Nat) (qo qa : Option Addr), r + x = k' ∧ lv = .int .i64 r ∧ ov = .slice qo x cp ∧ av = .slice qa z.n qc ∧ wr.ownsRow W.heap.size 44 2 (.slice qo x cp) x (prV ((plan z k' l).take x)) ∧ Ix W wr qa z.n (planAt z k' l x) ∧ MpI wr 9 bm (nG z.n G) ∧ Below W.heap.size W wr) (fun lv _ _ _ => (intOf lv).toNat)
  case atStart => exact ⟨0, k', 0, c, none, q, by omega, rfl, rfl, rfl, World.ownsRow_nil _ _ _ _, by rw [show planAt z k' l 0 = l from by cases k' <;> rfl]; exact unhide HIx2, unhide HM, unhide HB2⟩
  case round =>
    clear HIx2 HM HB2
    obtain ⟨x, r, cp, qc, qo, qa, hrx, rfl, rfl, rfl, hO, hI, hM, hB⟩ := hrel
    by_cases hlt : 0 < r
    · have hx : x < k' := by omega
      have g0 : (0 : Int) < (r : Int) := by omega
      obtain ⟨r1, hr1⟩ : ∃ r1, r1 = k' - x - 1 := ⟨_, rfl⟩
      have e1 : (r : Int) - 1 = (r1 : Int) := by omega
      have hr9 : (r : Int) ≤ 248832 := by omega
      have HF1 := hide (unhide HF x hx qa p qc d bm wr hI.is (unhide HP wr hB) hM)
      obtain ⟨⟨⟨p1, p2, p3⟩, p4, p5⟩, p6, p7⟩ := unhide HPk x hx
      obtain ⟨pk, hpk⟩ : ∃ pk, pk = pick z (k' - x - 1) (planAt z k' l x) := ⟨_, rfl⟩
      have Hpl := hide (show planAt z k' l (x + 1) = bh (planAt z k' l x) pk by rw [hpk]; exact (planAt_step hx).1)
      have Htk := hide (show (plan z k' l).take (x + 1) = (plan z k' l).take x ++ [pk] by rw [hpk]; exact plan_take hx)
      have Hds := hide (unhide HD x (by omega))
      rw [← hr1] at HF1 hpk
      rw [← hr1] at p1 p2 p3 p4 p5
      rw [← hpk] at HF1 p1 p2 p3 p4 p5
      have hp31 : pk.2 ≤ 31 := by
        have := Nat.pow_le_pow_right (n := 2) (show 0 < 2 by omega) hn5
        omega
      obtain ⟨pa, pb⟩ := pk
      dsimp only at HF1 p1 p2 p3 p4 p5 hp31
      have Hrx := hide hrx
      have HO := hide hO
      have HI := hide hI
      have HM := hide hM
      have HB := hide hB
      clear hO hI hM hB p3 p4 p5 p6 p7 hrx hr1 hpk
      generalize (plan z k' l).take x = tk at *
      generalize planAt z k' l x = pl at *
      go_wp2_with fail
      refine (unhide HF1).mono ?_
      rintro e w4 ⟨rfl, hb4⟩
      obtain ⟨u5, hu5⟩ : ∃ u5, w4.alloc (.cells #[.int .i64 pa, .int .i64 ((pb : Nat) : Int)] 44) = u5 := ⟨_, rfl⟩
      have k0 : u5.cell? ⟨w4.heap.size, 0, none⟩ = some (.int .i64 pa) := by rw [← hu5]; simp [go_sem]
      have k1 : u5.cell? ⟨w4.heap.size, 1, none⟩ = some (.int .i64 ((pb : Nat) : Int)) := by rw [← hu5]; simp [go_sem]
      have hl5 : w4.heap.size < u5.heap.size := by rw [← hu5]; simp
      have hb5 : Below w4.heap.size w4 u5 := by rw [← hu5]; exact bnew _ _
      have hb6 := bnew u5 (.cells #[.int .i64 pa, .int .i64 ((pb : Nat) : Int)] 44)
      have hb56 := btrans (btrans hb4 hb5) hb6
      have hbx : wr.heap.size ≤ w4.heap.size := hb4.size
      have k06 := keepC hb6 hl5 k0
      have k16 := keepC hb6 hl5 k1
      have O6 := own_keep (unhide HO) hb56
      have I6 := (unhide HI).keep hb56
      have M6 := (unhide HM).keep hb56
      have B6 := btrans (unhide HB) hb56
      have B5 := btrans (unhide HB) (btrans hb4 hb5)
      have L6 := own_lit (B := W.heap.size) (e := 44) (z := 2) (k := 1) u5 #[.int .i64 pa, .int .i64 ((pb : Nat) : Int)] B5.size (by unfold maxLen; omega) rfl
      have hl6 : w4.heap.size < (u5.alloc (.cells #[.int .i64 pa, .int .i64 ((pb : Nat) : Int)] 44)).heap.size := by simp; omega
      have hnS : ¬ ((Value.slice qo x cp).ownBlock = some w4.heap.size) := fun e => by have := ((unhide HO).lt _ e).2; omega
      have H06 := hide k06
      have H16 := hide k16
      have HO6 := hide O6
      have HI6 := hide I6
      have HM6 := hide M6
      have HB6 := hide B6
      have HL6 := hide L6
      have Hone := hide (show ∀ u ∈ [Value.int .i64 pa, Value.int .i64 ((pb : Nat) : Int)], u.oneCell' = true by simp [Value.oneCell'])
      have HnS := hide hnS
      have Hl6 := hide hl6
      clear HF1 hb4 hb5 hb6 hb56 k06 k16 O6 I6 M6 B6 L6 B5 HO HI HM HB hnS hl6 hl5 hbx
      go_upto_region 12 with fail
      clear hu5
      generalize w4.heap.size = bx at *
      go_wp2_with (at_builtin; refine wl_app rfl rfl Try.underlying23 info44 rfl (by decide) (B := W.heap.size) (C := W.heap.size) (n := x) (m := 1) rfl rfl (unhide HO6) (unhide HL6) (unhide Hone) (by unfold maxLen; omega) (by omega) (unhide HB6).size ?_)
      intro v7 w7 ho hg he
      clear k0 k1
      have kp : Kept (fun i => (Value.slice qo x cp).ownBlock = some i) (u5.alloc (.cells #[.int .i64 pa, .int .i64 ((pb : Nat) : Int)] 44)) w7 := grown_kept hg (fun r e => .inl e)
      have k0 := kp.cell (unhide Hl6) (unhide HnS) (unhide H06)
      have k1 := kp.cell (unhide Hl6) (unhide HnS) (unhide H16)
      have I7 := (unhide HI6).kept kp (fun i e => ⟨((unhide HO6).lt i e).1, tg_not (own_tg (unhide HO6) e) (by decide)⟩)
      have M7 := (unhide HM6).other hg (fun e => (unhide HM6).tag (own_tg (unhide HO6) e.symm))
      have B7 := (unhide HB6).grown hg (unhide HB6).size (fun i e => ((unhide HO6).lt i e).1)
      obtain ⟨q7, c7, rfl⟩ := own_form ho
      have HBh := hide (rbehind_at hn5 pl (unhide Hds) qa qc pa pb w7 I7.is ⟨p1, p2⟩ hp31)
      have HO7 := hide (show w7.ownsRow W.heap.size 44 2 (.slice q7 (x + 1) c7) (x + 1) (prV (tk ++ [(pa, pb)])) by rw [prV_app]; exact ho)
      have HM7 := hide M7
      have HB7 := hide B7
      clear ho hg he kp I7 M7 B7 HO6 HI6 HM6 HB6 HL6 Hone HnS Hl6 H06 H16
      go_wp2_with fail
      refine (unhide HBh).mono ?_
      rintro e w8 ⟨q8, c8, rfl, -, hr8, hb8⟩
      have HI8 := hide (show Ix W w8 q8 z.n (bh pl (pa, pb)) from hr8.ix (by simpa [bh] using (unhide Hds).1) hn1)
      have HO8 := hide (own_keep (unhide HO7) hb8)
      have HM8 := hide ((unhide HM7).keep hb8)
      have HB8 := hide (btrans (unhide HB7) hb8)
      clear hr8 hb8 HBh HO7 HM7 HB7 k0 k1
      go_wp2
      go_roundw
      case rel => exact ⟨x + 1, r1, c7, c8, q7, q8, by have := unhide Hrx; omega, rfl, rfl, rfl, by rw [unhide Htk]; exact unhide HO8, by rw [unhide Hpl]; exact unhide HI8, unhide HM8, unhide HB8⟩
      case measure => simp [intOf]; omega
    · obtain rfl : r = 0 := by omega
      obtain rfl : x = k' := by omega
      have HS := hide (show Sp wr qo x (plF (plan z x l)) from by
        rw [List.take_of_length_le (by rw [plan_len]; exact Nat.le_refl _)] at hO
        exact prV_sp hO (plan_len z x l))
      have HB := hide hB
      clear hO hI hM hB hlt
      go_wp2
      exact bodyPost_ret (v := .tuple #[.slice qo x cp, .int .i64 0]) (by simp [results, Try.results9, go_sem]) rfl (PP.mk _ _ (unhide HS) (unhide HB))
end Go.Proofs.Ytpdknodnlamphaa
