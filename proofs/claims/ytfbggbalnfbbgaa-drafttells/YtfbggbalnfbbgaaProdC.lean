/-
  Product of package truth: of right truths.
-/
import Derived.Test.YtfbggbalnfbbgaaProdB
namespace Go.Proofs.Ytfbggbalnfbbgaa
open Go.RowKit Go.Shelf

attribute [local go_sem] Oper.semAt_some

theorem wE_right (w h n : Nat) (hw : w ≤ 64) (hh : h ≤ 64) (hn : n = w * h) : wE w h n = 0 := by
  have h1 : sd w = true := (sd_iff _).2 (by omega)
  have h2 : sd h = true := (sd_iff _).2 (by omega)
  simp [wE, h1, h2, hn]

set_option maxRecDepth 100000 in
set_option maxHeartbeats 1000000 in
theorem prod_in (wa ha wb : Nat) (p : Option Addr) (na ca : Nat) (f : Nat → Bool) (p2 : Option Addr) (nb cb : Nat) (g : Nat → Bool) (n : Nat) (W : World) (hwa : wa ≤ 64) (hha : ha ≤ 64) (hwb : wb ≤ 64) (hna : na = wa * ha) (hnb : nb = wb * wa) (hn : n = wb * ha) (hf : Bs W p na ca f) (hg : Bs W p2 nb cb g) :
    CallsIn Fence.wide 9 Try.prog 17 #[tr wa ha p na ca, tr wb wa p2 nb cb] W fun e w' => ∃ q, e = .returned (.tuple #[tr wb ha (some ⟨q, 0, none⟩) n n, .int .i64 0]) ∧ W.heap.size ≤ q ∧ BRow w' q n (prF f g wa wb) ∧ Below W.heap.size W w' := by
  have HW := hide (fun W => wrong_any wa ha p na ca W)
  rw [wE_right wa ha na hwa hha hna] at HW
  have HV := hide (fun W => wrong_any wb wa p2 nb cb W)
  rw [wE_right wb wa nb hwb hwa hnb] at HV
  have hn4 : n ≤ 4096 := by rw [hn]; exact Nat.mul_le_mul hwb hha
  have HBl := hide (fun W => blank_any wb ha n W hn hn4)
  obtain ⟨w0, E0, A, B, Z, S0⟩ := p3_facts W wa ha p na ca wb wa p2 nb cb
  have HE := hide E0
  have HA := hide A
  have HB := hide B
  have HZ := hide Z
  have HS := hide S0
  have Hna := hide hna
  have Hnb := hide hnb
  have Hn := hide hn
  have Hf := hide hf
  have Hg := hide hg
  have hp' : ((wa : Int) != (wa : Int)) = false := by simp
  have hz0 : W.heap.size + 1 + 1 < w0.heap.size := Z.1.1
  clear E0 A B Z S0 hna hnb hn hf hg
  refine callsIn_of_wp_marks Try.func17 rfl trivial ?_ rfl
  simp only [Try.ntmps17, List.size_toArray, List.length_cons, List.length_nil, Nat.reduceAdd, Nat.reduceSub, Array.replicate_succ, Array.replicate_zero, List.push_toArray, List.append_toArray, List.nil_append, List.cons_append]
  gi_wp2_with fail
  rw [unhide HE]
  clear HE
  refine ⟨trivial, (callsIn_wide.2 (unhide HW _)).mono ?_⟩
  rintro e w1 ⟨rfl, hb⟩
  have S1 := hide (btrans (unhide HS) hb)
  have Z1 := hide ((unhide HZ).keep hb)
  have B1 := (unhide HB).keep hb
  have A1 := hide ((unhide HA).keep hb)
  have b1 := B1.2
  clear hb HZ HS HB HA
  gi_wp2_with fail
  clear b1
  refine ⟨trivial, (callsIn_wide.2 (unhide HV _)).mono ?_⟩
  rintro e w3 ⟨rfl, hb⟩
  have S2 := hide (btrans (unhide S1) hb)
  have Z2 := hide ((unhide Z1).keep hb)
  have B2 := hide (B1.keep hb)
  have A2 := hide ((unhide A1).keep hb)
  have b2 := (unhide B2).2
  have a2 := (unhide A2).2
  clear hb Z1 S1 B1 A1
  gi_wp2_with fail
  clear b2 a2
  refine ⟨trivial, (callsIn_wide.2 (unhide HBl _)).mono ?_⟩
  rintro e w4 ⟨q, rfl, hq, hbr, hb⟩
  have hqz : q < w4.heap.size := hbr.1
  have hzz := (unhide Z2).1.1
  have B5 := bal (o := .cells #[.int .i64 wb, .int .i64 ha, .slice (some ⟨q, 0, none⟩) n n] 25) (Below.refl w4.heap.size w4)
  have S5 := hide (btrans (btrans (unhide S2) hb) B5)
  have Z5 := hide (((unhide Z2).keep hb).keep B5)
  have M5 := hide (((unhide B2).keep hb).keep B5)
  have A5 := ((unhide A2).keep hb).keep B5
  have O5 := hide (OwnM.new w4 wb ha (some ⟨q, 0, none⟩) n n 25)
  have R5 := hide (hbr.keep B5)
  have a5 := A5.2
  clear hb Z2 S2 B2 A2 hbr B5 A5
  gi_wp2_with fail
  clear a5
  generalize hw5 : w4.alloc (.cells #[.int .i64 wb, .int .i64 ha, .slice (some ⟨q, 0, none⟩) n n] 25) = w5 at *
  have hz5 : w5.heap.size = w4.heap.size + 1 := by rw [← hw5]; simp
  have Hz5 := hide hz5
  clear hw5 hz5
  refine ⟨trivial, (callsIn_wide.2 (rows_any wa ha p na ca w5)).mono ?_⟩
  rintro e w6 ⟨rfl, rfl⟩
  gi_wp2_with fail
  have B6 := bal (o := .cells #[.int .i64 wa, .int .i64 ha, .slice p na ca] 25) (Below.refl w5.heap.size w5)
  have S6 := hide (btrans (unhide S5) B6)
  have Z6 := hide ((unhide Z5).keep B6)
  have M6 := hide ((unhide M5).keep B6)
  have O6 := hide ((unhide O5).keep B6)
  have R6 := hide ((unhide R5).keep B6)
  have N6 := hide (OwnM.new w5 wa ha p na ca 25)
  clear S5 Z5 M5 O5 R5 B6 HW HV HBl
  generalize hw6 : w5.alloc (.cells #[.int .i64 wa, .int .i64 ha, .slice p na ca] 25) = w6 at *
  have hsz : w5.heap.size < w6.heap.size := by rw [← hw6]; simp
  clear hw6
  have hz5 := unhide Hz5
  clear Hz5
  generalize hbx : w4.heap.size = bx at *
  generalize w5.heap.size = bm at *
  have hqs : q < w6.heap.size := by omega
  have hne : some bm ≠ some q := fun e => by have := Option.some.inj e; omega
  have hcp : ha * wa ≤ ca := by rw [Nat.mul_comm, ← unhide Hna]; exact (unhide Hf).1
  have hcb : wa * wb ≤ cb := by rw [Nat.mul_comm, ← unhide Hnb]; exact (unhide Hg).1
  have hbb : bx < w6.heap.size := by omega
  have nbx : some bx ≠ some q := fun e => by have := Option.some.inj e; omega
  have nb1 : some (W.heap.size + 1) ≠ some q := fun e => by have := Option.some.inj e; omega
  have nb2 : some (W.heap.size + 1 + 1) ≠ some q := fun e => by have := Option.some.inj e; omega
  have hWq : W.heap.size ≤ q := by omega
  clear hbx hz5
  refine wpIn_rangeFunc_ownG rfl (by omega) (gf := 48) (lb := #[.pointer (some ⟨bm, 0, none⟩)]) rfl trivial (enters_of Try.func48 (by kernel_rfl) rfl)
    (rows_stops _ bm wa ha na p ca hwa hha hcp w6 (unhide N6)) kpB_t (kpB_b hsz) (Below.refl _ _) (fun _ => rfl)
    (Made w6 q n (prG f g wa wb ha)) (fun _ _ _ => False) (made_own _ hqs) (fun _ _ _ _ _ hs _ _ => hs)
    ⟨(unhide R6).congr (by intro j hj; simp [prG]), World.grownBy.refl _ _⟩ ?a1 ?assign ?body ?done ?stop
  case assign =>
    intro l x V K hK
    gi_wp2
    exact hK
  case stop =>
    rintro D c pre V _ _ h _
    exact h.elim
  case body =>
    rintro l pre ⟨y, hy⟩ V hI _
    have hbs := ((unhide Hf).keep (unhide S6)).grown hI.2 ((unhide Hf).off hWq)
    rw [unhide Hna] at hbs
    have Hbr := hide (hbs.row hy)
    have Hof := hide (Off.row (cap := ca) (show Off p (wa * ha) q by rw [← unhide Hna]; exact (unhide Hf).off hWq) hy)
    have Hb2 := hide (((unhide Hg).keep (unhide S6)).grown hI.2 ((unhide Hg).off hWq))
    have Ho2 := hide ((unhide Hg).off hWq)
    have Hro := hide (fun V => row_any wb ha y (some ⟨q, 0, none⟩) n n V hwb hy hha (by rw [unhide Hn, Nat.mul_comm]; exact Nat.le_refl _))
    have Hrb := hide (fun k (hk : k < wa) V => row_any wb wa k p2 nb cb V hwb hk hwa hcb)
    have hyn : y * wb + wb ≤ n := by
      have := Nat.mul_le_mul_right wb (show y + 1 ≤ ha by omega)
      rw [mul_step, Nat.mul_comm ha wb, ← unhide Hn] at this
      exact this
    have hpi : wb = 0 ∨ rp (some ⟨q, 0, none⟩) n (y * wb) = some ⟨q, y * wb, none⟩ := by
      by_cases e : wb = 0
      · exact .inl e
      · exact .inr (by rw [rp_some _ _ _ _ (by omega), Nat.zero_add])
    have Hpi := hide hpi
    have o7 := ((unhide O6).grown hI.2 nbx).2
    have M7 := hide ((unhide M6).grown hI.2 nb1)
    have HI := hide hI
    have hVz : w6.heap.size ≤ V.heap.size := hI.2.size
    clear hI hbs hpi
    dsimp only [rowV] at *
    gi_wp2_with fail
    generalize rp (some ⟨q, 0, none⟩) n (y * wb) = ri at *
    generalize n - y * wb = ci at *
    refine ⟨trivial, (CallsIn.inRound l (callsIn_wide.2 (unhide Hro _))).mono ?_⟩
    rintro e V2 ⟨rfl, hb⟩
    have HI2 := hide (show BRow V2 q n (prG f g wa wb ha pre) from (unhide HI).1.keep hb)
    have HG2 := hide (show V.grownBy V2 (some q) from gbelow (some q) hb)
    have hVq : q < V.heap.size := (unhide HI).1.1
    clear hb o7
    generalize rp p ca (y * wa) = r at *
    generalize ca - y * wa = cp at *
    gi_wp2_with fail
    gi_loopw [46] (fun i wr => ∃ k : Nat, k ≤ wa ∧ i = .int .i64 k ∧ BRow wr q n (prH f g wa wb ha pre y k) ∧ V.grownBy wr (some q)) (fun i _ => wa - (intOf i).toNat)
    case atStart => exact ⟨0, Nat.zero_le _, rfl, by rw [prH_zero]; exact unhide HI2, unhide HG2⟩
    case round =>
      obtain ⟨k, hk, rfl, hR, hg⟩ := hrel
      by_cases hlt : k < wa
      · have hb1 := (unhide Hbr).grown hg (unhide Hof)
        obtain ⟨b, o, rfl, hbl, hc⟩ : ∃ b o, r = some ⟨b, o, none⟩ ∧ b < wr.heap.size ∧ ∀ k, k < wa → wr.cell? ⟨b, o + k, none⟩ = some (.bool (f (y * wa + k))) := by
          rcases hb1.2 with h0 | h1
          · omega
          · exact h1
        have c1 := hc k hlt
        have m1 := ((unhide M7).grown hg nb1).2
        have q1 : (k : Int) < (wa : Int) := by omega
        have q2 : (0 : Int) ≤ (k : Int) := by omega
        have HR := hide hR
        have HG := hide hg
        clear hR hg hc hb1
        cases hv : f (y * wa + k) with
        | false =>
          rw [hv] at c1
          have Hs := hide (prH_no f g wa wb ha pre y k hv)
          clear hv
          gi_wp2
          go_roundw
          case rel => exact ⟨k + 1, by omega, by go_num, by rw [unhide Hs]; exact unhide HR, unhide HG⟩
          case measure => simp [intOf]; omega
        | true =>
          rw [hv] at c1
          have Hs := hide (fun j hw => prH_yes f g wa wb ha pre y k hv j hw)
          have Hr1 := hide (unhide Hrb k hlt)
          have hbk := (unhide Hb2).grown (unhide HG) (unhide Ho2)
          rw [unhide Hnb] at hbk
          have Hbk := hide (hbk.row hlt)
          have Hok := hide (Off.row (cap := cb) (show Off p2 (wb * wa) q by rw [← unhide Hnb]; exact unhide Ho2) hlt)
          clear hv hbk
          gi_wp2_with fail
          generalize rp p2 cb (k * wb) = rk at *
          generalize cb - k * wb = ck at *
          refine ⟨trivial, (CallsIn.inRound l (callsIn_wide.2 (unhide Hr1 _))).mono ?_⟩
          rintro e V3 ⟨rfl, hb⟩
          have R3 := hide ((unhide HR).keep hb)
          have G3 := hide (gtrans (unhide HG) (gbelow (some q) hb))
          have b3 := hide ((unhide Hbk).keep hb)
          clear hb HR HG Hbk c1 m1
          gi_wp2_with fail
          refine ⟨trivial, (CallsIn.inRound l (callsIn_wide.2 (join_any q n ri rk wb ci ck (y * wb) _ _ V3 (unhide R3) hwb (unhide Hpi) hyn (unhide b3) (unhide Hok)))).mono ?_⟩
          rintro e V4 ⟨⟨v, rfl⟩, hR4, hg4⟩
          have R4 := hide (show BRow V4 q n (prH f g wa wb ha pre y (k + 1)) from hR4.congr (fun j hj => unhide Hs j (by
            rcases Nat.eq_zero_or_pos wb with e | e
            · rw [unhide Hn, e] at hj; simp at hj
            · exact e)))
          have G4 := hide (gtrans (unhide G3) hg4)
          clear hR4 hg4 R3 G3 b3 Hs
          gi_wp2
          go_roundw
          case rel => exact ⟨k + 1, by omega, by go_num, unhide R4, unhide G4⟩
          case measure => simp [intOf]; omega
      · obtain rfl : k = wa := by omega
        have cl : ¬ ((k : Int) < (k : Int)) := by omega
        have HR := hide (hR.congr (fun j _ => congrFun (prH_full f g k wb ha pre ⟨y, hy⟩) j))
        have HG := hide hg
        clear hR hg
        gi_wp2
        exact ⟨KeepsFrom.of_grownBy (unhide HG) (fun j e => by cases e; omega), KpB.of_grown (unhide HG) (by omega) hne, unhide HR, gtrans (unhide HI).2 (unhide HG)⟩
  case done =>
    rintro D ys V hD hys hI hK
    obtain ⟨⟨-, u0, u1, u2⟩, f0, f1, f2⟩ := (unhide Z6).grown hI.2 nb2
    obtain ⟨-, o0, o1, o2⟩ := (unhide O6).grown hI.2 nbx
    have S7 := hide ((unhide S6).grown hI.2 (by have := (unhide S6).size; omega) (fun j e => by cases e; exact hWq))
    have R7 := hide (show BRow V q n (prF f g wa wb) from hI.1.congr (fun j hj => by
      have hh0 : 0 < wb := by
        rcases Nat.eq_zero_or_pos wb with e | e
        · rw [unhide Hn, e] at hj; simp at hj
        · exact e
      have : j / wb < ha := Nat.div_lt_of_lt_mul (by rw [← unhide Hn]; exact hj)
      simp [prG, hys, this]))
    have HD := hide hD
    clear hI hD hys
    gi_wp2
    obtain ⟨K3, Y0, Y1, Y2⟩ := put3_end (B := W.heap.size + 1 + 1) (.int .i64 wb) (.int .i64 ha) (.slice (some ⟨q, 0, none⟩) n n) u0 u1 u2 hK
    have hD' := unhide HD
    have hs4 := (unhide S6).size
    refine ⟨by simp, .inl ⟨_, _, rfl, run_takeDeferred K3, .tuple #[tr wb ha (some ⟨q, 0, none⟩) n n, .int .i64 0], ?_, q, rfl, by omega, (unhide R7).put3 _ _ _ _ (by omega) (by omega), put3_below _ _ _ _ (unhide S7) (by omega) (by omega)⟩⟩
    simp [results, Try.f17, go_sem, Y0, Y1, Y2]
end Go.Proofs.Ytfbggbalnfbbgaa
