/-
  The reader: sett, walked.
-/
import Derived.Test.YtbnjjkanokmakaaDoorRV
namespace Go.Proofs.YtbnjjkanokmakaaDoor
open Go.RowKit

theorem rdE_go {s : ByteArray} {p : Nat} {acc : List St} (h : rdS s = (0, p, acc)) : rdE s = if pvS s = true then (if by1 s p 47 = true then (if p + 1 < s.size then (2, p + 1) else (0, 0)) else (2, p)) else (if p < s.size then (2, p) else (0, 0)) := by
  unfold rdE
  rw [h, if_neg (by simp)]
set_option maxRecDepth 100000 in
set_option maxHeartbeats 20000000 in
theorem sett_any (W0 W : World) (rb : Nat) (s : ByteArray) (hs : s.size ≤ 65536) (hT : RTabs W0) (h : Rdr W0 rb s 0 W) :
    Calls Tryd.prog 20 #[.pointer (some ⟨rb, 0, none⟩)] W (SeIs W0 W rb s) := by
  have Hbad := hide (fun V p er at' (h : rdE s = (er, at')) he h1 h2 => SeIs.bad (W0 := W0) (W := W) (rb := rb) (V := V) (p := p) h he h1 h2)
  have Hgood := hide (fun V q cap p pp acc (hr : rdS s = (0, p, acc)) h h1 h2 h3 h4 => SeIs.good (W0 := W0) (W := W) (rb := rb) (V := V) (q := q) (cap := cap) (pp := pp) hr h h1 h2 h3 h4)
  have HTk := hide (fun V p b (hp : p ≤ s.size) (h : Rdr W0 rb s p V) => take_any W0 V rb s p b hs hp h)
  have HSp := hide (fun V p v1 v2 er at' q (hp : p ≤ s.size) (h : Rdr W0 rb s p V) hc => stripe_core W0 V rb s p v1 v2 er at' q hs hp hT h hc)
  have HWr := hide (fun V p er (h : Rdr W0 rb s p V) => rwrongAt_any W0 V rb s p er h)
  have H0 := hide (show nx s (a0S s) [] = rdS s from rfl)
  have Ha0 := hide (a0_le s)
  have Hpv := hide (show pvS s = by1 s 0 47 from rfl)
  have Hpa := hide (show a0S s = if by1 s 0 47 = true then 0 + 1 else 0 from rfl)
  have b1 := bnew W (.cells #[.bool false, .slice none 0 0] 24)
  have b2 := bnew (W.alloc (.cells #[.bool false, .slice none 0 0] 24)) (.cells #[.int .i64 0, .int .i64 0] 27)
  have HR2 := hide ((h.keep b1).keep b2)
  have HK2 := hide ((Kept.of (S := fun i => i = rb) b1).below b2)
  have HX2 := hide ((BSx.new W false (.slice none 0 0) 24).keep b2)
  have HY2 := hide (Bx.new (W.alloc (.cells #[.bool false, .slice none 0 0] 24)) 0 0 27)
  have Hsz := hide (show W0.heap.size ≤ W.heap.size ∧ rb < W.heap.size from ⟨h.2.2.2.size, h.1.2⟩)
  rw [show (W.alloc (.cells #[.bool false, .slice none 0 0] 24)).heap.size = W.heap.size + 1 by simp] at HY2
  have Hsz2 := hide (show ((W.alloc (.cells #[.bool false, .slice none 0 0] 24)).alloc (.cells #[.int .i64 0, .int .i64 0] 27)).heap.size = W.heap.size + 2 by simp)
  clear b1 b2 h hT
  go_enter Tryd.func20, Tryd.ntmps20
  go_upto_region 1 with fail
  generalize (W.alloc (.cells #[.bool false, .slice none 0 0] 24)).alloc (.cells #[.int .i64 0, .int .i64 0] 27) = w2 at *
  go_wp2_with fail
  refine (unhide HTk w2 0 47 (Nat.zero_le _) (unhide HR2)).mono ?_
  rw [← unhide Hpv]
  rintro e w3 ⟨rfl, hr3, hk3⟩
  rw [unhide Hpv, ← unhide Hpa] at hr3
  have HX3 := hide ((unhide HX2).but hk3 (by have := (unhide Hsz).2; omega))
  have HY3 := hide ((unhide HY2).but hk3 (by have := (unhide Hsz).2; omega))
  have HK3 := hide ((unhide HK2).trans hk3)
  have hsz3 := hk3.size
  rw [unhide Hsz2] at hsz3
  generalize pvS s = pv at *
  have b4 := bnew w3 (.cells #[.bool pv, .slice none 0 0] 24)
  have HS := hide (show SeS W0 W rb s (w3.heap.size + 1) W.heap.size (W.heap.size + 1) w3.heap.size pv (a0S s) none 0 [] (w3.alloc (.cells #[.bool pv, .slice none 0 0] 24)) from ⟨⟨hr3.keep b4, (unhide HK3).below b4⟩, ⟨(unhide HX3).keep b4, (unhide HY3).keep b4, BSx.new w3 pv (.slice none 0 0) 24⟩, SR.nil _ _, by simp⟩)
  have HO := hide (show Od W0 W rb (w3.heap.size + 1) W.heap.size (W.heap.size + 1) w3.heap.size from ⟨(unhide Hsz).1, (unhide Hsz).2, ⟨by omega, by omega, by omega⟩, ⟨by omega, by omega, by omega⟩, by omega, by omega, by omega⟩)
  go_upto_region 2 with fail
  generalize w3.alloc (.cells #[.bool pv, .slice none 0 0] 24) = w4 at *
  generalize hb2 : W.heap.size = n2 at *
  generalize hb3 : n2 + 1 = n3 at *
  generalize hb4 : w3.heap.size = n4 at *
  generalize n4 + 1 = B at *
  clear hr3 hk3 HX2 HY2 HK2 HR2 HX3 HY3 HK3 hsz3 b4 Hsz2 hb2 hb3 hb4
  go_loopw [5] (fun _ wr => ∃ (p cap : Nat) (q : Option Addr) (acc : List St), p ≤ s.size ∧ acc.length ≤ 256 ∧ Hid (nx s p acc = rdS s) ∧ SeS W0 W rb s B n2 n3 n4 pv p q cap acc wr) (fun _ wr => s.size + 1 - rdPos rb wr)
  case atStart => exact ⟨a0S s, 0, none, [], unhide Ha0, by simp, H0, unhide HS⟩
  case round =>
    clear HS H0 Ha0 Hpa
    obtain ⟨p, cap, q, acc, hp, hl, Hnx, hS⟩ := hrel
    have HS := hide hS
    have HW := hide hS.pos
    obtain ⟨n, hn⟩ : ∃ n, n = acc.length := ⟨_, rfl⟩
    have Hn := hide hn
    obtain ⟨-, ⟨-, -, ⟨-, e0, e1⟩, -⟩, -, -⟩ := hS
    rw [← hn] at e1
    by_cases ha : acc = []
    · have HE := hide (show rst s p acc = rdS s by
        rw [← unhide Hnx, ha]
        rfl)
      have z0 : ((n : Int) == 0) = true := by rw [hn, ha]; rfl
      have HP1 := hp
      clear hn hp ha Hnx
      obtain ⟨⟨⟨-, ⟨c0, c1⟩, -, -⟩, -⟩, -, -⟩ := unhide HS
      go_wp2_with fail
      by_cases he : (spE s p).1 = 0
      · refine (unhide HSp wr p _ _ _ _ _ HP1 (unhide HS).1.1 (sp_good he)).mono ?_
        rintro e w5 ⟨rfl, hr5, hk5⟩
        have HS5 := hide ((unhide HS).but (unhide HO) hk5 hr5)
        have hat := sp_at he
        have Hst := hide (fun hl : acc.length ≠ 256 => show rdS s = nx s (spV s p).2 (acc ++ [((spV s p).1.1, (spV s p).1.2)]) by rw [← unhide HE]; exact nx_step HP1 he hl)
        have Hmy := hide (fun hl : acc.length = 256 => show rdS s = (5, p, acc) by rw [← unhide HE]; exact rst_many HP1 he hl)
        clear hr5 hk5 he c0 c1 HE
        go_upto_region 5 with fail
        generalize (spV s p).1.1 = v1 at *
        generalize (spV s p).1.2 = v2 at *
        generalize (spV s p).2 = pn at *
        have b6 := bnew w5 (.cells #[.int .i64 v1, .int .i64 v2] 45)
        have b7 := bnew (w5.alloc (.cells #[.int .i64 v1, .int .i64 v2] 45)) (.cells #[.int .i64 0, .int .i64 0] 27)
        have HS7 := hide (((unhide HS5).keep b6).keep b7)
        have HB6 := hide ((B2.new w5 v1 v2 45).keep b7)
        have HB7 := hide (B2.new (w5.alloc (.cells #[.int .i64 v1, .int .i64 v2] 45)) 0 0 27)
        rw [show (w5.alloc (.cells #[.int .i64 v1, .int .i64 v2] 45)).heap.size = w5.heap.size + 1 by simp] at HB7
        clear b6 b7 HS5
        generalize (w5.alloc (.cells #[.int .i64 v1, .int .i64 v2] 45)).alloc (.cells #[.int .i64 0, .int .i64 0] 27) = w7 at *
        generalize w5.heap.size = n6 at *
        generalize n6 + 1 = n7 at *
        obtain ⟨-, t0, t1⟩ := unhide HB6
        obtain ⟨-, s0, s1⟩ := unhide HB7
        by_cases h256 : acc.length = 256
        · have Hr := hide (unhide Hmy h256)
          have z9 : ((n : Int) == 256) = true := by rw [unhide Hn, h256]; rfl
          have HS8 := HS7
          clear z0 h256 t0 t1 Hst Hmy
          obtain ⟨-, ⟨-, -, ⟨⟨-, -, e1⟩, -⟩⟩, -, -⟩ := unhide HS8
          rw [← unhide Hn] at e1
          go_upto_region 8 with fail
          clear e1
          obtain ⟨U, hU, r1, r2, u0, u1, u2, u3, r3⟩ := (unhide HS8).fill (unhide HO) false (.slice none 0 0) 5 (p : Nat)
          obtain ⟨-, ⟨⟨⟨-, x0, x1⟩, fx⟩, ⟨⟨-, y0, y1⟩, fy⟩, ⟨⟨-, e0, e1⟩, -⟩⟩, -, -⟩ := unhide HS8
          have fx0 := fx 0
          have fx1 := fx 1
          have fy0 := fy 0
          have fy1 := fy 1
          have R1 := hide r1
          have R2 := hide r2
          have R3 := hide r3
          obtain ⟨-, -, -, -, nn1, -, -⟩ := unhide HO
          have nn2 := nn1.symm
          clear r1 r2 r3 fx fy
          go_wp2
          refine bodyPost_ret (v := .tuple #[sV false none 0 0, .agg #[.int .i64 (5), .int .i64 (((p : Nat) : Int))]]) (by simp [results, Tryd.results20, sV, go_sem, u0, u1, u2, u3]) rfl ?_
          exact unhide Hbad _ _ 5 p (rdE_bad (unhide Hr) (by decide)) (by decide) (unhide R1) (unhide R2)

        · have Hr := hide (unhide Hst h256)
          have z9 : ((n : Int) == 256) = false := by
            have := unhide Hn
            simp
            omega
          have n9 : n ≤ 256 := by rw [unhide Hn]; exact hl
          have n8 : n + 1 ≤ 256 := by
            have := unhide Hn
            omega
          have h4 : (acc ++ [(v1, v2)]).length = n + 1 := by rw [List.length_append, unhide Hn]; rfl
          have Hln := hide h4
          have Lr := hide (own_lit (B := B) (e := 45) (z := 2) (k := 1) w7 #[.int .i64 v1, .int .i64 v2] (unhide HS7).2.2.2 (by unfold maxLen; omega) rfl)
          have HS8 := hide ((unhide HS7).keep (bnew w7 (.cells #[.int .i64 v1, .int .i64 v2] 45)))
          have Hrow := hide (show (w7.alloc (.cells #[.int .i64 v1, .int .i64 v2] 45)).ownsRow B 45 2 (.slice q n cap) n (stV acc) by
            have h := (unhide HS8).2.2.1
            unfold SR at h
            rw [← unhide Hn] at h
            exact h)
          have HB8 := hide (show B ≤ (w7.alloc (.cells #[.int .i64 v1, .int .i64 v2] 45)).heap.size from (unhide HS8).2.2.2)
          have Hone := hide (stV_one [(v1, v2)])
          have Hap := hide (show stV (acc ++ [(v1, v2)]) = stV acc ++ [.int .i64 v1, .int .i64 v2] from stV_app acc [(v1, v2)])
          obtain ⟨-, ⟨-, -, ⟨⟨-, e0, e1⟩, -⟩⟩, -, -⟩ := unhide HS7
          rw [← unhide Hn] at e1
          clear z0 h256 h4 Hst Hmy
          go_wp2_with (at_builtin; refine wl_app rfl rfl Tryd.underlying22 info45 rfl (by decide) (B := B) (C := B) (n := n) (m := 1) rfl rfl (unhide Hrow) (unhide Lr) (unhide Hone) (by unfold maxLen; omega) (by omega) (unhide HB8) ?_)
          intro v5 w8 ho5 hg5 he5
          rw [← unhide Hap] at ho5
          obtain ⟨q5, cap5, rfl⟩ := own_form ho5
          rw [unhide Hn] at hg5
          have HN := (unhide HS8).step (acc' := acc ++ [(v1, v2)]) (cap' := cap5) (q' := q5) (unhide HO) (by unfold SR; rw [unhide Hln]; exact ho5) hg5
          rw [unhide Hln] at HN
          obtain ⟨HN1, k1, f1⟩ := HN
          rw [← unhide Hn] at k1
          have HN2 := hide HN1
          clear ho5 hg5 he5 HN1 e0 e1 Hrow Lr HS7 HS8 t0 t1 s0 s1
          go_wp2
          go_roundw
          case rel => exact ⟨pn, cap5, q5, acc ++ [(v1, v2)], hat.2, by rw [unhide Hln]; exact n8, hide (unhide Hr).symm, unhide HN2⟩
          case measure =>
            rw [rdPos_of (unhide HN2).pos, rdPos_of (unhide HW)]
            omega
      · refine (unhide HSp wr p _ _ _ _ _ HP1 (unhide HS).1.1 (sp_bad he)).mono ?_
        rintro e w5 ⟨rfl, hr5, hk5⟩
        have HS5 := hide ((unhide HS).but (unhide HO) hk5 hr5)
        have Hr := hide (show rdS s = ((spE s p).1, (spE s p).2, acc) by rw [← unhide HE]; exact rst_bad HP1 he)
        clear hr5 hk5 c0 c1 HE
        go_upto_region 5 with fail
        generalize hge : (spE s p).1 = ge at *
        generalize (spE s p).2 = ga at *
        have He := hide he
        have z9 : (ge != (0 : Int)) = true := by simpa using he
        clear hge he z0
        have b6 := bnew w5 (.cells #[.int .i64 0, .int .i64 0] 45)
        have b7 := bnew (w5.alloc (.cells #[.int .i64 0, .int .i64 0] 45)) (.cells #[.int .i64 ge, .int .i64 (ga : Int)] 27)
        have HS7 := hide (((unhide HS5).keep b6).keep b7)
        have HB7 := hide (B2.new (w5.alloc (.cells #[.int .i64 0, .int .i64 0] 45)) ge (ga : Int) 27)
        rw [show (w5.alloc (.cells #[.int .i64 0, .int .i64 0] 45)).heap.size = w5.heap.size + 1 by simp] at HB7
        have Hge := hide (show B ≤ w5.heap.size from (unhide HS5).2.2.2)
        clear b6 b7 HS5
        generalize (w5.alloc (.cells #[.int .i64 0, .int .i64 0] 45)).alloc (.cells #[.int .i64 ge, .int .i64 (ga : Int)] 27) = w7 at *
        generalize hn6 : w5.heap.size = n6 at *
        obtain ⟨n7, hn7⟩ : ∃ n7, n7 = n6 + 1 := ⟨_, rfl⟩
        rw [← hn7] at HB7 ⊢
        have Hn7 := hide hn7
        clear hn6 hn7
        obtain ⟨-, s0, s1⟩ := unhide HB7
        go_upto_region 6 with fail
        clear s0 s1
        have Hne := hide (show n7 ≠ n2 ∧ n7 ≠ n3 from by
          obtain ⟨-, -, -, ⟨k1, k2, k3⟩, -⟩ := unhide HO
          have := unhide Hge
          have := unhide Hn7
          omega)
        refine wp_region_noPanic ?_
        have hS := (unhide HB7).keep (bdrew w7)
        have HS9 := hide ((unhide HS7).keep (bdrew w7))
        clear HS7 HB7
        refine wp_region_held_drew (S := fun V => B2 V n7 ge (ga : Int)) (by kernel_rfl) (hS) ?_
        intro _
        generalize w7.drew = w8 at *
        refine wpAnyH_take (i := 0) (oi := _) (v := .agg #[.bool false, .slice none 0 0]) g4_0 (by kernel_rfl) (by kernel_rfl) (by kernel_rfl) (fun _ _ _ h => h) (Or.inl ⟨by rfl, ?_⟩) (by assumption) ?_
        · intro V hSw
          try dsimp only at hSw
          go_simp
        simp only [Act.put, List.setIfInBounds_toArray, List.set_cons_zero, List.set_cons_succ]
        refine wpAnyH_take (i := 1) (oi := _) (v := .agg #[.int .i64 ge, .int .i64 (ga : Int)]) g4_1 (by kernel_rfl) (by kernel_rfl) (by kernel_rfl) (fun _ _ _ h => h) (Or.inl ⟨by rfl, ?_⟩) (by assumption) ?_
        · intro V hSw
          try dsimp only at hSw
          obtain ⟨-, s0, s1⟩ := hSw
          go_simp
        simp only [Act.put, List.setIfInBounds_toArray, List.set_cons_zero, List.set_cons_succ]

        have HS8 := HS9
        obtain ⟨U, hU, r1, r2, u0, u1, u2, u3, r3⟩ := (unhide HS8).fill (unhide HO) false (.slice none 0 0) ge (ga : Nat)
        obtain ⟨-, ⟨⟨⟨-, x0, x1⟩, fx⟩, ⟨⟨-, y0, y1⟩, fy⟩, -⟩, -, -⟩ := unhide HS8
        have fx0 := fx 0
        have fx1 := fx 1
        have fy0 := fy 0
        have fy1 := fy 1
        have R1 := hide r1
        have R2 := hide r2
        obtain ⟨-, -, -, -, nn1, -, -⟩ := unhide HO
        have nn2 := nn1.symm
        have hS2 : B2 ((w8.setCell ⟨n2, 0, none⟩ (.bool false)).setCell ⟨n2, 1, none⟩ (.slice none 0 0)) n7 ge (ga : Int) := ⟨by simpa using hS.1, cnot (cnot hS.2.1 (unhide Hne).1) (unhide Hne).1, cnot (cnot hS.2.2 (unhide Hne).1) (unhide Hne).1⟩
        have hS3 : B2 U n7 ge (ga : Int) := by
          rw [← hU]
          exact ⟨by simpa using hS2.1, cnot (cnot hS2.2.1 (unhide Hne).2) (unhide Hne).2, cnot (cnot hS2.2.2 (unhide Hne).2) (unhide Hne).2⟩
        clear r1 r2 r3 fx fy
        refine wpAnyH_ready (rs := [2]) (by kernel_rfl) (by simp) ?_
        refine AllReadyH.cons (o := _) g4_2 (fun K hK => ?_) AllReadyH.nil
        go_simp
        refine hK.out _ _ (hS2) (fun _ => ?_)
        clear hK K
        refine wpAnyH_ready (rs := [3]) (by kernel_rfl) (by simp) ?_
        refine AllReadyH.cons (o := _) g4_3 (fun K hK => ?_) AllReadyH.nil
        go_simp
        refine hK.out _ _ (hS3) (fun _ => ?_)
        clear hK K
        refine wpAnyH_done (by kernel_rfl) ?_ _
        refine NoPanic.normal ?_
        go_wp2
        refine bodyPost_ret (v := .tuple #[sV false none 0 0, .agg #[.int .i64 (ge), .int .i64 ((ga : Int))]]) (by simp [results, Tryd.results20, sV, go_sem, u0, u1, u2, u3]) rfl ?_
        exact unhide Hbad _ _ ge ga (rdE_bad (unhide Hr) (unhide He)) (unhide He) (unhide R1) (unhide R2)

    · have hnx := unhide Hnx
      unfold nx at hnx
      rw [if_neg ha] at hnx
      have z0 : ((n : Int) == 0) = false := by
        have : acc.length ≠ 0 := fun e => ha (List.eq_nil_of_length_eq_zero e)
        simp
        omega
      clear hn ha Hnx
      cases hb : by1 s p 32 with
      | true =>
        rw [hb, if_pos rfl] at hnx
        have hlt := by1_lt hb
        have HT1 := hide (unhide HTk wr p 32 hp (unhide HS).1.1)
        rw [hb] at HT1
        obtain ⟨p1, hp1⟩ : ∃ p1, p1 = p + 1 := ⟨_, rfl⟩
        rw [← hp1] at hnx
        have HE := hide hnx
        have HP1 : p1 ≤ s.size := by omega
        have Hp1 := hide hp1
        clear hnx hb hp1
        go_wp2_with fail
        refine (unhide HT1).mono ?_
        rintro e w1 ⟨rfl, hr1, hk1⟩
        rw [if_pos rfl, ← unhide Hp1] at hr1
        have HS1 := hide ((unhide HS).but (unhide HO) hk1 hr1)
        clear hr1 hk1 HT1 HS e0 e1
        have hpp : p ≤ p1 := by rw [unhide Hp1]; omega
        obtain ⟨⟨⟨-, ⟨c0, c1⟩, -, -⟩, -⟩, -, -⟩ := unhide HS1
        go_wp2_with fail
        by_cases he : (spE s p1).1 = 0
        · refine (unhide HSp w1 p1 _ _ _ _ _ HP1 (unhide HS1).1.1 (sp_good he)).mono ?_
          rintro e w5 ⟨rfl, hr5, hk5⟩
          have HS5 := hide ((unhide HS1).but (unhide HO) hk5 hr5)
          have hat := sp_at he
          have Hst := hide (fun hl : acc.length ≠ 256 => show rdS s = nx s (spV s p1).2 (acc ++ [((spV s p1).1.1, (spV s p1).1.2)]) by rw [← unhide HE]; exact nx_step HP1 he hl)
          have Hmy := hide (fun hl : acc.length = 256 => show rdS s = (5, p1, acc) by rw [← unhide HE]; exact rst_many HP1 he hl)
          clear hr5 hk5 he c0 c1 HE
          go_upto_region 5 with fail
          generalize (spV s p1).1.1 = v1 at *
          generalize (spV s p1).1.2 = v2 at *
          generalize (spV s p1).2 = pn at *
          have b6 := bnew w5 (.cells #[.int .i64 v1, .int .i64 v2] 45)
          have b7 := bnew (w5.alloc (.cells #[.int .i64 v1, .int .i64 v2] 45)) (.cells #[.int .i64 0, .int .i64 0] 27)
          have HS7 := hide (((unhide HS5).keep b6).keep b7)
          have HB6 := hide ((B2.new w5 v1 v2 45).keep b7)
          have HB7 := hide (B2.new (w5.alloc (.cells #[.int .i64 v1, .int .i64 v2] 45)) 0 0 27)
          rw [show (w5.alloc (.cells #[.int .i64 v1, .int .i64 v2] 45)).heap.size = w5.heap.size + 1 by simp] at HB7
          clear b6 b7 HS5
          generalize (w5.alloc (.cells #[.int .i64 v1, .int .i64 v2] 45)).alloc (.cells #[.int .i64 0, .int .i64 0] 27) = w7 at *
          generalize w5.heap.size = n6 at *
          generalize n6 + 1 = n7 at *
          obtain ⟨-, t0, t1⟩ := unhide HB6
          obtain ⟨-, s0, s1⟩ := unhide HB7
          by_cases h256 : acc.length = 256
          · have Hr := hide (unhide Hmy h256)
            have z9 : ((n : Int) == 256) = true := by rw [unhide Hn, h256]; rfl
            have HS8 := HS7
            clear z0 h256 t0 t1 Hst Hmy
            obtain ⟨-, ⟨-, -, ⟨⟨-, -, e1⟩, -⟩⟩, -, -⟩ := unhide HS8
            rw [← unhide Hn] at e1
            go_upto_region 8 with fail
            clear e1
            obtain ⟨U, hU, r1, r2, u0, u1, u2, u3, r3⟩ := (unhide HS8).fill (unhide HO) false (.slice none 0 0) 5 (p1 : Nat)
            obtain ⟨-, ⟨⟨⟨-, x0, x1⟩, fx⟩, ⟨⟨-, y0, y1⟩, fy⟩, ⟨⟨-, e0, e1⟩, -⟩⟩, -, -⟩ := unhide HS8
            have fx0 := fx 0
            have fx1 := fx 1
            have fy0 := fy 0
            have fy1 := fy 1
            have R1 := hide r1
            have R2 := hide r2
            have R3 := hide r3
            obtain ⟨-, -, -, -, nn1, -, -⟩ := unhide HO
            have nn2 := nn1.symm
            clear r1 r2 r3 fx fy
            go_wp2
            refine bodyPost_ret (v := .tuple #[sV false none 0 0, .agg #[.int .i64 (5), .int .i64 (((p1 : Nat) : Int))]]) (by simp [results, Tryd.results20, sV, go_sem, u0, u1, u2, u3]) rfl ?_
            exact unhide Hbad _ _ 5 p1 (rdE_bad (unhide Hr) (by decide)) (by decide) (unhide R1) (unhide R2)

          · have Hr := hide (unhide Hst h256)
            have z9 : ((n : Int) == 256) = false := by
              have := unhide Hn
              simp
              omega
            have n9 : n ≤ 256 := by rw [unhide Hn]; exact hl
            have n8 : n + 1 ≤ 256 := by
              have := unhide Hn
              omega
            have h4 : (acc ++ [(v1, v2)]).length = n + 1 := by rw [List.length_append, unhide Hn]; rfl
            have Hln := hide h4
            have Lr := hide (own_lit (B := B) (e := 45) (z := 2) (k := 1) w7 #[.int .i64 v1, .int .i64 v2] (unhide HS7).2.2.2 (by unfold maxLen; omega) rfl)
            have HS8 := hide ((unhide HS7).keep (bnew w7 (.cells #[.int .i64 v1, .int .i64 v2] 45)))
            have Hrow := hide (show (w7.alloc (.cells #[.int .i64 v1, .int .i64 v2] 45)).ownsRow B 45 2 (.slice q n cap) n (stV acc) by
              have h := (unhide HS8).2.2.1
              unfold SR at h
              rw [← unhide Hn] at h
              exact h)
            have HB8 := hide (show B ≤ (w7.alloc (.cells #[.int .i64 v1, .int .i64 v2] 45)).heap.size from (unhide HS8).2.2.2)
            have Hone := hide (stV_one [(v1, v2)])
            have Hap := hide (show stV (acc ++ [(v1, v2)]) = stV acc ++ [.int .i64 v1, .int .i64 v2] from stV_app acc [(v1, v2)])
            obtain ⟨-, ⟨-, -, ⟨⟨-, e0, e1⟩, -⟩⟩, -, -⟩ := unhide HS7
            rw [← unhide Hn] at e1
            clear z0 h256 h4 Hst Hmy
            go_wp2_with (at_builtin; refine wl_app rfl rfl Tryd.underlying22 info45 rfl (by decide) (B := B) (C := B) (n := n) (m := 1) rfl rfl (unhide Hrow) (unhide Lr) (unhide Hone) (by unfold maxLen; omega) (by omega) (unhide HB8) ?_)
            intro v5 w8 ho5 hg5 he5
            rw [← unhide Hap] at ho5
            obtain ⟨q5, cap5, rfl⟩ := own_form ho5
            rw [unhide Hn] at hg5
            have HN := (unhide HS8).step (acc' := acc ++ [(v1, v2)]) (cap' := cap5) (q' := q5) (unhide HO) (by unfold SR; rw [unhide Hln]; exact ho5) hg5
            rw [unhide Hln] at HN
            obtain ⟨HN1, k1, f1⟩ := HN
            rw [← unhide Hn] at k1
            have HN2 := hide HN1
            clear ho5 hg5 he5 HN1 e0 e1 Hrow Lr HS7 HS8 t0 t1 s0 s1
            go_wp2
            go_roundw
            case rel => exact ⟨pn, cap5, q5, acc ++ [(v1, v2)], hat.2, by rw [unhide Hln]; exact n8, hide (unhide Hr).symm, unhide HN2⟩
            case measure =>
              rw [rdPos_of (unhide HN2).pos, rdPos_of (unhide HW)]
              omega
        · refine (unhide HSp w1 p1 _ _ _ _ _ HP1 (unhide HS1).1.1 (sp_bad he)).mono ?_
          rintro e w5 ⟨rfl, hr5, hk5⟩
          have HS5 := hide ((unhide HS1).but (unhide HO) hk5 hr5)
          have Hr := hide (show rdS s = ((spE s p1).1, (spE s p1).2, acc) by rw [← unhide HE]; exact rst_bad HP1 he)
          clear hr5 hk5 c0 c1 HE
          go_upto_region 5 with fail
          generalize hge : (spE s p1).1 = ge at *
          generalize (spE s p1).2 = ga at *
          have He := hide he
          have z9 : (ge != (0 : Int)) = true := by simpa using he
          clear hge he z0
          have b6 := bnew w5 (.cells #[.int .i64 0, .int .i64 0] 45)
          have b7 := bnew (w5.alloc (.cells #[.int .i64 0, .int .i64 0] 45)) (.cells #[.int .i64 ge, .int .i64 (ga : Int)] 27)
          have HS7 := hide (((unhide HS5).keep b6).keep b7)
          have HB7 := hide (B2.new (w5.alloc (.cells #[.int .i64 0, .int .i64 0] 45)) ge (ga : Int) 27)
          rw [show (w5.alloc (.cells #[.int .i64 0, .int .i64 0] 45)).heap.size = w5.heap.size + 1 by simp] at HB7
          have Hge := hide (show B ≤ w5.heap.size from (unhide HS5).2.2.2)
          clear b6 b7 HS5
          generalize (w5.alloc (.cells #[.int .i64 0, .int .i64 0] 45)).alloc (.cells #[.int .i64 ge, .int .i64 (ga : Int)] 27) = w7 at *
          generalize hn6 : w5.heap.size = n6 at *
          obtain ⟨n7, hn7⟩ : ∃ n7, n7 = n6 + 1 := ⟨_, rfl⟩
          rw [← hn7] at HB7 ⊢
          have Hn7 := hide hn7
          clear hn6 hn7
          obtain ⟨-, s0, s1⟩ := unhide HB7
          go_upto_region 6 with fail
          clear s0 s1
          have Hne := hide (show n7 ≠ n2 ∧ n7 ≠ n3 from by
            obtain ⟨-, -, -, ⟨k1, k2, k3⟩, -⟩ := unhide HO
            have := unhide Hge
            have := unhide Hn7
            omega)
          refine wp_region_noPanic ?_
          have hS := (unhide HB7).keep (bdrew w7)
          have HS9 := hide ((unhide HS7).keep (bdrew w7))
          clear HS7 HB7
          refine wp_region_held_drew (S := fun V => B2 V n7 ge (ga : Int)) (by kernel_rfl) (hS) ?_
          intro _
          generalize w7.drew = w8 at *
          refine wpAnyH_take (i := 0) (oi := _) (v := .agg #[.bool false, .slice none 0 0]) g4_0 (by kernel_rfl) (by kernel_rfl) (by kernel_rfl) (fun _ _ _ h => h) (Or.inl ⟨by rfl, ?_⟩) (by assumption) ?_
          · intro V hSw
            try dsimp only at hSw
            go_simp
          simp only [Act.put, List.setIfInBounds_toArray, List.set_cons_zero, List.set_cons_succ]
          refine wpAnyH_take (i := 1) (oi := _) (v := .agg #[.int .i64 ge, .int .i64 (ga : Int)]) g4_1 (by kernel_rfl) (by kernel_rfl) (by kernel_rfl) (fun _ _ _ h => h) (Or.inl ⟨by rfl, ?_⟩) (by assumption) ?_
          · intro V hSw
            try dsimp only at hSw
            obtain ⟨-, s0, s1⟩ := hSw
            go_simp
          simp only [Act.put, List.setIfInBounds_toArray, List.set_cons_zero, List.set_cons_succ]

          have HS8 := HS9
          obtain ⟨U, hU, r1, r2, u0, u1, u2, u3, r3⟩ := (unhide HS8).fill (unhide HO) false (.slice none 0 0) ge (ga : Nat)
          obtain ⟨-, ⟨⟨⟨-, x0, x1⟩, fx⟩, ⟨⟨-, y0, y1⟩, fy⟩, -⟩, -, -⟩ := unhide HS8
          have fx0 := fx 0
          have fx1 := fx 1
          have fy0 := fy 0
          have fy1 := fy 1
          have R1 := hide r1
          have R2 := hide r2
          obtain ⟨-, -, -, -, nn1, -, -⟩ := unhide HO
          have nn2 := nn1.symm
          have hS2 : B2 ((w8.setCell ⟨n2, 0, none⟩ (.bool false)).setCell ⟨n2, 1, none⟩ (.slice none 0 0)) n7 ge (ga : Int) := ⟨by simpa using hS.1, cnot (cnot hS.2.1 (unhide Hne).1) (unhide Hne).1, cnot (cnot hS.2.2 (unhide Hne).1) (unhide Hne).1⟩
          have hS3 : B2 U n7 ge (ga : Int) := by
            rw [← hU]
            exact ⟨by simpa using hS2.1, cnot (cnot hS2.2.1 (unhide Hne).2) (unhide Hne).2, cnot (cnot hS2.2.2 (unhide Hne).2) (unhide Hne).2⟩
          clear r1 r2 r3 fx fy
          refine wpAnyH_ready (rs := [2]) (by kernel_rfl) (by simp) ?_
          refine AllReadyH.cons (o := _) g4_2 (fun K hK => ?_) AllReadyH.nil
          go_simp
          refine hK.out _ _ (hS2) (fun _ => ?_)
          clear hK K
          refine wpAnyH_ready (rs := [3]) (by kernel_rfl) (by simp) ?_
          refine AllReadyH.cons (o := _) g4_3 (fun K hK => ?_) AllReadyH.nil
          go_simp
          refine hK.out _ _ (hS3) (fun _ => ?_)
          clear hK K
          refine wpAnyH_done (by kernel_rfl) ?_ _
          refine NoPanic.normal ?_
          go_wp2
          refine bodyPost_ret (v := .tuple #[sV false none 0 0, .agg #[.int .i64 (ge), .int .i64 ((ga : Int))]]) (by simp [results, Tryd.results20, sV, go_sem, u0, u1, u2, u3]) rfl ?_
          exact unhide Hbad _ _ ge ga (rdE_bad (unhide Hr) (unhide He)) (unhide He) (unhide R1) (unhide R2)

      | false =>
        rw [hb, if_neg (by decide)] at hnx
        have HT1 := hide (unhide HTk wr p 32 hp (unhide HS).1.1)
        rw [hb] at HT1
        have HE := hide hnx.symm
        clear hnx hb
        go_wp2_with fail
        refine (unhide HT1).mono ?_
        rintro e w1 ⟨rfl, hr1, hk1⟩
        rw [if_neg (by decide)] at hr1
        have HS1 := hide ((unhide HS).but (unhide HO) hk1 hr1)
        clear hr1 hk1 HT1 HS e0 e1
        go_upto_region 10 with fail
        have Hd := hide (show rdE s = if pv = true then (if by1 s p 47 = true then (if p + 1 < s.size then (2, p + 1) else (0, 0)) else (2, p)) else (if p < s.size then (2, p) else (0, 0)) by
          rw [unhide Hpv]
          exact rdE_go (unhide HE))
        cases pv with
        | false =>
          refine wp_region_noPanic ?_
          have HS9 := hide ((unhide HS1).keep (bdrew w1))
          have hS : (∃ pp, Rdr W0 rb s pp w1.drew) ∧ BSx w1.drew n4 false (.slice q n cap) := ⟨⟨p, (unhide HS9).1.1⟩, by rw [unhide Hn]; exact (unhide HS9).2.1.2.2⟩
          clear HS1
          refine wp_region_held_drew (S := fun V => (∃ pp, Rdr W0 rb s pp V) ∧ BSx V n4 false (.slice q n cap)) (by kernel_rfl) (hS) ?_
          intro _
          generalize w1.drew = w2 at *
          refine wpAnyH_take (i := 0) (oi := _) (v := .pointer (some ⟨n4, 0, none⟩)) g19_0 (by kernel_rfl) (by kernel_rfl) (by kernel_rfl) (fun _ _ _ h => h) (Or.inl ⟨by rfl, ?_⟩) (by assumption) ?_
          · intro V hSw
            try dsimp only at hSw
            go_simp
          simp only [Act.put, List.setIfInBounds_toArray, List.set_cons_zero, List.set_cons_succ]
          refine wpAnyH_take (i := 1) (oi := _) (v := .bool false) g19_1 (by kernel_rfl) (by kernel_rfl) (by kernel_rfl) (fun _ _ _ h => h) (Or.inl ⟨by rfl, ?_⟩) (by assumption) ?_
          · intro V hSw
            try dsimp only at hSw
            obtain ⟨-, ⟨⟨-, i0, i1⟩, -⟩⟩ := hSw
            go_simp
          simp only [Act.put, List.setIfInBounds_toArray, List.set_cons_zero, List.set_cons_succ]
          refine wpAnyH_take (i := 2) (oi := _) (v := .bool false) g19_2 (by kernel_rfl) (by kernel_rfl) (by kernel_rfl) (fun _ _ _ h => h) (Or.inl ⟨by rfl, ?_⟩) (by assumption) ?_
          · intro V hSw
            try dsimp only at hSw
            go_simp
          simp only [Act.put, List.setIfInBounds_toArray, List.set_cons_zero, List.set_cons_succ]
          refine wpAnyH_take (i := 3) (oi := _) (v := undef) g19_3 (by kernel_rfl) (by kernel_rfl) (by kernel_rfl) (fun _ _ _ h => h) (Or.inr ⟨by rfl, rfl⟩) (by assumption) ?_
          simp only [Act.put, List.setIfInBounds_toArray, List.set_cons_zero, List.set_cons_succ]
          refine wpAnyH_take (i := 4) (oi := _) (v := undef) g19_4 (by kernel_rfl) (by kernel_rfl) (by kernel_rfl) (fun _ _ _ h => h) (Or.inr ⟨by rfl, rfl⟩) (by assumption) ?_
          simp only [Act.put, List.setIfInBounds_toArray, List.set_cons_zero, List.set_cons_succ]
          refine wpAnyH_take (i := 5) (oi := _) (v := undef) g19_5 (by kernel_rfl) (by kernel_rfl) (by kernel_rfl) (fun _ _ _ h => h) (Or.inr ⟨by rfl, rfl⟩) (by assumption) ?_
          simp only [Act.put, List.setIfInBounds_toArray, List.set_cons_zero, List.set_cons_succ]
          refine wpAnyH_take (i := 6) (oi := _) (v := .bool false) g19_6 (by kernel_rfl) (by kernel_rfl) (by kernel_rfl) (fun _ _ _ h => h) (Or.inl ⟨by rfl, ?_⟩) (by assumption) ?_
          · intro V hSw
            try dsimp only at hSw
            go_simp
          simp only [Act.put, List.setIfInBounds_toArray, List.set_cons_zero, List.set_cons_succ]
          refine wpAnyH_take (i := 7) (oi := _) (v := .bool false) g19_7 (by kernel_rfl) (by kernel_rfl) (by kernel_rfl) (fun _ _ _ h => h) (Or.inl ⟨by rfl, ?_⟩) (by assumption) ?_
          · intro V hSw
            try dsimp only at hSw
            go_simp
          simp only [Act.put, List.setIfInBounds_toArray, List.set_cons_zero, List.set_cons_succ]
          by_cases hlt : p < s.size
          · have hd := unhide Hd
            rw [if_neg (by decide), if_pos hlt] at hd
            have HD := hide hd
            have q9 : (p : Int) < (s.size : Int) := by omega
            clear hd hlt
            refine wpAnyH_take (i := 8) (oi := _) (v := .pointer (some ⟨rb, 0, none⟩)) g19_8 (by kernel_rfl) (by kernel_rfl) (by kernel_rfl) (fun _ _ _ h => h) (Or.inl ⟨by rfl, ?_⟩) (by assumption) ?_
            · intro V hSw
              try dsimp only at hSw
              go_simp
            simp only [Act.put, List.setIfInBounds_toArray, List.set_cons_zero, List.set_cons_succ]
            refine wpAnyH_take (i := 9) (oi := _) (v := .pointer (some ⟨rb, 0, none⟩)) g19_9 (by kernel_rfl) (by kernel_rfl) (by kernel_rfl) (fun _ _ _ h => h) (Or.inl ⟨by rfl, ?_⟩) (by assumption) ?_
            · intro V hSw
              try dsimp only at hSw
              go_simp
            simp only [Act.put, List.setIfInBounds_toArray, List.set_cons_zero, List.set_cons_succ]
            refine wpAnyH_take (i := 10) (oi := _) (v := .pointer (some ⟨rb, 1, none⟩)) g19_10 (by kernel_rfl) (by kernel_rfl) (by kernel_rfl) (fun _ _ _ h => h) (Or.inl ⟨by rfl, ?_⟩) (by assumption) ?_
            · intro V hSw
              try dsimp only at hSw
              go_simp
            simp only [Act.put, List.setIfInBounds_toArray, List.set_cons_zero, List.set_cons_succ]
            refine wpAnyH_take (i := 12) (oi := _) (v := .pointer (some ⟨rb, 0, none⟩)) g19_12 (by kernel_rfl) (by kernel_rfl) (by kernel_rfl) (fun _ _ _ h => h) (Or.inl ⟨by rfl, ?_⟩) (by assumption) ?_
            · intro V hSw
              try dsimp only at hSw
              go_simp
            simp only [Act.put, List.setIfInBounds_toArray, List.set_cons_zero, List.set_cons_succ]
            refine wpAnyH_take (i := 13) (oi := _) (v := .pointer (some ⟨rb, 0, none⟩)) g19_13 (by kernel_rfl) (by kernel_rfl) (by kernel_rfl) (fun _ _ _ h => h) (Or.inl ⟨by rfl, ?_⟩) (by assumption) ?_
            · intro V hSw
              try dsimp only at hSw
              go_simp
            simp only [Act.put, List.setIfInBounds_toArray, List.set_cons_zero, List.set_cons_succ]
            refine wpAnyH_take (i := 14) (oi := _) (v := .pointer (some ⟨rb, 0, none⟩)) g19_14 (by kernel_rfl) (by kernel_rfl) (by kernel_rfl) (fun _ _ _ h => h) (Or.inl ⟨by rfl, ?_⟩) (by assumption) ?_
            · intro V hSw
              try dsimp only at hSw
              go_simp
            simp only [Act.put, List.setIfInBounds_toArray, List.set_cons_zero, List.set_cons_succ]
            refine wpAnyH_take (i := 15) (oi := _) (v := .string s) g19_15 (by kernel_rfl) (by kernel_rfl) (by kernel_rfl) (fun _ _ _ h => h) (Or.inl ⟨by rfl, ?_⟩) (by assumption) ?_
            · intro V hSw
              try dsimp only at hSw
              obtain ⟨⟨_, -, ⟨i0, i1⟩, -, -⟩, -⟩ := hSw
              go_simp
            simp only [Act.put, List.setIfInBounds_toArray, List.set_cons_zero, List.set_cons_succ]
            refine wpAnyH_take (i := 16) (oi := _) (v := .int .i64 (s.size : Int)) g19_16 (by kernel_rfl) (by kernel_rfl) (by kernel_rfl) (fun _ _ _ h => h) (Or.inl ⟨by rfl, ?_⟩) (by assumption) ?_
            · intro V hSw
              try dsimp only at hSw
              go_simp
            simp only [Act.put, List.setIfInBounds_toArray, List.set_cons_zero, List.set_cons_succ]
            obtain ⟨⟨⟨-, ⟨-, c1⟩, -, -⟩, -⟩, -, -⟩ := unhide HS9
            refine wpAnyH_ready (rs := [11]) (by kernel_rfl) (by simp) ?_
            refine AllReadyH.cons (o := _) g19_11 (fun K hK => ?_) AllReadyH.nil
            go_simp
            refine hK.out _ _ (hS) (fun _ => ?_)
            clear hK K c1
            refine wpAnyH_take (i := 17) (oi := _) (v := .bool true) g19_17 (by kernel_rfl) (by kernel_rfl) (by kernel_rfl) (fun _ _ _ h => h) (Or.inl ⟨by rfl, ?_⟩) (by assumption) ?_
            · intro V hSw
              try dsimp only at hSw
              go_simp
            simp only [Act.put, List.setIfInBounds_toArray, List.set_cons_zero, List.set_cons_succ]
            refine wpAnyH_take (i := 18) (oi := _) (v := .bool true) g19_18 (by kernel_rfl) (by kernel_rfl) (by kernel_rfl) (fun _ _ _ h => h) (Or.inl ⟨by rfl, ?_⟩) (by assumption) ?_
            · intro V hSw
              try dsimp only at hSw
              go_simp
            simp only [Act.put, List.setIfInBounds_toArray, List.set_cons_zero, List.set_cons_succ]
            refine wpAnyH_done (by kernel_rfl) ?_ _
            refine NoPanic.normal ?_
            clear hS
            have HC := hide (unhide HWr _ p 2 (unhide HS9).1.1)
            go_wp2_with fail
            refine (unhide HC).mono ?_
            rintro e w10 ⟨rfl, hb⟩
            have HS8 := hide ((unhide HS9).keep hb)
            clear hb HC HS9
            obtain ⟨U, hU, r1, r2, u0, u1, u2, u3, r3⟩ := (unhide HS8).fill (unhide HO) false (.slice none 0 0) 2 (p : Nat)
            obtain ⟨-, ⟨⟨⟨-, x0, x1⟩, fx⟩, ⟨⟨-, y0, y1⟩, fy⟩, ⟨⟨-, e0, e1⟩, -⟩⟩, -, -⟩ := unhide HS8
            have fx0 := fx 0
            have fx1 := fx 1
            have fy0 := fy 0
            have fy1 := fy 1
            have R1 := hide r1
            have R2 := hide r2
            have R3 := hide r3
            obtain ⟨-, -, -, -, nn1, -, -⟩ := unhide HO
            have nn2 := nn1.symm
            clear r1 r2 r3 fx fy
            go_wp2
            refine bodyPost_ret (v := .tuple #[sV false none 0 0, .agg #[.int .i64 (2), .int .i64 (((p : Nat) : Int))]]) (by simp [results, Tryd.results20, sV, go_sem, u0, u1, u2, u3]) rfl ?_
            exact unhide Hbad _ _ 2 p (unhide HD) (by decide) (unhide R1) (unhide R2)

          · have hd := unhide Hd
            rw [if_neg (by decide), if_neg hlt] at hd
            have HD := hide hd
            have q9 : ¬ ((p : Int) < (s.size : Int)) := by omega
            clear hd hlt
            refine wpAnyH_take (i := 8) (oi := _) (v := .pointer (some ⟨rb, 0, none⟩)) g19_8 (by kernel_rfl) (by kernel_rfl) (by kernel_rfl) (fun _ _ _ h => h) (Or.inl ⟨by rfl, ?_⟩) (by assumption) ?_
            · intro V hSw
              try dsimp only at hSw
              go_simp
            simp only [Act.put, List.setIfInBounds_toArray, List.set_cons_zero, List.set_cons_succ]
            refine wpAnyH_take (i := 9) (oi := _) (v := .pointer (some ⟨rb, 0, none⟩)) g19_9 (by kernel_rfl) (by kernel_rfl) (by kernel_rfl) (fun _ _ _ h => h) (Or.inl ⟨by rfl, ?_⟩) (by assumption) ?_
            · intro V hSw
              try dsimp only at hSw
              go_simp
            simp only [Act.put, List.setIfInBounds_toArray, List.set_cons_zero, List.set_cons_succ]
            refine wpAnyH_take (i := 10) (oi := _) (v := .pointer (some ⟨rb, 1, none⟩)) g19_10 (by kernel_rfl) (by kernel_rfl) (by kernel_rfl) (fun _ _ _ h => h) (Or.inl ⟨by rfl, ?_⟩) (by assumption) ?_
            · intro V hSw
              try dsimp only at hSw
              go_simp
            simp only [Act.put, List.setIfInBounds_toArray, List.set_cons_zero, List.set_cons_succ]
            refine wpAnyH_take (i := 12) (oi := _) (v := .pointer (some ⟨rb, 0, none⟩)) g19_12 (by kernel_rfl) (by kernel_rfl) (by kernel_rfl) (fun _ _ _ h => h) (Or.inl ⟨by rfl, ?_⟩) (by assumption) ?_
            · intro V hSw
              try dsimp only at hSw
              go_simp
            simp only [Act.put, List.setIfInBounds_toArray, List.set_cons_zero, List.set_cons_succ]
            refine wpAnyH_take (i := 13) (oi := _) (v := .pointer (some ⟨rb, 0, none⟩)) g19_13 (by kernel_rfl) (by kernel_rfl) (by kernel_rfl) (fun _ _ _ h => h) (Or.inl ⟨by rfl, ?_⟩) (by assumption) ?_
            · intro V hSw
              try dsimp only at hSw
              go_simp
            simp only [Act.put, List.setIfInBounds_toArray, List.set_cons_zero, List.set_cons_succ]
            refine wpAnyH_take (i := 14) (oi := _) (v := .pointer (some ⟨rb, 0, none⟩)) g19_14 (by kernel_rfl) (by kernel_rfl) (by kernel_rfl) (fun _ _ _ h => h) (Or.inl ⟨by rfl, ?_⟩) (by assumption) ?_
            · intro V hSw
              try dsimp only at hSw
              go_simp
            simp only [Act.put, List.setIfInBounds_toArray, List.set_cons_zero, List.set_cons_succ]
            refine wpAnyH_take (i := 15) (oi := _) (v := .string s) g19_15 (by kernel_rfl) (by kernel_rfl) (by kernel_rfl) (fun _ _ _ h => h) (Or.inl ⟨by rfl, ?_⟩) (by assumption) ?_
            · intro V hSw
              try dsimp only at hSw
              obtain ⟨⟨_, -, ⟨i0, i1⟩, -, -⟩, -⟩ := hSw
              go_simp
            simp only [Act.put, List.setIfInBounds_toArray, List.set_cons_zero, List.set_cons_succ]
            refine wpAnyH_take (i := 16) (oi := _) (v := .int .i64 (s.size : Int)) g19_16 (by kernel_rfl) (by kernel_rfl) (by kernel_rfl) (fun _ _ _ h => h) (Or.inl ⟨by rfl, ?_⟩) (by assumption) ?_
            · intro V hSw
              try dsimp only at hSw
              go_simp
            simp only [Act.put, List.setIfInBounds_toArray, List.set_cons_zero, List.set_cons_succ]
            obtain ⟨⟨⟨-, ⟨-, c1⟩, -, -⟩, -⟩, -, -⟩ := unhide HS9
            refine wpAnyH_ready (rs := [11]) (by kernel_rfl) (by simp) ?_
            refine AllReadyH.cons (o := _) g19_11 (fun K hK => ?_) AllReadyH.nil
            go_simp
            refine hK.out _ _ (hS) (fun _ => ?_)
            clear hK K c1
            refine wpAnyH_take (i := 17) (oi := _) (v := .bool false) g19_17 (by kernel_rfl) (by kernel_rfl) (by kernel_rfl) (fun _ _ _ h => h) (Or.inl ⟨by rfl, ?_⟩) (by assumption) ?_
            · intro V hSw
              try dsimp only at hSw
              go_simp
            simp only [Act.put, List.setIfInBounds_toArray, List.set_cons_zero, List.set_cons_succ]
            refine wpAnyH_take (i := 18) (oi := _) (v := .bool false) g19_18 (by kernel_rfl) (by kernel_rfl) (by kernel_rfl) (fun _ _ _ h => h) (Or.inl ⟨by rfl, ?_⟩) (by assumption) ?_
            · intro V hSw
              try dsimp only at hSw
              go_simp
            simp only [Act.put, List.setIfInBounds_toArray, List.set_cons_zero, List.set_cons_succ]
            refine wpAnyH_done (by kernel_rfl) ?_ _
            refine NoPanic.normal ?_
            clear hS
            have HS8 := HS9
            obtain ⟨U, hU, r1, r2, u0, u1, u2, u3, r3⟩ := (unhide HS8).fill (unhide HO) false (.slice q n cap) 0 0
            obtain ⟨-, ⟨⟨⟨-, x0, x1⟩, fx⟩, ⟨⟨-, y0, y1⟩, fy⟩, ⟨⟨-, e0, e1⟩, -⟩⟩, -, -⟩ := unhide HS8
            have fx0 := fx 0
            have fx1 := fx 1
            have fy0 := fy 0
            have fy1 := fy 1
            rw [← unhide Hn] at e1
            have R1 := hide r1
            have R2 := hide r2
            have R3 := hide r3
            obtain ⟨-, -, -, -, nn1, -, -⟩ := unhide HO
            have nn2 := nn1.symm
            clear r1 r2 r3 fx fy
            go_wp2
            refine bodyPost_ret (v := .tuple #[sV false q n cap, .agg #[.int .i64 0, .int .i64 0]]) (by simp [results, Tryd.results20, sV, go_sem, u0, u1, u2, u3]) rfl ?_
            exact by
                rw [unhide Hn]
                exact unhide Hgood _ q cap p p acc (unhide HE) (unhide HD) (unhide R1) (unhide R2) (unhide R3) ((unhide HS8).row (unhide HO))

        | true =>
          refine wp_region_noPanic ?_
          have HS9 := hide ((unhide HS1).keep (bdrew w1))
          have hS : (∃ pp, Rdr W0 rb s pp w1.drew) ∧ BSx w1.drew n4 true (.slice q n cap) := ⟨⟨p, (unhide HS9).1.1⟩, by rw [unhide Hn]; exact (unhide HS9).2.1.2.2⟩
          clear HS1
          refine wp_region_held_drew (S := fun V => (∃ pp, Rdr W0 rb s pp V) ∧ BSx V n4 true (.slice q n cap)) (by kernel_rfl) (hS) ?_
          intro _
          generalize w1.drew = w2 at *
          refine wpAnyH_take (i := 0) (oi := _) (v := .pointer (some ⟨n4, 0, none⟩)) g19_0 (by kernel_rfl) (by kernel_rfl) (by kernel_rfl) (fun _ _ _ h => h) (Or.inl ⟨by rfl, ?_⟩) (by assumption) ?_
          · intro V hSw
            try dsimp only at hSw
            go_simp
          simp only [Act.put, List.setIfInBounds_toArray, List.set_cons_zero, List.set_cons_succ]
          refine wpAnyH_take (i := 1) (oi := _) (v := .bool true) g19_1 (by kernel_rfl) (by kernel_rfl) (by kernel_rfl) (fun _ _ _ h => h) (Or.inl ⟨by rfl, ?_⟩) (by assumption) ?_
          · intro V hSw
            try dsimp only at hSw
            obtain ⟨-, ⟨⟨-, i0, i1⟩, -⟩⟩ := hSw
            go_simp
          simp only [Act.put, List.setIfInBounds_toArray, List.set_cons_zero, List.set_cons_succ]
          refine wpAnyH_take (i := 2) (oi := _) (v := .bool true) g19_2 (by kernel_rfl) (by kernel_rfl) (by kernel_rfl) (fun _ _ _ h => h) (Or.inl ⟨by rfl, ?_⟩) (by assumption) ?_
          · intro V hSw
            try dsimp only at hSw
            go_simp
          simp only [Act.put, List.setIfInBounds_toArray, List.set_cons_zero, List.set_cons_succ]
          refine wpAnyH_take (i := 3) (oi := _) (v := .pointer (some ⟨rb, 0, none⟩)) g19_3 (by kernel_rfl) (by kernel_rfl) (by kernel_rfl) (fun _ _ _ h => h) (Or.inl ⟨by rfl, ?_⟩) (by assumption) ?_
          · intro V hSw
            try dsimp only at hSw
            go_simp
          simp only [Act.put, List.setIfInBounds_toArray, List.set_cons_zero, List.set_cons_succ]
          have HT2 := hide (unhide HTk w2 p 47 hp (unhide HS9).1.1)
          have hd := unhide Hd
          rw [if_pos rfl] at hd
          cases hb : by1 s p 47 with
          | false =>
            rw [hb, if_neg (by decide)] at hd
            have HD := hide hd
            rw [hb] at HT2
            clear hd hb
            refine wpAnyH_ready (rs := [4]) (by kernel_rfl) (by simp) ?_
            refine AllReadyH.cons (o := _) g19_4 (fun K hK => ?_) AllReadyH.nil
            go_simp
            refine (unhide HT2).mono ?_
            rintro e w3 ⟨rfl, hr3, hk3⟩
            rw [if_neg (by decide)] at hr3
            replace HS9 := hide ((unhide HS9).but (unhide HO) hk3 hr3)
            have hS : (∃ pp, Rdr W0 rb s pp w3) ∧ BSx w3 n4 true (.slice q n cap) := ⟨⟨p, (unhide HS9).1.1⟩, by rw [unhide Hn]; exact (unhide HS9).2.1.2.2⟩
            clear hr3 hk3 HT2
            refine hK.out _ _ (hS) (fun _ => ?_)
            clear hK K
            refine wpAnyH_take (i := 5) (oi := _) (v := .bool true) g19_5 (by kernel_rfl) (by kernel_rfl) (by kernel_rfl) (fun _ _ _ h => h) (Or.inl ⟨by rfl, ?_⟩) (by assumption) ?_
            · intro V hSw
              try dsimp only at hSw
              go_simp
            simp only [Act.put, List.setIfInBounds_toArray, List.set_cons_zero, List.set_cons_succ]
            refine wpAnyH_take (i := 6) (oi := _) (v := .bool true) g19_6 (by kernel_rfl) (by kernel_rfl) (by kernel_rfl) (fun _ _ _ h => h) (Or.inl ⟨by rfl, ?_⟩) (by assumption) ?_
            · intro V hSw
              try dsimp only at hSw
              go_simp
            simp only [Act.put, List.setIfInBounds_toArray, List.set_cons_zero, List.set_cons_succ]
            refine wpAnyH_take (i := 7) (oi := _) (v := .bool true) g19_7 (by kernel_rfl) (by kernel_rfl) (by kernel_rfl) (fun _ _ _ h => h) (Or.inl ⟨by rfl, ?_⟩) (by assumption) ?_
            · intro V hSw
              try dsimp only at hSw
              go_simp
            simp only [Act.put, List.setIfInBounds_toArray, List.set_cons_zero, List.set_cons_succ]
            refine wpAnyH_take (i := 8) (oi := _) (v := undef) g19_8 (by kernel_rfl) (by kernel_rfl) (by kernel_rfl) (fun _ _ _ h => h) (Or.inr ⟨by rfl, rfl⟩) (by assumption) ?_
            simp only [Act.put, List.setIfInBounds_toArray, List.set_cons_zero, List.set_cons_succ]
            refine wpAnyH_take (i := 9) (oi := _) (v := undef) g19_9 (by kernel_rfl) (by kernel_rfl) (by kernel_rfl) (fun _ _ _ h => h) (Or.inr ⟨by rfl, rfl⟩) (by assumption) ?_
            simp only [Act.put, List.setIfInBounds_toArray, List.set_cons_zero, List.set_cons_succ]
            refine wpAnyH_take (i := 10) (oi := _) (v := undef) g19_10 (by kernel_rfl) (by kernel_rfl) (by kernel_rfl) (fun _ _ _ h => h) (Or.inr ⟨by rfl, rfl⟩) (by assumption) ?_
            simp only [Act.put, List.setIfInBounds_toArray, List.set_cons_zero, List.set_cons_succ]
            refine wpAnyH_take (i := 11) (oi := _) (v := undef) g19_11 (by kernel_rfl) (by kernel_rfl) (by kernel_rfl) (fun _ _ _ h => h) (Or.inr ⟨by rfl, rfl⟩) (by assumption) ?_
            simp only [Act.put, List.setIfInBounds_toArray, List.set_cons_zero, List.set_cons_succ]
            refine wpAnyH_take (i := 12) (oi := _) (v := undef) g19_12 (by kernel_rfl) (by kernel_rfl) (by kernel_rfl) (fun _ _ _ h => h) (Or.inr ⟨by rfl, rfl⟩) (by assumption) ?_
            simp only [Act.put, List.setIfInBounds_toArray, List.set_cons_zero, List.set_cons_succ]
            refine wpAnyH_take (i := 13) (oi := _) (v := undef) g19_13 (by kernel_rfl) (by kernel_rfl) (by kernel_rfl) (fun _ _ _ h => h) (Or.inr ⟨by rfl, rfl⟩) (by assumption) ?_
            simp only [Act.put, List.setIfInBounds_toArray, List.set_cons_zero, List.set_cons_succ]
            refine wpAnyH_take (i := 14) (oi := _) (v := undef) g19_14 (by kernel_rfl) (by kernel_rfl) (by kernel_rfl) (fun _ _ _ h => h) (Or.inr ⟨by rfl, rfl⟩) (by assumption) ?_
            simp only [Act.put, List.setIfInBounds_toArray, List.set_cons_zero, List.set_cons_succ]
            refine wpAnyH_take (i := 15) (oi := _) (v := undef) g19_15 (by kernel_rfl) (by kernel_rfl) (by kernel_rfl) (fun _ _ _ h => h) (Or.inr ⟨by rfl, rfl⟩) (by assumption) ?_
            simp only [Act.put, List.setIfInBounds_toArray, List.set_cons_zero, List.set_cons_succ]
            refine wpAnyH_take (i := 16) (oi := _) (v := undef) g19_16 (by kernel_rfl) (by kernel_rfl) (by kernel_rfl) (fun _ _ _ h => h) (Or.inr ⟨by rfl, rfl⟩) (by assumption) ?_
            simp only [Act.put, List.setIfInBounds_toArray, List.set_cons_zero, List.set_cons_succ]
            refine wpAnyH_take (i := 17) (oi := _) (v := undef) g19_17 (by kernel_rfl) (by kernel_rfl) (by kernel_rfl) (fun _ _ _ h => h) (Or.inr ⟨by rfl, rfl⟩) (by assumption) ?_
            simp only [Act.put, List.setIfInBounds_toArray, List.set_cons_zero, List.set_cons_succ]
            refine wpAnyH_take (i := 18) (oi := _) (v := .bool true) g19_18 (by kernel_rfl) (by kernel_rfl) (by kernel_rfl) (fun _ _ _ h => h) (Or.inl ⟨by rfl, ?_⟩) (by assumption) ?_
            · intro V hSw
              try dsimp only at hSw
              go_simp
            simp only [Act.put, List.setIfInBounds_toArray, List.set_cons_zero, List.set_cons_succ]
            refine wpAnyH_done (by kernel_rfl) ?_ _
            refine NoPanic.normal ?_
            clear hS
            have HC := hide (unhide HWr _ p 2 (unhide HS9).1.1)
            go_wp2_with fail
            refine (unhide HC).mono ?_
            rintro e w10 ⟨rfl, hb⟩
            have HS8 := hide ((unhide HS9).keep hb)
            clear hb HC HS9
            obtain ⟨U, hU, r1, r2, u0, u1, u2, u3, r3⟩ := (unhide HS8).fill (unhide HO) false (.slice none 0 0) 2 (p : Nat)
            obtain ⟨-, ⟨⟨⟨-, x0, x1⟩, fx⟩, ⟨⟨-, y0, y1⟩, fy⟩, ⟨⟨-, e0, e1⟩, -⟩⟩, -, -⟩ := unhide HS8
            have fx0 := fx 0
            have fx1 := fx 1
            have fy0 := fy 0
            have fy1 := fy 1
            have R1 := hide r1
            have R2 := hide r2
            have R3 := hide r3
            obtain ⟨-, -, -, -, nn1, -, -⟩ := unhide HO
            have nn2 := nn1.symm
            clear r1 r2 r3 fx fy
            go_wp2
            refine bodyPost_ret (v := .tuple #[sV false none 0 0, .agg #[.int .i64 (2), .int .i64 (((p : Nat) : Int))]]) (by simp [results, Tryd.results20, sV, go_sem, u0, u1, u2, u3]) rfl ?_
            exact unhide Hbad _ _ 2 p (unhide HD) (by decide) (unhide R1) (unhide R2)

          | true =>
            rw [hb, if_pos rfl] at hd
            rw [hb] at HT2
            have hlt1 := by1_lt hb
            obtain ⟨p1, hp1⟩ : ∃ p1, p1 = p + 1 := ⟨_, rfl⟩
            rw [← hp1] at hd
            have hp9 : p1 ≤ s.size := by omega
            have Hp1 := hide hp1
            clear hb hp1 hlt1
            refine wpAnyH_ready (rs := [4]) (by kernel_rfl) (by simp) ?_
            refine AllReadyH.cons (o := _) g19_4 (fun K hK => ?_) AllReadyH.nil
            go_simp
            refine (unhide HT2).mono ?_
            rintro e w3 ⟨rfl, hr3, hk3⟩
            rw [if_pos rfl, ← unhide Hp1] at hr3
            replace HS9 := hide ((unhide HS9).but (unhide HO) hk3 hr3)
            have hS : (∃ pp, Rdr W0 rb s pp w3) ∧ BSx w3 n4 true (.slice q n cap) := ⟨⟨p1, (unhide HS9).1.1⟩, by rw [unhide Hn]; exact (unhide HS9).2.1.2.2⟩
            clear hr3 hk3 HT2
            refine hK.out _ _ (hS) (fun _ => ?_)
            clear hK K
            refine wpAnyH_take (i := 5) (oi := _) (v := .bool false) g19_5 (by kernel_rfl) (by kernel_rfl) (by kernel_rfl) (fun _ _ _ h => h) (Or.inl ⟨by rfl, ?_⟩) (by assumption) ?_
            · intro V hSw
              try dsimp only at hSw
              go_simp
            simp only [Act.put, List.setIfInBounds_toArray, List.set_cons_zero, List.set_cons_succ]
            refine wpAnyH_take (i := 6) (oi := _) (v := .bool false) g19_6 (by kernel_rfl) (by kernel_rfl) (by kernel_rfl) (fun _ _ _ h => h) (Or.inl ⟨by rfl, ?_⟩) (by assumption) ?_
            · intro V hSw
              try dsimp only at hSw
              go_simp
            simp only [Act.put, List.setIfInBounds_toArray, List.set_cons_zero, List.set_cons_succ]
            refine wpAnyH_take (i := 7) (oi := _) (v := .bool false) g19_7 (by kernel_rfl) (by kernel_rfl) (by kernel_rfl) (fun _ _ _ h => h) (Or.inl ⟨by rfl, ?_⟩) (by assumption) ?_
            · intro V hSw
              try dsimp only at hSw
              go_simp
            simp only [Act.put, List.setIfInBounds_toArray, List.set_cons_zero, List.set_cons_succ]
            by_cases hlt : p1 < s.size
            · rw [if_pos hlt] at hd
              have HD := hide hd
              have q9 : (p1 : Int) < (s.size : Int) := by omega
              clear hd hlt
              refine wpAnyH_take (i := 8) (oi := _) (v := .pointer (some ⟨rb, 0, none⟩)) g19_8 (by kernel_rfl) (by kernel_rfl) (by kernel_rfl) (fun _ _ _ h => h) (Or.inl ⟨by rfl, ?_⟩) (by assumption) ?_
              · intro V hSw
                try dsimp only at hSw
                go_simp
              simp only [Act.put, List.setIfInBounds_toArray, List.set_cons_zero, List.set_cons_succ]
              refine wpAnyH_take (i := 9) (oi := _) (v := .pointer (some ⟨rb, 0, none⟩)) g19_9 (by kernel_rfl) (by kernel_rfl) (by kernel_rfl) (fun _ _ _ h => h) (Or.inl ⟨by rfl, ?_⟩) (by assumption) ?_
              · intro V hSw
                try dsimp only at hSw
                go_simp
              simp only [Act.put, List.setIfInBounds_toArray, List.set_cons_zero, List.set_cons_succ]
              refine wpAnyH_take (i := 10) (oi := _) (v := .pointer (some ⟨rb, 1, none⟩)) g19_10 (by kernel_rfl) (by kernel_rfl) (by kernel_rfl) (fun _ _ _ h => h) (Or.inl ⟨by rfl, ?_⟩) (by assumption) ?_
              · intro V hSw
                try dsimp only at hSw
                go_simp
              simp only [Act.put, List.setIfInBounds_toArray, List.set_cons_zero, List.set_cons_succ]
              refine wpAnyH_take (i := 12) (oi := _) (v := .pointer (some ⟨rb, 0, none⟩)) g19_12 (by kernel_rfl) (by kernel_rfl) (by kernel_rfl) (fun _ _ _ h => h) (Or.inl ⟨by rfl, ?_⟩) (by assumption) ?_
              · intro V hSw
                try dsimp only at hSw
                go_simp
              simp only [Act.put, List.setIfInBounds_toArray, List.set_cons_zero, List.set_cons_succ]
              refine wpAnyH_take (i := 13) (oi := _) (v := .pointer (some ⟨rb, 0, none⟩)) g19_13 (by kernel_rfl) (by kernel_rfl) (by kernel_rfl) (fun _ _ _ h => h) (Or.inl ⟨by rfl, ?_⟩) (by assumption) ?_
              · intro V hSw
                try dsimp only at hSw
                go_simp
              simp only [Act.put, List.setIfInBounds_toArray, List.set_cons_zero, List.set_cons_succ]
              refine wpAnyH_take (i := 14) (oi := _) (v := .pointer (some ⟨rb, 0, none⟩)) g19_14 (by kernel_rfl) (by kernel_rfl) (by kernel_rfl) (fun _ _ _ h => h) (Or.inl ⟨by rfl, ?_⟩) (by assumption) ?_
              · intro V hSw
                try dsimp only at hSw
                go_simp
              simp only [Act.put, List.setIfInBounds_toArray, List.set_cons_zero, List.set_cons_succ]
              refine wpAnyH_take (i := 15) (oi := _) (v := .string s) g19_15 (by kernel_rfl) (by kernel_rfl) (by kernel_rfl) (fun _ _ _ h => h) (Or.inl ⟨by rfl, ?_⟩) (by assumption) ?_
              · intro V hSw
                try dsimp only at hSw
                obtain ⟨⟨_, -, ⟨i0, i1⟩, -, -⟩, -⟩ := hSw
                go_simp
              simp only [Act.put, List.setIfInBounds_toArray, List.set_cons_zero, List.set_cons_succ]
              refine wpAnyH_take (i := 16) (oi := _) (v := .int .i64 (s.size : Int)) g19_16 (by kernel_rfl) (by kernel_rfl) (by kernel_rfl) (fun _ _ _ h => h) (Or.inl ⟨by rfl, ?_⟩) (by assumption) ?_
              · intro V hSw
                try dsimp only at hSw
                go_simp
              simp only [Act.put, List.setIfInBounds_toArray, List.set_cons_zero, List.set_cons_succ]
              obtain ⟨⟨⟨-, ⟨-, c1⟩, -, -⟩, -⟩, -, -⟩ := unhide HS9
              refine wpAnyH_ready (rs := [11]) (by kernel_rfl) (by simp) ?_
              refine AllReadyH.cons (o := _) g19_11 (fun K hK => ?_) AllReadyH.nil
              go_simp
              refine hK.out _ _ (hS) (fun _ => ?_)
              clear hK K c1
              refine wpAnyH_take (i := 17) (oi := _) (v := .bool true) g19_17 (by kernel_rfl) (by kernel_rfl) (by kernel_rfl) (fun _ _ _ h => h) (Or.inl ⟨by rfl, ?_⟩) (by assumption) ?_
              · intro V hSw
                try dsimp only at hSw
                go_simp
              simp only [Act.put, List.setIfInBounds_toArray, List.set_cons_zero, List.set_cons_succ]
              refine wpAnyH_take (i := 18) (oi := _) (v := .bool true) g19_18 (by kernel_rfl) (by kernel_rfl) (by kernel_rfl) (fun _ _ _ h => h) (Or.inl ⟨by rfl, ?_⟩) (by assumption) ?_
              · intro V hSw
                try dsimp only at hSw
                go_simp
              simp only [Act.put, List.setIfInBounds_toArray, List.set_cons_zero, List.set_cons_succ]
              refine wpAnyH_done (by kernel_rfl) ?_ _
              refine NoPanic.normal ?_
              clear hS
              have HC := hide (unhide HWr _ p1 2 (unhide HS9).1.1)
              go_wp2_with fail
              refine (unhide HC).mono ?_
              rintro e w10 ⟨rfl, hb⟩
              have HS8 := hide ((unhide HS9).keep hb)
              clear hb HC HS9
              obtain ⟨U, hU, r1, r2, u0, u1, u2, u3, r3⟩ := (unhide HS8).fill (unhide HO) false (.slice none 0 0) 2 (p1 : Nat)
              obtain ⟨-, ⟨⟨⟨-, x0, x1⟩, fx⟩, ⟨⟨-, y0, y1⟩, fy⟩, ⟨⟨-, e0, e1⟩, -⟩⟩, -, -⟩ := unhide HS8
              have fx0 := fx 0
              have fx1 := fx 1
              have fy0 := fy 0
              have fy1 := fy 1
              have R1 := hide r1
              have R2 := hide r2
              have R3 := hide r3
              obtain ⟨-, -, -, -, nn1, -, -⟩ := unhide HO
              have nn2 := nn1.symm
              clear r1 r2 r3 fx fy
              go_wp2
              refine bodyPost_ret (v := .tuple #[sV false none 0 0, .agg #[.int .i64 (2), .int .i64 (((p1 : Nat) : Int))]]) (by simp [results, Tryd.results20, sV, go_sem, u0, u1, u2, u3]) rfl ?_
              exact unhide Hbad _ _ 2 p1 (unhide HD) (by decide) (unhide R1) (unhide R2)

            · rw [if_neg hlt] at hd
              have HD := hide hd
              have q9 : ¬ ((p1 : Int) < (s.size : Int)) := by omega
              clear hd hlt
              refine wpAnyH_take (i := 8) (oi := _) (v := .pointer (some ⟨rb, 0, none⟩)) g19_8 (by kernel_rfl) (by kernel_rfl) (by kernel_rfl) (fun _ _ _ h => h) (Or.inl ⟨by rfl, ?_⟩) (by assumption) ?_
              · intro V hSw
                try dsimp only at hSw
                go_simp
              simp only [Act.put, List.setIfInBounds_toArray, List.set_cons_zero, List.set_cons_succ]
              refine wpAnyH_take (i := 9) (oi := _) (v := .pointer (some ⟨rb, 0, none⟩)) g19_9 (by kernel_rfl) (by kernel_rfl) (by kernel_rfl) (fun _ _ _ h => h) (Or.inl ⟨by rfl, ?_⟩) (by assumption) ?_
              · intro V hSw
                try dsimp only at hSw
                go_simp
              simp only [Act.put, List.setIfInBounds_toArray, List.set_cons_zero, List.set_cons_succ]
              refine wpAnyH_take (i := 10) (oi := _) (v := .pointer (some ⟨rb, 1, none⟩)) g19_10 (by kernel_rfl) (by kernel_rfl) (by kernel_rfl) (fun _ _ _ h => h) (Or.inl ⟨by rfl, ?_⟩) (by assumption) ?_
              · intro V hSw
                try dsimp only at hSw
                go_simp
              simp only [Act.put, List.setIfInBounds_toArray, List.set_cons_zero, List.set_cons_succ]
              refine wpAnyH_take (i := 12) (oi := _) (v := .pointer (some ⟨rb, 0, none⟩)) g19_12 (by kernel_rfl) (by kernel_rfl) (by kernel_rfl) (fun _ _ _ h => h) (Or.inl ⟨by rfl, ?_⟩) (by assumption) ?_
              · intro V hSw
                try dsimp only at hSw
                go_simp
              simp only [Act.put, List.setIfInBounds_toArray, List.set_cons_zero, List.set_cons_succ]
              refine wpAnyH_take (i := 13) (oi := _) (v := .pointer (some ⟨rb, 0, none⟩)) g19_13 (by kernel_rfl) (by kernel_rfl) (by kernel_rfl) (fun _ _ _ h => h) (Or.inl ⟨by rfl, ?_⟩) (by assumption) ?_
              · intro V hSw
                try dsimp only at hSw
                go_simp
              simp only [Act.put, List.setIfInBounds_toArray, List.set_cons_zero, List.set_cons_succ]
              refine wpAnyH_take (i := 14) (oi := _) (v := .pointer (some ⟨rb, 0, none⟩)) g19_14 (by kernel_rfl) (by kernel_rfl) (by kernel_rfl) (fun _ _ _ h => h) (Or.inl ⟨by rfl, ?_⟩) (by assumption) ?_
              · intro V hSw
                try dsimp only at hSw
                go_simp
              simp only [Act.put, List.setIfInBounds_toArray, List.set_cons_zero, List.set_cons_succ]
              refine wpAnyH_take (i := 15) (oi := _) (v := .string s) g19_15 (by kernel_rfl) (by kernel_rfl) (by kernel_rfl) (fun _ _ _ h => h) (Or.inl ⟨by rfl, ?_⟩) (by assumption) ?_
              · intro V hSw
                try dsimp only at hSw
                obtain ⟨⟨_, -, ⟨i0, i1⟩, -, -⟩, -⟩ := hSw
                go_simp
              simp only [Act.put, List.setIfInBounds_toArray, List.set_cons_zero, List.set_cons_succ]
              refine wpAnyH_take (i := 16) (oi := _) (v := .int .i64 (s.size : Int)) g19_16 (by kernel_rfl) (by kernel_rfl) (by kernel_rfl) (fun _ _ _ h => h) (Or.inl ⟨by rfl, ?_⟩) (by assumption) ?_
              · intro V hSw
                try dsimp only at hSw
                go_simp
              simp only [Act.put, List.setIfInBounds_toArray, List.set_cons_zero, List.set_cons_succ]
              obtain ⟨⟨⟨-, ⟨-, c1⟩, -, -⟩, -⟩, -, -⟩ := unhide HS9
              refine wpAnyH_ready (rs := [11]) (by kernel_rfl) (by simp) ?_
              refine AllReadyH.cons (o := _) g19_11 (fun K hK => ?_) AllReadyH.nil
              go_simp
              refine hK.out _ _ (hS) (fun _ => ?_)
              clear hK K c1
              refine wpAnyH_take (i := 17) (oi := _) (v := .bool false) g19_17 (by kernel_rfl) (by kernel_rfl) (by kernel_rfl) (fun _ _ _ h => h) (Or.inl ⟨by rfl, ?_⟩) (by assumption) ?_
              · intro V hSw
                try dsimp only at hSw
                go_simp
              simp only [Act.put, List.setIfInBounds_toArray, List.set_cons_zero, List.set_cons_succ]
              refine wpAnyH_take (i := 18) (oi := _) (v := .bool false) g19_18 (by kernel_rfl) (by kernel_rfl) (by kernel_rfl) (fun _ _ _ h => h) (Or.inl ⟨by rfl, ?_⟩) (by assumption) ?_
              · intro V hSw
                try dsimp only at hSw
                go_simp
              simp only [Act.put, List.setIfInBounds_toArray, List.set_cons_zero, List.set_cons_succ]
              refine wpAnyH_done (by kernel_rfl) ?_ _
              refine NoPanic.normal ?_
              clear hS
              have HS8 := HS9
              obtain ⟨U, hU, r1, r2, u0, u1, u2, u3, r3⟩ := (unhide HS8).fill (unhide HO) true (.slice q n cap) 0 0
              obtain ⟨-, ⟨⟨⟨-, x0, x1⟩, fx⟩, ⟨⟨-, y0, y1⟩, fy⟩, ⟨⟨-, e0, e1⟩, -⟩⟩, -, -⟩ := unhide HS8
              have fx0 := fx 0
              have fx1 := fx 1
              have fy0 := fy 0
              have fy1 := fy 1
              rw [← unhide Hn] at e1
              have R1 := hide r1
              have R2 := hide r2
              have R3 := hide r3
              obtain ⟨-, -, -, -, nn1, -, -⟩ := unhide HO
              have nn2 := nn1.symm
              clear r1 r2 r3 fx fy
              go_wp2
              refine bodyPost_ret (v := .tuple #[sV true q n cap, .agg #[.int .i64 0, .int .i64 0]]) (by simp [results, Tryd.results20, sV, go_sem, u0, u1, u2, u3]) rfl ?_
              exact by
                  rw [unhide Hn]
                  exact unhide Hgood _ q cap p p1 acc (unhide HE) (unhide HD) (unhide R1) (unhide R2) (unhide R3) ((unhide HS8).row (unhide HO))

end Go.Proofs.YtbnjjkanokmakaaDoor
