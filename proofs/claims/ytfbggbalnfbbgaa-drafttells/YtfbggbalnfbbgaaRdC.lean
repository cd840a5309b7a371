/-
  The reference's Chain.
-/
import Derived.Test.YtfbggbalnfbbgaaRdB
namespace Go.Proofs.Ytfbggbalnfbbgaa
open Go.RowKit Go.Shelf

theorem g13_0 {a0 a1 a2 a3 a4 a5 a6 a7 a8 a9 a10 a11 a12 : Oper} : (#[a0, a1, a2, a3, a4, a5, a6, a7, a8, a9, a10, a11, a12] : Array Oper)[0]? = some a0 := rfl
theorem g13_1 {a0 a1 a2 a3 a4 a5 a6 a7 a8 a9 a10 a11 a12 : Oper} : (#[a0, a1, a2, a3, a4, a5, a6, a7, a8, a9, a10, a11, a12] : Array Oper)[1]? = some a1 := rfl
theorem g13_2 {a0 a1 a2 a3 a4 a5 a6 a7 a8 a9 a10 a11 a12 : Oper} : (#[a0, a1, a2, a3, a4, a5, a6, a7, a8, a9, a10, a11, a12] : Array Oper)[2]? = some a2 := rfl
theorem g13_3 {a0 a1 a2 a3 a4 a5 a6 a7 a8 a9 a10 a11 a12 : Oper} : (#[a0, a1, a2, a3, a4, a5, a6, a7, a8, a9, a10, a11, a12] : Array Oper)[3]? = some a3 := rfl
theorem g13_4 {a0 a1 a2 a3 a4 a5 a6 a7 a8 a9 a10 a11 a12 : Oper} : (#[a0, a1, a2, a3, a4, a5, a6, a7, a8, a9, a10, a11, a12] : Array Oper)[4]? = some a4 := rfl
theorem g13_5 {a0 a1 a2 a3 a4 a5 a6 a7 a8 a9 a10 a11 a12 : Oper} : (#[a0, a1, a2, a3, a4, a5, a6, a7, a8, a9, a10, a11, a12] : Array Oper)[5]? = some a5 := rfl
theorem g13_6 {a0 a1 a2 a3 a4 a5 a6 a7 a8 a9 a10 a11 a12 : Oper} : (#[a0, a1, a2, a3, a4, a5, a6, a7, a8, a9, a10, a11, a12] : Array Oper)[6]? = some a6 := rfl
theorem g13_7 {a0 a1 a2 a3 a4 a5 a6 a7 a8 a9 a10 a11 a12 : Oper} : (#[a0, a1, a2, a3, a4, a5, a6, a7, a8, a9, a10, a11, a12] : Array Oper)[7]? = some a7 := rfl
theorem g13_8 {a0 a1 a2 a3 a4 a5 a6 a7 a8 a9 a10 a11 a12 : Oper} : (#[a0, a1, a2, a3, a4, a5, a6, a7, a8, a9, a10, a11, a12] : Array Oper)[8]? = some a8 := rfl
theorem g13_9 {a0 a1 a2 a3 a4 a5 a6 a7 a8 a9 a10 a11 a12 : Oper} : (#[a0, a1, a2, a3, a4, a5, a6, a7, a8, a9, a10, a11, a12] : Array Oper)[9]? = some a9 := rfl
theorem g13_10 {a0 a1 a2 a3 a4 a5 a6 a7 a8 a9 a10 a11 a12 : Oper} : (#[a0, a1, a2, a3, a4, a5, a6, a7, a8, a9, a10, a11, a12] : Array Oper)[10]? = some a10 := rfl
theorem g13_11 {a0 a1 a2 a3 a4 a5 a6 a7 a8 a9 a10 a11 a12 : Oper} : (#[a0, a1, a2, a3, a4, a5, a6, a7, a8, a9, a10, a11, a12] : Array Oper)[11]? = some a11 := rfl
theorem g13_12 {a0 a1 a2 a3 a4 a5 a6 a7 a8 a9 a10 a11 a12 : Oper} : (#[a0, a1, a2, a3, a4, a5, a6, a7, a8, a9, a10, a11, a12] : Array Oper)[12]? = some a12 := rfl

set_option maxHeartbeats 1000000 in
theorem rchain_err (q1 : Option Addr) (n1 c1 : Nat) (f1 : Nat → Int) (w h : Int) (p : Option Addr) (n cap : Nat) (q2 : Option Addr) (n2 c2 : Nat) (f2 : Nat → Int) (W : World) (h1 : Is W q1 n1 f1) (h2 : Is W q2 n2 f2) (er : Int) (her : dE n1 f1 w h n n2 f2 = er) (hp : 1 ≤ er) : ChainErr 15 q1 n1 c1 w h p n cap q2 n2 c2 W er := by
  obtain ⟨w0, E0, O, A, B, C, B0⟩ := ch_facts W q1 n1 c1 w h p n cap q2 n2 c2
  have HW := hide (rdwrong_any q1 n1 c1 f1 w h p n cap q2 n2 c2 f2 _ (h1.keep B0) (h2.keep B0))
  rw [her] at HW
  have hp' : (er != 0) = true := by simp; omega
  have HE := hide E0
  have HA := hide A
  have HBB := hide B
  have HC := hide C
  have HB := hide B0
  have HO := hide O
  clear her h1 h2 A B C B0 O E0
  unfold ChainErr
  go_enter Try.func15, Try.ntmps15
  go_wp2_with fail
  rw [unhide HE]
  clear HE
  have o1 := (unhide HO).2
  go_wp2_with fail
  clear o1
  refine (unhide HW).mono ?_
  rintro e w1 ⟨rfl, hb⟩
  have S := hide (btrans (unhide HB) hb)
  obtain ⟨⟨-, a0, a1, a2⟩, fa0, fa1, fa2⟩ := (unhide HA).keep hb
  obtain ⟨⟨-, b0, b1, b2⟩, fb0, fb1, fb2⟩ := (unhide HBB).keep hb
  obtain ⟨⟨-, c0, c1, c2⟩, fc0, fc1, fc2⟩ := (unhide HC).keep hb
  clear hb HB HA HBB HC
  go_wp2
  refine bodyPost_ret (v := .tuple #[tr 0 0 none 0 0, tr 0 0 none 0 0, tr 0 0 none 0 0, .int .i64 er]) (by simp [results, Try.results15, go_sem, a0, a1, a2, b0, b1, b2, c0, c1, c2]) rfl ⟨rfl, ?_⟩
  exact bput (bput (bput (unhide S) (by omega) _ _ _) (by omega) _ _ _) (by omega) _ _ _

set_option maxRecDepth 100000 in
set_option maxHeartbeats 2000000 in
theorem rchain_ok {W : World} {q1 n1 c1 t1 p n cap f q2 n2 c2 t2} {w h : Nat} (r : Rd W q1 n1 t1 w h p n cap f q2 n2 t2) (ma mc : Nat) (hma : ma = h * n2) (hmc : mc = w * n1) :
    Calls Try.prog 15 #[dr q1 n1 c1 w h p n cap q2 n2 c2] W fun e V => ∃ qa ca qc cc, e = .returned (.tuple #[tr h n2 qa ma ca, tr w h p n cap, tr n1 w qc mc cc, .int .i64 0]) ∧
      RtO V W.heap.size h n2 qa ma ca (mkF t2 h) ∧ RtO V W.heap.size n1 w qc mc cc (tuF (mkF t1 w) w n1) ∧ Below W.heap.size W V := by
  obtain ⟨w0, E0, O, A, B, C, B0⟩ := ch_facts W q1 n1 c1 w h p n cap q2 n2 c2
  have r0 := r.keep B0
  have HW := hide (rdwrong_any q1 n1 c1 _ w h p n cap q2 n2 c2 _ _ r0.2.1.2.2.1 r0.2.2.2.2.1)
  rw [dE_right r] at HW
  have hn1 := r.2.1.2.1
  have hn2 := r.2.2.2.1
  have hw := r.1.1
  have hh := r.1.2.1
  have hn := hide r.1.2.2.1
  have Hma := hide hma
  have Hmc := hide hmc
  have HE := hide E0
  have HA := hide A
  have HBB := hide B
  have HC := hide C
  have HB := hide B0
  have HO := hide O
  have HR := hide r
  clear A B C B0 O E0 r r0 hma hmc
  go_enter Try.func15, Try.ntmps15
  go_wp2_with fail
  rw [unhide HE]
  clear HE
  have o1 := (unhide HO).2
  go_wp2_with fail
  clear o1
  refine (unhide HW).mono ?_
  rintro e w1 ⟨rfl, hb⟩
  have S1 := hide (btrans (unhide HB) hb)
  have A1 := hide ((unhide HA).keep hb)
  have B1 := hide ((unhide HBB).keep hb)
  have C1 := hide ((unhide HC).keep hb)
  have O1 := hide ((unhide HO).keep hb)
  have HK := hide (marked_ok (c := c1) w hw ((unhide HR).2.1.keep (unhide S1)) mc (unhide Hmc))
  have o1 := (unhide O1).2
  clear hb HB HA HBB HC HO HW
  go_wp2_with fail
  clear o1
  refine (unhide HK).mono ?_
  rintro e w2 ⟨qk, ck, rfl, hr, hb⟩
  have S2 := hide (btrans (unhide S1) hb)
  have A2 := hide ((unhide A1).keep hb)
  have B2 := hide ((unhide B1).keep hb)
  have C2 := hide ((unhide C1).keep hb)
  have O2 := hide ((unhide O1).keep hb)
  have HT := hide (rturned_new hr.1)
  have hs2 := hb.size
  have hs1 : W.heap.size + 1 + 1 + 1 < w1.heap.size := (unhide C1).1.1
  clear hb HK S1 A1 B1 C1 O1 hr
  go_wp2_with fail
  refine (unhide HT).mono ?_
  rintro e w3 ⟨qc, cc, rfl, hr, hb⟩
  have bb := bal (o := .cells #[.int .i64 n1, .int .i64 w, .slice qc mc cc] 25) (Below.refl w3.heap.size w3)
  have hb' := hb.trans (bb.mono hb.size)
  have S3 := hide (btrans (unhide S2) hb')
  have A3 := hide ((unhide A2).keep hb')
  have B3 := hide ((unhide B2).keep hb')
  have C3 := hide ((unhide C2).keep hb')
  have O3 := hide ((unhide O2).keep hb')
  have D3 := hide (OwnM.new w3 n1 w qc mc cc 25)
  have T3 := hide (RtO.keep (show RtO w3 w2.heap.size n1 w qc mc cc (tuF (mkF t1 w) w n1) from hr) bb)
  have hs3 := hb.size
  clear hb bb hb' HT S2 A2 B2 C2 O2 hr
  go_upto_region 5 with fail
  generalize w3.alloc (.cells #[.int .i64 n1, .int .i64 w, .slice qc mc cc] 25) = w4 at *
  have hbt : W.heap.size + 1 + 1 + 1 < w3.heap.size := by omega
  generalize w3.heap.size = bt at *
  have HK := hide (fun V (hV : Below w4.heap.size w4 V) => marked_ok (c := c2) h hh (((unhide HR).2.2.keep (unhide S3)).keep hV) ma (unhide Hma))
  have hD4 := Below.drew (Below.refl w4.heap.size w4)
  have hs4 : W.heap.size + 1 + 1 + 1 < w4.heap.size := (unhide C3).1.1
  have hSd : (fun V => OwnR V W.heap.size q1 n1 c1 w h p n cap q2 n2 c2 ∧ OwnM V bt n1 w qc mc cc) w4.drew := ⟨(unhide O3).keep hD4, (unhide D3).keep hD4⟩
  dsimp only at hSd
  have hbt : W.heap.size + 1 + 1 + 1 < bt := hbt
  refine wp_region_noPanic ?_
  refine wp_region_held_drew (S := fun V => OwnR V W.heap.size q1 n1 c1 w h p n cap q2 n2 c2 ∧ OwnM V bt n1 w qc mc cc) (by kernel_rfl) hSd ?_
  intro _
  refine wpAnyH_take (i := 0) (oi := _) (v := .pointer (some ⟨W.heap.size, 4, none⟩)) g13_0 (by kernel_rfl) (by kernel_rfl) (by kernel_rfl) (fun _ _ _ h => h) (Or.inl ⟨by rfl, ?_⟩) (by assumption) ?_
  · intro V hSw
    try dsimp only at hSw
    go_simp
  simp only [Act.put, List.setIfInBounds_toArray, List.set_cons_zero, List.set_cons_succ]
  refine wpAnyH_take (i := 1) (oi := _) (v := .slice q2 n2 c2) g13_1 (by kernel_rfl) (by kernel_rfl) (by kernel_rfl) (fun _ _ _ h => h) (Or.inl ⟨by rfl, ?_⟩) (by assumption) ?_
  · intro V hSw
    try dsimp only at hSw
    have hl := hSw.1.2
    have hl2 := hSw.2.2
    go_simp
  simp only [Act.put, List.setIfInBounds_toArray, List.set_cons_zero, List.set_cons_succ]
  refine wpAnyH_take (i := 2) (oi := _) (v := .pointer (some ⟨W.heap.size, 1, none⟩)) g13_2 (by kernel_rfl) (by kernel_rfl) (by kernel_rfl) (fun _ _ _ h => h) (Or.inl ⟨by rfl, ?_⟩) (by assumption) ?_
  · intro V hSw
    try dsimp only at hSw
    go_simp
  simp only [Act.put, List.setIfInBounds_toArray, List.set_cons_zero, List.set_cons_succ]
  refine wpAnyH_take (i := 3) (oi := _) (v := .pointer (some ⟨W.heap.size, 2, none⟩)) g13_3 (by kernel_rfl) (by kernel_rfl) (by kernel_rfl) (fun _ _ _ h => h) (Or.inl ⟨by rfl, ?_⟩) (by assumption) ?_
  · intro V hSw
    try dsimp only at hSw
    go_simp
  simp only [Act.put, List.setIfInBounds_toArray, List.set_cons_zero, List.set_cons_succ]
  refine wpAnyH_take (i := 4) (oi := _) (v := .int .i64 h) g13_4 (by kernel_rfl) (by kernel_rfl) (by kernel_rfl) (fun _ _ _ h => h) (Or.inl ⟨by rfl, ?_⟩) (by assumption) ?_
  · intro V hSw
    try dsimp only at hSw
    have hl := hSw.1.2
    have hl2 := hSw.2.2
    go_simp
  simp only [Act.put, List.setIfInBounds_toArray, List.set_cons_zero, List.set_cons_succ]
  refine wpAnyH_take (i := 6) (oi := _) (v := .pointer (some ⟨W.heap.size, 1, none⟩)) g13_6 (by kernel_rfl) (by kernel_rfl) (by kernel_rfl) (fun _ _ _ h => h) (Or.inl ⟨by rfl, ?_⟩) (by assumption) ?_
  · intro V hSw
    try dsimp only at hSw
    go_simp
  simp only [Act.put, List.setIfInBounds_toArray, List.set_cons_zero, List.set_cons_succ]
  refine wpAnyH_take (i := 7) (oi := _) (v := .agg #[.int .i64 w, .int .i64 h, .slice p n cap]) g13_7 (by kernel_rfl) (by kernel_rfl) (by kernel_rfl) (fun _ _ _ h => h) (Or.inl ⟨by rfl, ?_⟩) (by assumption) ?_
  · intro V hSw
    try dsimp only at hSw
    have hl := hSw.1.2
    have hl2 := hSw.2.2
    go_simp
  simp only [Act.put, List.setIfInBounds_toArray, List.set_cons_zero, List.set_cons_succ]
  refine wpAnyH_take (i := 8) (oi := _) (v := .agg #[.int .i64 n1, .int .i64 w, .slice qc mc cc]) g13_8 (by kernel_rfl) (by kernel_rfl) (by kernel_rfl) (fun _ _ _ h => h) (Or.inl ⟨by rfl, ?_⟩) (by assumption) ?_
  · intro V hSw
    try dsimp only at hSw
    have hl := hSw.1.2
    have hl2 := hSw.2.2
    go_simp
  simp only [Act.put, List.setIfInBounds_toArray, List.set_cons_zero, List.set_cons_succ]
  refine wpAnyH_ready (rs := [5]) (by kernel_rfl) (by simp) ?_
  refine AllReadyH.cons (o := _) g13_5 (fun K hK => ?_) AllReadyH.nil
  go_simp
  refine (unhide HK _ hD4).mono ?_
  rintro e w10 ⟨qa, ca, rfl, hr, hb⟩
  have hb4 := btrans hD4 hb
  have O10 := (unhide O3).keep hb4
  have D10 := (unhide D3).keep hb4
  have S10 := hide (btrans (unhide S3) hb4)
  have T10 := hide ((unhide T3).keep hb4)
  have R10 := hide (RtO.mono (s := w4.drew.heap.size) (s' := W.heap.size + 4) hr (by have := hD4.size; omega))
  obtain ⟨⟨-, a0, a1, a2⟩, fa0, fa1, fa2⟩ := (unhide A3).keep hb4
  obtain ⟨⟨-, b0, b1, b2⟩, fb0, fb1, fb2⟩ := (unhide B3).keep hb4
  obtain ⟨⟨-, x0, x1, x2⟩, fc0, fc1, fc2⟩ := (unhide C3).keep hb4
  refine hK.out _ _ ⟨O10, D10⟩ (fun _ => ?_)
  clear hK K hSd hb hb4 hr
  refine wpAnyH_ready (rs := [9]) (by kernel_rfl) (by simp) ?_
  refine AllReadyH.cons (o := _) g13_9 (fun K hK => ?_) AllReadyH.nil
  go_simp
  have O11 := O10.grown (gput (W.heap.size + 1) (.int .i64 h) (.int .i64 n2) (.slice qa ma ca)) (some_ne (by omega))
  have D11 := D10.grown (gput (W.heap.size + 1) (.int .i64 h) (.int .i64 n2) (.slice qa ma ca)) (some_ne (by omega))
  refine hK.out _ _ ⟨O11, D11⟩ (fun _ => ?_)
  clear hK K
  refine wpAnyH_ready (rs := [10]) (by kernel_rfl) (by simp) ?_
  refine AllReadyH.cons (o := _) g13_10 (fun K hK => ?_) AllReadyH.nil
  go_simp
  have O12 := O11.grown (gput (W.heap.size + 1 + 1) (.int .i64 w) (.int .i64 h) (.slice p n cap)) (some_ne (by omega))
  have D12 := D11.grown (gput (W.heap.size + 1 + 1) (.int .i64 w) (.int .i64 h) (.slice p n cap)) (some_ne (by omega))
  refine hK.out _ _ ⟨O12, D12⟩ (fun _ => ?_)
  clear hK K
  refine wpAnyH_ready (rs := [11]) (by kernel_rfl) (by simp) ?_
  refine AllReadyH.cons (o := _) g13_11 (fun K hK => ?_) AllReadyH.nil
  go_simp
  have O13 := O12.grown (gput (W.heap.size + 1 + 1 + 1) (.int .i64 n1) (.int .i64 w) (.slice qc mc cc)) (some_ne (by omega))
  have D13 := D12.grown (gput (W.heap.size + 1 + 1 + 1) (.int .i64 n1) (.int .i64 w) (.slice qc mc cc)) (some_ne (by omega))
  refine hK.out _ _ ⟨O13, D13⟩ (fun _ => ?_)
  clear hK K
  refine wpAnyH_ready (rs := [12]) (by kernel_rfl) (by simp) ?_
  refine AllReadyH.cons (o := _) g13_12 (fun K hK => ?_) AllReadyH.nil
  go_simp
  refine hK.out _ _ ⟨O13, D13⟩ (fun _ => ?_)
  clear hK K O10 D10 O11 D11 O12 D12 O13 D13
  refine wpAnyH_done (by kernel_rfl) ?_ _
  refine NoPanic.normal ?_
  go_wp2
  refine bodyPost_ret (v := .tuple #[tr h n2 qa ma ca, tr w h p n cap, tr n1 w qc mc cc, .int .i64 0]) (by simp [results, Try.results15, go_sem, a0, a1, a2, b0, b1, b2, x0, x1, x2]) rfl ⟨qa, ca, qc, cc, rfl, ?_, ?_, bput (bput (bput (unhide S10) (by omega) _ _ _) (by omega) _ _ _) (by omega) _ _ _⟩
  · exact ((((unhide R10).put _ _ _ (by omega)).put _ _ _ (by omega)).put _ _ _ (by omega)).mono (by omega)
  · exact (((((unhide T10).mono (show W.heap.size + 4 ≤ w2.heap.size by omega)).put _ _ _ (by omega)).put _ _ _ (by omega)).put _ _ _ (by omega)).mono (by omega)
end Go.Proofs.Ytfbggbalnfbbgaa
