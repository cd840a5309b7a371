/-
  Package dye: Mix.
-/
import Derived.Test.YtlilmchlddiacaaFC
namespace Go.Proofs.Ytlilmchlddiacaa
open Go.RowKit

theorem g9_0 {a0 a1 a2 a3 a4 a5 a6 a7 a8 : Oper} : (#[a0, a1, a2, a3, a4, a5, a6, a7, a8] : Array Oper)[0]? = some a0 := rfl
theorem g9_1 {a0 a1 a2 a3 a4 a5 a6 a7 a8 : Oper} : (#[a0, a1, a2, a3, a4, a5, a6, a7, a8] : Array Oper)[1]? = some a1 := rfl
theorem g9_2 {a0 a1 a2 a3 a4 a5 a6 a7 a8 : Oper} : (#[a0, a1, a2, a3, a4, a5, a6, a7, a8] : Array Oper)[2]? = some a2 := rfl
theorem g9_3 {a0 a1 a2 a3 a4 a5 a6 a7 a8 : Oper} : (#[a0, a1, a2, a3, a4, a5, a6, a7, a8] : Array Oper)[3]? = some a3 := rfl
theorem g9_4 {a0 a1 a2 a3 a4 a5 a6 a7 a8 : Oper} : (#[a0, a1, a2, a3, a4, a5, a6, a7, a8] : Array Oper)[4]? = some a4 := rfl
theorem g9_5 {a0 a1 a2 a3 a4 a5 a6 a7 a8 : Oper} : (#[a0, a1, a2, a3, a4, a5, a6, a7, a8] : Array Oper)[5]? = some a5 := rfl
theorem g9_6 {a0 a1 a2 a3 a4 a5 a6 a7 a8 : Oper} : (#[a0, a1, a2, a3, a4, a5, a6, a7, a8] : Array Oper)[6]? = some a6 := rfl
theorem g9_7 {a0 a1 a2 a3 a4 a5 a6 a7 a8 : Oper} : (#[a0, a1, a2, a3, a4, a5, a6, a7, a8] : Array Oper)[7]? = some a7 := rfl
theorem g9_8 {a0 a1 a2 a3 a4 a5 a6 a7 a8 : Oper} : (#[a0, a1, a2, a3, a4, a5, a6, a7, a8] : Array Oper)[8]? = some a8 := rfl

/-- a dye and an error are answered -/
def PM (W : World) (p : Nat → Nat) (er : Int) (e : Ending) (V : World) : Prop := e = .returned (.tuple #[.agg #[.float .f64 (p 0), .float .f64 (p 1), .float .f64 (p 2)], .int .i64 er]) ∧ Below W.heap.size W V
def AnsM (F : Nat) (args : Array Value) (W : World) (p : Nat → Nat) (er : Int) : Prop := Calls Try.prog F args W (PM W p er)
theorem zero_new (W : World) (t : TypeId) : FR (W.alloc (.cells #[.float .f64 0, .float .f64 0, .float .f64 0] t)) W.heap.size (fun _ => 0) := FR.new W (fun _ => 0) t

set_option maxRecDepth 100000 in
set_option maxHeartbeats 1000000 in
theorem mix_many (n cap : Nat) (q : Option Addr) (h : ¬ (1 ≤ n ∧ n ≤ 64)) (W : World) : AnsM 7 #[.slice q n cap] W (fun _ => 0) 5 := by
  unfold AnsM
  have hst := stF
  have hZ := zero_new W 26
  have Hb0 := hide (bnew W (.cells #[.float .f64 0, .float .f64 0, .float .f64 0] 26))
  obtain ⟨n2, hn2⟩ : ∃ n2, W.heap.size = n2 := ⟨_, rfl⟩
  have Hn := hide hn2
  go_enter Try.func7, Try.ntmps7
  go_upto_region 1 with fail
  generalize W.alloc (.cells #[.float .f64 0, .float .f64 0, .float .f64 0] 26) = w1 at *
  rw [hn2] at hZ
  clear hn2
  obtain ⟨V, E2, hV, hK⟩ := hZ.put3 (fun _ => 0)
  have Hb := hide (Kept.back (unhide Hb0) hK (unhide Hb0).size (fun i hi => by have := unhide Hn; omega))
  have b0 := (hZ.2 0 (by omega)).1
  have b1 := (hZ.2 1 (by omega)).1
  have b2 := (hZ.2 2 (by omega)).1
  have f0 := (hZ.2 0 (by omega)).2
  have f1 := (hZ.2 1 (by omega)).2
  have f2 := (hZ.2 2 (by omega)).2
  have v0 := (hV.2 0 (by omega)).1
  have v1 := (hV.2 1 (by omega)).1
  have v2 := (hV.2 2 (by omega)).1
  clear hZ hV hK
  by_cases c1 : (n : Int) < 1
  · have c1' : decide ((n : Int) < 1) = true := decide_eq_true c1
    clear h
    go_wp2
    exact bodyPost_ret (v := .tuple #[.agg #[.float .f64 0, .float .f64 0, .float .f64 0], .int .i64 5]) (by simp [results, Try.results7, go_sem, v0, v1, v2]) rfl ⟨rfl, unhide Hb⟩
  · have c1' : decide ((n : Int) < 1) = false := decide_eq_false c1
    have c2 : 64 < (n : Int) := by omega
    have c2' : decide (64 < (n : Int)) = true := decide_eq_true c2
    clear h
    go_wp2
    exact bodyPost_ret (v := .tuple #[.agg #[.float .f64 0, .float .f64 0, .float .f64 0], .int .i64 5]) (by simp [results, Try.results7, go_sem, v0, v1, v2]) rfl ⟨rfl, unhide Hb⟩

set_option maxRecDepth 100000 in
set_option maxHeartbeats 4000000 in
theorem mix_ok (n cap : Nat) (q : Option Addr) (d : Nat → Nat → Nat) (s : Nat → Nat) (h : DpOk n d s) (W : World) (hD : Dp W q n d s) : AnsM 7 #[.slice q n cap] W (mxF d s n) 0 := by
  unfold AnsM
  have HD := hide hD
  have H := hide h
  have hn1 := h.1
  have hn2' := h.2.1
  clear hD h
  have c1 : ¬ ((n : Int) < 1) := by omega
  have c1' : decide ((n : Int) < 1) = false := decide_eq_false c1
  have c2 : ¬ (64 < (n : Int)) := by omega
  have c2' : decide (64 < (n : Int)) = false := decide_eq_false c2
  have hst := stF
  have hZ := zero_new W 26
  have Hb0 := hide (bnew W (.cells #[.float .f64 0, .float .f64 0, .float .f64 0] 26))
  obtain ⟨n2, hn2⟩ : ∃ n2, W.heap.size = n2 := ⟨_, rfl⟩
  have Hn := hide hn2
  go_enter Try.func7, Try.ntmps7
  go_upto_region 1 with fail
  generalize W.alloc (.cells #[.float .f64 0, .float .f64 0, .float .f64 0] 26) = w1 at *
  rw [hn2] at hZ
  clear hn2
  have l2 : n2 < w1.heap.size := hZ.1
  have HZ := hide (hZ.keep (bnew w1 (.cells #[.float .f64 0, .float .f64 0, .float .f64 0] 45)))
  have HS := hide (zero_new w1 45)
  have Hb1 := hide (bal (o := .cells #[.float .f64 0, .float .f64 0, .float .f64 0] 45) (unhide Hb0))
  clear hZ Hb0
  go_upto_region 4 with fail
  generalize w1.alloc (.cells #[.float .f64 0, .float .f64 0, .float .f64 0] 45) = w2 at *
  generalize w1.heap.size = n4 at *
  have Hn4 := hide (show W.heap.size ≤ n4 ∧ n2 ≠ n4 by have := unhide Hn; omega)
  clear l2
  go_wp2
  go_loopw [5, 19] (fun sh i wr => ∃ x : Nat, x ≤ n ∧ i = .int .i64 x ∧ sh = .float .f64 (TF s x) ∧ FR wr n2 (fun _ => 0) ∧ FR wr n4 (smF d s x) ∧ Below W.heap.size W wr) (fun _ i _ => n - (intOf i).toNat)
  case atStart => exact ⟨0, by omega, rfl, rfl, unhide HZ, by rw [smF_zero]; exact unhide HS, unhide Hb1⟩
  case round =>
    clear HZ HS Hb1
    obtain ⟨x, hx, rfl, rfl, hZ, hF, hb⟩ := hrel
    by_cases hlt : x < n
    · skip
      obtain ⟨ad0, oo, rfl, k0, k1, k2, k3⟩ := ((unhide HD).keep hb).at (x := x) (by omega)
      have q0 : (x : Int) < (n : Int) := by omega
      have q1 : (0 : Int) ≤ (x : Int) := by omega
      have HB := hide (BD.new wr (d x) (s x) 41)
      have HZ := hide (hZ.keep (bnew wr (.cells #[.float .f64 (d x 0), .float .f64 (d x 1), .float .f64 (d x 2), .float .f64 (s x)] 41)))
      have HF := hide (hF.keep (bnew wr (.cells #[.float .f64 (d x 0), .float .f64 (d x 1), .float .f64 (d x 2), .float .f64 (s x)] 41)))
      have Hb := hide (bal (o := .cells #[.float .f64 (d x 0), .float .f64 (d x 1), .float .f64 (d x 2), .float .f64 (s x)] 41) hb)
      have Hn7 := hide (show W.heap.size ≤ wr.heap.size ∧ n4 ≠ wr.heap.size ∧ n2 ≠ wr.heap.size by have := hF.1; have := hZ.1; have := hb.size; omega)
      clear hZ hF hb
      go_upto_region 8 with fail
      generalize wr.alloc (.cells #[.float .f64 (d x 0), .float .f64 (d x 1), .float .f64 (d x 2), .float .f64 (s x)] 41) = w3 at *
      generalize wr.heap.size = n7 at *
      clear k0 k1 k2 k3
      have i3 := (unhide HB).2.2.2.2
      go_wp2_with fail
      refine (share_any (s x) _).mono ?_
      rintro e w4 ⟨rfl, hb4⟩
      have HB4 := hide ((unhide HB).keep hb4)
      have HZ4 := hide ((unhide HZ).keep hb4)
      have HF4 := hide ((unhide HF).keep hb4)
      have Hb4 := hide (btrans (unhide Hb) hb4)
      clear hb4 HB HZ HF Hb i3
      have hok := (unhide H).2.2 x hlt
      unfold dpB at hok
      rw [Bool.and_eq_true] at hok
      rw [hok.1]
      have Hok2 := hide hok.2
      clear hok
      have i0 := (unhide HB4).2.1
      have i1 := (unhide HB4).2.2.1
      have i2 := (unhide HB4).2.2.2.1
      go_wp2_with fail
      refine (partsOf_any (d x) _).mono ?_
      rintro e w5 ⟨rfl, hb5⟩
      have HB5 := hide ((unhide HB4).keep hb5)
      have HZ5 := hide ((unhide HZ4).keep hb5)
      have HF5 := hide ((unhide HF4).keep hb5)
      have Hb5 := hide (btrans (unhide Hb4) hb5)
      clear hb5 HB4 HZ4 HF4 Hb4 i0 i1 i2
      go_wp2_with fail
      refine (fair_any (d x) _).mono ?_
      rintro e w6 ⟨rfl, hb6⟩
      have HB6 := hide ((unhide HB5).keep hb6)
      have HZ6 := hide ((unhide HZ5).keep hb6)
      have HF6 := hide ((unhide HF5).keep hb6)
      have Hb6 := hide (btrans (unhide Hb5) hb6)
      clear hb6 HB5 HZ5 HF5 Hb5
      rw [unhide Hok2]
      have HX := hide ((unhide H).step x hlt)
      have hop : ∀ t w, (binOp .add t (.float .f64 (TF s x)) (.float .f64 (s x))).run Try.prog w = .ok (.float .f64 (TF s (x + 1))) w := fun t w => run_float_arith w .add t .f64 _ _ _ (unhide HX).2.2
      clear Hok2
      have hB6 := (unhide HB6).keep (bdrew w6)
      have hF6 := (unhide HF6).keep (bdrew w6)
      have hZ6 := (unhide HZ6).keep (bdrew w6)
      have hb6 := btrans (unhide Hb6) (bdrew w6)
      clear HB6 HF6 HZ6 Hb6
      go_upto_region 10 with fail
      refine wp_region_noPanic ?_
      refine wp_region_held_drew (S := fun V => Kept (fun i => i = n4) w6.drew V) (by kernel_rfl) (Kept.refl _ _) ?_
      intro _
      generalize w6.drew = w8 at *
      have hbc : Below w8.heap.size w8 w8 := Below.refl _ _
      refine wpAnyH_take (i := 1) (oi := _) (v := .pointer (some ⟨n7, 0, none⟩)) g9_1 (by kernel_rfl) (by kernel_rfl) (by kernel_rfl) (fun _ _ _ h => h) (Or.inl ⟨by rfl, ?_⟩) (by assumption) ?_
      · intro V hSw
        try dsimp only at hSw
        go_simp
      simp only [Act.put, List.setIfInBounds_toArray, List.set_cons_zero, List.set_cons_succ]
      refine wpAnyH_take (i := 2) (oi := _) (v := .agg #[.float .f64 (d x 0), .float .f64 (d x 1), .float .f64 (d x 2)]) g9_2 (by kernel_rfl) (by kernel_rfl) (by kernel_rfl) (fun _ _ _ h => h) (Or.inl ⟨by rfl, ?_⟩) (by assumption) ?_
      · intro V hSw
        try dsimp only at hSw
        have hB := hB6.kept hSw (by have := unhide Hn7; omega)
        have y0 := hB.2.1
        have y1 := hB.2.2.1
        have y2 := hB.2.2.2.1
        go_simp
      simp only [Act.put, List.setIfInBounds_toArray, List.set_cons_zero, List.set_cons_succ]
      refine wpAnyH_take (i := 4) (oi := _) (v := .pointer (some ⟨n7, 3, none⟩)) g9_4 (by kernel_rfl) (by kernel_rfl) (by kernel_rfl) (fun _ _ _ h => h) (Or.inl ⟨by rfl, ?_⟩) (by assumption) ?_
      · intro V hSw
        try dsimp only at hSw
        go_simp
      simp only [Act.put, List.setIfInBounds_toArray, List.set_cons_zero, List.set_cons_succ]
      refine wpAnyH_take (i := 5) (oi := _) (v := .float .f64 (s x)) g9_5 (by kernel_rfl) (by kernel_rfl) (by kernel_rfl) (fun _ _ _ h => h) (Or.inl ⟨by rfl, ?_⟩) (by assumption) ?_
      · intro V hSw
        try dsimp only at hSw
        have y3 := (hB6.kept hSw (by have := unhide Hn7; omega)).2.2.2.2
        go_simp
      simp only [Act.put, List.setIfInBounds_toArray, List.set_cons_zero, List.set_cons_succ]
      refine wpAnyH_ready (rs := [0, 3]) (by kernel_rfl) (by simp) ?_
      refine (AllReadyH.cons (o := _) g9_0 (fun K hK => ?_) (AllReadyH.cons (o := _) g9_3 (fun K hK => ?_) AllReadyH.nil))
      · have y0 := ((hF6.keep hbc).2 0 (by omega)).1
        have y1 := ((hF6.keep hbc).2 1 (by omega)).1
        have y2 := ((hF6.keep hbc).2 2 (by omega)).1
        go_simp
        clear y0 y1 y2
        refine hK.out _ _ (Kept.of hbc) (fun _ => ?_)
        clear hK K
        refine wpAnyH_ready (rs := [3]) (by kernel_rfl) (by simp) ?_
        refine AllReadyH.cons (o := _) g9_3 (fun K hK => ?_) AllReadyH.nil
        go_simp
        refine (partsOf_any (d x) _).mono ?_
        rintro e w9 ⟨rfl, hb9⟩
        replace hbc := btrans hbc hb9
        clear hb9
        refine hK.out _ _ (Kept.of hbc) (fun _ => ?_)
        clear hK K
        refine wpAnyH_ready (rs := [6]) (by kernel_rfl) (by simp) ?_
        refine AllReadyH.cons (o := _) g9_6 (fun K hK => ?_) AllReadyH.nil
        go_simp
        refine (times_any (d x) (pdF d s x) (s x) (unhide HX).1 _).mono ?_
        rintro e w10 ⟨rfl, hb10⟩
        replace hbc := btrans hbc hb10
        clear hb10
        refine hK.out _ _ (Kept.of hbc) (fun _ => ?_)
        clear hK K
        refine wpAnyH_ready (rs := [7]) (by kernel_rfl) (by simp) ?_
        refine AllReadyH.cons (o := _) g9_7 (fun K hK => ?_) AllReadyH.nil
        go_simp
        refine (plus_any (smF d s x) (pdF d s x) (smF d s (x + 1)) (unhide HX).2.1 _).mono ?_
        rintro e w11 ⟨rfl, hb11⟩
        replace hbc := btrans hbc hb11
        clear hb11
        refine hK.out _ _ (Kept.of hbc) (fun _ => ?_)
        clear hK K
        refine wpAnyH_ready (rs := [8]) (by kernel_rfl) (by simp) ?_
        refine AllReadyH.cons (o := _) g9_8 (fun K hK => ?_) AllReadyH.nil
        have hG := hF6.keep hbc
        obtain ⟨V, E2, hV, hK8⟩ := hG.put3 (smF d s (x + 1))
        have b0 := (hG.2 0 (by omega)).1
        have f0 := (hG.2 0 (by omega)).2
        have b1 := (hG.2 1 (by omega)).1
        have f1 := (hG.2 1 (by omega)).2
        have b2 := (hG.2 2 (by omega)).1
        have f2 := (hG.2 2 (by omega)).2
        have hst := stF
        go_simp
        refine hK.out _ _ ((Kept.of hbc).trans hK8) (fun _ => ?_)
        clear hK K
        refine wpAnyH_done (by kernel_rfl) ?_ _
        refine NoPanic.normal ?_
        have HV := hide hV
        have HZn := hide ((hZ6.keep hbc).kept hK8 (unhide Hn4).2)
        have y3 := ((hB6.keep hbc).kept hK8 (by have := unhide Hn7; omega)).2.2.2.2
        have Hbn := hide (Kept.back (btrans hb6 hbc) hK8 (btrans hb6 hbc).size (fun i hi => by have := unhide Hn4; omega))
        clear hB6 hF6 hZ6 hb6 hbc hG hV hK8 b0 b1 b2 f0 f1 f2 E2 HX
        go_wp2
        go_roundw
        case rel => exact ⟨x + 1, by omega, by go_num, rfl, unhide HZn, unhide HV, unhide Hbn⟩
        case measure => simp [intOf]; omega
      · go_simp
        refine (partsOf_any (d x) _).mono ?_
        rintro e w9 ⟨rfl, hb9⟩
        replace hbc := btrans hbc hb9
        clear hb9
        refine hK.out _ _ (Kept.of hbc) (fun _ => ?_)
        clear hK K
        refine wpAnyH_ready (rs := [0, 6]) (by kernel_rfl) (by simp) ?_
        refine (AllReadyH.cons (o := _) g9_0 (fun K hK => ?_) (AllReadyH.cons (o := _) g9_6 (fun K hK => ?_) AllReadyH.nil))
        · have y0 := ((hF6.keep hbc).2 0 (by omega)).1
          have y1 := ((hF6.keep hbc).2 1 (by omega)).1
          have y2 := ((hF6.keep hbc).2 2 (by omega)).1
          go_simp
          clear y0 y1 y2
          refine hK.out _ _ (Kept.of hbc) (fun _ => ?_)
          clear hK K
          refine wpAnyH_ready (rs := [6]) (by kernel_rfl) (by simp) ?_
          refine AllReadyH.cons (o := _) g9_6 (fun K hK => ?_) AllReadyH.nil
          go_simp
          refine (times_any (d x) (pdF d s x) (s x) (unhide HX).1 _).mono ?_
          rintro e w10 ⟨rfl, hb10⟩
          replace hbc := btrans hbc hb10
          clear hb10
          refine hK.out _ _ (Kept.of hbc) (fun _ => ?_)
          clear hK K
          refine wpAnyH_ready (rs := [7]) (by kernel_rfl) (by simp) ?_
          refine AllReadyH.cons (o := _) g9_7 (fun K hK => ?_) AllReadyH.nil
          go_simp
          refine (plus_any (smF d s x) (pdF d s x) (smF d s (x + 1)) (unhide HX).2.1 _).mono ?_
          rintro e w11 ⟨rfl, hb11⟩
          replace hbc := btrans hbc hb11
          clear hb11
          refine hK.out _ _ (Kept.of hbc) (fun _ => ?_)
          clear hK K
          refine wpAnyH_ready (rs := [8]) (by kernel_rfl) (by simp) ?_
          refine AllReadyH.cons (o := _) g9_8 (fun K hK => ?_) AllReadyH.nil
          have hG := hF6.keep hbc
          obtain ⟨V, E2, hV, hK8⟩ := hG.put3 (smF d s (x + 1))
          have b0 := (hG.2 0 (by omega)).1
          have f0 := (hG.2 0 (by omega)).2
          have b1 := (hG.2 1 (by omega)).1
          have f1 := (hG.2 1 (by omega)).2
          have b2 := (hG.2 2 (by omega)).1
          have f2 := (hG.2 2 (by omega)).2
          have hst := stF
          go_simp
          refine hK.out _ _ ((Kept.of hbc).trans hK8) (fun _ => ?_)
          clear hK K
          refine wpAnyH_done (by kernel_rfl) ?_ _
          refine NoPanic.normal ?_
          have HV := hide hV
          have HZn := hide ((hZ6.keep hbc).kept hK8 (unhide Hn4).2)
          have y3 := ((hB6.keep hbc).kept hK8 (by have := unhide Hn7; omega)).2.2.2.2
          have Hbn := hide (Kept.back (btrans hb6 hbc) hK8 (btrans hb6 hbc).size (fun i hi => by have := unhide Hn4; omega))
          clear hB6 hF6 hZ6 hb6 hbc hG hV hK8 b0 b1 b2 f0 f1 f2 E2 HX
          go_wp2
          go_roundw
          case rel => exact ⟨x + 1, by omega, by go_num, rfl, unhide HZn, unhide HV, unhide Hbn⟩
          case measure => simp [intOf]; omega
        · go_simp
          refine (times_any (d x) (pdF d s x) (s x) (unhide HX).1 _).mono ?_
          rintro e w10 ⟨rfl, hb10⟩
          replace hbc := btrans hbc hb10
          clear hb10
          refine hK.out _ _ (Kept.of hbc) (fun _ => ?_)
          clear hK K
          refine wpAnyH_ready (rs := [0]) (by kernel_rfl) (by simp) ?_
          refine AllReadyH.cons (o := _) g9_0 (fun K hK => ?_) AllReadyH.nil
          have y0 := ((hF6.keep hbc).2 0 (by omega)).1
          have y1 := ((hF6.keep hbc).2 1 (by omega)).1
          have y2 := ((hF6.keep hbc).2 2 (by omega)).1
          go_simp
          clear y0 y1 y2
          refine hK.out _ _ (Kept.of hbc) (fun _ => ?_)
          clear hK K
          refine wpAnyH_ready (rs := [7]) (by kernel_rfl) (by simp) ?_
          refine AllReadyH.cons (o := _) g9_7 (fun K hK => ?_) AllReadyH.nil
          go_simp
          refine (plus_any (smF d s x) (pdF d s x) (smF d s (x + 1)) (unhide HX).2.1 _).mono ?_
          rintro e w11 ⟨rfl, hb11⟩
          replace hbc := btrans hbc hb11
          clear hb11
          refine hK.out _ _ (Kept.of hbc) (fun _ => ?_)
          clear hK K
          refine wpAnyH_ready (rs := [8]) (by kernel_rfl) (by simp) ?_
          refine AllReadyH.cons (o := _) g9_8 (fun K hK => ?_) AllReadyH.nil
          have hG := hF6.keep hbc
          obtain ⟨V, E2, hV, hK8⟩ := hG.put3 (smF d s (x + 1))
          have b0 := (hG.2 0 (by omega)).1
          have f0 := (hG.2 0 (by omega)).2
          have b1 := (hG.2 1 (by omega)).1
          have f1 := (hG.2 1 (by omega)).2
          have b2 := (hG.2 2 (by omega)).1
          have f2 := (hG.2 2 (by omega)).2
          have hst := stF
          go_simp
          refine hK.out _ _ ((Kept.of hbc).trans hK8) (fun _ => ?_)
          clear hK K
          refine wpAnyH_done (by kernel_rfl) ?_ _
          refine NoPanic.normal ?_
          have HV := hide hV
          have HZn := hide ((hZ6.keep hbc).kept hK8 (unhide Hn4).2)
          have y3 := ((hB6.keep hbc).kept hK8 (by have := unhide Hn7; omega)).2.2.2.2
          have Hbn := hide (Kept.back (btrans hb6 hbc) hK8 (btrans hb6 hbc).size (fun i hi => by have := unhide Hn4; omega))
          clear hB6 hF6 hZ6 hb6 hbc hG hV hK8 b0 b1 b2 f0 f1 f2 E2 HX
          go_wp2
          go_roundw
          case rel => exact ⟨x + 1, by omega, by go_num, rfl, unhide HZn, unhide HV, unhide Hbn⟩
          case measure => simp [intOf]; omega
    · obtain rfl : n = x := by omega
      have cl : ¬ ((n : Int) < (n : Int)) := by omega
      have a0 := (hF.2 0 (by omega)).1
      have a1 := (hF.2 1 (by omega)).1
      have a2 := (hF.2 2 (by omega)).1
      have HZ := hide hZ
      have Hb := hide hb
      have HL := hide (fun j hj => (unhide H).last j hj)
      clear hZ hF hb HD
      go_wp2_with fail
      refine (over_any (smF d s n) (mxF d s n) (TF s n) (unhide HL) _).mono ?_
      rintro e w3 ⟨rfl, hb3⟩
      have HZ3 := hide ((unhide HZ).keep hb3)
      have Hb3 := hide (btrans (unhide Hb) hb3)
      clear hb3 HZ Hb a0 a1 a2
      go_wp2_with fail
      refine (dye_any (mxF d s n) _).mono ?_
      rintro e w4 ⟨rfl, hb4⟩
      have hZ4 := (unhide HZ3).keep hb4
      have hb5 := btrans (unhide Hb3) hb4
      clear hb4 HZ3 Hb3
      obtain ⟨V, E2, hV, hK⟩ := hZ4.put3 (mxF d s n)
      have Hb := hide (Kept.back hb5 hK hb5.size (fun i hi => by have := unhide Hn; omega))
      have b0 := (hZ4.2 0 (by omega)).1
      have b1 := (hZ4.2 1 (by omega)).1
      have b2 := (hZ4.2 2 (by omega)).1
      have f0 := (hZ4.2 0 (by omega)).2
      have f1 := (hZ4.2 1 (by omega)).2
      have f2 := (hZ4.2 2 (by omega)).2
      have v0 := (hV.2 0 (by omega)).1
      have v1 := (hV.2 1 (by omega)).1
      have v2 := (hV.2 2 (by omega)).1
      clear hZ4 hb5 hV hK
      go_wp2
      exact bodyPost_ret (v := .tuple #[.agg #[.float .f64 (mxF d s n 0), .float .f64 (mxF d s n 1), .float .f64 (mxF d s n 2)], .int .i64 0]) (by simp [results, Try.results7, go_sem, v0, v1, v2]) rfl ⟨rfl, unhide Hb⟩

set_option maxRecDepth 100000 in
set_option maxHeartbeats 4000000 in
theorem mix_bad (n k cap : Nat) (q : Option Addr) (d : Nat → Nat → Nat) (s : Nat → Nat) (hn1 : 1 ≤ n) (hn2' : n ≤ 64) (hk : k < n) (h : DpOk k d s ∨ k = 0) (h0 : dpB (d k) (s k) = false) (W : World) (hD : Dp W q n d s) : AnsM 7 #[.slice q n cap] W (fun _ => 0) 3 := by
  unfold AnsM
  have HD := hide hD
  have H := hide h
  have H0 := hide h0
  clear hD h h0
  have c1 : ¬ ((n : Int) < 1) := by omega
  have c1' : decide ((n : Int) < 1) = false := decide_eq_false c1
  have c2 : ¬ (64 < (n : Int)) := by omega
  have c2' : decide (64 < (n : Int)) = false := decide_eq_false c2
  have hst := stF
  have hZ := zero_new W 26
  have Hb0 := hide (bnew W (.cells #[.float .f64 0, .float .f64 0, .float .f64 0] 26))
  obtain ⟨n2, hn2⟩ : ∃ n2, W.heap.size = n2 := ⟨_, rfl⟩
  have Hn := hide hn2
  go_enter Try.func7, Try.ntmps7
  go_upto_region 1 with fail
  generalize W.alloc (.cells #[.float .f64 0, .float .f64 0, .float .f64 0] 26) = w1 at *
  rw [hn2] at hZ
  clear hn2
  have l2 : n2 < w1.heap.size := hZ.1
  have HZ := hide (hZ.keep (bnew w1 (.cells #[.float .f64 0, .float .f64 0, .float .f64 0] 45)))
  have HS := hide (zero_new w1 45)
  have Hb1 := hide (bal (o := .cells #[.float .f64 0, .float .f64 0, .float .f64 0] 45) (unhide Hb0))
  clear hZ Hb0
  go_upto_region 4 with fail
  generalize w1.alloc (.cells #[.float .f64 0, .float .f64 0, .float .f64 0] 45) = w2 at *
  generalize w1.heap.size = n4 at *
  have Hn4 := hide (show W.heap.size ≤ n4 ∧ n2 ≠ n4 by have := unhide Hn; omega)
  clear l2
  go_wp2
  go_loopw [5, 19] (fun sh i wr => ∃ x : Nat, x ≤ k ∧ i = .int .i64 x ∧ sh = .float .f64 (TF s x) ∧ FR wr n2 (fun _ => 0) ∧ FR wr n4 (smF d s x) ∧ Below W.heap.size W wr) (fun _ i _ => n - (intOf i).toNat)
  case atStart => exact ⟨0, by omega, rfl, rfl, unhide HZ, by rw [smF_zero]; exact unhide HS, unhide Hb1⟩
  case round =>
    clear HZ HS Hb1
    obtain ⟨x, hx, rfl, rfl, hZ, hF, hb⟩ := hrel
    by_cases hlt : x < k
    · have Hk : Hid (DpOk k d s) := hide ((unhide H).resolve_right (by omega))
      obtain ⟨ad0, oo, rfl, k0, k1, k2, k3⟩ := ((unhide HD).keep hb).at (x := x) (by omega)
      have q0 : (x : Int) < (n : Int) := by omega
      have q1 : (0 : Int) ≤ (x : Int) := by omega
      have HB := hide (BD.new wr (d x) (s x) 41)
      have HZ := hide (hZ.keep (bnew wr (.cells #[.float .f64 (d x 0), .float .f64 (d x 1), .float .f64 (d x 2), .float .f64 (s x)] 41)))
      have HF := hide (hF.keep (bnew wr (.cells #[.float .f64 (d x 0), .float .f64 (d x 1), .float .f64 (d x 2), .float .f64 (s x)] 41)))
      have Hb := hide (bal (o := .cells #[.float .f64 (d x 0), .float .f64 (d x 1), .float .f64 (d x 2), .float .f64 (s x)] 41) hb)
      have Hn7 := hide (show W.heap.size ≤ wr.heap.size ∧ n4 ≠ wr.heap.size ∧ n2 ≠ wr.heap.size by have := hF.1; have := hZ.1; have := hb.size; omega)
      clear hZ hF hb
      go_upto_region 8 with fail
      generalize wr.alloc (.cells #[.float .f64 (d x 0), .float .f64 (d x 1), .float .f64 (d x 2), .float .f64 (s x)] 41) = w3 at *
      generalize wr.heap.size = n7 at *
      clear k0 k1 k2 k3
      have i3 := (unhide HB).2.2.2.2
      go_wp2_with fail
      refine (share_any (s x) _).mono ?_
      rintro e w4 ⟨rfl, hb4⟩
      have HB4 := hide ((unhide HB).keep hb4)
      have HZ4 := hide ((unhide HZ).keep hb4)
      have HF4 := hide ((unhide HF).keep hb4)
      have Hb4 := hide (btrans (unhide Hb) hb4)
      clear hb4 HB HZ HF Hb i3
      have hok := (unhide Hk).2.2 x hlt
      unfold dpB at hok
      rw [Bool.and_eq_true] at hok
      rw [hok.1]
      have Hok2 := hide hok.2
      clear hok
      have i0 := (unhide HB4).2.1
      have i1 := (unhide HB4).2.2.1
      have i2 := (unhide HB4).2.2.2.1
      go_wp2_with fail
      refine (partsOf_any (d x) _).mono ?_
      rintro e w5 ⟨rfl, hb5⟩
      have HB5 := hide ((unhide HB4).keep hb5)
      have HZ5 := hide ((unhide HZ4).keep hb5)
      have HF5 := hide ((unhide HF4).keep hb5)
      have Hb5 := hide (btrans (unhide Hb4) hb5)
      clear hb5 HB4 HZ4 HF4 Hb4 i0 i1 i2
      go_wp2_with fail
      refine (fair_any (d x) _).mono ?_
      rintro e w6 ⟨rfl, hb6⟩
      have HB6 := hide ((unhide HB5).keep hb6)
      have HZ6 := hide ((unhide HZ5).keep hb6)
      have HF6 := hide ((unhide HF5).keep hb6)
      have Hb6 := hide (btrans (unhide Hb5) hb6)
      clear hb6 HB5 HZ5 HF5 Hb5
      rw [unhide Hok2]
      have HX := hide ((unhide Hk).step x hlt)
      have hop : ∀ t w, (binOp .add t (.float .f64 (TF s x)) (.float .f64 (s x))).run Try.prog w = .ok (.float .f64 (TF s (x + 1))) w := fun t w => run_float_arith w .add t .f64 _ _ _ (unhide HX).2.2
      clear Hok2
      have hB6 := (unhide HB6).keep (bdrew w6)
      have hF6 := (unhide HF6).keep (bdrew w6)
      have hZ6 := (unhide HZ6).keep (bdrew w6)
      have hb6 := btrans (unhide Hb6) (bdrew w6)
      clear HB6 HF6 HZ6 Hb6
      go_upto_region 10 with fail
      refine wp_region_noPanic ?_
      refine wp_region_held_drew (S := fun V => Kept (fun i => i = n4) w6.drew V) (by kernel_rfl) (Kept.refl _ _) ?_
      intro _
      generalize w6.drew = w8 at *
      have hbc : Below w8.heap.size w8 w8 := Below.refl _ _
      refine wpAnyH_take (i := 1) (oi := _) (v := .pointer (some ⟨n7, 0, none⟩)) g9_1 (by kernel_rfl) (by kernel_rfl) (by kernel_rfl) (fun _ _ _ h => h) (Or.inl ⟨by rfl, ?_⟩) (by assumption) ?_
      · intro V hSw
        try dsimp only at hSw
        go_simp
      simp only [Act.put, List.setIfInBounds_toArray, List.set_cons_zero, List.set_cons_succ]
      refine wpAnyH_take (i := 2) (oi := _) (v := .agg #[.float .f64 (d x 0), .float .f64 (d x 1), .float .f64 (d x 2)]) g9_2 (by kernel_rfl) (by kernel_rfl) (by kernel_rfl) (fun _ _ _ h => h) (Or.inl ⟨by rfl, ?_⟩) (by assumption) ?_
      · intro V hSw
        try dsimp only at hSw
        have hB := hB6.kept hSw (by have := unhide Hn7; omega)
        have y0 := hB.2.1
        have y1 := hB.2.2.1
        have y2 := hB.2.2.2.1
        go_simp
      simp only [Act.put, List.setIfInBounds_toArray, List.set_cons_zero, List.set_cons_succ]
      refine wpAnyH_take (i := 4) (oi := _) (v := .pointer (some ⟨n7, 3, none⟩)) g9_4 (by kernel_rfl) (by kernel_rfl) (by kernel_rfl) (fun _ _ _ h => h) (Or.inl ⟨by rfl, ?_⟩) (by assumption) ?_
      · intro V hSw
        try dsimp only at hSw
        go_simp
      simp only [Act.put, List.setIfInBounds_toArray, List.set_cons_zero, List.set_cons_succ]
      refine wpAnyH_take (i := 5) (oi := _) (v := .float .f64 (s x)) g9_5 (by kernel_rfl) (by kernel_rfl) (by kernel_rfl) (fun _ _ _ h => h) (Or.inl ⟨by rfl, ?_⟩) (by assumption) ?_
      · intro V hSw
        try dsimp only at hSw
        have y3 := (hB6.kept hSw (by have := unhide Hn7; omega)).2.2.2.2
        go_simp
      simp only [Act.put, List.setIfInBounds_toArray, List.set_cons_zero, List.set_cons_succ]
      refine wpAnyH_ready (rs := [0, 3]) (by kernel_rfl) (by simp) ?_
      refine (AllReadyH.cons (o := _) g9_0 (fun K hK => ?_) (AllReadyH.cons (o := _) g9_3 (fun K hK => ?_) AllReadyH.nil))
      · have y0 := ((hF6.keep hbc).2 0 (by omega)).1
        have y1 := ((hF6.keep hbc).2 1 (by omega)).1
        have y2 := ((hF6.keep hbc).2 2 (by omega)).1
        go_simp
        clear y0 y1 y2
        refine hK.out _ _ (Kept.of hbc) (fun _ => ?_)
        clear hK K
        refine wpAnyH_ready (rs := [3]) (by kernel_rfl) (by simp) ?_
        refine AllReadyH.cons (o := _) g9_3 (fun K hK => ?_) AllReadyH.nil
        go_simp
        refine (partsOf_any (d x) _).mono ?_
        rintro e w9 ⟨rfl, hb9⟩
        replace hbc := btrans hbc hb9
        clear hb9
        refine hK.out _ _ (Kept.of hbc) (fun _ => ?_)
        clear hK K
        refine wpAnyH_ready (rs := [6]) (by kernel_rfl) (by simp) ?_
        refine AllReadyH.cons (o := _) g9_6 (fun K hK => ?_) AllReadyH.nil
        go_simp
        refine (times_any (d x) (pdF d s x) (s x) (unhide HX).1 _).mono ?_
        rintro e w10 ⟨rfl, hb10⟩
        replace hbc := btrans hbc hb10
        clear hb10
        refine hK.out _ _ (Kept.of hbc) (fun _ => ?_)
        clear hK K
        refine wpAnyH_ready (rs := [7]) (by kernel_rfl) (by simp) ?_
        refine AllReadyH.cons (o := _) g9_7 (fun K hK => ?_) AllReadyH.nil
        go_simp
        refine (plus_any (smF d s x) (pdF d s x) (smF d s (x + 1)) (unhide HX).2.1 _).mono ?_
        rintro e w11 ⟨rfl, hb11⟩
        replace hbc := btrans hbc hb11
        clear hb11
        refine hK.out _ _ (Kept.of hbc) (fun _ => ?_)
        clear hK K
        refine wpAnyH_ready (rs := [8]) (by kernel_rfl) (by simp) ?_
        refine AllReadyH.cons (o := _) g9_8 (fun K hK => ?_) AllReadyH.nil
        have hG := hF6.keep hbc
        obtain ⟨V, E2, hV, hK8⟩ := hG.put3 (smF d s (x + 1))
        have b0 := (hG.2 0 (by omega)).1
        have f0 := (hG.2 0 (by omega)).2
        have b1 := (hG.2 1 (by omega)).1
        have f1 := (hG.2 1 (by omega)).2
        have b2 := (hG.2 2 (by omega)).1
        have f2 := (hG.2 2 (by omega)).2
        have hst := stF
        go_simp
        refine hK.out _ _ ((Kept.of hbc).trans hK8) (fun _ => ?_)
        clear hK K
        refine wpAnyH_done (by kernel_rfl) ?_ _
        refine NoPanic.normal ?_
        have HV := hide hV
        have HZn := hide ((hZ6.keep hbc).kept hK8 (unhide Hn4).2)
        have y3 := ((hB6.keep hbc).kept hK8 (by have := unhide Hn7; omega)).2.2.2.2
        have Hbn := hide (Kept.back (btrans hb6 hbc) hK8 (btrans hb6 hbc).size (fun i hi => by have := unhide Hn4; omega))
        clear hB6 hF6 hZ6 hb6 hbc hG hV hK8 b0 b1 b2 f0 f1 f2 E2 HX
        go_wp2
        go_roundw
        case rel => exact ⟨x + 1, by omega, by go_num, rfl, unhide HZn, unhide HV, unhide Hbn⟩
        case measure => simp [intOf]; omega
      · go_simp
        refine (partsOf_any (d x) _).mono ?_
        rintro e w9 ⟨rfl, hb9⟩
        replace hbc := btrans hbc hb9
        clear hb9
        refine hK.out _ _ (Kept.of hbc) (fun _ => ?_)
        clear hK K
        refine wpAnyH_ready (rs := [0, 6]) (by kernel_rfl) (by simp) ?_
        refine (AllReadyH.cons (o := _) g9_0 (fun K hK => ?_) (AllReadyH.cons (o := _) g9_6 (fun K hK => ?_) AllReadyH.nil))
        · have y0 := ((hF6.keep hbc).2 0 (by omega)).1
          have y1 := ((hF6.keep hbc).2 1 (by omega)).1
          have y2 := ((hF6.keep hbc).2 2 (by omega)).1
          go_simp
          clear y0 y1 y2
          refine hK.out _ _ (Kept.of hbc) (fun _ => ?_)
          clear hK K
          refine wpAnyH_ready (rs := [6]) (by kernel_rfl) (by simp) ?_
          refine AllReadyH.cons (o := _) g9_6 (fun K hK => ?_) AllReadyH.nil
          go_simp
          refine (times_any (d x) (pdF d s x) (s x) (unhide HX).1 _).mono ?_
          rintro e w10 ⟨rfl, hb10⟩
          replace hbc := btrans hbc hb10
          clear hb10
          refine hK.out _ _ (Kept.of hbc) (fun _ => ?_)
          clear hK K
          refine wpAnyH_ready (rs := [7]) (by kernel_rfl) (by simp) ?_
          refine AllReadyH.cons (o := _) g9_7 (fun K hK => ?_) AllReadyH.nil
          go_simp
          refine (plus_any (smF d s x) (pdF d s x) (smF d s (x + 1)) (unhide HX).2.1 _).mono ?_
          rintro e w11 ⟨rfl, hb11⟩
          replace hbc := btrans hbc hb11
          clear hb11
          refine hK.out _ _ (Kept.of hbc) (fun _ => ?_)
          clear hK K
          refine wpAnyH_ready (rs := [8]) (by kernel_rfl) (by simp) ?_
          refine AllReadyH.cons (o := _) g9_8 (fun K hK => ?_) AllReadyH.nil
          have hG := hF6.keep hbc
          obtain ⟨V, E2, hV, hK8⟩ := hG.put3 (smF d s (x + 1))
          have b0 := (hG.2 0 (by omega)).1
          have f0 := (hG.2 0 (by omega)).2
          have b1 := (hG.2 1 (by omega)).1
          have f1 := (hG.2 1 (by omega)).2
          have b2 := (hG.2 2 (by omega)).1
          have f2 := (hG.2 2 (by omega)).2
          have hst := stF
          go_simp
          refine hK.out _ _ ((Kept.of hbc).trans hK8) (fun _ => ?_)
          clear hK K
          refine wpAnyH_done (by kernel_rfl) ?_ _
          refine NoPanic.normal ?_
          have HV := hide hV
          have HZn := hide ((hZ6.keep hbc).kept hK8 (unhide Hn4).2)
          have y3 := ((hB6.keep hbc).kept hK8 (by have := unhide Hn7; omega)).2.2.2.2
          have Hbn := hide (Kept.back (btrans hb6 hbc) hK8 (btrans hb6 hbc).size (fun i hi => by have := unhide Hn4; omega))
          clear hB6 hF6 hZ6 hb6 hbc hG hV hK8 b0 b1 b2 f0 f1 f2 E2 HX
          go_wp2
          go_roundw
          case rel => exact ⟨x + 1, by omega, by go_num, rfl, unhide HZn, unhide HV, unhide Hbn⟩
          case measure => simp [intOf]; omega
        · go_simp
          refine (times_any (d x) (pdF d s x) (s x) (unhide HX).1 _).mono ?_
          rintro e w10 ⟨rfl, hb10⟩
          replace hbc := btrans hbc hb10
          clear hb10
          refine hK.out _ _ (Kept.of hbc) (fun _ => ?_)
          clear hK K
          refine wpAnyH_ready (rs := [0]) (by kernel_rfl) (by simp) ?_
          refine AllReadyH.cons (o := _) g9_0 (fun K hK => ?_) AllReadyH.nil
          have y0 := ((hF6.keep hbc).2 0 (by omega)).1
          have y1 := ((hF6.keep hbc).2 1 (by omega)).1
          have y2 := ((hF6.keep hbc).2 2 (by omega)).1
          go_simp
          clear y0 y1 y2
          refine hK.out _ _ (Kept.of hbc) (fun _ => ?_)
          clear hK K
          refine wpAnyH_ready (rs := [7]) (by kernel_rfl) (by simp) ?_
          refine AllReadyH.cons (o := _) g9_7 (fun K hK => ?_) AllReadyH.nil
          go_simp
          refine (plus_any (smF d s x) (pdF d s x) (smF d s (x + 1)) (unhide HX).2.1 _).mono ?_
          rintro e w11 ⟨rfl, hb11⟩
          replace hbc := btrans hbc hb11
          clear hb11
          refine hK.out _ _ (Kept.of hbc) (fun _ => ?_)
          clear hK K
          refine wpAnyH_ready (rs := [8]) (by kernel_rfl) (by simp) ?_
          refine AllReadyH.cons (o := _) g9_8 (fun K hK => ?_) AllReadyH.nil
          have hG := hF6.keep hbc
          obtain ⟨V, E2, hV, hK8⟩ := hG.put3 (smF d s (x + 1))
          have b0 := (hG.2 0 (by omega)).1
          have f0 := (hG.2 0 (by omega)).2
          have b1 := (hG.2 1 (by omega)).1
          have f1 := (hG.2 1 (by omega)).2
          have b2 := (hG.2 2 (by omega)).1
          have f2 := (hG.2 2 (by omega)).2
          have hst := stF
          go_simp
          refine hK.out _ _ ((Kept.of hbc).trans hK8) (fun _ => ?_)
          clear hK K
          refine wpAnyH_done (by kernel_rfl) ?_ _
          refine NoPanic.normal ?_
          have HV := hide hV
          have HZn := hide ((hZ6.keep hbc).kept hK8 (unhide Hn4).2)
          have y3 := ((hB6.keep hbc).kept hK8 (by have := unhide Hn7; omega)).2.2.2.2
          have Hbn := hide (Kept.back (btrans hb6 hbc) hK8 (btrans hb6 hbc).size (fun i hi => by have := unhide Hn4; omega))
          clear hB6 hF6 hZ6 hb6 hbc hG hV hK8 b0 b1 b2 f0 f1 f2 E2 HX
          go_wp2
          go_roundw
          case rel => exact ⟨x + 1, by omega, by go_num, rfl, unhide HZn, unhide HV, unhide Hbn⟩
          case measure => simp [intOf]; omega
    · obtain rfl : k = x := by omega
      obtain ⟨ad0, oo, rfl, k0, k1, k2, k3⟩ := ((unhide HD).keep hb).at (x := k) (by omega)
      have q0 : (k : Int) < (n : Int) := by omega
      have q1 : (0 : Int) ≤ (k : Int) := by omega
      have HB := hide (BD.new wr (d k) (s k) 41)
      have HZ := hide (hZ.keep (bnew wr (.cells #[.float .f64 (d k 0), .float .f64 (d k 1), .float .f64 (d k 2), .float .f64 (s k)] 41)))
      have HF := hide (hF.keep (bnew wr (.cells #[.float .f64 (d k 0), .float .f64 (d k 1), .float .f64 (d k 2), .float .f64 (s k)] 41)))
      have Hb := hide (bal (o := .cells #[.float .f64 (d k 0), .float .f64 (d k 1), .float .f64 (d k 2), .float .f64 (s k)] 41) hb)
      have Hn7 := hide (show W.heap.size ≤ wr.heap.size ∧ n4 ≠ wr.heap.size ∧ n2 ≠ wr.heap.size by have := hF.1; have := hZ.1; have := hb.size; omega)
      clear hZ hF hb
      go_upto_region 8 with fail
      generalize wr.alloc (.cells #[.float .f64 (d k 0), .float .f64 (d k 1), .float .f64 (d k 2), .float .f64 (s k)] 41) = w3 at *
      generalize wr.heap.size = n7 at *
      clear k0 k1 k2 k3
      have i3 := (unhide HB).2.2.2.2
      go_wp2_with fail
      refine (share_any (s k) _).mono ?_
      rintro e w4 ⟨rfl, hb4⟩
      have HB4 := hide ((unhide HB).keep hb4)
      have HZ4 := hide ((unhide HZ).keep hb4)
      have HF4 := hide ((unhide HF).keep hb4)
      have Hb4 := hide (btrans (unhide Hb) hb4)
      clear hb4 HB HZ HF Hb i3
      have h0 := unhide H0
      unfold dpB at h0
      cases hs : shB (s k) with
      | false =>
        have hZz := unhide HZ4
        have hbz := unhide Hb4
        obtain ⟨V, E2, hV, hK⟩ := hZz.put3 (fun _ => 0)
        have Hb := hide (Kept.back hbz hK hbz.size (fun i hi => by have := unhide Hn; omega))
        have b0 := (hZz.2 0 (by omega)).1
        have b1 := (hZz.2 1 (by omega)).1
        have b2 := (hZz.2 2 (by omega)).1
        have f0 := (hZz.2 0 (by omega)).2
        have f1 := (hZz.2 1 (by omega)).2
        have f2 := (hZz.2 2 (by omega)).2
        have v0 := (hV.2 0 (by omega)).1
        have v1 := (hV.2 1 (by omega)).1
        have v2 := (hV.2 2 (by omega)).1
        clear hZz hbz hV hK h0 hs H0 HZ4 Hb4 HB4 HF4
        go_wp2
        exact bodyPost_ret (v := .tuple #[.agg #[.float .f64 0, .float .f64 0, .float .f64 0], .int .i64 3]) (by simp [results, Try.results7, go_sem, v0, v1, v2]) rfl ⟨rfl, unhide Hb⟩
      | true =>
        rw [hs, Bool.true_and] at h0
        have Hf := hide h0
        clear h0 hs
        have i0 := (unhide HB4).2.1
        have i1 := (unhide HB4).2.2.1
        have i2 := (unhide HB4).2.2.2.1
        go_wp2_with fail
        refine (partsOf_any (d k) _).mono ?_
        rintro e w5 ⟨rfl, hb5⟩
        have HB5 := hide ((unhide HB4).keep hb5)
        have HZ5 := hide ((unhide HZ4).keep hb5)
        have HF5 := hide ((unhide HF4).keep hb5)
        have Hb5 := hide (btrans (unhide Hb4) hb5)
        clear hb5 HB4 HZ4 HF4 Hb4 i0 i1 i2
        go_wp2_with fail
        refine (fair_any (d k) _).mono ?_
        rintro e w6 ⟨rfl, hb6⟩
        have HB6 := hide ((unhide HB5).keep hb6)
        have HZ6 := hide ((unhide HZ5).keep hb6)
        have HF6 := hide ((unhide HF5).keep hb6)
        have Hb6 := hide (btrans (unhide Hb5) hb6)
        clear hb6 HB5 HZ5 HF5 Hb5
        rw [unhide Hf]
        have hZz := unhide HZ6
        have hbz := unhide Hb6
        obtain ⟨V, E2, hV, hK⟩ := hZz.put3 (fun _ => 0)
        have Hb := hide (Kept.back hbz hK hbz.size (fun i hi => by have := unhide Hn; omega))
        have b0 := (hZz.2 0 (by omega)).1
        have b1 := (hZz.2 1 (by omega)).1
        have b2 := (hZz.2 2 (by omega)).1
        have f0 := (hZz.2 0 (by omega)).2
        have f1 := (hZz.2 1 (by omega)).2
        have f2 := (hZz.2 2 (by omega)).2
        have v0 := (hV.2 0 (by omega)).1
        have v1 := (hV.2 1 (by omega)).1
        have v2 := (hV.2 2 (by omega)).1
        clear hZz hbz hV hK Hf H0 HZ6 Hb6 HB6 HF6
        go_wp2
        exact bodyPost_ret (v := .tuple #[.agg #[.float .f64 0, .float .f64 0, .float .f64 0], .int .i64 3]) (by simp [results, Try.results7, go_sem, v0, v1, v2]) rfl ⟨rfl, unhide Hb⟩
end Go.Proofs.Ytlilmchlddiacaa
