/-
  The reference: Satin.
-/
import Derived.Test.YtpefcpbkdofblaaTrB
import Derived.Test.YtpefcpbkdofblaaLSatM
namespace Go.Proofs.Ytpefcpbkdofblaa
open Go.RowKit Go.Shelf

theorem g13_0 {a0 a1 a2 a3 a4 a5 a6 a7 a8 a9 a10 a11 a12 : Oper} : (#[a0, a1, a2, a3, a4, a5, a6, a7, a8, a9, a10, a11, a12] : Array Oper)[0]? = some a0 := rfl
theorem g13_1 {a0 a1 a2 a3 a4 a5 a6 a7 a8 a9 a10 a11 a12 : Oper} : (#[a0, a1, a2, a3, a4, a5, a6, a7, a8, a9, a10, a11, a12] : Array Oper)[1]? = some a1 := rfl
theorem g13_2 {a0 a1 a2 a3 a4 a5 a6 a7 a8 a9 a10 a11 a12 : Oper} : (#[a0, a1, a2, a3, a4, a5, a6, a7, a8, a9, a10, a11, a12] : Array Oper)[2]? = some a2 := rfl
theorem g13_3 {a0 a1 a2 a3 a4 a5 a6 a7 a8 a9 a10 a11 a12 : Oper} : (#[a0, a1, a2, a3, a4, a5, a6, a7, a8, a9, a10, a11, a12] : Array Oper)[3]? = some a3 := rfl
theorem g13_4 {a0 a1 a2 a3 a4 a5 a6 a7 a8 a9 a10 a11 a12 : Oper} : (#[a0, a1, a2, a3, a4, a5, a6, a7, a8, a9, a10, a11, a12] : Array Oper)[4]? = some a4 := rfl
theorem g13_5 {a0 a1 a2 a3 a4 a5 a6 a7 a8 a9 a10 a11 a12 : Oper} : (#[a0, a1, a2, a3, a4, a5, a6, a7, a8, a9, a10, a11, a12] : Array Oper)[5]? = some a5 := rfl
theorem g13_6 {a0 a1 a2 a3 a4 a5 a6 a7 a8 a9 a10 a11 a12 : Oper} : (#[a0, a1, a2, a3, a4, a5, a6, a7, a8, a9, a10, a11, a12] : Array Oper)[6]? = some a6 := rfl
theorem g13_7 {a0 a1 a2 a3 a4 a5 a6 a7 a8 a9 a10 a11 a12 : Oper} : (#[a0, a1, a2, a3, a4, a5, a6, a7, a8, a9, a10, a11, a12] : Array Oper)[7]? = some a7 := rfl
theorem g13_8 {a0 a1 a2 a3 a4 a5 a6 a7 a8 a9 a10 a11 a12 : Oper} : (#[a0, a1, a2, a3, a4, a5, a6, a7, a8, a9, a10, a11, a12] : Array Oper)[8]? = some a8 := rfl
theorem g13_9 {a0 a1 a2 a3 a4 a5 a6 a7 a8 a9 a10 a11 a12 : Oper} : (#[a0, a1, a2, a3, a4, a5, a6, a7, a8, a9, a10, a11, a12] : Array Oper)[9]? = some a9 := rfl
theorem g13_10 {a0 a1 a2 a3 a4 a5 a6 a7 a8 a9 a10 a11 a12 : Oper} : (#[a0, a1, a2, a3, a4, a5, a6, a7, a8, a9, a10, a11, a12] : Array Oper)[10]? = some a10 := rfl
theorem g13_11 {a0 a1 a2 a3 a4 a5 a6 a7 a8 a9 a10 a11 a12 : Oper} : (#[a0, a1, a2, a3, a4, a5, a6, a7, a8, a9, a10, a11, a12] : Array Oper)[11]? = some a11 := rfl
theorem g13_12 {a0 a1 a2 a3 a4 a5 a6 a7 a8 a9 a10 a11 a12 : Oper} : (#[a0, a1, a2, a3, a4, a5, a6, a7, a8, a9, a10, a11, a12] : Array Oper)[12]? = some a12 := rfl

theorem OwnY.kept {S : Nat → Prop} {w0 W : World} {b : Nat} {w h : Int} {p : Option Addr} {n cap : Nat} (hy : OwnY w0 b w h p n cap) (k : Kept S w0 W) (hS : ¬ S b) : OwnY W b w h p n cap := by
  have hb := k.2.2.2.2 b hy.1.1 hS
  exact ⟨k.own hy.1 hS, (World.frozen?_of_block hb).trans hy.2.1, (World.frozen?_of_block hb).trans hy.2.2.1, (World.frozen?_of_block hb).trans hy.2.2.2⟩

set_option maxHeartbeats 1000000 in
theorem rsatin_err1 (e m : Int) (W : World) (h : ¬ (1 ≤ e ∧ e ≤ 64)) : SatinErr 13 e m W 3 := by
  unfold SatinErr
  have HS := hide (bal (o := .cells #[.int .i64 0, .int .i64 0, .slice none 0 0] 25) (Below.refl W.heap.size W))
  have q : e < 1 ∨ (decide (e < 1) = false ∧ 64 < e) := by simp only [decide_eq_false_iff_not]; omega
  clear h
  rcases q with q | ⟨q1, q⟩
  all_goals
    go_enter Try.func13, Try.ntmps13
    go_wp2
    exact bodyPost_ret (v := .tuple #[tr 0 0 none 0 0, .int .i64 3]) (by simp [results, Try.results13, go_sem]) rfl ⟨rfl, unhide HS⟩

set_option maxHeartbeats 1000000 in
theorem rsatin_err2 (e : Nat) (m : Int) (W : World) (h1 : 1 ≤ e) (h2 : e ≤ 64) (hs : saB e m = false) : SatinErr 13 e m W 6 := by
  unfold SatinErr
  have B0 := bal (o := .cells #[.int .i64 0, .int .i64 0, .slice none 0 0] 25) (Below.refl W.heap.size W)
  have Y0 := OwnY.new W 0 0 none 0 0
  have g1 : decide ((e : Int) < 1) = false := by simp; omega
  have g2 : decide ((64 : Int) < (e : Int)) = false := by simp; omega
  by_cases q1 : m < 2
  · have HS := hide B0
    clear Y0
    clear hs B0
    go_enter Try.func13, Try.ntmps13
    go_wp2
    exact bodyPost_ret (v := .tuple #[tr 0 0 none 0 0, .int .i64 6]) (by simp [results, Try.results13, go_sem]) rfl ⟨rfl, unhide HS⟩
  · have q1' : decide (m < 2) = false := by simpa using q1
    by_cases q2 : (e : Int) - 2 < m
    · have HS := hide B0
      clear Y0
      clear hs B0
      go_enter Try.func13, Try.ntmps13
      go_wp2
      exact bodyPost_ret (v := .tuple #[tr 0 0 none 0 0, .int .i64 6]) (by simp [results, Try.results13, go_sem]) rfl ⟨rfl, unhide HS⟩
    · have q2' : decide ((e : Int) - 2 < m) = false := by simpa using q2
      obtain ⟨m', rfl⟩ := Int.eq_ofNat_of_zero_le (show 0 ≤ m by omega)
      have HA := hide (fun V => alone_any m' e (by omega) (by omega) h2 V)
      rw [show decide (Nat.gcd m' e = 1) = false by
        have : ¬ Nat.gcd m' e = 1 := fun hg => by
          have : saB e m' = true := by rw [saB_nat]; simp only [decide_eq_true_eq, mem_mvL]; exact ⟨by omega, by omega, by rw [Nat.gcd_comm]; exact hg⟩
          rw [this] at hs; cases hs
        simpa using this] at HA
      have HB := hide B0
      have HY := hide Y0
      clear hs B0 Y0
      go_enter Try.func13, Try.ntmps13
      go_wp2_with fail
      refine (unhide HA _).mono ?_
      rintro r w1 ⟨rfl, hb⟩
      have HS := hide (btrans (unhide HB) hb)
      obtain ⟨⟨-, u0, u1, u2⟩, f0, f1, f2⟩ := (unhide HY).keep hb
      clear hb HB HY HA
      go_wp2
      exact bodyPost_ret (v := .tuple #[tr 0 0 none 0 0, .int .i64 6]) (by simp [results, Try.results13, go_sem, u0, u1, u2]) rfl ⟨rfl, bset (bset (bset (unhide HS) (by dsimp only; omega)) (by dsimp only; omega)) (by dsimp only; omega)⟩

set_option maxRecDepth 100000 in
set_option maxHeartbeats 4000000 in
theorem rsatin_ok (e m0 : Nat) (W : World) (hs64 : e ≤ 64) (hs : saB e m0 = true) : SatinOk 13 e m0 W := by
  unfold SatinOk
  have hb3 : 2 ≤ m0 ∧ m0 + 2 ≤ e ∧ Nat.gcd e m0 = 1 := by
    rw [saB_nat] at hs
    exact (mem_mvL e m0).1 (by simpa using hs)
  obtain ⟨i0, hi, hz0, hz1, hz2⟩ := info_parts info4
  have g1 : decide ((e : Int) < 1) = false := by simp; omega
  have g2 : decide ((64 : Int) < (e : Int)) = false := by simp; omega
  have g3 : decide ((m0 : Int) < 2) = false := by simp; omega
  have g4 : decide ((e : Int) - 2 < (m0 : Int)) = false := by simp; omega
  have HA := hide (fun V => alone_any m0 e (by omega) (by omega) hs64 V)
  rw [show decide (Nat.gcd m0 e = 1) = true by rw [decide_eq_true_eq, Nat.gcd_comm]; exact hb3.2.2] at HA
  obtain ⟨ss, hss⟩ : ∃ ss, ss = e * e := ⟨_, rfl⟩
  rw [← hss]
  have Hss := hide hss
  have hme : m0 < e := by omega
  have B0 := hide (bal (o := .cells #[.int .i64 0, .int .i64 0, .slice none 0 0] 25) (Below.refl W.heap.size W))
  have Y0 := hide (OwnY.new W 0 0 none 0 0)
  obtain ⟨GG, hGG⟩ : ∃ GG, GG = saF e m0 := ⟨_, rfl⟩
  have HGG := hide hGG
  rw [← hGG]
  clear hs hss hb3 hGG
  go_enter Try.func13, Try.ntmps13
  go_wp2_with fail
  refine (unhide HA _).mono ?_
  rintro r w1 ⟨rfl, hb⟩
  have hb2 := bal (o := .cells #[.int .i64 e, .int .i64 e, .slice none 0 0] 25) hb
  have S4 := hide (btrans (unhide B0) hb2)
  have Z4 := hide ((unhide Y0).keep hb2)
  have O4 := hide (OwnW.new w1 e e)
  have hz : W.heap.size < w1.heap.size := ((unhide Y0).keep hb).1.1
  have hz5 : (w1.alloc (.cells #[.int .i64 e, .int .i64 e, .slice none 0 0] 25)).heap.size = w1.heap.size + 1 := by simp
  have Hz5 := hide hz5
  clear hb hb2 B0 Y0 HA hz5
  go_wp2
  have hz5 := unhide Hz5
  clear Hz5 g1 g2 g3 g4
  generalize w1.alloc (.cells #[.int .i64 e, .int .i64 e, .slice none 0 0] 25) = wb at *
  generalize w1.heap.size = bo at *
  have hbo : bo < wb.heap.size := by omega
  clear hz5
  go_loopw [7] (fun c wr => ∃ (y m cp : Nat) (q : Option Addr), y ≤ e ∧ c = .int .i64 y ∧ m = y * e ∧ OwnW wr bo e e q m cp ∧ wr.ownsRow wb.heap.size 4 1 (.slice q m cp) m (bitsV GG m) ∧ Kept (fun k => k = bo) wb wr) (fun c _ => e - (intOf c).toNat)
  case atStart => exact ⟨0, 0, 0, none, Nat.zero_le _, rfl, by simp, unhide O4, World.ownsRow_nil _ _ _ _, Kept.refl _ _⟩
  case round =>
    obtain ⟨y, m, cp, q, hy, rfl, hm, DC, hown, hkt⟩ := hrel
    have Hm := hide hm
    have hm6 : m ≤ 4096 := by rw [hm]; exact Nat.mul_le_mul (show y ≤ 64 by omega) hs64
    clear hm
    by_cases hlt : y < e
    · have hmN : m + e ≤ 4160 := by omega
      have q0 : (y : Int) < (e : Int) := by omega
      go_wp2
      obtain ⟨wo, rfl⟩ : ∃ wo : World, wo = wr := ⟨_, rfl⟩
      go_loopw [8] (fun c wr => ∃ (x cp : Nat) (q : Option Addr), x ≤ e ∧ c = .int .i64 x ∧ OwnW wr bo e e q (m + x) cp ∧ wr.ownsRow wb.heap.size 4 1 (.slice q (m + x) cp) (m + x) (bitsV GG (m + x)) ∧ Kept (fun k => k = bo) wb wr) (fun c _ => e - (intOf c).toNat)
      case atStart => exact ⟨0, cp, q, Nat.zero_le _, rfl, DC, hown, hkt⟩
      case round =>
        clear DC hown hkt
        obtain ⟨x, cp, q, hx, rfl, DC, hown, hkt⟩ := hrel
        by_cases hlx : x < e
        · have qx : (x : Int) < (e : Int) := by omega
          obtain ⟨ym, u, hu, e2, e3, b1, b2, b3, b4⟩ := sat_st e m0 y hs64 hme hlt
          have hv0 : GG (m + x) = ((x : Int) == (u : Int)) := by
            rw [unhide HGG, unhide Hm]
            unfold saF
            rw [dm_div _ _ _ hlx, dm_mod _ _ _ hlx, ← hu, Bool.eq_iff_iff, beq_iff_eq, beq_iff_eq, Int.natCast_inj]
          obtain ⟨v, hv⟩ : ∃ v : Bool, ((x : Int) == (u : Int)) = v := ⟨_, rfl⟩
          have Hv := hide (show bitsV GG (m + x + 1) = bitsV GG (m + x) ++ [.bool v] by rw [bitsV_succ, hv0, hv])
          have He0 := hide (show ¬ e = 0 by omega)
          have Hr7 := hide (show (ym : Int).tmod (e : Int) = (u : Int) by rw [Int.tmod_eq_emod_of_nonneg b1]; exact e3)
          clear hv0 hu
          have d3 := DC.1.2.2.2
          have f3 := DC.2
          have hdlt := DC.1.1
          have hszk := hkt.2.2.2.1
          go_wp2_with fail
          refine wp_region_noPanic ?_
          refine wp_region_held_drew (S := fun V => Kept (fun k => k = bo) wb V) (by kernel_rfl) (Kept.drew hkt) ?_
          intro _
          have hSd := Kept.drew hkt
          clear hkt
          refine wpAnyH_take (i := 0) (oi := _) (v := .pointer (some ⟨bo, 2, none⟩)) g13_0 (by kernel_rfl) (by kernel_rfl) (by kernel_rfl) (fun _ _ _ h => h) (Or.inl ⟨by rfl, ?_⟩) (by assumption) ?_
          · intro V hSw
            try dsimp only at hSw
            go_simp
          simp only [Act.put, List.setIfInBounds_toArray, List.set_cons_zero, List.set_cons_succ]
          refine wpAnyH_take (i := 2) (oi := _) (v := .int .i64 x) g13_2 (by kernel_rfl) (by kernel_rfl) (by kernel_rfl) (fun _ _ _ h => h) (Or.inl ⟨by rfl, ?_⟩) (by assumption) ?_
          · intro V hSw
            try dsimp only at hSw
            go_simp
          simp only [Act.put, List.setIfInBounds_toArray, List.set_cons_zero, List.set_cons_succ]
          refine wpAnyH_take (i := 3) (oi := _) (v := .int .i64 y) g13_3 (by kernel_rfl) (by kernel_rfl) (by kernel_rfl) (fun _ _ _ h => h) (Or.inl ⟨by rfl, ?_⟩) (by assumption) ?_
          · intro V hSw
            try dsimp only at hSw
            go_simp
          simp only [Act.put, List.setIfInBounds_toArray, List.set_cons_zero, List.set_cons_succ]
          refine wpAnyH_take (i := 4) (oi := _) (v := .int .i64 m0) g13_4 (by kernel_rfl) (by kernel_rfl) (by kernel_rfl) (fun _ _ _ h => h) (Or.inl ⟨by rfl, ?_⟩) (by assumption) ?_
          · intro V hSw
            try dsimp only at hSw
            go_simp
          simp only [Act.put, List.setIfInBounds_toArray, List.set_cons_zero, List.set_cons_succ]
          refine wpAnyH_take (i := 5) (oi := _) (v := .int .i64 ym) g13_5 (by kernel_rfl) (by kernel_rfl) (by kernel_rfl) (fun _ _ _ h => h) (Or.inl ⟨by rfl, ?_⟩) (by assumption) ?_
          · intro V hSw
            try dsimp only at hSw
            go_simp
            rw [Go.IntWalk.i64_left]; exact e2
          simp only [Act.put, List.setIfInBounds_toArray, List.set_cons_zero, List.set_cons_succ]
          refine wpAnyH_take (i := 6) (oi := _) (v := .int .i64 e) g13_6 (by kernel_rfl) (by kernel_rfl) (by kernel_rfl) (fun _ _ _ h => h) (Or.inl ⟨by rfl, ?_⟩) (by assumption) ?_
          · intro V hSw
            try dsimp only at hSw
            go_simp
          simp only [Act.put, List.setIfInBounds_toArray, List.set_cons_zero, List.set_cons_succ]
          refine wpAnyH_take (i := 7) (oi := _) (v := .int .i64 u) g13_7 (by kernel_rfl) (by kernel_rfl) (by kernel_rfl) (fun _ _ _ h => h) (Or.inl ⟨by rfl, ?_⟩) (by assumption) ?_
          · intro V hSw
            try dsimp only at hSw
            go_simp
            rw [if_neg (unhide He0), unhide Hr7]
          simp only [Act.put, List.setIfInBounds_toArray, List.set_cons_zero, List.set_cons_succ]
          refine wpAnyH_take (i := 8) (oi := _) (v := .bool v) g13_8 (by kernel_rfl) (by kernel_rfl) (by kernel_rfl) (fun _ _ _ h => h) (Or.inl ⟨by rfl, ?_⟩) (by assumption) ?_
          · intro V hSw
            try dsimp only at hSw
            go_simp
          simp only [Act.put, List.setIfInBounds_toArray, List.set_cons_zero, List.set_cons_succ]
          refine wpAnyH_ready (rs := [1, 9]) (by kernel_rfl) (by simp) ?_
          refine AllReadyH.cons (o := _) g13_1 (fun K hK => ?_) (AllReadyH.cons (o := _) g13_9 (fun K hK => ?_) AllReadyH.nil)
          · go_simp
            refine hK.out _ _ hSd (fun _ => ?_)
            clear hK K
            refine wpAnyH_ready (rs := [9]) (by kernel_rfl) (by simp) ?_
            refine AllReadyH.cons (o := _) g13_9 (fun K hK => ?_) AllReadyH.nil
            go_simp
            refine hK.out _ _ (hSd.alloc _) (fun _ => ?_)
            clear hK K
            refine wpAnyH_ready (rs := [10]) (by kernel_rfl) (by simp) ?_
            refine AllReadyH.cons (o := _) g13_10 (fun K hK => ?_) AllReadyH.nil
            have DCd := DC.keep (Below.drew (Below.refl _ _))
            have hownd := hown.drew
            refine wp_append_own _ _ _ 23 rfl wb.heap.size 4 i0 (.bool false) 1 1 Try.underlying23 hi hz0 hz1 hz2 rfl (by decide) (.slice q (m + x) cp) (m + x) (bitsV GG (m + x)) rfl (hownd.alloc _) ⟨wr.drew.heap.size, 0, none⟩ 1 1 [.bool v] rfl ?c1 ?c2 ?c3 ?c4 ?c5 ?c6 ?_
            case c1 => rfl
            case c2 =>
              intro j u hj
              match j, hj with
              | 0, hj => simp at hj; subst hj; simp [Addr.add]
            case c3 => intro u hu; simp at hu; subst hu; rfl
            case c4 => unfold maxLen; omega
            case c5 => omega
            case c6 => simp; omega
            intro v' w4 hown' hgrow _
            have hbk : ∀ j, (Value.slice q (m + x) cp).ownBlock = some j → wb.heap.size ≤ j := fun j e => (hownd.lt j e).1
            have S4' := (hSd.alloc (.cells #[.bool v] 4)).grown hgrow (fun r e => .inl (hbk r e))
            have D4 := (DCd.keep (bal (o := .cells #[.bool v] 4) (Below.refl _ _))).grown hgrow (fun e => by have := hbk _ e.symm; omega)
            obtain ⟨q', cap', rfl⟩ := own_form hown'
            refine hK.out _ _ S4' (fun _ => ?_)
            clear hK K hown hownd hgrow d3 f3 DC DCd hSd hbk
            have d3 := D4.1.2.2.2
            have f3 := D4.2
            refine wpAnyH_ready (rs := [11]) (by kernel_rfl) (by simp) ?_
            refine AllReadyH.cons (o := _) g13_11 (fun K hK => ?_) AllReadyH.nil
            go_simp
            refine hK.out _ _ S4' (fun _ => ?_)
            clear hK K
            refine wpAnyH_ready (rs := [12]) (by kernel_rfl) (by simp) ?_
            refine AllReadyH.cons (o := _) g13_12 (fun K hK => ?_) AllReadyH.nil
            go_simp
            have S5 := S4'.set bo 2 (.slice q' (m + x + 1) cap') rfl
            have D5 := D4.set2 q' (m + x + 1) cap'
            have own5 := ownsRow_setCell_below (a := ⟨bo, 2, none⟩) hown' (by dsimp only; omega) (.slice q' (m + x + 1) cap')
            refine hK.out _ _ S5 (fun _ => ?_)
            refine wpAnyH_done (by kernel_rfl) ?_ _
            refine NoPanic.normal ?_
            clear hK K d3 f3
            have HS5 := hide S5
            have HD5 := hide D5
            have HO5 := hide own5
            clear S5 D5 own5 S4' D4 hown'
            go_wp2
            go_roundw
            case rel =>
              refine ⟨x + 1, cap', q', by omega, by go_num, unhide HD5, ?_, unhide HS5⟩
              have hv := unhide Hv
              rw [show m + (x + 1) = m + x + 1 from rfl, hv]
              exact unhide HO5
            case measure => simp [intOf]; omega
          · go_simp
            refine hK.out _ _ (hSd.alloc _) (fun _ => ?_)
            clear hK K
            refine wpAnyH_ready (rs := [1]) (by kernel_rfl) (by simp) ?_
            refine AllReadyH.cons (o := _) g13_1 (fun K hK => ?_) AllReadyH.nil
            go_simp
            refine hK.out _ _ (hSd.alloc _) (fun _ => ?_)
            clear hK K
            refine wpAnyH_ready (rs := [10]) (by kernel_rfl) (by simp) ?_
            refine AllReadyH.cons (o := _) g13_10 (fun K hK => ?_) AllReadyH.nil
            have DCd := DC.keep (Below.drew (Below.refl _ _))
            have hownd := hown.drew
            refine wp_append_own _ _ _ 23 rfl wb.heap.size 4 i0 (.bool false) 1 1 Try.underlying23 hi hz0 hz1 hz2 rfl (by decide) (.slice q (m + x) cp) (m + x) (bitsV GG (m + x)) rfl (hownd.alloc _) ⟨wr.drew.heap.size, 0, none⟩ 1 1 [.bool v] rfl ?c1 ?c2 ?c3 ?c4 ?c5 ?c6 ?_
            case c1 => rfl
            case c2 =>
              intro j u hj
              match j, hj with
              | 0, hj => simp at hj; subst hj; simp [Addr.add]
            case c3 => intro u hu; simp at hu; subst hu; rfl
            case c4 => unfold maxLen; omega
            case c5 => omega
            case c6 => simp; omega
            intro v' w4 hown' hgrow _
            have hbk : ∀ j, (Value.slice q (m + x) cp).ownBlock = some j → wb.heap.size ≤ j := fun j e => (hownd.lt j e).1
            have S4' := (hSd.alloc (.cells #[.bool v] 4)).grown hgrow (fun r e => .inl (hbk r e))
            have D4 := (DCd.keep (bal (o := .cells #[.bool v] 4) (Below.refl _ _))).grown hgrow (fun e => by have := hbk _ e.symm; omega)
            obtain ⟨q', cap', rfl⟩ := own_form hown'
            refine hK.out _ _ S4' (fun _ => ?_)
            clear hK K hown hownd hgrow d3 f3 DC DCd hSd hbk
            have d3 := D4.1.2.2.2
            have f3 := D4.2
            refine wpAnyH_ready (rs := [11]) (by kernel_rfl) (by simp) ?_
            refine AllReadyH.cons (o := _) g13_11 (fun K hK => ?_) AllReadyH.nil
            go_simp
            refine hK.out _ _ S4' (fun _ => ?_)
            clear hK K
            refine wpAnyH_ready (rs := [12]) (by kernel_rfl) (by simp) ?_
            refine AllReadyH.cons (o := _) g13_12 (fun K hK => ?_) AllReadyH.nil
            go_simp
            have S5 := S4'.set bo 2 (.slice q' (m + x + 1) cap') rfl
            have D5 := D4.set2 q' (m + x + 1) cap'
            have own5 := ownsRow_setCell_below (a := ⟨bo, 2, none⟩) hown' (by dsimp only; omega) (.slice q' (m + x + 1) cap')
            refine hK.out _ _ S5 (fun _ => ?_)
            refine wpAnyH_done (by kernel_rfl) ?_ _
            refine NoPanic.normal ?_
            clear hK K d3 f3
            have HS5 := hide S5
            have HD5 := hide D5
            have HO5 := hide own5
            clear S5 D5 own5 S4' D4 hown'
            go_wp2
            go_roundw
            case rel =>
              refine ⟨x + 1, cap', q', by omega, by go_num, unhide HD5, ?_, unhide HS5⟩
              have hv := unhide Hv
              rw [show m + (x + 1) = m + x + 1 from rfl, hv]
              exact unhide HO5
            case measure => simp [intOf]; omega
        · obtain rfl : e = x := by omega
          have cl : ¬ ((e : Int) < (e : Int)) := by omega
          have Hs := hide (show m + e = (y + 1) * e by rw [mul_step, unhide Hm])
          have HDC := hide DC
          have Hown := hide hown
          have Hkt := hide hkt
          clear DC hown hkt
          go_wp2
          go_roundw
          case rel => exact ⟨y + 1, m + e, cp, q, by omega, by go_num, unhide Hs, unhide HDC, unhide Hown, unhide Hkt⟩
          case measure => simp [intOf]; omega
    · obtain rfl : e = y := by omega
      have cl : ¬ ((e : Int) < (e : Int)) := by omega
      have hmn : m = ss := by rw [unhide Hm, unhide Hss]
      subst hmn
      have HS5 := hide (Kept.back (unhide S4) hkt (fun q e => by omega))
      have HT5 := hide (show Rt wr e e q m cp GG from ⟨hs64, hs64, unhide Hss, own_bs hown rfl⟩)
      obtain ⟨-, o0, o1, o2⟩ := DC.1
      obtain ⟨⟨-, u0, u1, u2⟩, f0, f1, f2⟩ := (unhide Z4).kept hkt (by omega)
      have Hoq := hide (show Off q m W.heap.size from own_off hown (by omega))
      have Hoj := hide (show ∀ j, j < W.heap.size → Off q m j from fun j hj => own_off hown (by omega))
      clear DC hown hkt
      go_wp2
      refine bodyPost_ret (v := .tuple #[tr e e q m cp, .int .i64 0]) (by simp [results, Try.results13, go_sem, u0, u1, u2]) rfl ⟨q, cp, rfl, ?_, bset (bset (bset (unhide HS5) (by dsimp only; omega)) (by dsimp only; omega)) (by dsimp only; omega)⟩
      refine ⟨⟨hs64, hs64, unhide Hss, ?_⟩, unhide Hoj⟩
      skip
      exact (unhide HT5).2.2.2.grown (gput W.heap.size _ _ _) (unhide Hoq)
end Go.Proofs.Ytpefcpbkdofblaa
