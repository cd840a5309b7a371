/-
  FabricSwaps: the walk.
-/
import Derived.Test.YtancniamgfppiaaFC
namespace Go.Proofs.Ytancniamgfppiaa
open Go.RowKit

theorem sw11_0 {a0 a1 a2 a3 a4 a5 a6 a7 a8 a9 a10 : Oper} : (#[a0, a1, a2, a3, a4, a5, a6, a7, a8, a9, a10] : Array Oper)[0]? = some a0 := rfl
theorem sw11_1 {a0 a1 a2 a3 a4 a5 a6 a7 a8 a9 a10 : Oper} : (#[a0, a1, a2, a3, a4, a5, a6, a7, a8, a9, a10] : Array Oper)[1]? = some a1 := rfl
theorem sw11_2 {a0 a1 a2 a3 a4 a5 a6 a7 a8 a9 a10 : Oper} : (#[a0, a1, a2, a3, a4, a5, a6, a7, a8, a9, a10] : Array Oper)[2]? = some a2 := rfl
theorem sw11_3 {a0 a1 a2 a3 a4 a5 a6 a7 a8 a9 a10 : Oper} : (#[a0, a1, a2, a3, a4, a5, a6, a7, a8, a9, a10] : Array Oper)[3]? = some a3 := rfl
theorem sw11_4 {a0 a1 a2 a3 a4 a5 a6 a7 a8 a9 a10 : Oper} : (#[a0, a1, a2, a3, a4, a5, a6, a7, a8, a9, a10] : Array Oper)[4]? = some a4 := rfl
theorem sw11_5 {a0 a1 a2 a3 a4 a5 a6 a7 a8 a9 a10 : Oper} : (#[a0, a1, a2, a3, a4, a5, a6, a7, a8, a9, a10] : Array Oper)[5]? = some a5 := rfl
theorem sw11_6 {a0 a1 a2 a3 a4 a5 a6 a7 a8 a9 a10 : Oper} : (#[a0, a1, a2, a3, a4, a5, a6, a7, a8, a9, a10] : Array Oper)[6]? = some a6 := rfl
theorem sw11_7 {a0 a1 a2 a3 a4 a5 a6 a7 a8 a9 a10 : Oper} : (#[a0, a1, a2, a3, a4, a5, a6, a7, a8, a9, a10] : Array Oper)[7]? = some a7 := rfl
theorem sw11_8 {a0 a1 a2 a3 a4 a5 a6 a7 a8 a9 a10 : Oper} : (#[a0, a1, a2, a3, a4, a5, a6, a7, a8, a9, a10] : Array Oper)[8]? = some a8 := rfl
theorem sw11_9 {a0 a1 a2 a3 a4 a5 a6 a7 a8 a9 a10 : Oper} : (#[a0, a1, a2, a3, a4, a5, a6, a7, a8, a9, a10] : Array Oper)[9]? = some a9 := rfl
theorem sw11_10 {a0 a1 a2 a3 a4 a5 a6 a7 a8 a9 a10 : Oper} : (#[a0, a1, a2, a3, a4, a5, a6, a7, a8, a9, a10] : Array Oper)[10]? = some a10 := rfl
/-- stitches that make this cloth -/
def Mk (N n : Nat) (kn : Kn) (g : Nat → Sx) : Prop := (∀ k, k < n → erS N g k = 0) ∧ reN (tell N (knS N g n)) = kn

set_option maxRecDepth 100000 in
set_option maxHeartbeats 8000000 in
theorem swaps_ok {N : Nat} {W : World} {q aq : Option Addr} {n c na ac : Nat} {f : Nat → Sx} {af : Nat → Int} (h1 : 1 ≤ N) (hN : N ≤ 128) (hs : Sc W q n f) (hq : q = none → n = 0 ∧ c = 0) (hat : Is W aq na af) (hna : (na : Int) ≤ 9223372036854775807) (hn : n * 40 + 4096 ≤ 140737488355328) (hall : ∀ i, i < n → erS N f i = 0) : LawIs 4 #[.int .i64 (N : Int), .slice q n c, .slice aq na ac] W := by
  unfold LawIs
  have HA := hide (alive_any W)
  unfold Ans at HA
  have HK := hide (fun V (hV : Below W.heap.size W V) => cloth_ok (c := c) h1 hN (hs.keep hV) hn hall)
  have HSr := hide (fun V (hV : Below W.heap.size W V) => (hs.keep hV).src (c := c) hq)
  have HAt := hide (fun V (hV : Below W.heap.size W V) => hat.keep hV)
  have HFit := hide (fit_re N f n hN)
  have HMk := hide (show Mk N n (reN (tell N (knS N f n))) f from ⟨hall, rfl⟩)
  have HSw := hide (show ∀ kn g i, Mk N n kn g → i + 1 < n → mayB (g i) (g (i + 1)) (rkF g i) = true → Mk N n kn (swF g i) from fun kn g i hk hi hm => by
    have := swap_ok hN hk.1 hi hm
    exact ⟨this.1, this.2.trans hk.2⟩)
  have HCl := hide (show ∀ kn g V q c, Mk N n kn g → Sc V q n g → Calls Try.prog 7 #[.int .i64 (N : Int), .slice q n c] V fun e w' => ∃ v, e = .returned (.tuple #[v, fltV 0 0]) ∧ KR w' V.heap.size v kn ∧ Below V.heap.size V w' from fun kn g V q c hk hS => by
    have := cloth_ok (c := c) h1 hN hS hn hk.1
    rw [hk.2] at this
    exact this)
  have HM := hide (fun x y r V => may_any x y r V)
  unfold Ans at HM
  clear hs hall hat hq
  generalize reN (tell N (knS N f n)) = kn at *
  go_enter Try.func4, Try.ntmps4
  go_wp2_with fail
  refine (unhide HA).mono ?_
  rintro e w1 ⟨rfl, hb1⟩
  have S1 := hide hb1
  clear hb1
  go_wp2_with fail
  refine (unhide HK _ (unhide S1)).mono ?_
  rintro e w2 ⟨v, rfl, hR2, hb2⟩
  have S2 := hide (btrans (unhide S1) hb2)
  obtain ⟨a1, a2, a3, a4, a5, a6, a7, a8, a9, d1, d2, d3, rfl⟩ := hR2.parts
  have HR2 := hide hR2
  clear hb2 hR2 HA HK
  obtain ⟨rk, hrk⟩ : ∃ rk, rk = kn.rack := ⟨_, rfl⟩
  rw [← hrk] at HR2
  rw [← hrk]
  have Hrk := hide hrk
  clear hrk
  obtain ⟨t1, t2, t3⟩ := two_boxes w2 (.slice a1 a2 a3) (.slice a4 a5 a6) (.slice a7 a8 a9) (.slice d1 d3 d2) rk 0 0
  have HKb := hide t1
  have HFb := hide t2
  have S3 := hide (btrans (unhide S2) t3)
  have HR3 := hide ((unhide HR2).keep t3)
  have Hs2 := hide (unhide S2).size
  clear t1 t2 t3 HR2 S2
  go_upto_region 4 with fail
  generalize (w2.alloc (.cells #[.slice a1 a2 a3, .slice a4 a5 a6, .slice a7 a8 a9, .slice d1 d3 d2, .int .i64 rk] 29)).alloc (.cells #[.int .i64 0, .int .i64 0] 32) = w3 at *
  obtain ⟨fb, hfb⟩ : ∃ b, b = w2.heap.size + 1 := ⟨_, rfl⟩
  rw [← hfb] at HFb
  rw [← hfb]
  obtain ⟨kb, hkb⟩ : ∃ b, b = w2.heap.size := ⟨_, rfl⟩
  rw [← hkb] at HKb
  rw [← hkb]
  have Hlo := hide (show W.heap.size ≤ fb by have := unhide Hs2; omega)
  clear hfb hkb
  obtain ⟨-, ⟨f0, f1⟩, -⟩ := unhide HFb
  have HY := hide (unhide HSr _ (btrans (unhide S3) (bnew w3 (.cells #[] 24))))
  have HO := hide (own_lit (B := w3.heap.size) (e := 24) (z := 5) (k := 0) w3 #[] (Nat.le_refl _) (by unfold maxLen; omega) rfl)
  have B0 := hide (bnew w3 (.cells #[] 24))
  have H1 := hide (show ∀ u ∈ stV (lsG f n), u.oneCell' = true from fun u hu => by
    obtain ⟨l, hl, hu⟩ := List.mem_flatten.1 hu
    obtain ⟨x, -, rfl⟩ := List.mem_map.1 hl
    exact one_st x u hu)
  go_wp2_with (at_builtin; refine wl_src rfl rfl Try.underlying22 info44 rfl (by decide) rfl rfl (unhide HO) (unhide HY) (unhide H1) (by unfold maxLen; omega) (by omega) (by simp) ?_)
  intro mv w4 hown' hgrow _
  have S4 := hide ((unhide B0).grown hgrow (by simp) (fun k hk => by have := ((unhide HO).lt k hk).1; omega))
  have H4 := hide (show w4.ownsRow w3.heap.size 24 5 mv n (stV (lsG f n)) from by simpa using hown')
  obtain ⟨mq, mc, rfl⟩ := own_form (unhide H4)
  have HM4 := hide (show MR w4 w3.heap.size mq n mc f from unhide H4)
  clear hown' hgrow f0 f1 HY HO B0 H1 H4 HSr
  go_wp2
  go_loopw [32] (fun i wr => ∃ (x : Nat) (g : Nat → Sx), x ≤ na ∧ i = .int .i64 x ∧ MR wr w3.heap.size mq n mc g ∧ Mk N n kn g ∧ Below w3.heap.size w3 wr) (fun i _ => na - (intOf i).toNat)
  case atStart => exact ⟨0, f, Nat.zero_le _, rfl, unhide HM4, unhide HMk, unhide S4⟩
  case round =>
    clear HM4 S4 HMk
    obtain ⟨x, g, hx, rfl, hMR, hMk, hB⟩ := hrel
    have HMR := hide hMR
    have HMk := hide hMk
    have HB := hide hB
    clear hMR hMk hB
    by_cases hlt : x < na
    · have q1 : (x : Int) < (na : Int) := by omega
      have q2 : (0 : Int) ≤ (x : Int) := by omega
      obtain ⟨ab, ao, rfl, ca⟩ := (unhide HAt wr (btrans (unhide S3) (unhide HB))).at hlt
      generalize af x = a at *
      by_cases ha : a < 0
      · have ha2 : decide (a < 0) = true := by simpa using ha
        go_wp2
        go_roundw
        case rel => exact ⟨x + 1, g, by omega, by go_num, unhide HMR, unhide HMk, unhide HB⟩
        case measure => simp [intOf]; omega
      · have ha2 : decide (a < 0) = false := by simpa using ha
        by_cases hc : a ≥ (n : Int) - 1
        · go_wp2
          go_roundw
          case rel => exact ⟨x + 1, g, by omega, by go_num, unhide HMR, unhide HMk, unhide HB⟩
          case measure => simp [intOf]; omega
        · obtain ⟨i, rfl⟩ : ∃ i : Nat, a = i := ⟨a.toNat, by omega⟩
          have hi : i + 1 < n := by omega
          have hcap := (unhide HMR).cap
          obtain ⟨gm, mc', hm⟩ := own_slice (unhide HMR) (by omega)
          simp only [Value.slice.injEq] at hm
          obtain ⟨rfl, -, -⟩ := hm
          obtain ⟨wo, rfl⟩ : ∃ w, w = wr := ⟨_, rfl⟩
          have p1 : (0 : Int) ≤ (i : Int) := by omega
          have p2 : (i : Int) ≤ (mc : Int) := by omega
          have p3 : i ≤ mc := by omega

          go_wp2
          go_loopw [12, 49] (fun rv jv wr => ∃ (j : Nat) (r : Int), j ≤ i ∧ r = rkF g j ∧ rv = .int .i64 r ∧ jv = .int .i64 j ∧ Below wo.heap.size wo wr) (fun _ jv _ => i - (intOf jv).toNat)
          case atStart => exact ⟨0, 0, Nat.zero_le _, rfl, rfl, rfl, Below.refl _ _⟩
          case round =>
            obtain ⟨j, r, hj, hr, rfl, rfl, hBi⟩ := hrel
            have HBi := hide hBi
            have Hr := hide hr
            clear hBi hr
            by_cases hji : j < i
            · have k1 : (j : Int) < (i : Int) := by omega
              have k2 : (0 : Int) ≤ (j : Int) := by omega
              obtain ⟨c0, c1, c2, c3, c4⟩ := ((unhide HMR).keep (unhide HBi)).at (show j < n by omega)
              have HX := hide (XB.new wr (g j))
              have HB1 := hide (btrans (unhide HBi) (bnew wr (.cells #[.int .i64 (g j).dk, .int .i64 (g j).bed, .int .i64 (g j).ndl, .int .i64 (g j).car, .int .i64 (g j).tt] 24)))
              by_cases h6 : (g j).dk = 6
              · have g6 : ((g j).dk == 6) = true := by simp [h6]
                have Hn := hide (show (g j).tt = rkF g (j + 1) by simp only [rkF]; rw [if_pos h6])
                clear h6
                go_upto_region 15 with fail
                generalize wr.alloc (.cells #[.int .i64 (g j).dk, .int .i64 (g j).bed, .int .i64 (g j).ndl, .int .i64 (g j).car, .int .i64 (g j).tt] 24) = w5 at *
                clear c0 c1 c2 c3 c4
                obtain ⟨-, x0, x1, x2, x3, x4⟩ := unhide HX
                go_wp2
                go_roundw
                case rel => exact ⟨j + 1, _, by omega, unhide Hn, rfl, by go_num, unhide HB1⟩
                case measure => simp [intOf]; omega
              · have g6 : ((g j).dk == 6) = false := by simpa using h6
                have Hn := hide (show r = rkF g (j + 1) by simp only [rkF]; rw [if_neg h6, unhide Hr])
                clear h6
                go_upto_region 15 with fail
                generalize wr.alloc (.cells #[.int .i64 (g j).dk, .int .i64 (g j).bed, .int .i64 (g j).ndl, .int .i64 (g j).car, .int .i64 (g j).tt] 24) = w5 at *
                clear c0 c1 c2 c3 c4
                obtain ⟨-, x0, x1, x2, x3, x4⟩ := unhide HX
                go_wp2
                go_roundw
                case rel => exact ⟨j + 1, _, by omega, unhide Hn, rfl, by go_num, unhide HB1⟩
                case measure => simp [intOf]; omega
            · obtain rfl : i = j := by omega
              have cl : ¬ ((i : Int) < (i : Int)) := by omega
              have HMi := hide ((unhide HMR).keep (unhide HBi))
              obtain ⟨y, hy⟩ : ∃ y, y = i + 1 := ⟨_, rfl⟩
              have Hy := hide hy
              have y1 : (i : Int) + 1 = (y : Int) := by omega
              have y2 : IntKind.i64.wrap (y : Int) = (y : Int) := Go.IntWalk.i64_in _ (by omega)
              have y3 : (y : Int) < (n : Int) := by omega
              have y4 : (0 : Int) ≤ (y : Int) := by omega
              have y5 : (i : Int) < (n : Int) := by omega
              have HSi := hide (fun V (hV : Below wr.heap.size wr V) => ((unhide HMi).keep hV).at (show i < n by omega))
              have HSy := hide (fun V (hV : Below wr.heap.size wr V) => ((unhide HMi).keep hV).at (show y < n by omega))
              clear hy
              go_upto_region 18 with fail
              refine wp_region_noPanic ?_
              refine wp_region_held_drew (S := fun V => Below wr.heap.size wr V) (by kernel_rfl) (bdrew _) ?_
              intro _
              refine wpAnyH_take (i := 0) (oi := _) (v := .slice (some ⟨gm, 0, none⟩) n mc) sw11_0 (by kernel_rfl) (by kernel_rfl) (by kernel_rfl) (fun _ _ _ h => h) (Or.inl ⟨by rfl, ?_⟩) (by assumption) ?_
              · intro V hSw
                try dsimp only at hSw
                go_simp
              simp only [Act.put, List.setIfInBounds_toArray, List.set_cons_zero, List.set_cons_succ]
              refine wpAnyH_take (i := 1) (oi := _) (v := .int .i64 (i : Int)) sw11_1 (by kernel_rfl) (by kernel_rfl) (by kernel_rfl) (fun _ _ _ h => h) (Or.inl ⟨by rfl, ?_⟩) (by assumption) ?_
              · intro V hSw
                try dsimp only at hSw
                go_simp
              simp only [Act.put, List.setIfInBounds_toArray, List.set_cons_zero, List.set_cons_succ]
              refine wpAnyH_take (i := 2) (oi := _) (v := .pointer (some ⟨gm, i * 5, none⟩)) sw11_2 (by kernel_rfl) (by kernel_rfl) (by kernel_rfl) (fun _ _ _ h => h) (Or.inl ⟨by rfl, ?_⟩) (by assumption) ?_
              · intro V hSw
                try dsimp only at hSw
                go_simp
              simp only [Act.put, List.setIfInBounds_toArray, List.set_cons_zero, List.set_cons_succ]
              refine wpAnyH_take (i := 3) (oi := _) (v := sxV (g i)) sw11_3 (by kernel_rfl) (by kernel_rfl) (by kernel_rfl) (fun _ _ _ h => h) (Or.inl ⟨by rfl, ?_⟩) (by assumption) ?_
              · intro V hSw
                try dsimp only at hSw
                obtain ⟨m0, m1, m2, m3, m4⟩ := unhide HSi V hSw
                go_simp
              simp only [Act.put, List.setIfInBounds_toArray, List.set_cons_zero, List.set_cons_succ]
              refine wpAnyH_take (i := 4) (oi := _) (v := .slice (some ⟨gm, 0, none⟩) n mc) sw11_4 (by kernel_rfl) (by kernel_rfl) (by kernel_rfl) (fun _ _ _ h => h) (Or.inl ⟨by rfl, ?_⟩) (by assumption) ?_
              · intro V hSw
                try dsimp only at hSw
                go_simp
              simp only [Act.put, List.setIfInBounds_toArray, List.set_cons_zero, List.set_cons_succ]
              refine wpAnyH_take (i := 5) (oi := _) (v := .int .i64 (i : Int)) sw11_5 (by kernel_rfl) (by kernel_rfl) (by kernel_rfl) (fun _ _ _ h => h) (Or.inl ⟨by rfl, ?_⟩) (by assumption) ?_
              · intro V hSw
                try dsimp only at hSw
                go_simp
              simp only [Act.put, List.setIfInBounds_toArray, List.set_cons_zero, List.set_cons_succ]
              refine wpAnyH_take (i := 6) (oi := _) (v := .int .i64 (y : Int)) sw11_6 (by kernel_rfl) (by kernel_rfl) (by kernel_rfl) (fun _ _ _ h => h) (Or.inl ⟨by rfl, ?_⟩) (by assumption) ?_
              · intro V hSw
                try dsimp only at hSw
                go_simp
              simp only [Act.put, List.setIfInBounds_toArray, List.set_cons_zero, List.set_cons_succ]
              refine wpAnyH_take (i := 7) (oi := _) (v := .pointer (some ⟨gm, y * 5, none⟩)) sw11_7 (by kernel_rfl) (by kernel_rfl) (by kernel_rfl) (fun _ _ _ h => h) (Or.inl ⟨by rfl, ?_⟩) (by assumption) ?_
              · intro V hSw
                try dsimp only at hSw
                go_simp
              simp only [Act.put, List.setIfInBounds_toArray, List.set_cons_zero, List.set_cons_succ]
              refine wpAnyH_take (i := 8) (oi := _) (v := sxV (g y)) sw11_8 (by kernel_rfl) (by kernel_rfl) (by kernel_rfl) (fun _ _ _ h => h) (Or.inl ⟨by rfl, ?_⟩) (by assumption) ?_
              · intro V hSw
                try dsimp only at hSw
                obtain ⟨m0, m1, m2, m3, m4⟩ := unhide HSy V hSw
                go_simp
              simp only [Act.put, List.setIfInBounds_toArray, List.set_cons_zero, List.set_cons_succ]
              refine wpAnyH_take (i := 9) (oi := _) (v := .int .i64 r) sw11_9 (by kernel_rfl) (by kernel_rfl) (by kernel_rfl) (fun _ _ _ h => h) (Or.inl ⟨by rfl, ?_⟩) (by assumption) ?_
              · intro V hSw
                try dsimp only at hSw
                go_simp
              simp only [Act.put, List.setIfInBounds_toArray, List.set_cons_zero, List.set_cons_succ]
              refine wpAnyH_ready (rs := [10]) (by kernel_rfl) (by simp) ?_
              refine AllReadyH.cons (o := _) sw11_10 (fun K hK => ?_) AllReadyH.nil
              go_simp
              refine (unhide HM (g i) (g y) r _).mono ?_
              rintro e w6 ⟨rfl, hb6⟩
              have S6 := hide (btrans (bdrew wr) hb6)
              clear hb6
              refine hK.out _ _ (unhide S6) (fun _ => ?_)
              clear hK K
              refine wpAnyH_done (by kernel_rfl) ?_ _
              refine NoPanic.normal ?_
              have HM6 := hide ((unhide HMi).keep (unhide S6))
              have HB6 := hide ((unhide HB).trans ((btrans (unhide HBi) (unhide S6)).mono (unhide HB).size))
              cases hm : mayB (g i) (g y) r with
              | false =>
                clear hm
                go_wp2
                go_roundw
                case rel => exact ⟨x + 1, g, by omega, by go_num, unhide HM6, unhide HMk, unhide HB6⟩
                case measure => simp [intOf]; omega
              | true =>
                have HMn := hide (unhide HSw kn g i (unhide HMk) hi (by rw [← unhide Hy, ← unhide Hr]; exact hm))
                clear hm
                have HMs := hide ((unhide HM6).swap hi)
                have HKs := hide ((put5_kept w6 gm i (g (i + 1))).trans (put5_kept (put5 w6 gm i (g (i + 1))) gm (i + 1) (g i)))
                have HBs := hide (Kept.back (unhide HB6) (unhide HKs) (unhide HB6).size (fun k e => by rw [e]; exact (World.ownsRow.lt (unhide HM6) gm rfl).1))
                rw [← unhide Hy] at HMs HBs
                obtain ⟨i0, i1, i2, i3, i4⟩ := (unhide HM6).at (show i < n by omega)
                obtain ⟨j0, j1, j2, j3, j4⟩ := (unhide HM6).at (show y < n by omega)
                have i5 := (unhide HM6).fr (i * 5)
                have i6 := (unhide HM6).fr (i * 5 + 1)
                have i7 := (unhide HM6).fr (i * 5 + 2)
                have i8 := (unhide HM6).fr (i * 5 + 3)
                have i9 := (unhide HM6).fr (i * 5 + 4)
                have j5 := (unhide HM6).fr (y * 5)
                have j6 := (unhide HM6).fr (y * 5 + 1)
                have j7 := (unhide HM6).fr (y * 5 + 2)
                have j8 := (unhide HM6).fr (y * 5 + 3)
                have j9 := (unhide HM6).fr (y * 5 + 4)
                go_wp2
                go_region
                unfold put5 at HMs HBs
                clear i0 i1 i2 i3 i4 j0 j1 j2 j3 j4 i5 i6 i7 i8 i9 j5 j6 j7 j8 j9 HKs
                generalize ((((((((((w6.setCell ⟨gm, i * 5, none⟩ (.int .i64 (g y).dk)).setCell ⟨gm, i * 5 + 1, none⟩ (.int .i64 (g y).bed)).setCell ⟨gm, i * 5 + 2, none⟩ (.int .i64 (g y).ndl)).setCell ⟨gm, i * 5 + 3, none⟩ (.int .i64 (g y).car)).setCell ⟨gm, i * 5 + 4, none⟩ (.int .i64 (g y).tt)).setCell ⟨gm, y * 5, none⟩ (.int .i64 (g i).dk)).setCell ⟨gm, y * 5 + 1, none⟩ (.int .i64 (g i).bed)).setCell ⟨gm, y * 5 + 2, none⟩ (.int .i64 (g i).ndl)).setCell ⟨gm, y * 5 + 3, none⟩ (.int .i64 (g i).car)).setCell ⟨gm, y * 5 + 4, none⟩ (.int .i64 (g i).tt)) = wz at *
                have HMz := hide ((unhide HMs).keep (bdrew wz))
                have HBz := hide ((unhide HBs).trans ((bdrew wz).mono (unhide HBs).size))
                go_wp2
                first | go_roundw | skip
                all_goals first | exact ⟨⟨x + 1, swF g i, by omega, by go_num, unhide HMz, unhide HMn, unhide HBz⟩, by simp [intOf]; omega⟩ | exact ⟨x + 1, swF g i, by omega, by go_num, unhide HMz, unhide HMn, unhide HBz⟩ | (simp [intOf]; omega)
    · obtain rfl : na = x := by omega
      have cl : ¬ ((na : Int) < (na : Int)) := by omega
      have HKc := hide (unhide HCl kn g wr mq mc (unhide HMk) (unhide HMR).sc)
      have HKb4 := hide ((unhide HKb).keep (unhide HB))
      have HFb4 := hide ((unhide HFb).keep (unhide HB))
      have HR4 := hide ((unhide HR3).keep (unhide HB))
      have S4 := hide (btrans (unhide S3) (unhide HB))
      go_wp2_with fail
      refine (unhide HKc).mono ?_
      rintro e w5 ⟨v5, rfl, hR5, hb5⟩
      have S5 := hide (btrans (unhide S4) hb5)
      obtain ⟨e1, e2, e3, e4, e5, e6, e7, e8, e9, e10, e11, e12, rfl⟩ := hR5.parts
      rw [← unhide Hrk] at hR5
      rw [← unhide Hrk]
      have HR5 := hide hR5
      have HRa := hide ((unhide HR4).keep hb5)
      have HKb5 := hide ((unhide HKb4).keep hb5)
      have HFb5 := hide ((unhide HFb4).keep hb5)
      clear hR5 hb5 HKc HR4 HKb4 HFb4
      obtain ⟨x8, hx8, hK8, hF8, hP8⟩ := box_put w5 fb (.slice e1 e2 e3) (.slice e4 e5 e6) (.slice e7 e8 e9) (.slice e10 e12 e11) rk (unhide HFb5)
      have t32 : Tg w5 fb 32 := (unhide HFb5).1.2
      have n32 : ∀ {u : TypeId}, (32 : TypeId) ≠ u → ∀ i, i = fb → ¬ Tg w5 i u := fun h i e t => tg_not (show Tg w5 i 32 from e ▸ t32) h t
      have HKb8 := hide ((unhide HKb5).kept hP8 (fun e => n32 (by decide) _ e (unhide HKb5).1.2))
      have HR8 := hide ((unhide HR5).kept hP8 (n32 (by decide)) (n32 (by decide)) (n32 (by decide)))
      have HRb := hide ((unhide HRa).kept hP8 (n32 (by decide)) (n32 (by decide)) (n32 (by decide)))
      have S8 := hide (Kept.back (unhide S5) hP8 (unhide S5).size (fun i e => by rw [e]; exact unhide Hlo))
      have HK8 := hide hK8
      have HF8 := hide hF8
      have HSame := hide (same_any (unhide HRb) (unhide HR8) (unhide HFit))
      obtain ⟨⟨hfl, -⟩, ⟨y0, y1⟩, g0, g1⟩ := unhide HFb5
      have hfn : fb ≠ w5.heap.size := by omega
      clear hK8 hF8 hP8 t32 n32 HR5 HRa HKb5 HFb5
      go_upto_region 22 with fail
      clear hx8 hfl hfn y0 y1 g0 g1
      generalize w5.heap.size = kb2 at *
      obtain ⟨-, ⟨y0, y1, y2, y3, y4⟩, -⟩ := unhide HKb8
      obtain ⟨-, ⟨z0, z1, z2, z3, z4⟩, -⟩ := unhide HK8
      obtain ⟨-, ⟨u0, u1⟩, -⟩ := unhide HF8
      go_wp2_with fail
      clear y0 y1 y2 y3 y4 z0 z1 z2 z3 z4 u0 u1
      refine (unhide HSame).mono ?_
      rintro e w9 ⟨rfl, hb9⟩
      have S9 := hide (btrans (unhide S8) hb9)
      clear hb9
      go_wp2
      go_ret
      exact ⟨rfl, unhide S9⟩
theorem swaps_any (n : Int) (W : World) (q : Option Addr) (l c : Nat) (f : Nat → Sx) (aq : Option Addr) (na ac : Nat) (af : Nat → Int) (hs : Sc W q l f) (hq : q = none → l = 0 ∧ c = 0) (hat : Is W aq na af) (hna : (na : Int) ≤ 9223372036854775807) (hl : l * 40 + 4096 ≤ 140737488355328) : LawIs 4 #[.int .i64 n, .slice q l c, .slice aq na ac] W := by
  rcases cloth_cases n W q l c f hs hl with ⟨er, at_, her, h⟩ | ⟨N, rfl, h1, h2, h3⟩
  · exact swaps_no her h
  · exact swaps_ok h1 h2 hs hq hat hna hl h3
end Go.Proofs.Ytancniamgfppiaa
