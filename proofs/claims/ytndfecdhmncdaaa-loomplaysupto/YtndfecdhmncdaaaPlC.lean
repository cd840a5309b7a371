/-
  Loom, where there is no loom.
-/
import Derived.Test.YtndfecdhmncdaaaPlB
namespace Go.Proofs.Ytndfecdhmncdaaa
open Go.RowKit

/-- what is seen where there is no loom -/
def noSn (er : Int) : Sn := (0, 0, 0, none, er, 0)
set_option maxRecDepth 100000 in
set_option maxHeartbeats 8000000 in
theorem loom_err {W : World} (w h : Int) (p : Option Addr) (n cap : Nat) (f : Nat → Bool) (ww : Nat) {wq : Option Addr} {nw wcp : Nat} {g : Nat → Int} (hwd : Is W wq nw g) (hnil : wq = none → nw = 0 ∧ wcp = 0) (hnw : nw ≤ 1048576) {sq : Option Addr} {m sc : Nat} {P : Nat → Int} {O : Nat → Bool} {E : Nat → Int} (hsc : Sc W sq m P O E) (hms : m ≤ 1048576) (er : Int) (her : opE w h n nw = er) (her0 : er ≠ 0) :
    Calls Try.prog 5 #[tr w h p n cap, .slice wq nw wcp, .slice sq m sc] W fun e w' => ∃ q c dq dc, e = .returned (.tuple #[.slice q m c, .slice dq nw dc, .bool true]) ∧ SeenIs W.heap.size w' f ww m nw (List.replicate m (noSn er)) g q c dq ∧ Below W.heap.size W w' := by
  obtain ⟨i2, hi2, hz0, hz1, hz2⟩ := info_parts info2
  obtain ⟨i34, hi34, hy0, hy1, hy2⟩ := info_parts info34
  have HSc0 := hide hsc
  have B1 := bal (o := .cells #[.int .i64 w, .int .i64 h, .slice p n cap] 24) (Below.refl W.heap.size W)
  have HO1 := hide (OwnM.new W w h p n cap 24)
  have B2 := bal (o := .cells #[] 2) B1
  have hO0 := World.ownsRow_made (base := W.heap.size + 1) (e := 2) (size := 1) (W.alloc (.cells #[.int .i64 w, .int .i64 h, .slice p n cap] 24)) #[] 0 (by simp) (by unfold maxLen; omega) (by simp)
  have HB1 := hide B1
  have HB2 := hide B2
  simp only [World.size_alloc] at hO0
  have HOE := hide (fun V (D qw cw : Nat) (lf : Int) (k : DB V D qw nw cw lf) => open_err w h p n cap k er her her0)
  clear hsc B1 B2 her
  cases wq with
  | none =>
    obtain ⟨rfl, rfl⟩ := hnil rfl
    clear hnil hwd
    obtain ⟨bm, hbm⟩ : ∃ b, b = W.heap.size := ⟨_, rfl⟩
    have e2 := bal (o := .cells #[.slice (some ⟨W.heap.size + 1, 0, none⟩) 0 0, .int .i64 (-1), .bool false] 48) (Below.refl ((W.alloc (.cells #[.int .i64 w, .int .i64 h, .slice p n cap] 24)).alloc (.cells #[] 2)).heap.size ((W.alloc (.cells #[.int .i64 w, .int .i64 h, .slice p n cap] 24)).alloc (.cells #[] 2)))
    have HD2 := hide (DB.new ((W.alloc (.cells #[.int .i64 w, .int .i64 h, .slice p n cap] 24)).alloc (.cells #[] 2)) (W.heap.size + 1) 0 0 (-1))
    have hWR : WR ((W.alloc (.cells #[.int .i64 w, .int .i64 h, .slice p n cap] 24)).alloc (.cells #[] 2)) (W.heap.size + 1) 0 g := ⟨⟨by simp, by have := Tg.new (W.alloc (.cells #[.int .i64 w, .int .i64 h, .slice p n cap] 24)) #[] 2; simpa using this⟩, fun j hj => by omega⟩
    have HW2 := hide (hWR.keep e2)
    have HO2 := hide (((unhide HO1).keep (bal (o := .cells #[] 2) (Below.refl _ _))).keep e2)
    have B2 := hide (btrans (unhide HB2) e2)
    have Hsz2 := hide (show bm + 1 + 1 = ((W.alloc (.cells #[.int .i64 w, .int .i64 h, .slice p n cap] 24)).alloc (.cells #[] 2)).heap.size by simp; omega)
    simp only [World.size_alloc] at HD2
    clear hWR e2
    rw [← hbm] at HO2 HD2 HW2 B2
    go_enter Try.func5, Try.ntmps5
    go_upto_region 2 with (at_builtin; refine wpList_append_own_none rfl _ _ 25 rfl (W.heap.size + 1) 2 i2 1 Try.underlying25 hi2 _ 0 [] rfl hO0 rfl ?_)
    rw [← hbm]
    generalize ((W.alloc (.cells #[.int .i64 w, .int .i64 h, .slice p n cap] 24)).alloc (.cells #[] 2)).alloc (.cells #[.slice (some ⟨bm + 1, 0, none⟩) 0 0, .int .i64 (-1), .bool false] 48) = w2 at *
    have Hbm := hide hbm
    replace B2 := hide (show Below W.heap.size W w2 from hbm ▸ unhide B2)
    clear hbm hO0 HO1 HB1 HB2 Hsz2
    obtain ⟨qw, hqw⟩ : ∃ b, b = bm + 1 := ⟨_, rfl⟩
    rw [← hqw] at HD2 HW2
    rw [← hqw]
    obtain ⟨D, hD⟩ : ∃ b, b = qw + 1 := ⟨_, rfl⟩
    rw [← hD] at HD2
    rw [← hD]
    have Hlt := hide (show bm = W.heap.size ∧ bm < qw ∧ bm < D from ⟨unhide Hbm, by omega, by omega⟩)
    clear hqw hD
    obtain ⟨-, m1, m2, m3⟩ := unhide HO2
    have HOp := hide (unhide HOE _ _ _ _ _ (unhide HD2))
    go_wp2_with fail
    refine (unhide HOp).mono ?_
    rintro e w3 ⟨rfl, hb3⟩
    have HD3 := hide ((unhide HD2).keep hb3)
    have HW3 := hide ((unhide HW2).keep hb3)
    have HO3 := hide ((unhide HO2).keep hb3)
    have B3 := hide (btrans (unhide B2) hb3)
    have hsz3 : bm + 1 ≤ w3.heap.size := by have := (unhide HO3).1; omega
    clear hb3 HOp HD2 HW2 HO2 B2 m1 m2 m3
    go_wp2
    go_loopw [10, 11, 12, 30] (fun l ev out i wr => ∃ (k : Nat) (lf : Int) (q : Option Addr) (c : Nat) (els : List (Sn × Value)), k ≤ m ∧ i = .int .i64 k ∧ l = .pointer none ∧ ev = .int .i64 er ∧ out = .slice q k c ∧ DB wr D qw 0 0 lf ∧ WR wr qw 0 g ∧ wr.ownsRow (bm + 1) 34 6 (.slice q k c) k (snsV els) ∧ OL (bm + 1) wr f ww els ∧ els.map Prod.fst = List.replicate k (noSn er) ∧ OwnM wr bm w h p n cap ∧ bm + 1 ≤ wr.heap.size ∧ Below W.heap.size W wr) (fun _ _ _ i _ => m - (intOf i).toNat)
    case atStart => exact ⟨0, -1, none, 0, [], Nat.zero_le _, rfl, rfl, rfl, rfl, unhide HD3, unhide HW3, World.ownsRow_nil _ _ _ _, (fun e he => by cases he), rfl, unhide HO3, hsz3, unhide B3⟩
    case round =>
      clear HD3 HW3 HO3 B3 hsz3
      obtain ⟨k, lf, q, c, els, hk, rfl, rfl, rfl, rfl, hD, hW, hOw, hOL, hEl, hOm, hsz, hB⟩ := hrel
      by_cases hlt : k < m
      · obtain ⟨sb, so, hsq, s1, s2, s3⟩ := ((unhide HSc0).keep hB).at hlt
        subst hsq
        generalize P k = Pk at *
        generalize O k = Ok at *
        generalize E k = Ek at *
        have q0 : (k : Int) < (m : Int) := by omega
        have q1 : (0 : Int) ≤ (k : Int) := by omega
        have HX := hide (XB.new wr Pk Ok Ek)
        have e1 := bal (o := .cells #[.int .i64 Pk, .bool Ok, .int .i64 Ek] 53) (Below.refl wr.heap.size wr)
        have HD1 := hide (hD.keep e1)
        have HW1 := hide (hW.keep e1)
        have HOw1 := hide (own_keep hOw e1)
        have HOL1 := hide (hOL.keep e1)
        have HOm1 := hide (hOm.keep e1)
        have B1 := hide (btrans hB e1)
        have HEl := hide hEl
        have hsz1 : bm + 1 ≤ (wr.alloc (.cells #[.int .i64 Pk, .bool Ok, .int .i64 Ek] 53)).heap.size := Nat.le_trans hsz e1.size
        clear hD hW hOw hOL hOm hB hEl e1
        go_upto_if 36 with fail
        generalize wr.alloc (.cells #[.int .i64 Pk, .bool Ok, .int .i64 Ek] 53) = w4 at *
        obtain ⟨bx, hbx⟩ : ∃ b, b = wr.heap.size := ⟨_, rfl⟩
        rw [← hbx] at HX
        rw [← hbx]
        clear hbx s1 s2 s3
        go_cut [] (fun wd => ∃ l2, DB wd D qw 0 0 l2 ∧ Kept (fun i => i = D) w4 wd)
        case first =>
          by_cases hp : Pk = 0
          · have hp' : (Pk != 0) = false := by simp [hp]
            clear hp
            go_wp2
            go_meet
            case rel => exact ⟨lf, unhide HD1, Kept.refl _ _⟩
          · have hp' : (Pk != 0) = true := by simp [hp]
            have P2 := hide ((unhide HD1).put (wrap64 (Pk - 1)))
            obtain ⟨-, ⟨x0, x1, x2⟩, -⟩ := unhide HX
            obtain ⟨-, d0, d1, d2, d3, -⟩ := unhide HD1
            clear hp
            go_wp2
            go_meet
            case rel => exact ⟨_, unhide P2, kset _ _ _ _⟩
        case rest =>
        obtain ⟨l2, hD5, hK5⟩ := hcut
        have htg : Tg w4 D 48 := (unhide HD1).2.2.2.2.2
        have HX5 := hide ((unhide HX).kept hK5 (fun e => (unhide HX).1.2.ne htg (by decide) e))
        have HW5 := hide ((unhide HW1).kept hK5 (fun e => (unhide HW1).1.2.ne htg (by decide) e))
        have HOw5 := hide (own_kept (unhide HOw1) hK5 (fun i e t => tg_not (show Tg w4 i 48 from e ▸ htg) (by decide) t))
        have HOL5 := hide ((unhide HOL1).kept hK5 (fun i e t => tg_not (show Tg w4 i 48 from e ▸ htg) (by decide) t))
        have HOm5 := hide ((unhide HOm1).kept hK5 (fun e => by have := unhide Hlt; omega))
        have B5 := hide (Kept.back (unhide B1) hK5 (unhide B1).size (fun i e => by have := unhide Hlt; omega))
        have hsz5 := Nat.le_trans hsz1 hK5.size
        have HD5 := hide hD5
        clear hD5 hK5 htg HX HW1 HOw1 HOL1 HOm1 B1 hsz1 HD1
        obtain ⟨wc5, rfl⟩ : ∃ x : World, x = wc := ⟨_, rfl⟩
        obtain ⟨-, ⟨x0, x1, x2⟩, -⟩ := unhide HX5
        go_upto_if 44 with fail
        go_cut [10, 11] (fun l ev wd => l = .pointer none ∧ ev = .int .i64 er ∧ Below wc5.heap.size wc5 wd)
        case first =>
          cases Ok with
          | false =>
            go_wp2
            go_meet
            case rel => exact ⟨rfl, rfl, Below.refl _ _⟩
          | true =>
            have HOp := hide (unhide HOE _ _ _ _ _ (unhide HD5))
            obtain ⟨-, m1, m2, m3⟩ := unhide HOm5
            go_wp2_with fail
            refine (unhide HOp).mono ?_
            rintro e w6 ⟨rfl, hb6⟩
            have H6 := hide hb6
            clear hb6 m1 m2 m3 x0 x1 x2
            go_wp2
            go_meet
            case rel => exact ⟨rfl, rfl, unhide H6⟩
        case rest =>
        clear x0 x1 x2
        obtain ⟨rfl, rfl, hb6⟩ := hcut
        obtain ⟨wc6, rfl⟩ : ∃ x : World, x = wc := ⟨_, rfl⟩
        have e7 := bal (o := .cells #[.int .i64 0, .int .i64 0, .int .i64 0, .slice none 0 0, .int .i64 er, .int .i64 0] 34) (Below.refl wc6.heap.size wc6)
        have e67 := btrans hb6 e7
        have HY7 := hide (YB.new wc6 0 0 0 none 0 0 er 0)
        have HD7 := hide ((unhide HD5).keep e67)
        have HW7 := hide ((unhide HW5).keep e67)
        have hOw11 := own_keep (unhide HOw5) e67
        have HOL11 := hide ((unhide HOL5).keep e67)
        have HOm11 := hide ((unhide HOm5).keep e67)
        have B11 := hide (btrans (unhide B5) e67)
        have hsz11 := Nat.le_trans hsz5 e67.size
        clear hb6 e7 e67 HX5 HOw5 HOL5 HOm5 B5 HW5 HD5 hsz5
        go_upto_region 17 with fail
        generalize wc6.alloc (.cells #[.int .i64 0, .int .i64 0, .int .i64 0, .slice none 0 0, .int .i64 er, .int .i64 0] 34) = w11 at *
        obtain ⟨by7, hby⟩ : ∃ b, b = wc6.heap.size := ⟨_, rfl⟩
        rw [← hby] at HY7
        rw [← hby]
        clear hby
        obtain ⟨-, ⟨y0, y1, y2, y3, y4, y5⟩, -⟩ := unhide HY7
        have c6 := cell_six_new w11 (noSn er, .slice none 0 0) 34
        have hlen := hOw11.1
        go_wp2_with (at_builtin; refine wpList_append_own _ rfl _ _ 27 rfl (bm + 1) 34 i34 (.agg #[.int .i64 0, .int .i64 0, .int .i64 0, .slice none 0 0, .int .i64 0, .int .i64 0]) 6 64 Try.underlying27 hi34 hy0 hy1 hy2 rfl (by decide) _ _ _ rfl (hOw11.alloc _) ⟨w11.heap.size, 0, none⟩ 1 1 (snC (noSn er, .slice none 0 0)) rfl rfl c6 (by intro u hu; simp [snC] at hu; rcases hu with rfl | rfl | rfl | rfl | rfl | rfl <;> rfl) (by unfold maxLen; omega) (by omega) (by simp; omega) ?_)
        intro v12 w12 hown12 hgrow12 _
        obtain ⟨q12, c12, rfl⟩ := own_form hown12
        have e12 := bal (o := .cells #[.int .i64 0, .int .i64 0, .int .i64 0, .slice none 0 0, .int .i64 er, .int .i64 0] 34) (Below.refl w11.heap.size w11)
        have hk12 : Kept (fun i => bm + 1 ≤ i ∧ Tg w11 i 34) w11 w12 := (Kept.of e12).trans (grown_kept hgrow12 (fun r e => .inl ⟨(hOw11.lt r e).1, own_tg hOw11 e⟩))
        have t12 : ∀ i, (bm + 1 ≤ i ∧ Tg w11 i 34) → ¬ Tg w11 i 4 := fun i e t => tg_not e.2 (by decide) t
        have HD12 := hide ((unhide HD7).kept hk12 (fun e => tg_not (unhide HD7).2.2.2.2.2 (by decide) e.2))
        have HW12 := hide ((unhide HW7).kept hk12 (fun e => tg_not (unhide HW7).1.2 (by decide) e.2))
        have HOL12 := hide (((unhide HOL11).kept hk12 t12).snoc (e := (noSn er, .slice none 0 0)) (World.ownsRow_nil _ _ _ _))
        have HOw12 := hide (show w12.ownsRow (bm + 1) 34 6 (.slice q12 (k + 1) c12) (k + 1) (snsV (els ++ [(noSn er, .slice none 0 0)])) from by rw [snsV_snoc]; exact hown12)
        have HOm12 := hide ((unhide HOm11).kept hk12 (fun e => by have := e.1; omega))
        have B12 := hide (Kept.back (unhide B11) hk12 (unhide B11).size (fun i e => by have := e.1; have := unhide Hlt; omega))
        have hsz12 := Nat.le_trans hsz11 hk12.size
        clear hown12 hgrow12 e12 hk12 t12 hOw11 c6 y0 y1 y2 y3 y4 y5 HD7 HW7 HOL11 HOm11 B11 hlen
        go_wp2
        go_roundw
        case rel =>
          refine ⟨k + 1, l2, q12, c12, els ++ [(noSn er, .slice none 0 0)], by omega, by go_num, rfl, rfl, rfl, unhide HD12, unhide HW12, unhide HOw12, unhide HOL12, ?_, unhide HOm12, hsz12, unhide B12⟩
          rw [List.map_append, unhide HEl, List.replicate_succ']; rfl
        case measure => simp [intOf]; omega
      · obtain rfl : k = m := by omega
        have cl : ¬ ((k : Int) < (k : Int)) := by omega
        have HW' := hide hW
        have HOw' := hide hOw
        have HOL' := hide hOL
        have HEl' := hide hEl
        have HB' := hide hB
        obtain ⟨-, d0, d1, d2, d3, -⟩ := hD
        clear hW hOw hOL hEl hOm hB
        go_wp2_with fail
        go_quiet (fail)
        go_wp2
        refine bodyPost_ret (results_tmp3 rfl _ _ _) rfl ?_
        have hd := Joins.below_draws wr.heap.size wr
        refine ⟨q, c, some ⟨qw, 0, none⟩, 0, rfl, ⟨els, unhide HEl', own_le (own_keep (unhide HOw') (hd _)) (by have := unhide Hlt; omega), ?_, ((unhide HW').keep (hd _)).is⟩, (unhide HB').trans (Joins.below_draws _ _ _)⟩
        exact fun e he => own_le (own_keep (unhide HOL' e he) (hd _)) (by have := unhide Hlt; omega)
  | some ad =>
    have hnw2 := is_news (T2 := g) (hwd.keep (unhide HB2)) (fun _ _ => rfl)
    clear hnil hwd
    go_enter Try.func5, Try.ntmps5
    go_wp2_with (at_builtin; refine wpList_append_own _ rfl _ _ 25 rfl (W.heap.size + 1) 2 i2 (.int .i64 0) 1 8 Try.underlying25 hi2 hz0 hz1 hz2 rfl (by decide) _ _ _ rfl hO0 ad nw wcp (intsV g nw) rfl (intsV_len _ _) hnw2 intsV_one (by unfold maxLen; omega) (by omega) (by simp) ?_)
    intro v1 w1 hown1 hgrow1 hnn1
    have B1 := (bal (o := .cells #[] 2) (unhide HB1)).grown hgrow1 (by simp only [World.size_alloc]; omega) (fun k hk => by have := (hO0.lt k hk).1; omega)
    have HO1' := (((unhide HO1).keep (bal (o := .cells #[] 2) (Below.refl _ _))).grown hgrow1 (fun e => by have := (hO0.lt _ e.symm).1; omega))
    replace hown1 : w1.ownsRow (W.heap.size + 1) 2 1 v1 nw (intsV g nw) := by simpa using hown1
    obtain ⟨qw, cw, rfl⟩ : ∃ g cap, v1 = .slice (some ⟨g, 0, none⟩) nw cap := by
      rcases hown1.2 with ⟨hv, h0⟩ | ⟨g, cap, cur, hv, _⟩
      · exact absurd hv hnn1
      · exact ⟨_, _, hv⟩
    have hqw := (hown1.lt qw rfl).1
    have hW1 := own_wr hown1
    obtain ⟨bm, hbm⟩ : ∃ b, b = W.heap.size := ⟨_, rfl⟩
    have e2 := bal (o := .cells #[.slice (some ⟨qw, 0, none⟩) nw cw, .int .i64 (-1), .bool false] 48) (Below.refl w1.heap.size w1)
    have HD2 := hide (DB.new w1 qw nw cw (-1))
    have HW2 := hide (hW1.keep e2)
    have HO2 := hide (HO1'.keep e2)
    have B2 := hide (btrans B1 e2)
    have Hlt := hide (show bm = W.heap.size ∧ bm < qw ∧ bm < w1.heap.size from ⟨hbm, by omega, by have := B1.size; have := (hown1.lt qw rfl).2; omega⟩)
    rw [← hbm] at HO2
    clear B1 HO1' hown1 hgrow1 hW1 hqw e2 hO0 hnw2 HO1 HB1 hnn1 HB2
    go_upto_region 2 with fail
    rw [← hbm]
    generalize w1.alloc (.cells #[.slice (some ⟨qw, 0, none⟩) nw cw, .int .i64 (-1), .bool false] 48) = w2 at *
    obtain ⟨D, hD⟩ : ∃ b, b = w1.heap.size := ⟨_, rfl⟩
    rw [← hD] at HD2 Hlt
    rw [← hD]
    clear hD hbm
    obtain ⟨-, m1, m2, m3⟩ := unhide HO2
    have HOp := hide (unhide HOE _ _ _ _ _ (unhide HD2))
    go_wp2_with fail
    refine (unhide HOp).mono ?_
    rintro e w3 ⟨rfl, hb3⟩
    have HD3 := hide ((unhide HD2).keep hb3)
    have HW3 := hide ((unhide HW2).keep hb3)
    have HO3 := hide ((unhide HO2).keep hb3)
    have B3 := hide (btrans (unhide B2) hb3)
    have hsz3 : bm + 1 ≤ w3.heap.size := by have := (unhide HO3).1; omega
    clear hb3 HOp HD2 HW2 HO2 B2 m1 m2 m3
    go_wp2
    go_loopw [10, 11, 12, 30] (fun l ev out i wr => ∃ (k : Nat) (lf : Int) (q : Option Addr) (c : Nat) (els : List (Sn × Value)), k ≤ m ∧ i = .int .i64 k ∧ l = .pointer none ∧ ev = .int .i64 er ∧ out = .slice q k c ∧ DB wr D qw nw cw lf ∧ WR wr qw nw g ∧ wr.ownsRow (bm + 1) 34 6 (.slice q k c) k (snsV els) ∧ OL (bm + 1) wr f ww els ∧ els.map Prod.fst = List.replicate k (noSn er) ∧ OwnM wr bm w h p n cap ∧ bm + 1 ≤ wr.heap.size ∧ Below W.heap.size W wr) (fun _ _ _ i _ => m - (intOf i).toNat)
    case atStart => exact ⟨0, -1, none, 0, [], Nat.zero_le _, rfl, rfl, rfl, rfl, unhide HD3, unhide HW3, World.ownsRow_nil _ _ _ _, (fun e he => by cases he), rfl, unhide HO3, hsz3, unhide B3⟩
    case round =>
      clear HD3 HW3 HO3 B3 hsz3
      obtain ⟨k, lf, q, c, els, hk, rfl, rfl, rfl, rfl, hD, hW, hOw, hOL, hEl, hOm, hsz, hB⟩ := hrel
      by_cases hlt : k < m
      · obtain ⟨sb, so, hsq, s1, s2, s3⟩ := ((unhide HSc0).keep hB).at hlt
        subst hsq
        generalize P k = Pk at *
        generalize O k = Ok at *
        generalize E k = Ek at *
        have q0 : (k : Int) < (m : Int) := by omega
        have q1 : (0 : Int) ≤ (k : Int) := by omega
        have HX := hide (XB.new wr Pk Ok Ek)
        have e1 := bal (o := .cells #[.int .i64 Pk, .bool Ok, .int .i64 Ek] 53) (Below.refl wr.heap.size wr)
        have HD1 := hide (hD.keep e1)
        have HW1 := hide (hW.keep e1)
        have HOw1 := hide (own_keep hOw e1)
        have HOL1 := hide (hOL.keep e1)
        have HOm1 := hide (hOm.keep e1)
        have B1 := hide (btrans hB e1)
        have HEl := hide hEl
        have hsz1 : bm + 1 ≤ (wr.alloc (.cells #[.int .i64 Pk, .bool Ok, .int .i64 Ek] 53)).heap.size := Nat.le_trans hsz e1.size
        clear hD hW hOw hOL hOm hB hEl e1
        go_upto_if 36 with fail
        generalize wr.alloc (.cells #[.int .i64 Pk, .bool Ok, .int .i64 Ek] 53) = w4 at *
        obtain ⟨bx, hbx⟩ : ∃ b, b = wr.heap.size := ⟨_, rfl⟩
        rw [← hbx] at HX
        rw [← hbx]
        clear hbx s1 s2 s3
        go_cut [] (fun wd => ∃ l2, DB wd D qw nw cw l2 ∧ Kept (fun i => i = D) w4 wd)
        case first =>
          by_cases hp : Pk = 0
          · have hp' : (Pk != 0) = false := by simp [hp]
            clear hp
            go_wp2
            go_meet
            case rel => exact ⟨lf, unhide HD1, Kept.refl _ _⟩
          · have hp' : (Pk != 0) = true := by simp [hp]
            have P2 := hide ((unhide HD1).put (wrap64 (Pk - 1)))
            obtain ⟨-, ⟨x0, x1, x2⟩, -⟩ := unhide HX
            obtain ⟨-, d0, d1, d2, d3, -⟩ := unhide HD1
            clear hp
            go_wp2
            go_meet
            case rel => exact ⟨_, unhide P2, kset _ _ _ _⟩
        case rest =>
        obtain ⟨l2, hD5, hK5⟩ := hcut
        have htg : Tg w4 D 48 := (unhide HD1).2.2.2.2.2
        have HX5 := hide ((unhide HX).kept hK5 (fun e => (unhide HX).1.2.ne htg (by decide) e))
        have HW5 := hide ((unhide HW1).kept hK5 (fun e => (unhide HW1).1.2.ne htg (by decide) e))
        have HOw5 := hide (own_kept (unhide HOw1) hK5 (fun i e t => tg_not (show Tg w4 i 48 from e ▸ htg) (by decide) t))
        have HOL5 := hide ((unhide HOL1).kept hK5 (fun i e t => tg_not (show Tg w4 i 48 from e ▸ htg) (by decide) t))
        have HOm5 := hide ((unhide HOm1).kept hK5 (fun e => by have := unhide Hlt; omega))
        have B5 := hide (Kept.back (unhide B1) hK5 (unhide B1).size (fun i e => by have := unhide Hlt; omega))
        have hsz5 := Nat.le_trans hsz1 hK5.size
        have HD5 := hide hD5
        clear hD5 hK5 htg HX HW1 HOw1 HOL1 HOm1 B1 hsz1 HD1
        obtain ⟨wc5, rfl⟩ : ∃ x : World, x = wc := ⟨_, rfl⟩
        obtain ⟨-, ⟨x0, x1, x2⟩, -⟩ := unhide HX5
        go_upto_if 44 with fail
        go_cut [10, 11] (fun l ev wd => l = .pointer none ∧ ev = .int .i64 er ∧ Below wc5.heap.size wc5 wd)
        case first =>
          cases Ok with
          | false =>
            go_wp2
            go_meet
            case rel => exact ⟨rfl, rfl, Below.refl _ _⟩
          | true =>
            have HOp := hide (unhide HOE _ _ _ _ _ (unhide HD5))
            obtain ⟨-, m1, m2, m3⟩ := unhide HOm5
            go_wp2_with fail
            refine (unhide HOp).mono ?_
            rintro e w6 ⟨rfl, hb6⟩
            have H6 := hide hb6
            clear hb6 m1 m2 m3 x0 x1 x2
            go_wp2
            go_meet
            case rel => exact ⟨rfl, rfl, unhide H6⟩
        case rest =>
        clear x0 x1 x2
        obtain ⟨rfl, rfl, hb6⟩ := hcut
        obtain ⟨wc6, rfl⟩ : ∃ x : World, x = wc := ⟨_, rfl⟩
        have e7 := bal (o := .cells #[.int .i64 0, .int .i64 0, .int .i64 0, .slice none 0 0, .int .i64 er, .int .i64 0] 34) (Below.refl wc6.heap.size wc6)
        have e67 := btrans hb6 e7
        have HY7 := hide (YB.new wc6 0 0 0 none 0 0 er 0)
        have HD7 := hide ((unhide HD5).keep e67)
        have HW7 := hide ((unhide HW5).keep e67)
        have hOw11 := own_keep (unhide HOw5) e67
        have HOL11 := hide ((unhide HOL5).keep e67)
        have HOm11 := hide ((unhide HOm5).keep e67)
        have B11 := hide (btrans (unhide B5) e67)
        have hsz11 := Nat.le_trans hsz5 e67.size
        clear hb6 e7 e67 HX5 HOw5 HOL5 HOm5 B5 HW5 HD5 hsz5
        go_upto_region 17 with fail
        generalize wc6.alloc (.cells #[.int .i64 0, .int .i64 0, .int .i64 0, .slice none 0 0, .int .i64 er, .int .i64 0] 34) = w11 at *
        obtain ⟨by7, hby⟩ : ∃ b, b = wc6.heap.size := ⟨_, rfl⟩
        rw [← hby] at HY7
        rw [← hby]
        clear hby
        obtain ⟨-, ⟨y0, y1, y2, y3, y4, y5⟩, -⟩ := unhide HY7
        have c6 := cell_six_new w11 (noSn er, .slice none 0 0) 34
        have hlen := hOw11.1
        go_wp2_with (at_builtin; refine wpList_append_own _ rfl _ _ 27 rfl (bm + 1) 34 i34 (.agg #[.int .i64 0, .int .i64 0, .int .i64 0, .slice none 0 0, .int .i64 0, .int .i64 0]) 6 64 Try.underlying27 hi34 hy0 hy1 hy2 rfl (by decide) _ _ _ rfl (hOw11.alloc _) ⟨w11.heap.size, 0, none⟩ 1 1 (snC (noSn er, .slice none 0 0)) rfl rfl c6 (by intro u hu; simp [snC] at hu; rcases hu with rfl | rfl | rfl | rfl | rfl | rfl <;> rfl) (by unfold maxLen; omega) (by omega) (by simp; omega) ?_)
        intro v12 w12 hown12 hgrow12 _
        obtain ⟨q12, c12, rfl⟩ := own_form hown12
        have e12 := bal (o := .cells #[.int .i64 0, .int .i64 0, .int .i64 0, .slice none 0 0, .int .i64 er, .int .i64 0] 34) (Below.refl w11.heap.size w11)
        have hk12 : Kept (fun i => bm + 1 ≤ i ∧ Tg w11 i 34) w11 w12 := (Kept.of e12).trans (grown_kept hgrow12 (fun r e => .inl ⟨(hOw11.lt r e).1, own_tg hOw11 e⟩))
        have t12 : ∀ i, (bm + 1 ≤ i ∧ Tg w11 i 34) → ¬ Tg w11 i 4 := fun i e t => tg_not e.2 (by decide) t
        have HD12 := hide ((unhide HD7).kept hk12 (fun e => tg_not (unhide HD7).2.2.2.2.2 (by decide) e.2))
        have HW12 := hide ((unhide HW7).kept hk12 (fun e => tg_not (unhide HW7).1.2 (by decide) e.2))
        have HOL12 := hide (((unhide HOL11).kept hk12 t12).snoc (e := (noSn er, .slice none 0 0)) (World.ownsRow_nil _ _ _ _))
        have HOw12 := hide (show w12.ownsRow (bm + 1) 34 6 (.slice q12 (k + 1) c12) (k + 1) (snsV (els ++ [(noSn er, .slice none 0 0)])) from by rw [snsV_snoc]; exact hown12)
        have HOm12 := hide ((unhide HOm11).kept hk12 (fun e => by have := e.1; omega))
        have B12 := hide (Kept.back (unhide B11) hk12 (unhide B11).size (fun i e => by have := e.1; have := unhide Hlt; omega))
        have hsz12 := Nat.le_trans hsz11 hk12.size
        clear hown12 hgrow12 e12 hk12 t12 hOw11 c6 y0 y1 y2 y3 y4 y5 HD7 HW7 HOL11 HOm11 B11 hlen
        go_wp2
        go_roundw
        case rel =>
          refine ⟨k + 1, l2, q12, c12, els ++ [(noSn er, .slice none 0 0)], by omega, by go_num, rfl, rfl, rfl, unhide HD12, unhide HW12, unhide HOw12, unhide HOL12, ?_, unhide HOm12, hsz12, unhide B12⟩
          rw [List.map_append, unhide HEl, List.replicate_succ']; rfl
        case measure => simp [intOf]; omega
      · obtain rfl : k = m := by omega
        have cl : ¬ ((k : Int) < (k : Int)) := by omega
        have HW' := hide hW
        have HOw' := hide hOw
        have HOL' := hide hOL
        have HEl' := hide hEl
        have HB' := hide hB
        obtain ⟨-, d0, d1, d2, d3, -⟩ := hD
        clear hW hOw hOL hEl hOm hB
        go_wp2_with fail
        go_quiet (fail)
        go_wp2
        refine bodyPost_ret (results_tmp3 rfl _ _ _) rfl ?_
        have hd := Joins.below_draws wr.heap.size wr
        refine ⟨q, c, some ⟨qw, 0, none⟩, cw, rfl, ⟨els, unhide HEl', own_le (own_keep (unhide HOw') (hd _)) (by have := unhide Hlt; omega), ?_, ((unhide HW').keep (hd _)).is⟩, (unhide HB').trans (Joins.below_draws _ _ _)⟩
        exact fun e he => own_le (own_keep (unhide HOL' e he) (hd _)) (by have := unhide Hlt; omega)
end Go.Proofs.Ytndfecdhmncdaaa
