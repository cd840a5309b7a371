/-
  Play: the document's own loom, where there is none.
-/
import Derived.Test.YtndfecdhmncdaaaRfA
import Derived.Test.YtndfecdhmncdaaaPlC
namespace Go.Proofs.Ytndfecdhmncdaaa
open Go.RowKit

theorem ktrans {B : Nat} {W V U : World} {t : TypeId} (h : Kept (fun i => B ≤ i ∧ Tg W i t) W V) (k : Kept (fun i => B ≤ i ∧ Tg V i t) V U) : Kept (fun i => B ≤ i ∧ Tg W i t) W U :=
  ⟨k.1.trans h.1, k.2.1.trans h.2.1, k.2.2.1.trans h.2.2.1, Nat.le_trans h.size k.size, fun i hi hn => by
    have e := h.2.2.2.2 i hi hn
    rw [← e]
    exact k.2.2.2.2 i (Nat.lt_of_lt_of_le hi h.size) (fun q => hn ⟨q.1, (tg_block e).1 q.2⟩)⟩

set_option maxRecDepth 100000 in
set_option maxHeartbeats 8000000 in
theorem play_err {W : World} (w h : Int) (p : Option Addr) (n cap : Nat) (f : Nat → Bool) (ww : Nat) {wq : Option Addr} {nw wcp : Nat} {g : Nat → Int} (hwd : Is W wq nw g) (hnil : wq = none → nw = 0 ∧ wcp = 0) (hnw : nw ≤ 1048576) {sq : Option Addr} {m sc : Nat} {P : Nat → Int} {O : Nat → Bool} {E : Nat → Int} (hsc : Sc W sq m P O E) (hms : m ≤ 1048576) (er : Int) (her : opE w h n nw = er) (her0 : er ≠ 0) :
    Calls Try.prog 6 #[tr w h p n cap, .slice wq nw wcp, .slice sq m sc] W fun e w' => ∃ q c dq dc, e = .returned (.tuple #[.slice q m c, .slice dq nw dc]) ∧ SeenIs W.heap.size w' f ww m nw (List.replicate m (noSn er)) g q c dq ∧ Below W.heap.size W w' := by
  obtain ⟨i2, hi2, hz0, hz1, hz2⟩ := info_parts info2
  obtain ⟨i34, hi34, hy0, hy1, hy2⟩ := info_parts info34
  have HSc0 := hide hsc
  have B1 := bal (o := .cells #[.int .i64 w, .int .i64 h, .slice p n cap] 24) (Below.refl W.heap.size W)
  have HO1 := hide (OwnM.new W w h p n cap 24)
  have B2 := bal (o := .cells #[] 2) B1
  have hO0 := World.ownsRow_made (base := W.heap.size + 1) (e := 2) (size := 1) (W.alloc (.cells #[.int .i64 w, .int .i64 h, .slice p n cap] 24)) #[] 0 (by simp) (by unfold maxLen; omega) (by simp)
  have HB1 := hide B1
  have HB2 := hide B2
  simp only [World.size_alloc] at hO0
  have HWr := hide (fun V => rwrong_of (W := V) w h p n cap nw)
  rw [her] at HWr
  have er1 : (er == 0) = false := by simpa using her0
  have er2 : (er != 0) = true := by simpa using her0
  clear hsc B1 B2 her her0
  cases wq with
  | none =>
    obtain ⟨rfl, rfl⟩ := hnil rfl
    clear hnil hwd
    obtain ⟨bm, hbm⟩ : ∃ b, b = W.heap.size := ⟨_, rfl⟩
    have HO2 := hide ((unhide HO1).keep (bal (o := .cells #[] 2) (Below.refl _ _)))
    have B2 := HB2
    rw [← hbm] at HO2
    go_enter Try.func6, Try.ntmps6
    go_upto_region 2 with (at_builtin; refine wpList_append_own_none rfl _ _ 25 rfl (W.heap.size + 1) 2 i2 1 Try.underlying25 hi2 _ 0 [] rfl hO0 rfl ?_)
    rw [← hbm]
    generalize (W.alloc (.cells #[.int .i64 w, .int .i64 h, .slice p n cap] 24)).alloc (.cells #[] 2) = w2 at *
    have Hlt := hide (show bm = W.heap.size from hbm)
    clear hbm hO0 HO1 HB1 HB2
    obtain ⟨-, m1, m2, m3⟩ := unhide HO2
    go_wp2_with fail
    refine (unhide HWr _).mono ?_
    rintro e w3 ⟨rfl, hb3⟩
    have e4 := bal (o := .cells #[.int .i64 0, .int .i64 0, .bool false, .bool false] 61) (Below.refl w3.heap.size w3)
    have hb4 := btrans hb3 e4
    have HO3 := hide ((unhide HO2).keep hb4)
    have B3 := hide (btrans (unhide B2) hb4)
    have HS3 := hide hb4
    have hsz3 : bm + 1 ≤ (w3.alloc (.cells #[.int .i64 0, .int .i64 0, .bool false, .bool false] 61)).heap.size := by have := (unhide HO3).1; omega
    clear hb3 e4 hb4 m1 m2 m3
    go_wp2
    generalize w3.alloc (.cells #[.int .i64 0, .int .i64 0, .bool false, .bool false] 61) = w4 at *
    go_loopw [11, 12, 38] (fun l out i wr => ∃ (k : Nat) (lf : Int) (q : Option Addr) (c : Nat) (els : List (Sn × Value)), k ≤ m ∧ i = .int .i64 k ∧ l = .int .i64 lf ∧ out = .slice q k c ∧ wr.ownsRow (bm + 1) 34 6 (.slice q k c) k (snsV els) ∧ OL (bm + 1) wr f ww els ∧ els.map Prod.fst = List.replicate k (noSn er) ∧ bm + 1 ≤ wr.heap.size ∧ Below W.heap.size W wr ∧ Kept (fun i => bm + 1 ≤ i ∧ Tg w2 i 34) w2 wr) (fun _ _ i _ => m - (intOf i).toNat)
    case atStart => exact ⟨0, -1, none, 0, [], Nat.zero_le _, rfl, rfl, rfl, World.ownsRow_nil _ _ _ _, (fun e he => by cases he), rfl, hsz3, unhide B3, Kept.of (unhide HS3)⟩
    case round =>
      clear HO3 B3 HS3 hsz3
      obtain ⟨k, lf, q, c, els, hk, rfl, rfl, rfl, hOw, hOL, hEl, hsz, hB, hKw⟩ := hrel
      by_cases hlt : k < m
      · obtain ⟨sb, so, hsq, s1, s2, s3⟩ := ((unhide HSc0).keep hB).at hlt
        subst hsq
        generalize P k = Pk at *
        generalize O k = Ok at *
        generalize E k = Ek at *
        have q0 : (k : Int) < (m : Int) := by omega
        have q1 : (0 : Int) ≤ (k : Int) := by omega
        have HX := hide (XB.new wr Pk Ok Ek)
        have e1 := bal (o := .cells #[.int .i64 Pk, .bool Ok, .int .i64 Ek] 53) (Below.refl wr.heap.size wr)
        have HOw1 := hide (own_keep hOw e1)
        have HOL1 := hide (hOL.keep e1)
        have B1 := hide (btrans hB e1)
        have HKw := hide (hKw.below e1)
        have HEl := hide hEl
        have hsz1 : bm + 1 ≤ (wr.alloc (.cells #[.int .i64 Pk, .bool Ok, .int .i64 Ek] 53)).heap.size := Nat.le_trans hsz e1.size
        clear hOw hOL hB hEl e1 hKw
        go_upto_if 44 with fail
        generalize wr.alloc (.cells #[.int .i64 Pk, .bool Ok, .int .i64 Ek] 53) = w5 at *
        obtain ⟨bx, hbx⟩ : ∃ b, b = wr.heap.size := ⟨_, rfl⟩
        rw [← hbx] at HX
        rw [← hbx]
        clear hbx s1 s2 s3
        obtain ⟨-, ⟨x0, x1, x2⟩, -⟩ := unhide HX
        go_cut [11] (fun l wd => (∃ l2, l = .int .i64 l2) ∧ wd = w5)
        case first =>
          by_cases hp : Pk = 0
          · have hp' : (Pk != 0) = false := by simp [hp]
            clear hp
            go_wp2
            go_meet
            case rel => exact ⟨⟨_, rfl⟩, rfl⟩
          · have hp' : (Pk != 0) = true := by simp [hp]
            clear hp
            go_wp2
            go_meet
            case rel => exact ⟨⟨_, rfl⟩, rfl⟩
        case rest =>
        obtain ⟨⟨l2, rfl⟩, hwc⟩ := hcut
        subst hwc
        obtain ⟨w5, rfl⟩ : ∃ x : World, x = wc := ⟨_, rfl⟩
        go_upto_region 13 with fail
        go_cut [53] (fun v wd => v = .bool false ∧ wd = w5)
        case first =>
          cases Ok
          all_goals
            go_wp2
            go_meet
            case rel => exact ⟨rfl, rfl⟩
        case rest =>
        obtain ⟨rfl, hwc⟩ := hcut
        subst hwc
        clear x0 x1 x2
        obtain ⟨w5, rfl⟩ : ∃ x : World, x = wc := ⟨_, rfl⟩
        have e7 := bal (o := .cells #[.int .i64 0, .int .i64 0, .int .i64 0, .slice none 0 0, .int .i64 er, .int .i64 0] 34) (Below.refl w5.heap.size w5)
        have HY7 := hide (YB.new w5 0 0 0 none 0 0 er 0)
        have hOw11 := own_keep (unhide HOw1) e7
        have HOL11 := hide ((unhide HOL1).keep e7)
        have B11 := hide (btrans (unhide B1) e7)
        have HKw11 := hide ((unhide HKw).below e7)
        have hsz11 := Nat.le_trans hsz1 e7.size
        clear e7 HOw1 HOL1 B1 HKw hsz1 HX
        go_upto_region 17 with fail
        generalize w5.alloc (.cells #[.int .i64 0, .int .i64 0, .int .i64 0, .slice none 0 0, .int .i64 er, .int .i64 0] 34) = w11 at *
        obtain ⟨by7, hby⟩ : ∃ b, b = w5.heap.size := ⟨_, rfl⟩
        rw [← hby] at HY7
        rw [← hby]
        clear hby
        obtain ⟨-, ⟨y0, y1, y2, y3, y4, y5⟩, -⟩ := unhide HY7
        have c6 := cell_six_new w11 (noSn er, .slice none 0 0) 34
        have hlen := hOw11.1
        go_wp2_with (at_builtin; refine wpList_append_own _ rfl _ _ 27 rfl (bm + 1) 34 i34 (.agg #[.int .i64 0, .int .i64 0, .int .i64 0, .slice none 0 0, .int .i64 0, .int .i64 0]) 6 64 Try.underlying27 hi34 hy0 hy1 hy2 rfl (by decide) _ _ _ rfl (hOw11.alloc _) ⟨w11.heap.size, 0, none⟩ 1 1 (snC (noSn er, .slice none 0 0)) rfl rfl c6 (by intro u hu; simp [snC] at hu; rcases hu with rfl | rfl | rfl | rfl | rfl | rfl <;> rfl) (by unfold maxLen; omega) (by omega) (by simp; omega) ?_)
        intro v12 w12 hown12 hgrow12 _
        obtain ⟨q12, c12, rfl⟩ := own_form hown12
        have e12 := bal (o := .cells #[.int .i64 0, .int .i64 0, .int .i64 0, .slice none 0 0, .int .i64 er, .int .i64 0] 34) (Below.refl w11.heap.size w11)
        have hk12 : Kept (fun i => bm + 1 ≤ i ∧ Tg w11 i 34) w11 w12 := (Kept.of e12).trans (grown_kept hgrow12 (fun r e => .inl ⟨(hOw11.lt r e).1, own_tg hOw11 e⟩))
        have t12 : ∀ i, (bm + 1 ≤ i ∧ Tg w11 i 34) → ¬ Tg w11 i 4 := fun i e t => tg_not e.2 (by decide) t
        have HOL12 := hide (((unhide HOL11).kept hk12 t12).snoc (e := (noSn er, .slice none 0 0)) (World.ownsRow_nil _ _ _ _))
        have HOw12 := hide (show w12.ownsRow (bm + 1) 34 6 (.slice q12 (k + 1) c12) (k + 1) (snsV (els ++ [(noSn er, .slice none 0 0)])) from by rw [snsV_snoc]; exact hown12)
        have B12 := hide (Kept.back (unhide B11) hk12 (unhide B11).size (fun i e => by have := e.1; have := unhide Hlt; omega))
        have HKw12 := hide (show Kept (fun i => bm + 1 ≤ i ∧ Tg w2 i 34) w2 w12 from ktrans (unhide HKw11) hk12)
        have hsz12 := Nat.le_trans hsz11 hk12.size
        clear hown12 hgrow12 e12 hk12 t12 hOw11 c6 y0 y1 y2 y3 y4 y5 HOL11 B11 hlen
        go_wp2
        go_roundw
        case rel =>
          refine ⟨k + 1, l2, q12, c12, els ++ [(noSn er, .slice none 0 0)], by omega, by go_num, rfl, rfl, unhide HOw12, unhide HOL12, ?_, hsz12, unhide B12, unhide HKw12⟩
          rw [List.map_append, unhide HEl, List.replicate_succ']; rfl
        case measure => simp [intOf]; omega
      · obtain rfl : k = m := by omega
        have cl : ¬ ((k : Int) < (k : Int)) := by omega
        have hS : SeenIs W.heap.size wr f ww k 0 (List.replicate k (noSn er)) g q c (some ⟨bm + 1, 0, none⟩) :=
          ⟨els, hEl, own_le hOw (by have := unhide Hlt; omega), fun e he => own_le (hOL e he) (by have := unhide Hlt; omega), .inl rfl⟩
        have HS := hide hS
        have HB' := hide hB
        clear hS hOw hOL hEl hB hKw
        go_wp2
        go_ret2
        exact ⟨q, c, (some ⟨bm + 1, 0, none⟩), ⟨0, rfl⟩, unhide HS, unhide HB'⟩
  | some ad =>
    have hnw2 := is_news (T2 := g) (hwd.keep (unhide HB2)) (fun _ _ => rfl)
    clear hnil hwd
    go_enter Try.func6, Try.ntmps6
    go_wp2_with (at_builtin; refine wpList_append_own _ rfl _ _ 25 rfl (W.heap.size + 1) 2 i2 (.int .i64 0) 1 8 Try.underlying25 hi2 hz0 hz1 hz2 rfl (by decide) _ _ _ rfl hO0 ad nw wcp (intsV g nw) rfl (intsV_len _ _) hnw2 intsV_one (by unfold maxLen; omega) (by omega) (by simp) ?_)
    intro v1 w2 hown1 hgrow1 hnn1
    have B1 := (bal (o := .cells #[] 2) (unhide HB1)).grown hgrow1 (by simp only [World.size_alloc]; omega) (fun k hk => by have := (hO0.lt k hk).1; omega)
    have HO1' := (((unhide HO1).keep (bal (o := .cells #[] 2) (Below.refl _ _))).grown hgrow1 (fun e => by have := (hO0.lt _ e.symm).1; omega))
    replace hown1 : w2.ownsRow (W.heap.size + 1) 2 1 v1 nw (intsV g nw) := by simpa using hown1
    obtain ⟨qw, cw, rfl⟩ : ∃ g cap, v1 = .slice (some ⟨g, 0, none⟩) nw cap := by
      rcases hown1.2 with ⟨hv, h0⟩ | ⟨g, cap, cur, hv, _⟩
      · exact absurd hv hnn1
      · exact ⟨_, _, hv⟩
    have hW1 := own_wr hown1
    obtain ⟨bm, hbm⟩ : ∃ b, b = W.heap.size := ⟨_, rfl⟩
    have HO2 := hide HO1'
    have B2 := hide B1
    have Hlt := hide (show bm = W.heap.size from hbm)
    rw [← hbm] at HO2
    have HIk := hide (show ∀ V, Kept (fun i => bm + 1 ≤ i ∧ Tg w2 i 34) w2 V → Is V (some ⟨qw, 0, none⟩) nw g from fun V hV => (hW1.kept hV (fun e => tg_not hW1.1.2 (by decide) e.2)).is)
    clear B1 HO1' hown1 hgrow1 hW1 hO0 hnw2 HO1 HB1 hnn1 HB2
    go_upto_region 2 with fail
    rw [← hbm]
    clear hbm
    obtain ⟨-, m1, m2, m3⟩ := unhide HO2
    go_wp2_with fail
    refine (unhide HWr _).mono ?_
    rintro e w3 ⟨rfl, hb3⟩
    have e4 := bal (o := .cells #[.int .i64 0, .int .i64 0, .bool false, .bool false] 61) (Below.refl w3.heap.size w3)
    have hb4 := btrans hb3 e4
    have HO3 := hide ((unhide HO2).keep hb4)
    have B3 := hide (btrans (unhide B2) hb4)
    have HS3 := hide hb4
    have hsz3 : bm + 1 ≤ (w3.alloc (.cells #[.int .i64 0, .int .i64 0, .bool false, .bool false] 61)).heap.size := by have := (unhide HO3).1; omega
    clear hb3 e4 hb4 m1 m2 m3
    go_wp2
    generalize w3.alloc (.cells #[.int .i64 0, .int .i64 0, .bool false, .bool false] 61) = w4 at *
    go_loopw [11, 12, 38] (fun l out i wr => ∃ (k : Nat) (lf : Int) (q : Option Addr) (c : Nat) (els : List (Sn × Value)), k ≤ m ∧ i = .int .i64 k ∧ l = .int .i64 lf ∧ out = .slice q k c ∧ wr.ownsRow (bm + 1) 34 6 (.slice q k c) k (snsV els) ∧ OL (bm + 1) wr f ww els ∧ els.map Prod.fst = List.replicate k (noSn er) ∧ bm + 1 ≤ wr.heap.size ∧ Below W.heap.size W wr ∧ Kept (fun i => bm + 1 ≤ i ∧ Tg w2 i 34) w2 wr) (fun _ _ i _ => m - (intOf i).toNat)
    case atStart => exact ⟨0, -1, none, 0, [], Nat.zero_le _, rfl, rfl, rfl, World.ownsRow_nil _ _ _ _, (fun e he => by cases he), rfl, hsz3, unhide B3, Kept.of (unhide HS3)⟩
    case round =>
      clear HO3 B3 HS3 hsz3
      obtain ⟨k, lf, q, c, els, hk, rfl, rfl, rfl, hOw, hOL, hEl, hsz, hB, hKw⟩ := hrel
      by_cases hlt : k < m
      · obtain ⟨sb, so, hsq, s1, s2, s3⟩ := ((unhide HSc0).keep hB).at hlt
        subst hsq
        generalize P k = Pk at *
        generalize O k = Ok at *
        generalize E k = Ek at *
        have q0 : (k : Int) < (m : Int) := by omega
        have q1 : (0 : Int) ≤ (k : Int) := by omega
        have HX := hide (XB.new wr Pk Ok Ek)
        have e1 := bal (o := .cells #[.int .i64 Pk, .bool Ok, .int .i64 Ek] 53) (Below.refl wr.heap.size wr)
        have HOw1 := hide (own_keep hOw e1)
        have HOL1 := hide (hOL.keep e1)
        have B1 := hide (btrans hB e1)
        have HKw := hide (hKw.below e1)
        have HEl := hide hEl
        have hsz1 : bm + 1 ≤ (wr.alloc (.cells #[.int .i64 Pk, .bool Ok, .int .i64 Ek] 53)).heap.size := Nat.le_trans hsz e1.size
        clear hOw hOL hB hEl e1 hKw
        go_upto_if 44 with fail
        generalize wr.alloc (.cells #[.int .i64 Pk, .bool Ok, .int .i64 Ek] 53) = w5 at *
        obtain ⟨bx, hbx⟩ : ∃ b, b = wr.heap.size := ⟨_, rfl⟩
        rw [← hbx] at HX
        rw [← hbx]
        clear hbx s1 s2 s3
        obtain ⟨-, ⟨x0, x1, x2⟩, -⟩ := unhide HX
        go_cut [11] (fun l wd => (∃ l2, l = .int .i64 l2) ∧ wd = w5)
        case first =>
          by_cases hp : Pk = 0
          · have hp' : (Pk != 0) = false := by simp [hp]
            clear hp
            go_wp2
            go_meet
            case rel => exact ⟨⟨_, rfl⟩, rfl⟩
          · have hp' : (Pk != 0) = true := by simp [hp]
            clear hp
            go_wp2
            go_meet
            case rel => exact ⟨⟨_, rfl⟩, rfl⟩
        case rest =>
        obtain ⟨⟨l2, rfl⟩, hwc⟩ := hcut
        subst hwc
        obtain ⟨w5, rfl⟩ : ∃ x : World, x = wc := ⟨_, rfl⟩
        go_upto_region 13 with fail
        go_cut [53] (fun v wd => v = .bool false ∧ wd = w5)
        case first =>
          cases Ok
          all_goals
            go_wp2
            go_meet
            case rel => exact ⟨rfl, rfl⟩
        case rest =>
        obtain ⟨rfl, hwc⟩ := hcut
        subst hwc
        clear x0 x1 x2
        obtain ⟨w5, rfl⟩ : ∃ x : World, x = wc := ⟨_, rfl⟩
        have e7 := bal (o := .cells #[.int .i64 0, .int .i64 0, .int .i64 0, .slice none 0 0, .int .i64 er, .int .i64 0] 34) (Below.refl w5.heap.size w5)
        have HY7 := hide (YB.new w5 0 0 0 none 0 0 er 0)
        have hOw11 := own_keep (unhide HOw1) e7
        have HOL11 := hide ((unhide HOL1).keep e7)
        have B11 := hide (btrans (unhide B1) e7)
        have HKw11 := hide ((unhide HKw).below e7)
        have hsz11 := Nat.le_trans hsz1 e7.size
        clear e7 HOw1 HOL1 B1 HKw hsz1 HX
        go_upto_region 17 with fail
        generalize w5.alloc (.cells #[.int .i64 0, .int .i64 0, .int .i64 0, .slice none 0 0, .int .i64 er, .int .i64 0] 34) = w11 at *
        obtain ⟨by7, hby⟩ : ∃ b, b = w5.heap.size := ⟨_, rfl⟩
        rw [← hby] at HY7
        rw [← hby]
        clear hby
        obtain ⟨-, ⟨y0, y1, y2, y3, y4, y5⟩, -⟩ := unhide HY7
        have c6 := cell_six_new w11 (noSn er, .slice none 0 0) 34
        have hlen := hOw11.1
        go_wp2_with (at_builtin; refine wpList_append_own _ rfl _ _ 27 rfl (bm + 1) 34 i34 (.agg #[.int .i64 0, .int .i64 0, .int .i64 0, .slice none 0 0, .int .i64 0, .int .i64 0]) 6 64 Try.underlying27 hi34 hy0 hy1 hy2 rfl (by decide) _ _ _ rfl (hOw11.alloc _) ⟨w11.heap.size, 0, none⟩ 1 1 (snC (noSn er, .slice none 0 0)) rfl rfl c6 (by intro u hu; simp [snC] at hu; rcases hu with rfl | rfl | rfl | rfl | rfl | rfl <;> rfl) (by unfold maxLen; omega) (by omega) (by simp; omega) ?_)
        intro v12 w12 hown12 hgrow12 _
        obtain ⟨q12, c12, rfl⟩ := own_form hown12
        have e12 := bal (o := .cells #[.int .i64 0, .int .i64 0, .int .i64 0, .slice none 0 0, .int .i64 er, .int .i64 0] 34) (Below.refl w11.heap.size w11)
        have hk12 : Kept (fun i => bm + 1 ≤ i ∧ Tg w11 i 34) w11 w12 := (Kept.of e12).trans (grown_kept hgrow12 (fun r e => .inl ⟨(hOw11.lt r e).1, own_tg hOw11 e⟩))
        have t12 : ∀ i, (bm + 1 ≤ i ∧ Tg w11 i 34) → ¬ Tg w11 i 4 := fun i e t => tg_not e.2 (by decide) t
        have HOL12 := hide (((unhide HOL11).kept hk12 t12).snoc (e := (noSn er, .slice none 0 0)) (World.ownsRow_nil _ _ _ _))
        have HOw12 := hide (show w12.ownsRow (bm + 1) 34 6 (.slice q12 (k + 1) c12) (k + 1) (snsV (els ++ [(noSn er, .slice none 0 0)])) from by rw [snsV_snoc]; exact hown12)
        have B12 := hide (Kept.back (unhide B11) hk12 (unhide B11).size (fun i e => by have := e.1; have := unhide Hlt; omega))
        have HKw12 := hide (show Kept (fun i => bm + 1 ≤ i ∧ Tg w2 i 34) w2 w12 from ktrans (unhide HKw11) hk12)
        have hsz12 := Nat.le_trans hsz11 hk12.size
        clear hown12 hgrow12 e12 hk12 t12 hOw11 c6 y0 y1 y2 y3 y4 y5 HOL11 B11 hlen
        go_wp2
        go_roundw
        case rel =>
          refine ⟨k + 1, l2, q12, c12, els ++ [(noSn er, .slice none 0 0)], by omega, by go_num, rfl, rfl, unhide HOw12, unhide HOL12, ?_, hsz12, unhide B12, unhide HKw12⟩
          rw [List.map_append, unhide HEl, List.replicate_succ']; rfl
        case measure => simp [intOf]; omega
      · obtain rfl : k = m := by omega
        have cl : ¬ ((k : Int) < (k : Int)) := by omega
        have hS : SeenIs W.heap.size wr f ww k nw (List.replicate k (noSn er)) g q c (some ⟨qw, 0, none⟩) :=
          ⟨els, hEl, own_le hOw (by have := unhide Hlt; omega), fun e he => own_le (hOL e he) (by have := unhide Hlt; omega), unhide HIk wr hKw⟩
        have HS := hide hS
        have HB' := hide hB
        clear hS hOw hOL hEl hB hKw
        go_wp2
        go_ret2
        exact ⟨q, c, (some ⟨qw, 0, none⟩), ⟨cw, rfl⟩, unhide HS, unhide HB'⟩
end Go.Proofs.Ytndfecdhmncdaaa
