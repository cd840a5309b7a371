/-
  SettFolds: Fold is turned by Threads, and a sett there and back is the same from both sides.
-/
import Derived.Test.YtbnjjkanokmakaaDoorLT
import Derived.Test.YtbnjjkanokmakaaDoorAL
namespace Go.Proofs.YtbnjjkanokmakaaDoor
open Go.RowKit

theorem fold_back (l : List Int) (h : fE l = 0) : wE (fP l) (fR l) = 0 ∧ thr (onL (fP l) (fR l)) = l := by
  have hp : fP l = gb (rnL l) := by unfold fP; rw [if_pos h]
  have hr : fR l = (rnL l).take (foN (rnL l)) := by unfold fR; rw [if_pos h]
  rw [hp, hr, onL_fo]
  refine ⟨?_, ?_⟩
  · unfold fE at h
    split at h
    · cases h
    · exact h
  · have := (rn_each l l.length (Nat.le_refl _)).2.2
    rwa [List.take_length] at this
theorem thr_pos {L : List St} (h : ∀ x ∈ L, 1 ≤ x.2) (h0 : 1 ≤ L.length) : 1 ≤ (thr L).length := by
  cases L with
  | nil => simp at h0
  | cons a r =>
    have h1 := h a (by simp)
    have e : thr (a :: r) = List.replicate a.2.toNat a.1 ++ thr r := rfl
    rw [e, List.length_append, List.length_replicate]
    omega
set_option maxRecDepth 100000 in
set_option maxHeartbeats 8000000 in
theorem folds_walk (q : Option Addr) (l : List Int) (cap : Nat) (pv : Bool) (q2 : Option Addr) (sl : List St) (cap2 : Nat) (W : World) (hI : Il W q l) (hn : l.length ≤ 1048576) (hP : Sl W q2 sl) (hT : RTabs W) :
    Calls Tryd.prog 6 #[.slice q l.length cap, sV pv q2 sl.length cap2] W (BoIs W true) := by
  have H19 := hide (alive_any)
  have H15 := hide (fun V (hb : Below W.heap.size W V) => show Calls Tryd.prog 15 #[.slice q l.length cap] V (fun e V' => ∃ q c, e = .returned (.tuple #[sV (fP l) q (fR l).length c, .int .i64 (fE l)]) ∧ Sl V' q (fR l) ∧ Below V.heap.size V V') from (fold_any q l cap V (hI.keep hb) hn).mono fun _ _ h => h.st)
  have H12 := hide (fun V (hb : Below W.heap.size W V) => show Calls Tryd.prog 12 #[sV pv q2 sl.length cap2] V (fun e V' => ∃ q c, e = .returned (.tuple #[.slice q (if wE pv sl = 0 then thr (onL pv sl) else []).length c, .int .i64 (wE pv sl)]) ∧ Il V' q (if wE pv sl = 0 then thr (onL pv sl) else []) ∧ Below V.heap.size V V') from threads_nu pv q2 sl cap2 V (hP.keep hb))
  have HI := hide (fun V (hb : Below W.heap.size W V) => show Il V q l from hI.keep hb)
  have HP := hide (fun V (hb : Below W.heap.size W V) => show Sl V q2 sl from hP.keep hb)
  have HT := hide (fun V (hb : Below W.heap.size W V) => hT.keep hb)
  have HF := hide (fun (h : fE l = 0) V qx cx (h1 : Sl V qx (fR l)) => show Calls Tryd.prog 12 #[sV (fP l) qx (fR l).length cx] V (fun e V' => ∃ q c, e = .returned (.tuple #[.slice q l.length c, .int .i64 0]) ∧ Il V' q l ∧ Below V.heap.size V V') from by
    have h2 := threads_nu (fP l) qx (fR l) cx V h1
    obtain ⟨e1, e2⟩ := fold_back l h
    rw [e1, if_pos rfl, e2] at h2
    exact h2)
  have H14 := hide (fun V qa qb ca cb (h1 : Il V qa l) (h2 : Il V qb l) => sameN_any qa qb l ca cb hn V h1 h2)
  have Hpal := hide (fun (h : wE pv sl = 0) (hp : pv = true) => pal_sym pv sl (ok_of h) hp)
  have Hc0 := hide (fun (h : wE pv sl = 0) => show 1 ≤ sl.length ∧ (1 ≤ cb sl 0 ∧ cb sl 0 ≤ 4096) ∧ 1 ≤ (thr (onL pv sl)).length ∧ (thr (onL pv sl)).length ≤ 4096 from by
    have hO := ok_of h
    have h1 : 1 ≤ sl.length := hO.few.1
    have h2 := (hO.each 0 (by omega)).2
    refine ⟨h1, h2, ?_, thr_size hO⟩
    exact thr_pos (fun x hx => onL_each (pv := pv) (l := sl) (P := fun x => 1 ≤ x.2) (fun j hj => (hO.each j hj).2.1) x hx) (onL_pos pv sl h1))
  have HB := hide (BS.new W pv (.slice q2 sl.length cap2) 24)
  have Hb := hide (bnew W (.cells #[.bool pv, .slice q2 sl.length cap2] 24))
  unfold sV at *
  clear hI hP hT hn
  generalize fR l = R at *
  generalize fP l = fp at *
  generalize fE l = fe at *
  obtain ⟨sn, hsn⟩ : ∃ sn, sn = sl.length := ⟨_, rfl⟩
  rw [← hsn] at H12 HB Hb Hc0 ⊢
  have Hsn := hide hsn
  clear hsn
  generalize l.length = m at *
  go_enter Tryd.func6, Tryd.ntmps6
  go_upto_region 1 with fail
  generalize W.alloc (.cells #[.bool pv, .slice q2 sn cap2] 24) = w1 at *
  generalize hbx : W.heap.size = bx at *
  have Hhb := hide hbx
  clear hbx
  go_wp2_with fail
  refine (unhide H19 w1 (unhide HT _ (unhide Hb))).mono ?_
  rintro e w2 ⟨rfl, hb2⟩
  have Hb2 := hide ((unhide Hb).trans (hb2.mono (by have := (unhide HB).1; have := unhide Hhb; omega)))
  have HB2 := hide ((unhide HB).keep hb2)
  clear hb2 HB Hb
  go_wp2_with fail
  refine (unhide H15 w2 (unhide Hb2)).mono ?_
  rintro e w3 ⟨q3, c3, rfl, hs3, hb3⟩
  have Hb3 := hide ((unhide Hb2).trans (hb3.mono (by have := (unhide Hb2).size; have := unhide Hhb; omega)))
  have HB3 := hide ((unhide HB2).keep hb3)
  have bn := bnew w3 (.cells #[.bool fp, .slice q3 R.length c3] 24)
  have HX4 := hide (BS.new w3 fp (.slice q3 R.length c3) 24)
  have HS4 := hide (Ps.keep hs3 bn)
  have Hb4 := hide ((unhide Hb3).trans (bn.mono (by have := (unhide Hb3).size; have := unhide Hhb; omega)))
  have HB4 := hide ((unhide HB3).keep bn)
  clear hb3 hs3 HB2 Hb2 HB3 Hb3 bn
  go_upto_region 4 with fail
  generalize w3.alloc (.cells #[.bool fp, .slice q3 R.length c3] 24) = w4 at *
  generalize w3.heap.size = x4 at *
  by_cases hfe : fe = 0
  · have HC := hide (unhide HF hfe w4 q3 c3 (unhide HS4))
    subst hfe
    obtain ⟨-, x0, x1⟩ := unhide HX4
    generalize R.length = rl at *
    go_upto_region 5 with fail
    go_wp2_with fail
    refine (unhide HC).mono ?_
    rintro e w5 ⟨q5, c5, rfl, hi5, hb5⟩
    have Hb5 := hide ((unhide Hb4).trans (hb5.mono (by have := (unhide Hb4).size; have := unhide Hhb; omega)))
    have HB5 := hide ((unhide HB4).keep hb5)
    have HM := hide (unhide H14 w5 q5 q c5 cap hi5 (unhide HI w5 (unhide Hb5)))
    clear hb5 hi5 HB4 Hb4 HC x0 x1 HX4 HS4
    go_wp2_with fail
    refine (unhide HM).mono ?_
    rintro e w6 ⟨rfl, hb6⟩
    have HbW := hide ((unhide Hb5).trans (hb6.mono (by have := (unhide Hb5).size; have := unhide Hhb; omega)))
    have HBW := hide ((unhide HB5).keep hb6)
    clear hb6 HM HB5 Hb5
    go_upto_region 8 with fail
    by_cases he : wE pv sl = 0
    · have HC := hide (unhide H12 w6 (unhide HbW))
      rw [if_pos he, he] at HC
      have Hp := hide (unhide Hpal he)
      have Hc := hide (unhide Hc0 he)
      clear Hpal Hc0 H12 he
      generalize thr (onL pv sl) = T at *
      generalize hcc : cb sl 0 = cc at *
      obtain ⟨tn, htn⟩ : ∃ tn, tn = T.length := ⟨_, rfl⟩
      rw [← htn] at HC Hp Hc
      have Htn := hide htn
      clear htn
      obtain ⟨-, e0, e1⟩ := unhide HBW
      go_wp2_with fail
      refine (unhide HC).mono ?_
      rintro e w9 ⟨q9, c9, rfl, hi9, hb9⟩
      have Hb9 := hide ((unhide HbW).trans (hb9.mono (by have := (unhide HbW).size; have := unhide Hhb; omega)))
      have HB9 := hide ((unhide HBW).keep hb9)
      have HI9 := hide hi9
      clear hb9 hi9 e0 e1 HC HBW HbW
      obtain ⟨-, e0, e1⟩ := unhide HB9
      cases pv with
      | false =>
        clear Hp Hc
        go_wp2
        go_ret
        exact BoIs.mk (by rfl) (by rw [unhide Hhb]; exact unhide Hb9)
      | true =>
        obtain ⟨k1, ⟨k2, k3⟩, k4, k5⟩ := unhide Hc
        obtain ⟨g, o, rfl, hk⟩ : ∃ g o, q2 = some ⟨g, o, none⟩ ∧ w9.cell? ⟨g, o + 1, none⟩ = some (.int .i64 cc) := by
          obtain ⟨g, o, e, hl, hk⟩ := (unhide HP w9 (unhide Hb9)).resolve_left (by have := unhide Hsn; omega)
          have := (hk 0 (by have := unhide Hsn; omega)).2
          rw [hcc] at this
          exact ⟨g, o, e, by simpa using this⟩
        have q0 : (0 : Int) < (sn : Int) := by omega
        have Hcc := hide hcc
        have Hp2 := hide (unhide Hp rfl)
        clear hcc Hc Hp HP
        go_upto_region 11 with fail
        go_quiet (fail)
        have Hbd := hide ((unhide Hb9).trans (Joins.below_draws bx w9 nq))
        have HId := hide ((unhide HI9).keep (Joins.below_draws _ w9 nq))
        generalize w9.drewN nq = wd at *
        clear e0 e1 hk q0 HB9 HI9 Hb9
        go_wp2
        go_loopw [13] (fun iv wr => ∃ i : Nat, i ≤ tn ∧ iv = .int .i64 (i : Int) ∧ Il wr q9 T ∧ Below bx W wr) (fun iv _ => tn - (intOf iv).toNat)
        case atStart => exact ⟨0, by omega, rfl, unhide HId, unhide Hbd⟩
        case round =>
          clear HId Hbd
          obtain ⟨i, hi, rfl, hI, hB⟩ := hrel
          have HIr := hide hI
          have HBr := hide hB
          clear hI hB
          by_cases hlt : i < tn
          · obtain ⟨mm, m1, m2, m3⟩ := unhide Hp2 i hlt
            have hl : 1 ≤ T.length := by have := unhide Htn; omega
            obtain ⟨g9, o9, rfl, hg9, hk9⟩ := (show Is wr q9 T.length (fun k => T.getD k 0) from unhide HIr).resolve_left (by omega)
            have c1 := hk9 i (by have := unhide Htn; omega)
            have c2 := hk9 mm (by have := unhide Htn; omega)
            simp only at c1 c2
            rw [← m3] at c2
            generalize T.getD i 0 = tv at *
            have q1 : (i : Int) < (tn : Int) := by omega
            have q2 : (0 : Int) ≤ (i : Int) := by omega
            have q3 : (mm : Int) < (tn : Int) := by omega
            have q4 : (0 : Int) ≤ (mm : Int) := by omega
            have q5 : ((tn : Int) == 0) = false := by simp; omega
            have q6 : (tv != tv) = false := by simp
            have q7 : (tn : Int) ≠ 0 := by omega
            have hi9 : (i : Int) ≤ 4096 := by omega
            clear hk9 m3 hl
            go_upto_region 15 with fail
            go_quiet (fail)
            have HIn := hide ((unhide HIr).keep (Joins.below_draws _ wr nq))
            have HBn := hide ((unhide HBr).trans (Joins.below_draws bx wr nq))
            generalize wr.drewN nq = w2r at *
            clear m1 c1 c2 HIr HBr
            go_wp2
            go_roundw
            case rel => exact ⟨i + 1, by omega, by go_num, unhide HIn, unhide HBn⟩
            case measure => simp [intOf]; omega
          · obtain rfl : i = tn := by omega
            have cl : ¬ ((i : Int) < (i : Int)) := by omega
            have cg : (0 : Int) < (i : Int) := by omega
            clear Hp2
            go_wp2
            go_ret
            exact BoIs.mk (by simp; omega) (by rw [unhide Hhb]; exact unhide HBr)
    · have HC := hide (unhide H12 w6 (unhide HbW))
      rw [if_neg he] at HC
      generalize wE pv sl = er at *
      have z9 : (er != (0 : Int)) = true := by simpa using he
      clear Hpal Hc0 H12 he
      obtain ⟨-, e0, e1⟩ := unhide HBW
      go_wp2_with fail
      refine (unhide HC).mono ?_
      rintro e w9 ⟨q9, c9, rfl, -, hb9⟩
      have Hb9 := hide ((unhide HbW).trans (hb9.mono (by have := (unhide HbW).size; have := unhide Hhb; omega)))
      clear hb9 e0 e1 HC HBW HbW
      go_wp2
      go_ret
      exact BoIs.mk (by rfl) (by rw [unhide Hhb]; exact unhide Hb9)

  · have z8 : (fe == (0 : Int)) = false := by simpa using hfe
    have HbW := Hb4
    have HBW := HB4
    clear Hb4 HB4 HX4 HS4 hfe
    go_upto_region 8 with fail
    clear z8
    by_cases he : wE pv sl = 0
    · have HC := hide (unhide H12 w4 (unhide HbW))
      rw [if_pos he, he] at HC
      have Hp := hide (unhide Hpal he)
      have Hc := hide (unhide Hc0 he)
      clear Hpal Hc0 H12 he
      generalize thr (onL pv sl) = T at *
      generalize hcc : cb sl 0 = cc at *
      obtain ⟨tn, htn⟩ : ∃ tn, tn = T.length := ⟨_, rfl⟩
      rw [← htn] at HC Hp Hc
      have Htn := hide htn
      clear htn
      obtain ⟨-, e0, e1⟩ := unhide HBW
      go_wp2_with fail
      refine (unhide HC).mono ?_
      rintro e w9 ⟨q9, c9, rfl, hi9, hb9⟩
      have Hb9 := hide ((unhide HbW).trans (hb9.mono (by have := (unhide HbW).size; have := unhide Hhb; omega)))
      have HB9 := hide ((unhide HBW).keep hb9)
      have HI9 := hide hi9
      clear hb9 hi9 e0 e1 HC HBW HbW
      obtain ⟨-, e0, e1⟩ := unhide HB9
      cases pv with
      | false =>
        clear Hp Hc
        go_wp2
        go_ret
        exact BoIs.mk (by rfl) (by rw [unhide Hhb]; exact unhide Hb9)
      | true =>
        obtain ⟨k1, ⟨k2, k3⟩, k4, k5⟩ := unhide Hc
        obtain ⟨g, o, rfl, hk⟩ : ∃ g o, q2 = some ⟨g, o, none⟩ ∧ w9.cell? ⟨g, o + 1, none⟩ = some (.int .i64 cc) := by
          obtain ⟨g, o, e, hl, hk⟩ := (unhide HP w9 (unhide Hb9)).resolve_left (by have := unhide Hsn; omega)
          have := (hk 0 (by have := unhide Hsn; omega)).2
          rw [hcc] at this
          exact ⟨g, o, e, by simpa using this⟩
        have q0 : (0 : Int) < (sn : Int) := by omega
        have Hcc := hide hcc
        have Hp2 := hide (unhide Hp rfl)
        clear hcc Hc Hp HP
        go_upto_region 11 with fail
        go_quiet (fail)
        have Hbd := hide ((unhide Hb9).trans (Joins.below_draws bx w9 nq))
        have HId := hide ((unhide HI9).keep (Joins.below_draws _ w9 nq))
        generalize w9.drewN nq = wd at *
        clear e0 e1 hk q0 HB9 HI9 Hb9
        go_wp2
        go_loopw [13] (fun iv wr => ∃ i : Nat, i ≤ tn ∧ iv = .int .i64 (i : Int) ∧ Il wr q9 T ∧ Below bx W wr) (fun iv _ => tn - (intOf iv).toNat)
        case atStart => exact ⟨0, by omega, rfl, unhide HId, unhide Hbd⟩
        case round =>
          clear HId Hbd
          obtain ⟨i, hi, rfl, hI, hB⟩ := hrel
          have HIr := hide hI
          have HBr := hide hB
          clear hI hB
          by_cases hlt : i < tn
          · obtain ⟨mm, m1, m2, m3⟩ := unhide Hp2 i hlt
            have hl : 1 ≤ T.length := by have := unhide Htn; omega
            obtain ⟨g9, o9, rfl, hg9, hk9⟩ := (show Is wr q9 T.length (fun k => T.getD k 0) from unhide HIr).resolve_left (by omega)
            have c1 := hk9 i (by have := unhide Htn; omega)
            have c2 := hk9 mm (by have := unhide Htn; omega)
            simp only at c1 c2
            rw [← m3] at c2
            generalize T.getD i 0 = tv at *
            have q1 : (i : Int) < (tn : Int) := by omega
            have q2 : (0 : Int) ≤ (i : Int) := by omega
            have q3 : (mm : Int) < (tn : Int) := by omega
            have q4 : (0 : Int) ≤ (mm : Int) := by omega
            have q5 : ((tn : Int) == 0) = false := by simp; omega
            have q6 : (tv != tv) = false := by simp
            have q7 : (tn : Int) ≠ 0 := by omega
            have hi9 : (i : Int) ≤ 4096 := by omega
            clear hk9 m3 hl
            go_upto_region 15 with fail
            go_quiet (fail)
            have HIn := hide ((unhide HIr).keep (Joins.below_draws _ wr nq))
            have HBn := hide ((unhide HBr).trans (Joins.below_draws bx wr nq))
            generalize wr.drewN nq = w2r at *
            clear m1 c1 c2 HIr HBr
            go_wp2
            go_roundw
            case rel => exact ⟨i + 1, by omega, by go_num, unhide HIn, unhide HBn⟩
            case measure => simp [intOf]; omega
          · obtain rfl : i = tn := by omega
            have cl : ¬ ((i : Int) < (i : Int)) := by omega
            have cg : (0 : Int) < (i : Int) := by omega
            clear Hp2
            go_wp2
            go_ret
            exact BoIs.mk (by simp; omega) (by rw [unhide Hhb]; exact unhide HBr)
    · have HC := hide (unhide H12 w4 (unhide HbW))
      rw [if_neg he] at HC
      generalize wE pv sl = er at *
      have z9 : (er != (0 : Int)) = true := by simpa using he
      clear Hpal Hc0 H12 he
      obtain ⟨-, e0, e1⟩ := unhide HBW
      go_wp2_with fail
      refine (unhide HC).mono ?_
      rintro e w9 ⟨q9, c9, rfl, -, hb9⟩
      have Hb9 := hide ((unhide HbW).trans (hb9.mono (by have := (unhide HbW).size; have := unhide Hhb; omega)))
      clear hb9 e0 e1 HC HBW HbW
      go_wp2
      go_ret
      exact BoIs.mk (by rfl) (by rw [unhide Hhb]; exact unhide Hb9)
end Go.Proofs.YtbnjjkanokmakaaDoor
