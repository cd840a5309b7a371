/-
  SettTells: Wrong, Threads, Fold and Print of anything.
-/
import Derived.Test.YtbnjjkanokmakaaDoorRU
import Derived.Test.YtbnjjkanokmakaaDoorRD
import Derived.Test.YtbnjjkanokmakaaDoorRF
import Derived.Test.YtbnjjkanokmakaaDoorRG
namespace Go.Proofs.YtbnjjkanokmakaaDoor
open Go.RowKit

theorem g5_0 {a0 a1 a2 a3 a4 : Oper} : (#[a0, a1, a2, a3, a4] : Array Oper)[0]? = some a0 := rfl
theorem g5_1 {a0 a1 a2 a3 a4 : Oper} : (#[a0, a1, a2, a3, a4] : Array Oper)[1]? = some a1 := rfl
theorem g5_2 {a0 a1 a2 a3 a4 : Oper} : (#[a0, a1, a2, a3, a4] : Array Oper)[2]? = some a2 := rfl
theorem g5_3 {a0 a1 a2 a3 a4 : Oper} : (#[a0, a1, a2, a3, a4] : Array Oper)[3]? = some a3 := rfl
theorem g5_4 {a0 a1 a2 a3 a4 : Oper} : (#[a0, a1, a2, a3, a4] : Array Oper)[4]? = some a4 := rfl

/-- numbers and an error are told -/
def NuIs (W : World) (T : List Int) (er : Int) (e : Ending) (V : World) : Prop := ∃ q c, e = .returned (.tuple #[.slice q T.length c, .int .i64 er]) ∧ Il V q T ∧ Below W.heap.size W V
theorem ThIs.nu {W V : World} {pv : Bool} {l : List St} {e : Ending} (h : ThIs W pv l e V) : NuIs W (if wE pv l = 0 then thr (onL pv l) else []) (wE pv l) e V := by
  unfold ThIs at h
  by_cases he : wE pv l = 0
  · rw [if_pos he] at h ⊢
    obtain ⟨v, rfl, hz, hb⟩ := h
    obtain ⟨q, c, rfl⟩ := hz.form
    exact ⟨q, c, by rw [he], hz.il.2, hb⟩
  · rw [if_neg he] at h ⊢
    obtain ⟨rfl, hb⟩ := h
    exact ⟨none, 0, rfl, .inl rfl, hb⟩
/-- a sett and an error are told -/
def StIs (W : World) (pv : Bool) (R : List St) (er : Int) (e : Ending) (V : World) : Prop := ∃ q c, e = .returned (.tuple #[sV pv q R.length c, .int .i64 er]) ∧ Sl V q R ∧ Below W.heap.size W V
def fR (l : List Int) : List St := if fE l = 0 then (rnL l).take (foN (rnL l)) else []
def fP (l : List Int) : Bool := if fE l = 0 then gb (rnL l) else false
theorem fR_len (l : List Int) : (fR l).length ≤ l.length := by
  unfold fR
  split
  · have := rn_len l
    have := foN_le (rnL l)
    simp
    omega
  · simp
theorem FdIs.st {W V : World} {l : List Int} {e : Ending} (h : FdIs W l e V) : StIs W (fP l) (fR l) (fE l) e V := by
  obtain ⟨hb, h⟩ := h
  unfold fP fR
  by_cases he : fE l = 0
  · rw [if_pos he] at h
    rw [if_pos he, if_pos he]
    obtain ⟨q, c, rfl, hs⟩ := h
    have : ((rnL l).take (foN (rnL l))).length = foN (rnL l) := by have := foN_le (rnL l); simp; omega
    exact ⟨q, c, by rw [he, this], hs, hb⟩
  · rw [if_neg he] at h
    rw [if_neg he, if_neg he, h]
    exact ⟨none, 0, rfl, .inl rfl, hb⟩
/-- a text and an error are told -/
def TxIs (W : World) (s : ByteArray) (er : Int) (e : Ending) (V : World) : Prop := e = .returned (.tuple #[.string s, .int .i64 er]) ∧ Below W.heap.size W V
def prA (pv : Bool) (l : List St) : ByteArray := if wE pv l = 0 then ⟨(prB pv l).toArray⟩ else ⟨#[]⟩
theorem PrIs.tx {W V : World} {pv : Bool} {l : List St} {e : Ending} (h : PrIs W pv l e V) : TxIs W (prA pv l) (wE pv l) e V := by
  obtain ⟨hb, h⟩ := h
  unfold prA
  by_cases he : wE pv l = 0
  · rw [if_pos he] at h ⊢
    exact ⟨by rw [he]; exact h, hb⟩
  · rw [if_neg he] at h ⊢
    exact ⟨h, hb⟩
theorem threads_nu (pv : Bool) (q : Option Addr) (l : List St) (cap : Nat) (W : World) (hP : Sl W q l) : Calls Tryd.prog 12 #[sV pv q l.length cap] W (NuIs W (if wE pv l = 0 then thr (onL pv l) else []) (wE pv l)) := by
  by_cases he : wE pv l = 0
  · exact (threads_ok pv q l cap W hP he).mono fun _ _ h => h.nu
  · exact (threads_bad pv q l cap W hP he).mono fun _ _ h => h.nu
theorem rthreads_nu (pv : Bool) (q : Option Addr) (l : List St) (cap : Nat) (W : World) (hP : Sl W q l) : Calls Tryd.prog 13 #[sV pv q l.length cap] W (NuIs W (if wE pv l = 0 then thr (onL pv l) else []) (wE pv l)) := by
  by_cases he : wE pv l = 0
  · exact (rthreads_ok pv q l cap W hP he).mono fun _ _ h => h.nu
  · exact (rthreads_bad pv q l cap W hP he).mono fun _ _ h => h.nu
theorem nu_len (pv : Bool) (l : List St) : (if wE pv l = 0 then thr (onL pv l) else []).length ≤ 4096 := by
  split
  · rename_i h
    exact thr_size (ok_of h)
  · simp

set_option maxRecDepth 100000 in
set_option maxHeartbeats 4000000 in
theorem tells_walk (pv : Bool) (q : Option Addr) (sl : List St) (cap : Nat) (q2 : Option Addr) (l : List Int) (cap2 : Nat) (W : World) (hP : Sl W q sl) (hI : Il W q2 l) (hn : l.length ≤ 1048576) (hT : Tab W) (hW : Pow W) :
    Calls Tryd.prog 4 #[sV pv q sl.length cap, .slice q2 l.length cap2] W (BoIs W true) := by
  have H10 := hide (fun V (hb : Below W.heap.size W V) => wrong_any pv q sl cap V (hP.keep hb))
  have H11 := hide (fun V (hb : Below W.heap.size W V) => rwrong_any pv q sl cap V (hP.keep hb))
  have H12 := hide (fun V (hb : Below W.heap.size W V) => show Calls Tryd.prog 12 #[sV pv q sl.length cap] V (fun e V' => ∃ q c, e = .returned (.tuple #[.slice q (if wE pv sl = 0 then thr (onL pv sl) else []).length c, .int .i64 (wE pv sl)]) ∧ Il V' q (if wE pv sl = 0 then thr (onL pv sl) else []) ∧ Below V.heap.size V V') from threads_nu pv q sl cap V (hP.keep hb))
  have H13 := hide (fun V (hb : Below W.heap.size W V) => show Calls Tryd.prog 13 #[sV pv q sl.length cap] V (fun e V' => ∃ q c, e = .returned (.tuple #[.slice q (if wE pv sl = 0 then thr (onL pv sl) else []).length c, .int .i64 (wE pv sl)]) ∧ Il V' q (if wE pv sl = 0 then thr (onL pv sl) else []) ∧ Below V.heap.size V V') from rthreads_nu pv q sl cap V (hP.keep hb))
  have H15 := hide (fun V (hb : Below W.heap.size W V) => show Calls Tryd.prog 15 #[.slice q2 l.length cap2] V (fun e V' => ∃ q c, e = .returned (.tuple #[sV (fP l) q (fR l).length c, .int .i64 (fE l)]) ∧ Sl V' q (fR l) ∧ Below V.heap.size V V') from (fold_any q2 l cap2 V (hI.keep hb) hn).mono fun _ _ h => h.st)
  have H16 := hide (fun V (hb : Below W.heap.size W V) => show Calls Tryd.prog 16 #[.slice q2 l.length cap2] V (fun e V' => ∃ q c, e = .returned (.tuple #[sV (fP l) q (fR l).length c, .int .i64 (fE l)]) ∧ Sl V' q (fR l) ∧ Below V.heap.size V V') from (rfold_any q2 l cap2 V (hI.keep hb) hn).mono fun _ _ h => h.st)
  have H17 := hide (fun V (hb : Below W.heap.size W V) => show Calls Tryd.prog 17 #[sV pv q sl.length cap] V (fun e V' => e = .returned (.tuple #[.string (prA pv sl), .int .i64 (wE pv sl)]) ∧ Below V.heap.size V V') from (print_any pv q sl cap V (hP.keep hb) (hT.keep hb) (hW.keep hb)).mono fun _ _ h => h.tx)
  have H18 := hide (fun V (hb : Below W.heap.size W V) => show Calls Tryd.prog 18 #[sV pv q sl.length cap] V (fun e V' => e = .returned (.tuple #[.string (prA pv sl), .int .i64 (wE pv sl)]) ∧ Below V.heap.size V V') from (rprint_any pv q sl cap V (hP.keep hb)).mono fun _ _ h => h.tx)
  have hT1 := nu_len pv sl
  have hR1 := fR_len l
  have HB := hide (BS.new W pv (.slice q sl.length cap) 24)
  have Hb := hide (bnew W (.cells #[.bool pv, .slice q sl.length cap] 24))
  have hT9 : (if wE pv sl = 0 then thr (onL pv sl) else []).length ≤ 1048576 := by omega
  have hR9 : (fR l).length ≤ 1048576 := by omega
  have H14 := hide (fun V qa qb ca cb (h1 : Il V qa (if wE pv sl = 0 then thr (onL pv sl) else [])) (h2 : Il V qb (if wE pv sl = 0 then thr (onL pv sl) else [])) => sameN_any qa qb _ ca cb hT9 V h1 h2)
  have H9 := hide (fun V qa qb ca cb (h1 : Sl V qa (fR l)) (h2 : Sl V qb (fR l)) => same_any (fP l) qa qb _ ca cb hR9 V h1 h2)
  unfold sV at *
  clear hP hI hT hW hn hT1 hR1 hT9 hR9
  generalize (if wE pv sl = 0 then thr (onL pv sl) else []) = T at *
  generalize wE pv sl = er at *
  generalize prA pv sl = st at *
  generalize fR l = R at *
  generalize fP l = fp at *
  generalize fE l = fe at *
  generalize sl.length = n at *
  generalize l.length = m at *
  have d1 : (er != er) = false := by simp
  have d2 : (fe != fe) = false := by simp
  have d3 : (er == er) = true := by simp
  have d4 : (st.toList == st.toList) = true := by simp
  go_enter Tryd.func4, Tryd.ntmps4
  go_upto_region 1 with fail
  generalize W.alloc (.cells #[.bool pv, .slice q n cap] 24) = w1 at *
  generalize hbx : W.heap.size = bx at *
  have Hhb := hide hbx
  clear hbx
  go_wp2_with fail
  have hS := (unhide HB).keep (bdrew w1)
  have Hb2 := hide ((unhide Hb).trans ((bdrew w1).mono (by have := (unhide HB).1; omega)))
  clear Hb HB
  refine wp_region_noPanic ?_
  refine wp_region_held_drew (S := fun V => BS V bx pv (.slice q n cap)) (by kernel_rfl) (hS) ?_
  intro _
  generalize w1.drew = w2 at *
  refine wpAnyH_take (i := 0) (oi := _) (v := .agg #[.bool pv, .slice q n cap]) g5_0 (by kernel_rfl) (by kernel_rfl) (by kernel_rfl) (fun _ _ _ h => h) (Or.inl ⟨by rfl, ?_⟩) (by assumption) ?_
  · intro V hSw
    try dsimp only at hSw
    have i0 := hSw.2.1
    have i1 := hSw.2.2
    go_simp
  simp only [Act.put, List.setIfInBounds_toArray, List.set_cons_zero, List.set_cons_succ]
  refine wpAnyH_take (i := 2) (oi := _) (v := .agg #[.bool pv, .slice q n cap]) g5_2 (by kernel_rfl) (by kernel_rfl) (by kernel_rfl) (fun _ _ _ h => h) (Or.inl ⟨by rfl, ?_⟩) (by assumption) ?_
  · intro V hSw
    try dsimp only at hSw
    have i0 := hSw.2.1
    have i1 := hSw.2.2
    go_simp
  simp only [Act.put, List.setIfInBounds_toArray, List.set_cons_zero, List.set_cons_succ]
  refine wpAnyH_ready (rs := [1]) (by kernel_rfl) (by simp) ?_
  refine AllReadyH.cons (o := _) g5_1 (fun K hK => ?_) AllReadyH.nil
  go_simp
  refine (unhide H10 _ (unhide Hb2)).mono ?_
  rintro e w3 ⟨rfl, hb3⟩
  have Hb3 := hide ((unhide Hb2).trans (hb3.mono (by have := (unhide Hb2).size; have := unhide Hhb; omega)))
  replace hS := hS.keep hb3
  clear hb3 Hb2
  refine hK.out _ _ (hS) (fun _ => ?_)
  clear hK K
  refine wpAnyH_ready (rs := [3]) (by kernel_rfl) (by simp) ?_
  refine AllReadyH.cons (o := _) g5_3 (fun K hK => ?_) AllReadyH.nil
  go_simp
  refine (unhide H11 _ (unhide Hb3)).mono ?_
  rintro e w4 ⟨rfl, hb4⟩
  have Hb4 := hide ((unhide Hb3).trans (hb4.mono (by have := (unhide Hb3).size; have := unhide Hhb; omega)))
  replace hS := hS.keep hb4
  clear hb4 Hb3
  refine hK.out _ _ (hS) (fun _ => ?_)
  clear hK K
  refine wpAnyH_take (i := 4) (oi := _) (v := .bool false) g5_4 (by kernel_rfl) (by kernel_rfl) (by kernel_rfl) (fun _ _ _ h => h) (Or.inl ⟨by rfl, ?_⟩) (by assumption) ?_
  · intro V hSw
    try dsimp only at hSw
    go_simp
  simp only [Act.put, List.setIfInBounds_toArray, List.set_cons_zero, List.set_cons_succ]
  refine wpAnyH_done (by kernel_rfl) ?_ _
  refine NoPanic.normal ?_
  have HB4 := hide hS
  obtain ⟨-, c0, c1⟩ := hS
  go_wp2_with fail
  refine (unhide H12 _ (unhide Hb4)).mono ?_
  rintro e w5 ⟨q5, c5, rfl, hi5, hb5⟩
  have Hb5 := hide ((unhide Hb4).trans (hb5.mono (by have := (unhide Hb4).size; have := unhide Hhb; omega)))
  have HB5 := hide ((unhide HB4).keep hb5)
  have HI5 := hide hi5
  clear c0 c1 hb5 hi5 HB4 Hb4
  obtain ⟨-, c0, c1⟩ := unhide HB5
  go_wp2_with fail
  refine (unhide H13 _ (unhide Hb5)).mono ?_
  rintro e w6 ⟨q6, c6, rfl, hi6, hb6⟩
  have Hb6 := hide ((unhide Hb5).trans (hb6.mono (by have := (unhide Hb5).size; have := unhide Hhb; omega)))
  have HB6 := hide ((unhide HB5).keep hb6)
  have HI65 := hide ((unhide HI5).keep hb6)
  have HN := hide (unhide H14 w6 q5 q6 c5 c6 (unhide HI65) hi6)
  clear c0 c1 hb6 hi6 HB5 Hb5 HI5
  generalize T.length = tl at *
  go_wp2_with fail
  refine (unhide HN).mono ?_
  rintro e w7 ⟨rfl, hb7⟩
  have Hb7 := hide ((unhide Hb6).trans (hb7.mono (by have := (unhide Hb6).size; have := unhide Hhb; omega)))
  have HB7 := hide ((unhide HB6).keep hb7)
  clear hb7 HB6 Hb6 HI65 HN
  go_wp2_with fail
  refine (unhide H15 _ (unhide Hb7)).mono ?_
  rintro e w8 ⟨q8, c8, rfl, hs8, hb8⟩
  have Hb8 := hide ((unhide Hb7).trans (hb8.mono (by have := (unhide Hb7).size; have := unhide Hhb; omega)))
  have HB8 := hide ((unhide HB7).keep hb8)
  have bn8 := bnew w8 (.cells #[.bool fp, .slice q8 R.length c8] 24)
  have HX9 := hide (BS.new w8 fp (.slice q8 R.length c8) 24)
  have HS9 := hide (Ps.keep hs8 bn8)
  have Hb9 := hide ((unhide Hb8).trans (bn8.mono (by have := (unhide Hb8).size; have := unhide Hhb; omega)))
  have HB9 := hide ((unhide HB8).keep bn8)
  clear hb8 hs8 HB7 Hb7 HB8 Hb8 bn8
  go_upto_region 8 with fail
  generalize w8.alloc (.cells #[.bool fp, .slice q8 R.length c8] 24) = w9 at *
  generalize w8.heap.size = x9 at *
  go_wp2_with fail
  refine (unhide H16 _ (unhide Hb9)).mono ?_
  rintro e w10 ⟨q10, c10, rfl, hs10, hb10⟩
  have Hb10 := hide ((unhide Hb9).trans (hb10.mono (by have := (unhide Hb9).size; have := unhide Hhb; omega)))
  have HB10 := hide ((unhide HB9).keep hb10)
  have HX10 := hide ((unhide HX9).keep hb10)
  have HS10 := hide ((unhide HS9).keep hb10)
  have bn10 := bnew w10 (.cells #[.bool fp, .slice q10 R.length c10] 24)
  have HY11 := hide (BS.new w10 fp (.slice q10 R.length c10) 24)
  have HZ11 := hide (Ps.keep hs10 bn10)
  have HS11 := hide ((unhide HS10).keep bn10)
  have HX11 := hide ((unhide HX10).keep bn10)
  have Hb11 := hide ((unhide Hb10).trans (bn10.mono (by have := (unhide Hb10).size; have := unhide Hhb; omega)))
  have HB11 := hide ((unhide HB10).keep bn10)
  clear hb10 hs10 HB9 Hb9 HX9 HS9 HB10 Hb10 HX10 HS10 bn10
  go_upto_region 9 with fail
  generalize w10.alloc (.cells #[.bool fp, .slice q10 R.length c10] 24) = w11 at *
  generalize w10.heap.size = x11 at *
  have HM := hide (unhide H9 w11 q8 q10 c8 c10 (unhide HS11) (unhide HZ11))
  generalize R.length = rl at *
  obtain ⟨-, x0, x1⟩ := unhide HX11
  obtain ⟨-, y0, y1⟩ := unhide HY11
  go_wp2_with fail
  refine (unhide HM).mono ?_
  rintro e w12 ⟨rfl, hb12⟩
  have Hb12 := hide ((unhide Hb11).trans (hb12.mono (by have := (unhide Hb11).size; have := unhide Hhb; omega)))
  have HB12 := hide ((unhide HB11).keep hb12)
  clear hb12 HB11 Hb11 HM x0 x1 y0 y1 HX11 HY11 HS11 HZ11
  obtain ⟨-, c0, c1⟩ := unhide HB12
  go_wp2_with fail
  refine (unhide H17 _ (unhide Hb12)).mono ?_
  rintro e w13 ⟨rfl, hb13⟩
  have Hb13 := hide ((unhide Hb12).trans (hb13.mono (by have := (unhide Hb12).size; have := unhide Hhb; omega)))
  have HB13 := hide ((unhide HB12).keep hb13)
  clear hb13 HB12 Hb12 c0 c1
  obtain ⟨-, c0, c1⟩ := unhide HB13
  go_wp2_with fail
  refine (unhide H18 _ (unhide Hb13)).mono ?_
  rintro e w14 ⟨rfl, hb14⟩
  have Hb14 := hide ((unhide Hb13).trans (hb14.mono (by have := (unhide Hb13).size; have := unhide Hhb; omega)))
  clear hb14 HB13 Hb13 c0 c1
  go_wp2
  go_ret
  exact BoIs.mk (by simp) (by rw [unhide Hhb]; exact unhide Hb14)
end Go.Proofs.YtbnjjkanokmakaaDoor
