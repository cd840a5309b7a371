/-
  SettTurns: what is written is read, and what is read is written as just that text.
-/
import Derived.Test.YtbnjjkanokmakaaDoorPU
import Derived.Test.YtbnjjkanokmakaaDoorLT
import Derived.Test.YtbnjjkanokmakaaDoorAL
namespace Go.Proofs.YtbnjjkanokmakaaDoor
open Go.RowKit

theorem read_good (V : World) (hT : RTabs V) (s : ByteArray) (h : (rE s).1 = 0) : Calls Tryd.prog 7 #[.string s] V (fun e V' => ∃ q c, e = .returned (.tuple #[sV (pvS s) q (rdS s).2.2.length c, .agg #[.int .i64 0, .int .i64 0]]) ∧ Sl V' q (rdS s).2.2 ∧ Below V.heap.size V V') :=
  (read_any V s hT).mono fun e V' ⟨hb, hh⟩ => by
    rcases hh with ⟨h1, -⟩ | ⟨-, q, c, rfl, hs⟩
    · exact absurd h h1
    · exact ⟨q, c, rfl, hs, hb⟩
theorem read_bad (V : World) (hT : RTabs V) (s : ByteArray) (h : ¬ (rE s).1 = 0) : Calls Tryd.prog 7 #[.string s] V (fun e V' => ∃ er at' : Int, er ≠ 0 ∧ e = .returned (.tuple #[sV false none 0 0, .agg #[.int .i64 er, .int .i64 at']]) ∧ Below V.heap.size V V') :=
  (read_any V s hT).mono fun e V' ⟨hb, hh⟩ => by
    rcases hh with ⟨h1, rfl⟩ | ⟨h1, -⟩
    · exact ⟨_, _, h1, rfl, hb⟩
    · exact absurd h1 h
theorem ba_of {s : ByteArray} {l : List UInt8} (h : byt s = l) : (⟨l.toArray⟩ : ByteArray) = s := by
  cases s with
  | mk d =>
    unfold byt at h
    rw [← h]
set_option maxRecDepth 100000 in
set_option maxHeartbeats 8000000 in
theorem turns_walk (pv : Bool) (q : Option Addr) (sl : List St) (cap : Nat) (t : ByteArray) (W : World) (hP : Sl W q sl) (hT : RTabs W) (hW : Pow W) :
    Calls Tryd.prog 5 #[sV pv q sl.length cap, .string t] W (BoIs W true) := by
  have H19 := hide (alive_any)
  have HT := hide (fun V (hb : Below W.heap.size W V) => hT.keep hb)
  have H17 := hide (fun V (hb : Below W.heap.size W V) => show Calls Tryd.prog 17 #[sV pv q sl.length cap] V (fun e V' => e = .returned (.tuple #[.string (prA pv sl), .int .i64 (wE pv sl)]) ∧ Below V.heap.size V V') from (print_any pv q sl cap V (hP.keep hb) (hT.keep hb).1.1 (hW.keep hb)).mono fun _ _ h => h.tx)
  have H7g := hide read_good
  have H7b := hide read_bad
  have Hrd := hide (fun (h : wE pv sl = 0) V (hV : RTabs V) => show Calls Tryd.prog 7 #[.string (prA pv sl)] V (fun e V' => ∃ q c, e = .returned (.tuple #[sV pv q sl.length c, .agg #[.int .i64 0, .int .i64 0]]) ∧ Sl V' q sl ∧ Below V.heap.size V V') from by
    have e : byt (prA pv sl) = prB pv sl := by unfold prA; rw [if_pos h]
    obtain ⟨h1, h2, h3⟩ := read_print h _ e
    have hh := read_good V hV (prA pv sl) (by rw [h1])
    rw [h2, h3] at hh
    exact hh)
  have Hprt := hide (fun (h : (rE t).1 = 0) V (hb : Below W.heap.size W V) q c (h1 : Sl V q (rdS t).2.2) => show Calls Tryd.prog 17 #[sV (pvS t) q (rdS t).2.2.length c] V (fun e V' => e = .returned (.tuple #[.string t, .int .i64 0]) ∧ Below V.heap.size V V') from by
    obtain ⟨e1, e2⟩ := print_read h
    have hh := (print_any (pvS t) q (rdS t).2.2 c V h1 (hT.keep hb).1.1 (hW.keep hb)).mono fun _ _ h => h.tx
    unfold TxIs prA at hh
    rw [e1, if_pos rfl, ba_of e2] at hh
    exact hh)
  have HP := hide (fun V (hb : Below W.heap.size W V) => show Sl V q sl from hP.keep hb)
  have H9 := hide (fun (h : wE pv sl = 0) V qa ca cb (h1 : Sl V qa sl) (h2 : Sl V q sl) => same_any pv qa q sl ca cb (by have := (ok_of h).few.2; omega) V h1 h2)
  have HB := hide (BS.new W pv (.slice q sl.length cap) 24)
  have Hb := hide (bnew W (.cells #[.bool pv, .slice q sl.length cap] 24))
  unfold sV at H17 Hrd H9 ⊢
  clear hP hT hW
  generalize prA pv sl = st at *
  by_cases hw : wE pv sl = 0
  · have HR := hide (unhide Hrd hw)
    have HS := hide (unhide H9 hw)
    rw [hw] at H17
    clear Hrd H9 hw
    generalize sl.length = n at *
    go_enter Tryd.func5, Tryd.ntmps5
    go_upto_region 1 with fail
    generalize W.alloc (.cells #[.bool pv, .slice q n cap] 24) = w1 at *
    generalize hbx : W.heap.size = bx at *
    have Hhb := hide hbx
    clear hbx
    go_wp2_with fail
    refine (unhide H19 w1 (unhide HT _ (unhide Hb))).mono ?_
    rintro e w2 ⟨rfl, hb2⟩
    have Hb2 := hide ((unhide Hb).trans (hb2.mono (by have := (unhide HB).1; have := unhide Hhb; omega)))
    have HB2 := hide ((unhide HB).keep hb2)
    clear hb2 HB Hb
    obtain ⟨-, e0, e1⟩ := unhide HB2
    go_wp2_with fail
    refine (unhide H17 w2 (unhide Hb2)).mono ?_
    rintro e w3 ⟨rfl, hb3⟩
    have Hb3 := hide ((unhide Hb2).trans (hb3.mono (by have := (unhide Hb2).size; have := unhide Hhb; omega)))
    have HB3 := hide ((unhide HB2).keep hb3)
    clear hb3 HB2 Hb2 e0 e1
    have HC := hide (unhide HR w3 (unhide HT w3 (unhide Hb3)))
    go_wp2_with fail
    refine (unhide HC).mono ?_
    rintro e w4 ⟨q4, c4, rfl, hs4, hb4⟩
    have Hb4 := hide ((unhide Hb3).trans (hb4.mono (by have := (unhide Hb3).size; have := unhide Hhb; omega)))
    have HB4 := hide ((unhide HB3).keep hb4)
    have b6 := bnew w4 (.cells #[.bool pv, .slice q4 n c4] 24)
    have b7 := bnew (w4.alloc (.cells #[.bool pv, .slice q4 n c4] 24)) (.cells #[.int .i64 0, .int .i64 0] 27)
    have HX5 := hide ((BS.new w4 pv (.slice q4 n c4) 24).keep b7)
    have HY5 := hide (B2.new (w4.alloc (.cells #[.bool pv, .slice q4 n c4] 24)) 0 0 27)
    rw [show (w4.alloc (.cells #[.bool pv, .slice q4 n c4] 24)).heap.size = w4.heap.size + 1 by simp] at HY5
    have Hs5 := hide (Ps.keep (Ps.keep hs4 b6) b7)
    have HB5 := hide (((unhide HB4).keep b6).keep b7)
    have Hb5 := hide (((unhide Hb4).trans (b6.mono (by have := (unhide Hb4).size; have := unhide Hhb; omega))).trans (b7.mono (by have := (unhide Hb4).size; have := unhide Hhb; have := b6.size; omega)))
    clear hb4 hs4 b6 b7 Hb4 HB4 HC HB3 Hb3
    go_upto_region 6 with fail
    generalize (w4.alloc (.cells #[.bool pv, .slice q4 n c4] 24)).alloc (.cells #[.int .i64 0, .int .i64 0] 27) = w5 at *
    generalize w4.heap.size = n4 at *
    have HC := hide (unhide HS w5 q4 c4 cap (unhide Hs5) (unhide HP w5 (unhide Hb5)))
    obtain ⟨-, x0, x1⟩ := unhide HX5
    obtain ⟨-, y0, y1⟩ := unhide HY5
    obtain ⟨-, e0, e1⟩ := unhide HB5
    go_wp2_with fail
    refine (unhide HC).mono ?_
    rintro e w6 ⟨rfl, hb6⟩
    have HbW := hide ((unhide Hb5).trans (hb6.mono (by have := (unhide Hb5).size; have := unhide Hhb; omega)))
    have HBW := hide ((unhide HB5).keep hb6)
    clear hb6 HC x0 x1 y0 y1 e0 e1 HX5 HY5 HB5 Hb5 Hs5
    go_upto_region 8 with fail
    by_cases he : (rE t).1 = 0
    · have HC := hide (unhide H7g w6 (unhide HT w6 (unhide HbW)) t he)
      have HPr := hide (unhide Hprt he)
      have He := hide he
      generalize pvS t = pv2 at *
      generalize (rdS t).2.2 = L at *
      clear H7b he
      unfold sV at HC HPr
      generalize L.length = ln at *
      go_wp2_with fail
      refine (unhide HC).mono ?_
      rintro e w9 ⟨q9, c9, rfl, hs9, hb9⟩
      have Hb9 := hide ((unhide HbW).trans (hb9.mono (by have := (unhide HbW).size; have := unhide Hhb; omega)))
      have b6 := bnew w9 (.cells #[.bool pv2, .slice q9 ln c9] 24)
      have b7 := bnew (w9.alloc (.cells #[.bool pv2, .slice q9 ln c9] 24)) (.cells #[.int .i64 0, .int .i64 0] 27)
      have HX := hide ((BS.new w9 pv2 (.slice q9 ln c9) 24).keep b7)
      have HB := hide (B2.new (w9.alloc (.cells #[.bool pv2, .slice q9 ln c9] 24)) 0 0 27)
      rw [show (w9.alloc (.cells #[.bool pv2, .slice q9 ln c9] 24)).heap.size = w9.heap.size + 1 by simp] at HB
      have Hsl := hide (Ps.keep (Ps.keep hs9 b6) b7)
      have Hba := hide (((unhide Hb9).trans (b6.mono (by have := (unhide Hb9).size; have := unhide Hhb; omega))).trans (b7.mono (by have := (unhide Hb9).size; have := unhide Hhb; have := b6.size; omega)))
      clear hb9 hs9 b6 b7 Hb9 HC HBW HbW
      go_upto_region 9 with fail
      generalize (w9.alloc (.cells #[.bool pv2, .slice q9 ln c9] 24)).alloc (.cells #[.int .i64 0, .int .i64 0] 27) = w10 at *
      generalize w9.heap.size = n9 at *
      obtain ⟨-, e0, e1⟩ := unhide HX
      obtain ⟨-, s0, s1⟩ := unhide HB
      have HC := hide (unhide HPr w10 (unhide Hba) q9 c9 (unhide Hsl))
      go_wp2_with fail
      refine (unhide HC).mono ?_
      rintro e w11 ⟨rfl, hb11⟩
      have Hb11 := hide ((unhide Hba).trans (hb11.mono (by have := (unhide Hba).size; have := unhide Hhb; omega)))
      clear hb11 HC e0 e1 s0 s1 HX HB Hba Hsl
      have d4 : (t.toList == t.toList) = true := by simp
      go_wp2
      go_ret
      exact BoIs.mk (by simp) (by rw [unhide Hhb]; exact unhide Hb11)
    · have HC := hide (unhide H7b w6 (unhide HT w6 (unhide HbW)) t he)
      clear H7g Hprt he
      go_wp2_with fail
      refine (unhide HC).mono ?_
      rintro e w9 ⟨er, at', her, rfl, hb9⟩
      have z9 : (er != (0 : Int)) = true := by simpa using her
      have Hb9 := hide ((unhide HbW).trans (hb9.mono (by have := (unhide HbW).size; have := unhide Hhb; omega)))
      unfold sV
      have b6 := bnew w9 (.cells #[.bool false, .slice none 0 0] 24)
      have b7 := bnew (w9.alloc (.cells #[.bool false, .slice none 0 0] 24)) (.cells #[.int .i64 er, .int .i64 at'] 27)
      have HB := hide (B2.new (w9.alloc (.cells #[.bool false, .slice none 0 0] 24)) er at' 27)
      rw [show (w9.alloc (.cells #[.bool false, .slice none 0 0] 24)).heap.size = w9.heap.size + 1 by simp] at HB
      have Hba := hide (((unhide Hb9).trans (b6.mono (by have := (unhide Hb9).size; have := unhide Hhb; omega))).trans (b7.mono (by have := (unhide Hb9).size; have := unhide Hhb; have := b6.size; omega)))
      clear hb9 b6 b7 Hb9 HC HBW HbW her
      go_upto_region 9 with fail
      generalize (w9.alloc (.cells #[.bool false, .slice none 0 0] 24)).alloc (.cells #[.int .i64 er, .int .i64 at'] 27) = w10 at *
      generalize w9.heap.size = n9 at *
      obtain ⟨-, s0, s1⟩ := unhide HB
      go_wp2
      go_ret
      exact BoIs.mk (by rfl) (by rw [unhide Hhb]; exact unhide Hba)

  · generalize wE pv sl = er0 at *
    have z0 : (er0 == (0 : Int)) = false := by simpa using hw
    clear Hrd H9 hw HP
    generalize sl.length = n at *
    go_enter Tryd.func5, Tryd.ntmps5
    go_upto_region 1 with fail
    generalize W.alloc (.cells #[.bool pv, .slice q n cap] 24) = w1 at *
    generalize hbx : W.heap.size = bx at *
    have Hhb := hide hbx
    clear hbx
    go_wp2_with fail
    refine (unhide H19 w1 (unhide HT _ (unhide Hb))).mono ?_
    rintro e w2 ⟨rfl, hb2⟩
    have Hb2 := hide ((unhide Hb).trans (hb2.mono (by have := (unhide HB).1; have := unhide Hhb; omega)))
    have HB2 := hide ((unhide HB).keep hb2)
    clear hb2 HB Hb
    obtain ⟨-, e0, e1⟩ := unhide HB2
    go_wp2_with fail
    refine (unhide H17 w2 (unhide Hb2)).mono ?_
    rintro e w3 ⟨rfl, hb3⟩
    have HbW := hide ((unhide Hb2).trans (hb3.mono (by have := (unhide Hb2).size; have := unhide Hhb; omega)))
    have HBW := hide ((unhide HB2).keep hb3)
    clear hb3 HB2 Hb2 e0 e1
    go_upto_region 8 with fail
    clear z0
    by_cases he : (rE t).1 = 0
    · have HC := hide (unhide H7g w3 (unhide HT w3 (unhide HbW)) t he)
      have HPr := hide (unhide Hprt he)
      have He := hide he
      generalize pvS t = pv2 at *
      generalize (rdS t).2.2 = L at *
      clear H7b he
      unfold sV at HC HPr
      generalize L.length = ln at *
      go_wp2_with fail
      refine (unhide HC).mono ?_
      rintro e w9 ⟨q9, c9, rfl, hs9, hb9⟩
      have Hb9 := hide ((unhide HbW).trans (hb9.mono (by have := (unhide HbW).size; have := unhide Hhb; omega)))
      have b6 := bnew w9 (.cells #[.bool pv2, .slice q9 ln c9] 24)
      have b7 := bnew (w9.alloc (.cells #[.bool pv2, .slice q9 ln c9] 24)) (.cells #[.int .i64 0, .int .i64 0] 27)
      have HX := hide ((BS.new w9 pv2 (.slice q9 ln c9) 24).keep b7)
      have HB := hide (B2.new (w9.alloc (.cells #[.bool pv2, .slice q9 ln c9] 24)) 0 0 27)
      rw [show (w9.alloc (.cells #[.bool pv2, .slice q9 ln c9] 24)).heap.size = w9.heap.size + 1 by simp] at HB
      have Hsl := hide (Ps.keep (Ps.keep hs9 b6) b7)
      have Hba := hide (((unhide Hb9).trans (b6.mono (by have := (unhide Hb9).size; have := unhide Hhb; omega))).trans (b7.mono (by have := (unhide Hb9).size; have := unhide Hhb; have := b6.size; omega)))
      clear hb9 hs9 b6 b7 Hb9 HC HBW HbW
      go_upto_region 9 with fail
      generalize (w9.alloc (.cells #[.bool pv2, .slice q9 ln c9] 24)).alloc (.cells #[.int .i64 0, .int .i64 0] 27) = w10 at *
      generalize w9.heap.size = n9 at *
      obtain ⟨-, e0, e1⟩ := unhide HX
      obtain ⟨-, s0, s1⟩ := unhide HB
      have HC := hide (unhide HPr w10 (unhide Hba) q9 c9 (unhide Hsl))
      go_wp2_with fail
      refine (unhide HC).mono ?_
      rintro e w11 ⟨rfl, hb11⟩
      have Hb11 := hide ((unhide Hba).trans (hb11.mono (by have := (unhide Hba).size; have := unhide Hhb; omega)))
      clear hb11 HC e0 e1 s0 s1 HX HB Hba Hsl
      have d4 : (t.toList == t.toList) = true := by simp
      go_wp2
      go_ret
      exact BoIs.mk (by simp) (by rw [unhide Hhb]; exact unhide Hb11)
    · have HC := hide (unhide H7b w3 (unhide HT w3 (unhide HbW)) t he)
      clear H7g Hprt he
      go_wp2_with fail
      refine (unhide HC).mono ?_
      rintro e w9 ⟨er, at', her, rfl, hb9⟩
      have z9 : (er != (0 : Int)) = true := by simpa using her
      have Hb9 := hide ((unhide HbW).trans (hb9.mono (by have := (unhide HbW).size; have := unhide Hhb; omega)))
      unfold sV
      have b6 := bnew w9 (.cells #[.bool false, .slice none 0 0] 24)
      have b7 := bnew (w9.alloc (.cells #[.bool false, .slice none 0 0] 24)) (.cells #[.int .i64 er, .int .i64 at'] 27)
      have HB := hide (B2.new (w9.alloc (.cells #[.bool false, .slice none 0 0] 24)) er at' 27)
      rw [show (w9.alloc (.cells #[.bool false, .slice none 0 0] 24)).heap.size = w9.heap.size + 1 by simp] at HB
      have Hba := hide (((unhide Hb9).trans (b6.mono (by have := (unhide Hb9).size; have := unhide Hhb; omega))).trans (b7.mono (by have := (unhide Hb9).size; have := unhide Hhb; have := b6.size; omega)))
      clear hb9 b6 b7 Hb9 HC HBW HbW her
      go_upto_region 9 with fail
      generalize (w9.alloc (.cells #[.bool false, .slice none 0 0] 24)).alloc (.cells #[.int .i64 er, .int .i64 at'] 27) = w10 at *
      generalize w9.heap.size = n9 at *
      obtain ⟨-, s0, s1⟩ := unhide HB
      go_wp2
      go_ret
      exact BoIs.mk (by rfl) (by rw [unhide Hhb]; exact unhide Hba)

end Go.Proofs.YtbnjjkanokmakaaDoor
