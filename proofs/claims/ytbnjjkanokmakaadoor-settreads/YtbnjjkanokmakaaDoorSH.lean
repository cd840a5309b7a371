/-
  Fold of package sett, of colours.
-/
import Derived.Test.YtbnjjkanokmakaaDoorSG
namespace Go.Proofs.YtbnjjkanokmakaaDoor
open Go.RowKit

theorem SR.cap {W : World} {B n cap : Nat} {q : Option Addr} {l : List St} (h : SR W B (.slice q n cap) l) : n ≤ cap := by
  rcases h.2 with ⟨e, -⟩ | ⟨g, c, cur, e, -, -, hc, -⟩
  · injection e with e1 e2 e3
    omega
  · injection e with e1 e2 e3
    omega
theorem Ps.set {W : World} {q : Option Addr} {n bx j : Nat} {a b : Nat → Int} {u : Value} (h : Ps W q n a b) (hq : ∀ ad, q = some ad → ad.block ≠ bx) : Ps (W.setCell ⟨bx, j, none⟩ u) q n a b := by
  rcases h with h | ⟨g, o, e, hl, hk⟩
  · exact .inl h
  · have hg : g ≠ bx := hq _ e
    refine .inr ⟨g, o, e, by simpa using hl, fun k hkn => ⟨?_, ?_⟩⟩
    · rw [World.cell?_setCell_other _ _ _ _ (by intro e2; cases e2; exact hg rfl)]; exact (hk k hkn).1
    · rw [World.cell?_setCell_other _ _ _ _ (by intro e2; cases e2; exact hg rfl)]; exact (hk k hkn).2
theorem SR.base {W : World} {B n cap : Nat} {q : Option Addr} {l : List St} (h : SR W B (.slice q n cap) l) : ∀ ad, q = some ad → B ≤ ad.block := by
  rintro ad rfl
  exact (World.ownsRow.lt h ad.block rfl).1
theorem fE_of {l : List Int} (ha : l.any nocol = false) : fE l = wE (gb (rnL l)) ((rnL l).take (foN (rnL l))) := by
  unfold fE; rw [if_neg (by simp [ha])]

set_option maxRecDepth 100000 in
set_option maxHeartbeats 4000000 in
theorem fold_rest (q : Option Addr) (l : List Int) (cap : Nat) (W : World) (hP : Il W q l) (hn : l.length ≤ 1048576) (ha : l.any nocol = false) : Calls Tryd.prog 15 #[.slice q l.length cap] W (FdIs W l) := by
  have HC := hide (fun V (hb : Below W.heap.size W V) => containsI_any q l cap V (hP.keep hb) (by unfold maxLen; omega))
  rw [ha] at HC
  have HR := hide (fun V (hb : Below W.heap.size W V) => show Calls Tryd.prog 31 #[.slice q l.length cap] V (fun e V' => ∃ v, e = .returned v ∧ SR V' V.heap.size v (rnL l) ∧ Below V.heap.size V V') from runs_any q l cap V (hP.keep hb) hn)
  have HG := hide (fun V r (hr : r = fE l) (h : fE l ≠ 0) (hb : Below W.heap.size W V) => FdIs.bad h hr hb)
  have HH := hide (fun V q' pv n c (h : fE l = 0) (h1 : pv = gb (rnL l)) (h2 : n = foN (rnL l)) (hs : Sl V q' ((rnL l).take (foN (rnL l)))) (hb : Below W.heap.size W V) => FdIs.good (cap := c) h h1 h2 hs hb)
  have Hfe := hide (fE_of ha)
  have hrl : (rnL l).length ≤ 1048576 := by have := rn_len l; omega
  have HB := hide (BSw.new W false (.slice none 0 0) 24)
  have Hb := hide (bnew W (.cells #[.bool false, .slice none 0 0] 24))
  clear hP ha
  generalize l.length = n at *
  generalize fE l = er at *
  generalize rnL l = R at *
  go_enter Tryd.func15, Tryd.ntmps15
  go_upto_region 1 with fail
  generalize W.alloc (.cells #[.bool false, .slice none 0 0] 24) = w1 at *
  generalize hbx : W.heap.size = bx at *
  go_wp2_with fail
  refine (unhide HC _ (unhide Hb)).mono ?_
  rintro e w2 ⟨rfl, hb2⟩
  have Hb2 := hide ((unhide Hb).trans (hb2.mono (by have := (unhide HB).1.1; omega)))
  have HB2 := hide ((unhide HB).keep hb2)
  clear hb2 HB Hb HC
  go_wp2_with fail
  refine (unhide HR _ (unhide Hb2)).mono ?_
  rintro e w3 ⟨v3, rfl, hS3, hb3⟩
  obtain ⟨q3, c3, rfl⟩ := hS3.form
  have HS3 := hide hS3.sl.2
  have hc3 := hS3.cap
  have Hq3 := hide (show ∀ ad, q3 = some ad → ad.block ≠ bx from fun ad e => by have := hS3.base ad e; have := (unhide HB2).1.1; omega)
  have Hb3 := hide ((unhide Hb2).trans (hb3.mono (by have := (unhide Hb2).size; omega)))
  have HB3 := hide ((unhide HB2).keep hb3)
  have HF := hide (folded_any q3 R c3 w3 (unhide HS3) hrl hc3)
  have hk : foN R ≤ R.length := foN_le R
  have Htl := hide (show (R.take (foN R)).length = foN R by simp; omega)
  clear hS3 hb3 HB2 Hb2 HR
  generalize R.length = rl at *
  go_wp2_with fail
  refine (unhide HF).mono ?_
  rintro e w4 ⟨rfl, hb4⟩
  have HT4 := hide (sl_take ((unhide HS3).keep hb4) (foN R) (foN_le R))
  have Hb4 := hide ((unhide Hb3).trans (hb4.mono (by have := (unhide Hb3).size; omega)))
  have HB4 := hide ((unhide HB3).keep hb4)
  clear hb4 HF HS3 HB3 Hb3
  have bn := bnew w4 (.cells #[.bool (gb R), .slice q3 (foN R) c3] 24)
  have HX5 := hide (BS.new w4 (gb R) (.slice q3 (foN R) c3) 24)
  have HT5 := hide ((unhide HT4).keep bn)
  have Hb5 := hide ((unhide Hb4).trans (bn.mono (by have := (unhide Hb4).size; omega)))
  have HB5 := hide ((unhide HB4).keep bn)
  clear bn HT4 Hb4 HB4
  go_upto_region 4 with fail
  generalize w4.alloc (.cells #[.bool (gb R), .slice q3 (foN R) c3] 24) = w5 at *
  generalize w4.heap.size = x5 at *
  have HW := hide (wrong_any (gb R) q3 (R.take (foN R)) c3 w5 (unhide HT5))
  rw [unhide Htl, ← unhide Hfe] at HW
  obtain ⟨pv, hpv⟩ : ∃ pv, gb R = pv := ⟨_, rfl⟩
  obtain ⟨fo, hfo⟩ : ∃ fo, foN R = fo := ⟨_, rfl⟩
  rw [hpv, hfo] at HW
  rw [hpv, hfo] at HX5
  rw [hpv, hfo]
  have Hpv := hide hpv
  have Hfo := hide hfo
  clear hpv hfo hk
  obtain ⟨hl5, c0, c1⟩ := unhide HX5
  go_wp2_with fail
  refine (unhide HW).mono ?_
  rintro e w6 ⟨rfl, hb6⟩
  have HT6 := hide ((unhide HT5).keep hb6)
  have Hb6 := hide ((unhide Hb5).trans (hb6.mono (by have := (unhide Hb5).size; omega)))
  have HB6 := hide ((unhide HB5).keep hb6)
  have HX6 := hide ((unhide HX5).keep hb6)
  clear hb6 HW HT5 Hb5 HB5 HX5 hl5 c0 c1
  obtain ⟨hl6, c0, c1⟩ := unhide HX6
  obtain ⟨⟨hlb, b0, b1⟩, fz⟩ := unhide HB6
  have f0 := fz 0
  have f1 := fz 1
  clear fz
  by_cases he : er = 0
  · have Hgood := hide (fun V q' pv n c (h1 : pv = gb R) (h2 : n = foN R) hs hb => unhide HH V q' pv n c he h1 h2 hs hb)
    subst he
    obtain ⟨x9, hx9, hB9, hb9, hs9⟩ : ∃ x9, (w6.setCell ⟨bx, 0, none⟩ (.bool pv)).setCell ⟨bx, 1, none⟩ (.slice q3 fo c3) = x9 ∧ BSw x9 bx pv (.slice q3 fo c3) ∧ Below bx W x9 ∧ Sl x9 q3 (R.take (foN R)) := ⟨_, rfl, (unhide HB6).put, ((unhide Hb6).setCell (p := ⟨bx, 0, none⟩) (Nat.le_refl _) _).setCell (p := ⟨bx, 1, none⟩) (Nat.le_refl _) _, ((unhide HT6).set (unhide Hq3)).set (unhide Hq3)⟩
    obtain ⟨⟨-, r0, r1⟩, -⟩ := hB9
    have Hb9 := hide hb9
    have Hs9 := hide hs9
    clear hb9 hs9
    go_wp2
    exact bodyPost_ret (v := .tuple #[sV pv q3 fo c3, .int .i64 0]) (by simp [results, Tryd.results15, go_sem, r0, r1]) rfl (unhide Hgood _ _ _ _ _ (unhide Hpv).symm (unhide Hfo).symm (unhide Hs9) (by first | exact unhide Hb9 | (rw [hbx]; exact unhide Hb9)))
  · have Hbad := hide (fun V hb => unhide HG V er rfl he hb)
    have h1 : (er != 0) = true := by simpa using he
    clear he
    obtain ⟨x9, hx9, hB9, hb9⟩ : ∃ x9, (w6.setCell ⟨bx, 0, none⟩ (.bool false)).setCell ⟨bx, 1, none⟩ (.slice none 0 0) = x9 ∧ BSw x9 bx false (.slice none 0 0) ∧ Below bx W x9 := ⟨_, rfl, (unhide HB6).put, ((unhide Hb6).setCell (p := ⟨bx, 0, none⟩) (Nat.le_refl _) _).setCell (p := ⟨bx, 1, none⟩) (Nat.le_refl _) _⟩
    obtain ⟨⟨-, r0, r1⟩, -⟩ := hB9
    have Hb9 := hide hb9
    clear hb9
    go_wp2
    exact bodyPost_ret (v := .tuple #[sV false none 0 0, .int .i64 er]) (by simp [results, Tryd.results15, go_sem, r0, r1]) rfl (unhide Hbad _ (by first | exact unhide Hb9 | (rw [hbx]; exact unhide Hb9)))
theorem fold_any (q : Option Addr) (l : List Int) (cap : Nat) (W : World) (hP : Il W q l) (hn : l.length ≤ 1048576) : Calls Tryd.prog 15 #[.slice q l.length cap] W (FdIs W l) := by
  cases ha : l.any nocol with
  | true => exact fold_col q l cap W hP hn ha
  | false => exact fold_rest q l cap W hP hn ha
end Go.Proofs.YtbnjjkanokmakaaDoor
