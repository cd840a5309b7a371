/-
  The reference: Fold.
-/
import Derived.Test.YtbnjjkanokmakaaDoorRE
import Derived.Test.YtbnjjkanokmakaaDoorRB
import Derived.Test.YtbnjjkanokmakaaDoorSH
import Derived.Deep.DeepCutAuto
namespace Go.Proofs.YtbnjjkanokmakaaDoor
open Go.RowKit

set_option maxRecDepth 100000 in
set_option maxHeartbeats 4000000 in
theorem rfold_col (q : Option Addr) (l : List Int) (cap : Nat) (W : World) (hP : Il W q l) (hn : l.length ≤ 1048576) (ha : l.any nocol = true) : Calls Tryd.prog 16 #[.slice q l.length cap] W (FdIs W l) := by
  have e3 : fE l = 3 := by unfold fE; rw [if_pos ha]
  have HF := hide (fun V (hb : Below W.heap.size W V) => FdIs.bad (l := l) (r := 3) (by rw [e3]; decide) e3.symm hb)
  have Hno := hide (fun (h : ∀ k, k < l.length → nocol (l.getD k 0) = false) => show False by rw [ianyF h] at ha; cases ha)
  have HP := hide (show Is W q l.length (fun k => l.getD k 0) from hP)
  have HB := hide (BSw.new W false (.slice none 0 0) 24)
  have Hb := hide (bnew W (.cells #[.bool false, .slice none 0 0] 24))
  clear hP ha e3
  generalize l.length = n at *
  go_enter Tryd.func16, Tryd.ntmps16
  go_upto_region 1 with fail
  generalize W.alloc (.cells #[.bool false, .slice none 0 0] 24) = w1 at *
  generalize hbx : W.heap.size = bx at *
  go_wp2
  go_loopw [14] (fun i wr => ∃ x : Nat, x ≤ n ∧ i = .int .i64 (x : Int) ∧ Hid (∀ k, k < x → nocol (l.getD k 0) = false) ∧ wr = w1) (fun i _ => n - (intOf i).toNat)
  case atStart => exact ⟨0, by omega, rfl, hide (fun k hk => by omega), rfl⟩
  case round =>
    obtain ⟨x, hx, rfl, Hs, rfl⟩ := hrel
    by_cases hlt : x < n
    · obtain ⟨ad0, oo, rfl, k0⟩ := ((unhide HP).keep (by rw [hbx]; exact unhide Hb)).at hlt
      have q0 : (x : Int) < (n : Int) := by omega
      have q1 : (0 : Int) ≤ (x : Int) := by omega
      have Hgood := hide (show nocol (l.getD x 0) = false → ∀ k, k < x + 1 → nocol (l.getD k 0) = false from fun h k hk => by
        by_cases e : k = x
        · rw [e]; exact h
        · exact unhide Hs k (by omega))
      have Hd := hide (show nocol (l.getD x 0) = (decide (l.getD x 0 < 0) || decide (61 < l.getD x 0)) from rfl)
      generalize nocol (l.getD x 0) = bd at *
      generalize l.getD x 0 = u at *
      obtain ⟨⟨hlb, b0, b1⟩, fz⟩ := unhide HB
      have f0 := fz 0
      have f1 := fz 1
      clear fz
      obtain ⟨x9, hx9, hB9, hb9⟩ : ∃ x9, (wr.setCell ⟨bx, 0, none⟩ (.bool false)).setCell ⟨bx, 1, none⟩ (.slice none 0 0) = x9 ∧ BSw x9 bx false (.slice none 0 0) ∧ Below bx W x9 := ⟨_, rfl, (unhide HB).put, ((unhide Hb).setCell (p := ⟨bx, 0, none⟩) (Nat.le_refl _) _).setCell (p := ⟨bx, 1, none⟩) (Nat.le_refl _) _⟩
      obtain ⟨⟨-, r0, r1⟩, -⟩ := hB9
      have Hb9 := hide hb9
      clear hb9
      by_cases e1 : u < 0
      · have e1' : decide (u < 0) = true := decide_eq_true e1
        go_wp2
        exact bodyPost_ret (v := .tuple #[sV false none 0 0, .int .i64 3]) (by simp [results, Tryd.results16, go_sem, r0, r1]) rfl (unhide HF _ (by first | exact unhide Hb9 | (rw [hbx]; exact unhide Hb9)))
      have e1' : decide (u < 0) = false := decide_eq_false e1
      by_cases e2 : 61 < u
      · have e2' : decide (61 < u) = true := decide_eq_true e2
        go_wp2
        exact bodyPost_ret (v := .tuple #[sV false none 0 0, .int .i64 3]) (by simp [results, Tryd.results16, go_sem, r0, r1]) rfl (unhide HF _ (by first | exact unhide Hb9 | (rw [hbx]; exact unhide Hb9)))
      have e2' : decide (61 < u) = false := decide_eq_false e2
      have HG := hide (unhide Hgood (by rw [unhide Hd, e1', e2']; rfl))
      clear Hd Hgood hx9 r0 r1 Hb9 b0 b1 f0 f1
      go_wp2
      go_roundw
      case rel => exact ⟨x + 1, by omega, by go_num, HG, trivial⟩
      case measure => simp [intOf]; omega
    · obtain rfl : x = n := by omega
      exact (unhide Hno (unhide Hs)).elim

/-- what lies about behind the choice -/
def Fq (W : World) (bx x7 : Nat) (q3 : Option Addr) (c3 : Nat) (R : List St) (wd : World) : Prop := BSw wd x7 (gb R) (.slice q3 (foN R) c3) ∧ BSw wd bx false (.slice none 0 0) ∧ Sl wd q3 R ∧ Below bx W wd
set_option maxRecDepth 100000 in
set_option maxHeartbeats 8000000 in
theorem rfold_rest (q : Option Addr) (l : List Int) (cap : Nat) (W : World) (hP : Il W q l) (hn : l.length ≤ 1048576) (ha : l.any nocol = false) : Calls Tryd.prog 16 #[.slice q l.length cap] W (FdIs W l) := by
  have HR := hide (fun V (hb : Below W.heap.size W V) => show Calls Tryd.prog 32 #[.slice q l.length cap] V (fun e V' => ∃ v, e = .returned v ∧ SR V' V.heap.size v (rnL l) ∧ Below V.heap.size V V') from rruns_any q l cap V (hP.keep hb) hn)
  have HG := hide (fun V r (hr : r = fE l) (h : fE l ≠ 0) (hb : Below W.heap.size W V) => FdIs.bad h hr hb)
  have HH := hide (fun V q' pv n c (h : fE l = 0) (h1 : pv = gb (rnL l)) (h2 : n = foN (rnL l)) (hs : Sl V q' ((rnL l).take (foN (rnL l)))) (hb : Below W.heap.size W V) => FdIs.good (cap := c) h h1 h2 hs hb)
  have Hfe := hide (fE_of ha)
  have Hcol := hide (show ∀ k, k < l.length → decide (l.getD k 0 < 0) = false ∧ decide (61 < l.getD k 0) = false from fun k hk => by
    have : nocol (l.getD k 0) = false := by
      cases e : nocol (l.getD k 0) with
      | false => rfl
      | true => rw [ianyT k hk e] at ha; cases ha
    simpa [nocol] using this)
  have HP := hide (show Is W q l.length (fun k => l.getD k 0) from hP)
  have hrl : (rnL l).length ≤ 1048576 := by have := rn_len l; omega
  have HB := hide (BSw.new W false (.slice none 0 0) 24)
  have Hb := hide (bnew W (.cells #[.bool false, .slice none 0 0] 24))
  clear hP ha
  generalize l.length = n at *
  generalize fE l = er at *
  generalize rnL l = R at *
  go_enter Tryd.func16, Tryd.ntmps16
  go_upto_region 1 with fail
  generalize W.alloc (.cells #[.bool false, .slice none 0 0] 24) = w1 at *
  generalize hbx : W.heap.size = bx at *
  go_wp2
  go_loopw [14] (fun i wr => ∃ x : Nat, x ≤ n ∧ i = .int .i64 (x : Int) ∧ wr = w1) (fun i _ => n - (intOf i).toNat)
  case atStart => exact ⟨0, by omega, rfl, rfl⟩
  case round =>
    obtain ⟨x, hx, rfl, rfl⟩ := hrel
    by_cases hlt : x < n
    · obtain ⟨ad0, oo, rfl, k0⟩ := ((unhide HP).keep (by rw [hbx]; exact unhide Hb)).at hlt
      have q0 : (x : Int) < (n : Int) := by omega
      have q1 : (0 : Int) ≤ (x : Int) := by omega
      obtain ⟨e1', e2'⟩ := unhide Hcol x hlt
      generalize l.getD x 0 = u at *
      go_wp2
      go_roundw
      case rel => exact ⟨x + 1, by omega, by go_num, trivial⟩
      case measure => simp [intOf]; omega
    · obtain rfl : x = n := by omega
      have cl : ¬ ((x : Int) < (x : Int)) := by omega
      have HR2 := hide (unhide HR _ (unhide Hb))
      clear HR
      go_wp2_with fail
      refine (unhide HR2).mono ?_
      rintro e w3 ⟨v3, rfl, hS3, hb3⟩
      obtain ⟨q3, c3, rfl⟩ := hS3.form
      have HS3 := hide hS3.sl.2
      have hc3 := hS3.cap
      have Hq3 := hide (show ∀ ad, q3 = some ad → ad.block ≠ bx from fun ad e => by have := hS3.base ad e; have := (unhide HB).1.1; omega)
      have Hb3 := hide ((unhide Hb).trans (hb3.mono (by have := (unhide Hb).size; omega)))
      have HB3 := hide ((unhide HB).keep hb3)
      clear hS3 hb3 HB Hb HR2
      have bn := bnew w3 (.cells #[.bool false, .slice q3 R.length c3] 24)
      have HX5 := hide (BSw.new w3 false (.slice q3 R.length c3) 24)
      have HT5 := hide ((unhide HS3).keep bn)
      have Hb5 := hide ((unhide Hb3).trans (bn.mono (by have := (unhide Hb3).size; omega)))
      have HB5 := hide ((unhide HB3).keep bn)
      have Hx7 := hide (show ∀ ad, R.length ≠ 0 → q3 = some ad → ad.block ≠ w3.heap.size from fun ad h0 e => by
        obtain ⟨g, o, e2, hl, -⟩ := (unhide HS3).resolve_left h0
        rw [e] at e2
        cases e2
        dsimp only
        omega)
      have Hbx7 := hide (show bx < w3.heap.size from (unhide HB3).1.1)
      clear bn HB3 Hb3 HS3
      generalize hrn : R.length = rn at *
      go_upto_region 9 with fail
      generalize w3.alloc (.cells #[.bool false, .slice q3 rn c3] 24) = w5 at *
      generalize w3.heap.size = x7 at *
      have hrn9 : rn ≤ 1048576 := hrl
      have HFno := hide (fun (h : gb R = false) => show Fq W bx x7 q3 c3 R w5 from by
        have e : foN R = rn := by unfold foN; rw [h, if_neg (by decide), hrn]
        unfold Fq
        rw [h, e]
        exact ⟨unhide HX5, unhide HB5, by unfold Sl; rw [hrn]; exact unhide HT5, unhide Hb5⟩)
      by_cases hodd : rn % 2 = 1
      · have e1 : (rn : Int) % 2 = 1 := by omega
        have HE := hide (unhide HFno (gb_no (fun h => by have := h.1.2; omega)))
        clear hodd
        go_upto_region 18 with fail
        obtain ⟨hX, hB, hT, hbw⟩ := unhide HE
        have Htl := hide (show (R.take (foN R)).length = foN R by have := foN_le R; simp; omega)
        have HTk := hide (sl_take hT (foN R) (foN_le R))
        have HW := hide (rwrong_any (gb R) q3 (R.take (foN R)) c3 w5 (unhide HTk))
        rw [unhide Htl, ← unhide Hfe] at HW
        obtain ⟨pv, hpv⟩ : ∃ pv, gb R = pv := ⟨_, rfl⟩
        obtain ⟨fo, hfo⟩ : ∃ fo, foN R = fo := ⟨_, rfl⟩
        rw [hpv, hfo] at HW hX
        have Hpv := hide hpv
        have Hfo := hide hfo
        have HX := hide hX
        have HBw := hide hB
        have Hbw := hide hbw
        obtain ⟨hl5, c0, c1⟩ := hX.1
        clear hpv hfo hX hB hT hbw HE
        go_wp2_with fail
        refine (unhide HW).mono ?_
        rintro e w6 ⟨rfl, hb6⟩
        have HT6 := hide ((unhide HTk).keep hb6)
        have Hb6 := hide ((unhide Hbw).trans (hb6.mono (by have := (unhide Hbw).size; omega)))
        have HB6 := hide ((unhide HBw).keep hb6)
        have HX6 := hide ((unhide HX).keep hb6)
        clear hb6 HW HTk Hbw HBw HX hl5 c0 c1
        obtain ⟨hl6, c0, c1⟩ := (unhide HX6).1
        obtain ⟨⟨hlb, b0, b1⟩, fz⟩ := unhide HB6
        have f0 := fz 0
        have f1 := fz 1
        clear fz
        by_cases he : er = 0
        · have Hgood := hide (fun V q' pv n c (h1 : pv = gb R) (h2 : n = foN R) hs hb => unhide HH V q' pv n c he h1 h2 hs hb)
          subst he
          obtain ⟨x9, hx9, hB9, hb9, hs9⟩ : ∃ x9, (w6.setCell ⟨bx, 0, none⟩ (.bool pv)).setCell ⟨bx, 1, none⟩ (.slice q3 fo c3) = x9 ∧ BSw x9 bx pv (.slice q3 fo c3) ∧ Below bx W x9 ∧ Sl x9 q3 (R.take (foN R)) := ⟨_, rfl, (unhide HB6).put, ((unhide Hb6).setCell (p := ⟨bx, 0, none⟩) (Nat.le_refl _) _).setCell (p := ⟨bx, 1, none⟩) (Nat.le_refl _) _, ((unhide HT6).set (unhide Hq3)).set (unhide Hq3)⟩
          obtain ⟨⟨-, r0, r1⟩, -⟩ := hB9
          have Hb9 := hide hb9
          have Hs9 := hide hs9
          clear hb9 hs9
          go_wp2
          exact bodyPost_ret (v := .tuple #[sV pv q3 fo c3, .int .i64 0]) (by simp [results, Tryd.results16, go_sem, r0, r1]) rfl (unhide Hgood _ _ _ _ _ (unhide Hpv).symm (unhide Hfo).symm (unhide Hs9) (by first | exact unhide Hb9 | (rw [hbx]; exact unhide Hb9)))
        · have Hbad := hide (fun V hb => unhide HG V er rfl he hb)
          have h1 : (er != 0) = true := by simpa using he
          clear he
          obtain ⟨x9, hx9, hB9, hb9⟩ : ∃ x9, (w6.setCell ⟨bx, 0, none⟩ (.bool false)).setCell ⟨bx, 1, none⟩ (.slice none 0 0) = x9 ∧ BSw x9 bx false (.slice none 0 0) ∧ Below bx W x9 := ⟨_, rfl, (unhide HB6).put, ((unhide Hb6).setCell (p := ⟨bx, 0, none⟩) (Nat.le_refl _) _).setCell (p := ⟨bx, 1, none⟩) (Nat.le_refl _) _⟩
          obtain ⟨⟨-, r0, r1⟩, -⟩ := hB9
          have Hb9 := hide hb9
          clear hb9
          go_wp2
          exact bodyPost_ret (v := .tuple #[sV false none 0 0, .int .i64 er]) (by simp [results, Tryd.results16, go_sem, r0, r1]) rfl (unhide Hbad _ (by first | exact unhide Hb9 | (rw [hbx]; exact unhide Hb9)))
      have e1 : (rn : Int) % 2 = 0 := by omega
      by_cases hz : rn < 2
      · have e2 : decide (2 ≤ (rn : Int)) = false := by simp; omega
        have HE := hide (unhide HFno (gb_no (fun h => by have := h.1.1; have := h.1.2; omega)))
        clear hodd hz
        go_upto_region 18 with fail
        obtain ⟨hX, hB, hT, hbw⟩ := unhide HE
        have Htl := hide (show (R.take (foN R)).length = foN R by have := foN_le R; simp; omega)
        have HTk := hide (sl_take hT (foN R) (foN_le R))
        have HW := hide (rwrong_any (gb R) q3 (R.take (foN R)) c3 w5 (unhide HTk))
        rw [unhide Htl, ← unhide Hfe] at HW
        obtain ⟨pv, hpv⟩ : ∃ pv, gb R = pv := ⟨_, rfl⟩
        obtain ⟨fo, hfo⟩ : ∃ fo, foN R = fo := ⟨_, rfl⟩
        rw [hpv, hfo] at HW hX
        have Hpv := hide hpv
        have Hfo := hide hfo
        have HX := hide hX
        have HBw := hide hB
        have Hbw := hide hbw
        obtain ⟨hl5, c0, c1⟩ := hX.1
        clear hpv hfo hX hB hT hbw HE
        go_wp2_with fail
        refine (unhide HW).mono ?_
        rintro e w6 ⟨rfl, hb6⟩
        have HT6 := hide ((unhide HTk).keep hb6)
        have Hb6 := hide ((unhide Hbw).trans (hb6.mono (by have := (unhide Hbw).size; omega)))
        have HB6 := hide ((unhide HBw).keep hb6)
        have HX6 := hide ((unhide HX).keep hb6)
        clear hb6 HW HTk Hbw HBw HX hl5 c0 c1
        obtain ⟨hl6, c0, c1⟩ := (unhide HX6).1
        obtain ⟨⟨hlb, b0, b1⟩, fz⟩ := unhide HB6
        have f0 := fz 0
        have f1 := fz 1
        clear fz
        by_cases he : er = 0
        · have Hgood := hide (fun V q' pv n c (h1 : pv = gb R) (h2 : n = foN R) hs hb => unhide HH V q' pv n c he h1 h2 hs hb)
          subst he
          obtain ⟨x9, hx9, hB9, hb9, hs9⟩ : ∃ x9, (w6.setCell ⟨bx, 0, none⟩ (.bool pv)).setCell ⟨bx, 1, none⟩ (.slice q3 fo c3) = x9 ∧ BSw x9 bx pv (.slice q3 fo c3) ∧ Below bx W x9 ∧ Sl x9 q3 (R.take (foN R)) := ⟨_, rfl, (unhide HB6).put, ((unhide Hb6).setCell (p := ⟨bx, 0, none⟩) (Nat.le_refl _) _).setCell (p := ⟨bx, 1, none⟩) (Nat.le_refl _) _, ((unhide HT6).set (unhide Hq3)).set (unhide Hq3)⟩
          obtain ⟨⟨-, r0, r1⟩, -⟩ := hB9
          have Hb9 := hide hb9
          have Hs9 := hide hs9
          clear hb9 hs9
          go_wp2
          exact bodyPost_ret (v := .tuple #[sV pv q3 fo c3, .int .i64 0]) (by simp [results, Tryd.results16, go_sem, r0, r1]) rfl (unhide Hgood _ _ _ _ _ (unhide Hpv).symm (unhide Hfo).symm (unhide Hs9) (by first | exact unhide Hb9 | (rw [hbx]; exact unhide Hb9)))
        · have Hbad := hide (fun V hb => unhide HG V er rfl he hb)
          have h1 : (er != 0) = true := by simpa using he
          clear he
          obtain ⟨x9, hx9, hB9, hb9⟩ : ∃ x9, (w6.setCell ⟨bx, 0, none⟩ (.bool false)).setCell ⟨bx, 1, none⟩ (.slice none 0 0) = x9 ∧ BSw x9 bx false (.slice none 0 0) ∧ Below bx W x9 := ⟨_, rfl, (unhide HB6).put, ((unhide Hb6).setCell (p := ⟨bx, 0, none⟩) (Nat.le_refl _) _).setCell (p := ⟨bx, 1, none⟩) (Nat.le_refl _) _⟩
          obtain ⟨⟨-, r0, r1⟩, -⟩ := hB9
          have Hb9 := hide hb9
          clear hb9
          go_wp2
          exact bodyPost_ret (v := .tuple #[sV false none 0 0, .int .i64 er]) (by simp [results, Tryd.results16, go_sem, r0, r1]) rfl (unhide Hbad _ (by first | exact unhide Hb9 | (rw [hbx]; exact unhide Hb9)))
      have e2 : decide (2 ≤ (rn : Int)) = true := by simp; omega
      obtain ⟨g, o, rfl, -, -⟩ := (unhide HT5).resolve_left (by omega)
      obtain ⟨m, hm⟩ : ∃ m, rn = 2 * m := ⟨rn / 2, by omega⟩
      have d1 : (rn : Int) / 2 = (m : Int) := by omega
      obtain ⟨h', hh'⟩ : ∃ h', h' = m + 1 := ⟨_, rfl⟩
      have d2 : (m : Int) + 1 = (h' : Int) := by omega
      have d3 : (h' : Int) ≤ (c3 : Int) := by omega
      have d4 : (0 : Int) ≤ (h' : Int) := by omega
      have d5 : m ≤ 1048576 := by omega
      obtain ⟨hh, hhh⟩ : ∃ hh, hh = 2 * h' := ⟨_, rfl⟩
      have d6 : (2 : Int) * (h' : Int) = (hh : Int) := by omega
      have d7 : (hh : Int) - 2 = (rn : Int) := by omega
      have Hn2 := hide (show rn ≠ 0 ∧ rn % 2 = 0 by omega)
      have Hfo := hide (show gb R = true → h' = foN R from fun h => by unfold foN; rw [h, if_pos rfl, hrn]; omega)
      have bn := bnew w5 (.cells #[.bool true, .slice (some ⟨g, o, none⟩) h' c3] 24)
      have HX8 := hide (BS.new w5 true (.slice (some ⟨g, o, none⟩) h' c3) 24)
      have HX9 := hide ((unhide HX5).keep bn)
      have HB9 := hide ((unhide HB5).keep bn)
      have HT9 := hide (show Ps (w5.alloc (.cells #[.bool true, .slice (some ⟨g, o, none⟩) h' c3] 24)) (some ⟨g, o, none⟩) rn (ca R) (cb R) from (unhide HT5).keep bn)
      have Hb9 := hide ((unhide Hb5).trans (bn.mono (by have := (unhide Hb5).size; omega)))
      have Hne8 := hide (show x7 ≠ w5.heap.size ∧ bx ≠ w5.heap.size from ⟨by have := (unhide HX5).1.1; omega, by have := (unhide HB5).1.1; omega⟩)
      clear bn hodd hz hm hh' hhh HFno
      go_upto_region 11 with fail
      clear e1
      generalize w5.alloc (.cells #[.bool true, .slice (some ⟨g, o, none⟩) h' c3] 24) = w9 at *
      generalize w5.heap.size = x8 at *
      obtain ⟨hl8, c80, c81⟩ := unhide HX8
      go_upto_region 12 with fail
      clear d6 d7 d1 d2
      go_wp2
      go_loopw [9, 10] (fun bv i wr => ∃ (x : Nat) (b : Bool), (1 ≤ x ∧ x ≤ rn) ∧ i = .int .i64 (x : Int) ∧ bv = .bool b ∧ Hid (b = true ↔ ∀ j, j < x → 1 ≤ j → R.getD j (0, 0) = R.getD (rn - j) (0, 0)) ∧ Below w9.heap.size w9 wr) (fun _ i _ => rn - (intOf i).toNat)
      case atStart => exact ⟨1, true, by have := unhide Hn2; omega, rfl, rfl, hide ⟨fun _ j h1 h2 => by omega, fun _ => rfl⟩, Below.refl _ _⟩
      case round =>
        obtain ⟨x, b, hx, rfl, rfl, Hs, hb⟩ := hrel
        by_cases hlt : x < rn
        · have q0 : (x : Int) < (rn : Int) := by omega
          have q1 : (0 : Int) ≤ (x : Int) := by omega
          have Hb := hide hb
          cases b with
          | false =>
            have Hs2 := hide (show false = true ↔ ∀ j, j < x + 1 → 1 ≤ j → R.getD j (0, 0) = R.getD (rn - j) (0, 0) from ⟨fun h => (by cases h), fun h => (unhide Hs).2 (fun j h1 h2 => h j (by omega) h2)⟩)
            clear hb
            go_wp2_with fail
            go_quiet (fail)
            go_wp2
            go_roundw
            case rel => exact ⟨x + 1, false, by omega, by go_num, rfl, Hs2, btrans (unhide Hb) (Joins.below_draws _ _ _)⟩
            case measure => simp [intOf]; omega
          | true =>
            obtain ⟨y, hy⟩ : ∃ y, y = rn - x := ⟨_, rfl⟩
            have d1 : (rn : Int) - (x : Int) = (y : Int) := by omega
            have hyn : y < rn := by omega
            obtain ⟨g', o', hq, k0, k1⟩ := ((unhide HT9).keep hb).at hlt
            cases hq
            obtain ⟨g', o', hq, k2, k3⟩ := ((unhide HT9).keep hb).at hyn
            cases hq
            have q2 : (y : Int) < (rn : Int) := by omega
            have q3 : (0 : Int) ≤ (y : Int) := by omega
            have Hs2 := hide (show (ca R x, cb R x) = (ca R y, cb R y) ↔ ∀ j, j < x + 1 → 1 ≤ j → R.getD j (0, 0) = R.getD (rn - j) (0, 0) from ⟨fun h j h1 h2 => by
              by_cases e : j = x
              · rw [e, ← hy]; exact h
              · exact (unhide Hs).1 rfl j (by omega) h2, fun h => by have := h x (by omega) hx.1; rw [← hy] at this; exact this⟩)
            clear hb hy
            generalize ca R x = u at *
            generalize cb R x = v at *
            generalize ca R y = u' at *
            generalize cb R y = v' at *
            by_cases hu : u = u'
            · subst hu
              by_cases hv : v = v'
              · subst hv
                have HY := hide (show true = true ↔ ∀ j, j < x + 1 → 1 ≤ j → R.getD j (0, 0) = R.getD (rn - j) (0, 0) from ⟨fun _ => (unhide Hs2).1 rfl, fun _ => rfl⟩)
                clear Hs2
                go_wp2_with fail
                go_quiet (fail)
                go_wp2
                go_roundw
                case rel => exact ⟨x + 1, true, by omega, by go_num, rfl, hide ⟨fun _ => (unhide HY).1 trivial, fun _ => rfl⟩, btrans (unhide Hb) (Joins.below_draws _ _ _)⟩
                case measure => simp [intOf]; omega
              · have HN := hide (show false = true ↔ ∀ j, j < x + 1 → 1 ≤ j → R.getD j (0, 0) = R.getD (rn - j) (0, 0) from ⟨fun h => (by cases h), fun h => absurd ((unhide Hs2).2 h) (by simp [hv])⟩)
                have hv' : (v == v') = false := by simp [hv]
                clear hv Hs2
                go_wp2_with fail
                go_quiet (fail)
                go_wp2
                go_roundw
                case rel => exact ⟨x + 1, false, by omega, by go_num, rfl, HN, btrans (unhide Hb) (Joins.below_draws _ _ _)⟩
                case measure => simp [intOf]; omega
            · have HN := hide (show false = true ↔ ∀ j, j < x + 1 → 1 ≤ j → R.getD j (0, 0) = R.getD (rn - j) (0, 0) from ⟨fun h => (by cases h), fun h => absurd ((unhide Hs2).2 h) (by simp [hu])⟩)
              have hu' : (u == u') = false := by simp [hu]
              clear hu Hs2
              go_wp2_with fail
              go_quiet (fail)
              go_wp2
              go_roundw
              case rel => exact ⟨x + 1, false, by omega, by go_num, rfl, HN, btrans (unhide Hb) (Joins.below_draws _ _ _)⟩
              case measure => simp [intOf]; omega
        · obtain rfl : x = rn := by omega
          have cl : ¬ ((x : Int) < (x : Int)) := by omega
          have HX := hide ((unhide HX9).keep hb)
          have HBr := hide ((unhide HB9).keep hb)
          have HT := hide (show Sl wr (some ⟨g, o, none⟩) R from by unfold Sl; rw [hrn]; exact (unhide HT9).keep hb)
          have Hbr := hide ((unhide Hb9).trans (hb.mono (by have := (unhide Hb9).size; omega)))
          have hX8 := (unhide HX8).keep hb
          have Hn3 := unhide Hn2
          have HgP := hide (show gbP R ↔ ∀ j, j < x → 1 ≤ j → R.getD j (0, 0) = R.getD (x - j) (0, 0) by
            unfold gbP
            rw [hrn]
            exact ⟨fun h => h.2, fun h => ⟨Hn3, h⟩⟩)
          clear hb Hn3 c80 c81 hl8
          cases b with
          | false =>
            have hg : gb R = false := gb_no (fun h => by have := (unhide Hs).2 ((unhide HgP).1 h); cases this)
            have HE := hide (show Fq W bx x7 (some ⟨g, o, none⟩) c3 R wr from by
              have e : foN R = x := by unfold foN; rw [hg, if_neg (by decide), hrn]
              unfold Fq
              rw [hg, e]
              exact ⟨unhide HX, unhide HBr, unhide HT, unhide Hbr⟩)
            clear hg hX8
            go_upto_region 18 with fail
            obtain ⟨hX, hB, hT, hbw⟩ := unhide HE
            have Htl := hide (show (R.take (foN R)).length = foN R by have := foN_le R; simp; omega)
            have HTk := hide (sl_take hT (foN R) (foN_le R))
            have HW := hide (rwrong_any (gb R) (some ⟨g, o, none⟩) (R.take (foN R)) c3 wr (unhide HTk))
            rw [unhide Htl, ← unhide Hfe] at HW
            obtain ⟨pv, hpv⟩ : ∃ pv, gb R = pv := ⟨_, rfl⟩
            obtain ⟨fo, hfo⟩ : ∃ fo, foN R = fo := ⟨_, rfl⟩
            rw [hpv, hfo] at HW hX
            have Hpv := hide hpv
            have Hfo := hide hfo
            have HX := hide hX
            have HBw := hide hB
            have Hbw := hide hbw
            obtain ⟨hl5, c0, c1⟩ := hX.1
            clear hpv hfo hX hB hT hbw HE
            go_wp2_with fail
            refine (unhide HW).mono ?_
            rintro e w6 ⟨rfl, hb6⟩
            have HT6 := hide ((unhide HTk).keep hb6)
            have Hb6 := hide ((unhide Hbw).trans (hb6.mono (by have := (unhide Hbw).size; omega)))
            have HB6 := hide ((unhide HBw).keep hb6)
            have HX6 := hide ((unhide HX).keep hb6)
            clear hb6 HW HTk Hbw HBw HX hl5 c0 c1
            obtain ⟨hl6, c0, c1⟩ := (unhide HX6).1
            obtain ⟨⟨hlb, b0, b1⟩, fz⟩ := unhide HB6
            have f0 := fz 0
            have f1 := fz 1
            clear fz
            by_cases he : er = 0
            · have Hgood := hide (fun V q' pv n c (h1 : pv = gb R) (h2 : n = foN R) hs hb => unhide HH V q' pv n c he h1 h2 hs hb)
              subst he
              obtain ⟨x9, hx9, hB9, hb9, hs9⟩ : ∃ x9, (w6.setCell ⟨bx, 0, none⟩ (.bool pv)).setCell ⟨bx, 1, none⟩ (.slice (some ⟨g, o, none⟩) fo c3) = x9 ∧ BSw x9 bx pv (.slice (some ⟨g, o, none⟩) fo c3) ∧ Below bx W x9 ∧ Sl x9 (some ⟨g, o, none⟩) (R.take (foN R)) := ⟨_, rfl, (unhide HB6).put, ((unhide Hb6).setCell (p := ⟨bx, 0, none⟩) (Nat.le_refl _) _).setCell (p := ⟨bx, 1, none⟩) (Nat.le_refl _) _, ((unhide HT6).set (unhide Hq3)).set (unhide Hq3)⟩
              obtain ⟨⟨-, r0, r1⟩, -⟩ := hB9
              have Hb9 := hide hb9
              have Hs9 := hide hs9
              clear hb9 hs9
              go_wp2
              exact bodyPost_ret (v := .tuple #[sV pv (some ⟨g, o, none⟩) fo c3, .int .i64 0]) (by simp [results, Tryd.results16, go_sem, r0, r1]) rfl (unhide Hgood _ _ _ _ _ (unhide Hpv).symm (unhide Hfo).symm (unhide Hs9) (by first | exact unhide Hb9 | (rw [hbx]; exact unhide Hb9)))
            · have Hbad := hide (fun V hb => unhide HG V er rfl he hb)
              have h1 : (er != 0) = true := by simpa using he
              clear he
              obtain ⟨x9, hx9, hB9, hb9⟩ : ∃ x9, (w6.setCell ⟨bx, 0, none⟩ (.bool false)).setCell ⟨bx, 1, none⟩ (.slice none 0 0) = x9 ∧ BSw x9 bx false (.slice none 0 0) ∧ Below bx W x9 := ⟨_, rfl, (unhide HB6).put, ((unhide Hb6).setCell (p := ⟨bx, 0, none⟩) (Nat.le_refl _) _).setCell (p := ⟨bx, 1, none⟩) (Nat.le_refl _) _⟩
              obtain ⟨⟨-, r0, r1⟩, -⟩ := hB9
              have Hb9 := hide hb9
              clear hb9
              go_wp2
              exact bodyPost_ret (v := .tuple #[sV false none 0 0, .int .i64 er]) (by simp [results, Tryd.results16, go_sem, r0, r1]) rfl (unhide Hbad _ (by first | exact unhide Hb9 | (rw [hbx]; exact unhide Hb9)))
          | true =>
            have hg : gb R = true := gb_yes ((unhide HgP).2 ((unhide Hs).1 rfl))
            obtain ⟨-, c80, c81⟩ := hX8
            obtain ⟨⟨hl7, -, -⟩, fz⟩ := unhide HX
            have f0 := fz 0
            have f1 := fz 1
            have c70 := (unhide HX).1.2.1
            have c71 := (unhide HX).1.2.2
            clear fz
            have HE := hide (show Fq W bx x7 (some ⟨g, o, none⟩) c3 R ((wr.setCell ⟨x7, 0, none⟩ (.bool true)).setCell ⟨x7, 1, none⟩ (.slice (some ⟨g, o, none⟩) h' c3)) from by
              have hx7 := unhide Hx7 ⟨g, o, none⟩ (by omega) rfl
              have hbx7 := unhide Hbx7
              have k1 : Kept (fun i => i = x7) wr ((wr.setCell ⟨x7, 0, none⟩ (.bool true)).setCell ⟨x7, 1, none⟩ (.slice (some ⟨g, o, none⟩) h' c3)) := (kset wr x7 0 _).set 1 _ (.inl rfl)
              obtain ⟨⟨b0, b1, b2⟩, b3⟩ := unhide HBr
              have hnb : ¬ bx = x7 := by omega
              unfold Fq
              rw [hg, ← unhide Hfo hg]
              exact ⟨(unhide HX).put, ⟨⟨Nat.lt_of_lt_of_le b0 k1.size, k1.cell b0 hnb b1, k1.cell b0 hnb b2⟩, fun j => k1.froz b0 hnb (b3 j)⟩, ((unhide HT).set (fun ad e => by cases e; exact hx7)).set (fun ad e => by cases e; exact hx7), ((unhide Hbr).setCell (p := ⟨x7, 0, none⟩) (by dsimp only; omega) _).setCell (p := ⟨x7, 1, none⟩) (by dsimp only; omega) _⟩)
            clear hg
            obtain ⟨x10, hx10, HE⟩ : ∃ x10, (wr.setCell ⟨x7, 0, none⟩ (.bool true)).setCell ⟨x7, 1, none⟩ (.slice (some ⟨g, o, none⟩) h' c3) = x10 ∧ Hid (Fq W bx x7 (some ⟨g, o, none⟩) c3 R x10) := ⟨_, rfl, HE⟩
            go_upto_region 18 with fail
            clear c70 c71 f0 f1 c80 c81 hl7
            obtain ⟨hX, hB, hT, hbw⟩ := unhide HE
            have Htl := hide (show (R.take (foN R)).length = foN R by have := foN_le R; simp; omega)
            have HTk := hide (sl_take hT (foN R) (foN_le R))
            have HW := hide (rwrong_any (gb R) (some ⟨g, o, none⟩) (R.take (foN R)) c3 x10 (unhide HTk))
            rw [unhide Htl, ← unhide Hfe] at HW
            obtain ⟨pv, hpv⟩ : ∃ pv, gb R = pv := ⟨_, rfl⟩
            obtain ⟨fo, hfo⟩ : ∃ fo, foN R = fo := ⟨_, rfl⟩
            rw [hpv, hfo] at HW hX
            have Hpv := hide hpv
            have Hfo := hide hfo
            have HX := hide hX
            have HBw := hide hB
            have Hbw := hide hbw
            obtain ⟨hl5, c0, c1⟩ := hX.1
            clear hpv hfo hX hB hT hbw HE
            go_wp2_with fail
            refine (unhide HW).mono ?_
            rintro e w6 ⟨rfl, hb6⟩
            have HT6 := hide ((unhide HTk).keep hb6)
            have Hb6 := hide ((unhide Hbw).trans (hb6.mono (by have := (unhide Hbw).size; omega)))
            have HB6 := hide ((unhide HBw).keep hb6)
            have HX6 := hide ((unhide HX).keep hb6)
            clear hb6 HW HTk Hbw HBw HX hl5 c0 c1
            obtain ⟨hl6, c0, c1⟩ := (unhide HX6).1
            obtain ⟨⟨hlb, b0, b1⟩, fz⟩ := unhide HB6
            have f0 := fz 0
            have f1 := fz 1
            clear fz
            by_cases he : er = 0
            · have Hgood := hide (fun V q' pv n c (h1 : pv = gb R) (h2 : n = foN R) hs hb => unhide HH V q' pv n c he h1 h2 hs hb)
              subst he
              obtain ⟨x9, hx9, hB9, hb9, hs9⟩ : ∃ x9, (w6.setCell ⟨bx, 0, none⟩ (.bool pv)).setCell ⟨bx, 1, none⟩ (.slice (some ⟨g, o, none⟩) fo c3) = x9 ∧ BSw x9 bx pv (.slice (some ⟨g, o, none⟩) fo c3) ∧ Below bx W x9 ∧ Sl x9 (some ⟨g, o, none⟩) (R.take (foN R)) := ⟨_, rfl, (unhide HB6).put, ((unhide Hb6).setCell (p := ⟨bx, 0, none⟩) (Nat.le_refl _) _).setCell (p := ⟨bx, 1, none⟩) (Nat.le_refl _) _, ((unhide HT6).set (unhide Hq3)).set (unhide Hq3)⟩
              obtain ⟨⟨-, r0, r1⟩, -⟩ := hB9
              have Hb9 := hide hb9
              have Hs9 := hide hs9
              clear hb9 hs9
              go_wp2
              exact bodyPost_ret (v := .tuple #[sV pv (some ⟨g, o, none⟩) fo c3, .int .i64 0]) (by simp [results, Tryd.results16, go_sem, r0, r1]) rfl (unhide Hgood _ _ _ _ _ (unhide Hpv).symm (unhide Hfo).symm (unhide Hs9) (by first | exact unhide Hb9 | (rw [hbx]; exact unhide Hb9)))
            · have Hbad := hide (fun V hb => unhide HG V er rfl he hb)
              have h1 : (er != 0) = true := by simpa using he
              clear he
              obtain ⟨x9, hx9, hB9, hb9⟩ : ∃ x9, (w6.setCell ⟨bx, 0, none⟩ (.bool false)).setCell ⟨bx, 1, none⟩ (.slice none 0 0) = x9 ∧ BSw x9 bx false (.slice none 0 0) ∧ Below bx W x9 := ⟨_, rfl, (unhide HB6).put, ((unhide Hb6).setCell (p := ⟨bx, 0, none⟩) (Nat.le_refl _) _).setCell (p := ⟨bx, 1, none⟩) (Nat.le_refl _) _⟩
              obtain ⟨⟨-, r0, r1⟩, -⟩ := hB9
              have Hb9 := hide hb9
              clear hb9
              go_wp2
              exact bodyPost_ret (v := .tuple #[sV false none 0 0, .int .i64 er]) (by simp [results, Tryd.results16, go_sem, r0, r1]) rfl (unhide Hbad _ (by first | exact unhide Hb9 | (rw [hbx]; exact unhide Hb9)))
theorem rfold_any (q : Option Addr) (l : List Int) (cap : Nat) (W : World) (hP : Il W q l) (hn : l.length ≤ 1048576) : Calls Tryd.prog 16 #[.slice q l.length cap] W (FdIs W l) := by
  cases ha : l.any nocol with
  | true => exact rfold_col q l cap W hP hn ha
  | false => exact rfold_rest q l cap W hP hn ha
end Go.Proofs.YtbnjjkanokmakaaDoor
