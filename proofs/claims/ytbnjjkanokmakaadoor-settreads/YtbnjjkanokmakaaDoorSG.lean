/-
  folded, Fold of package sett.
-/
import Derived.Test.YtbnjjkanokmakaaDoorSF
namespace Go.Proofs.YtbnjjkanokmakaaDoor
open Go.RowKit

/-- a sett in a box that may be written -/
def BSw (W : World) (g : Nat) (pv : Bool) (v : Value) : Prop := BS W g pv v ∧ ∀ j, W.frozen? ⟨g, j, none⟩ = false
theorem BSw.keep {W V : World} {g : Nat} {pv : Bool} {v : Value} (h : BSw W g pv v) (hb : Below W.heap.size W V) : BSw V g pv v := ⟨h.1.keep hb, fun j => keepF hb h.1.1 (h.2 j)⟩
theorem BSw.new (W : World) (pv : Bool) (v : Value) (t : TypeId) : BSw (W.alloc (.cells #[.bool pv, v] t)) W.heap.size pv v := ⟨BS.new W pv v t, fun j => by simp [go_sem]⟩
theorem BSw.put {W : World} {g : Nat} {pv pv' : Bool} {v v' : Value} (h : BSw W g pv v) : BSw ((W.setCell ⟨g, 0, none⟩ (.bool pv')).setCell ⟨g, 1, none⟩ v') g pv' v' :=
  ⟨⟨by simpa using h.1.1, cset (csame h.1.2.1) (by decide), csame (cset h.1.2.2 (by decide))⟩, fun j => fset (fset (h.2 j))⟩
theorem Ps.less {W : World} {q : Option Addr} {n m : Nat} {a b : Nat → Int} (h : Ps W q n a b) (hm : m ≤ n) : Ps W q m a b := by
  rcases h with h | ⟨g, o, e, hl, hk⟩
  · exact .inl (by omega)
  · exact .inr ⟨g, o, e, hl, fun k hkm => hk k (by omega)⟩
theorem sl_take {W : World} {q : Option Addr} {R : List St} (h : Sl W q R) (m : Nat) (hm : m ≤ R.length) : Sl W q (R.take m) := by
  have hl : (R.take m).length = m := by simp; omega
  refine Ps.congr (n := (R.take m).length) (a := ca R) (b := cb R) (Ps.less h (by omega)) fun k hk => ?_
  have : (R.take m).getD k (0, 0) = R.getD k (0, 0) := by rw [getD_lt _ _ hk, getD_lt _ _ (by omega)]; simp
  unfold ca cb
  rw [this]
  exact ⟨rfl, rfl⟩

/-- a sett is told -/
def SvIs (W : World) (pv : Bool) (q : Option Addr) (n cap : Nat) (e : Ending) (V : World) : Prop := e = .returned (sV pv q n cap) ∧ Below W.heap.size W V
theorem SvIs.mk {W V : World} {pv pv' : Bool} {q : Option Addr} {n n' cap : Nat} (h1 : pv' = pv) (h2 : n' = n) (hb : Below W.heap.size W V) : SvIs W pv q n cap (.returned (sV pv' q n' cap)) V := ⟨by rw [h1, h2], hb⟩

set_option maxRecDepth 100000 in
set_option maxHeartbeats 4000000 in
theorem folded_any (q : Option Addr) (R : List St) (cap : Nat) (W : World) (hP : Sl W q R) (hn : R.length ≤ 1048576) (hc : R.length ≤ cap) : Calls Tryd.prog 30 #[.slice q R.length cap] W (SvIs W (gb R) q (foN R) cap) := by
  have HC := hide (fun V (hb : Below W.heap.size W V) => back_any q R cap V (hP.keep hb) hn)
  have HB := hide (BSw.new W false (.slice none 0 0) 24)
  have Hb := hide (bnew W (.cells #[.bool false, .slice none 0 0] 24))
  cases hg : gb R with
  | false =>
    have Hfo := hide (show R.length = foN R by unfold foN; rw [hg]; rfl)
    rw [hg] at HC
    clear hP hg
    generalize foN R = fo at *
    generalize R.length = n at *
    go_enter Tryd.func30, Tryd.ntmps30
    go_upto_region 1 with fail
    generalize W.alloc (.cells #[.bool false, .slice none 0 0] 24) = w1 at *
    generalize hbx : W.heap.size = bx at *
    go_wp2_with fail
    refine (unhide HC _ (unhide Hb)).mono ?_
    rintro e w2 ⟨rfl, hb2⟩
    have Hb2 := hide ((unhide Hb).trans (hb2.mono (by have := (unhide HB).1.1; omega)))
    have HB2 := hide ((unhide HB).keep hb2)
    clear hb2 HB Hb HC
    obtain ⟨⟨hl, c0, c1⟩, fz⟩ := unhide HB2
    have f0 := fz 0
    have f1 := fz 1
    clear fz
    obtain ⟨x9, hx9, hB9, hb9⟩ : ∃ x9, (w2.setCell ⟨bx, 0, none⟩ (.bool false)).setCell ⟨bx, 1, none⟩ (.slice q n cap) = x9 ∧ BSw x9 bx false (.slice q n cap) ∧ Below bx W x9 := ⟨_, rfl, (unhide HB2).put, ((unhide Hb2).setCell (p := ⟨bx, 0, none⟩) (Nat.le_refl _) _).setCell (p := ⟨bx, 1, none⟩) (Nat.le_refl _) _⟩
    obtain ⟨⟨-, r0, r1⟩, -⟩ := hB9
    have Hb9 := hide hb9
    clear hb9
    go_wp2
    refine bodyPost_ret (v := sV false q n cap) (by simp [results, Tryd.results30, go_sem, r0, r1]) rfl (SvIs.mk rfl (unhide Hfo) (by rw [hbx]; exact unhide Hb9))
  | true =>
    obtain ⟨⟨h0, h1⟩, -⟩ := of_decide_eq_true hg
    obtain ⟨g, o, rfl, -, -⟩ := hP.resolve_left h0
    obtain ⟨m, hm⟩ : ∃ m, R.length = 2 * m := ⟨R.length / 2, by omega⟩
    have Hfo := hide (show m + 1 = foN R by unfold foN; rw [hg, if_pos rfl]; omega)
    rw [hg] at HC
    clear hP hg
    generalize foN R = fo at *
    generalize R.length = n at *
    have d1 : (n : Int) / 2 = (m : Int) := by omega
    obtain ⟨h', hh'⟩ : ∃ h', h' = m + 1 := ⟨_, rfl⟩
    have d2 : (m : Int) + 1 = (h' : Int) := by omega
    have d3 : (h' : Int) ≤ (cap : Int) := by omega
    have d4 : (0 : Int) ≤ (h' : Int) := by omega
    have d5 : m ≤ 1048576 := by omega
    rw [← hh'] at Hfo
    clear hh'
    clear h0 h1 hm
    go_enter Tryd.func30, Tryd.ntmps30
    go_upto_region 1 with fail
    generalize W.alloc (.cells #[.bool false, .slice none 0 0] 24) = w1 at *
    generalize hbx : W.heap.size = bx at *
    go_wp2_with fail
    refine (unhide HC _ (unhide Hb)).mono ?_
    rintro e w2 ⟨rfl, hb2⟩
    have Hb2 := hide ((unhide Hb).trans (hb2.mono (by have := (unhide HB).1.1; omega)))
    have HB2 := hide ((unhide HB).keep hb2)
    clear hb2 HB Hb HC
    obtain ⟨⟨hl, c0, c1⟩, fz⟩ := unhide HB2
    have f0 := fz 0
    have f1 := fz 1
    clear fz
    obtain ⟨x9, hx9, hB9, hb9⟩ : ∃ x9, (w2.setCell ⟨bx, 0, none⟩ (.bool true)).setCell ⟨bx, 1, none⟩ (.slice (some ⟨g, o, none⟩) h' cap) = x9 ∧ BSw x9 bx true (.slice (some ⟨g, o, none⟩) h' cap) ∧ Below bx W x9 := ⟨_, rfl, (unhide HB2).put, ((unhide Hb2).setCell (p := ⟨bx, 0, none⟩) (Nat.le_refl _) _).setCell (p := ⟨bx, 1, none⟩) (Nat.le_refl _) _⟩
    obtain ⟨⟨-, r0, r1⟩, -⟩ := hB9
    have Hb9 := hide hb9
    clear hb9
    go_wp2
    refine bodyPost_ret (v := sV true (some ⟨g, o, none⟩) h' cap) (by simp [results, Tryd.results30, go_sem, r0, r1]) rfl (SvIs.mk rfl (unhide Hfo) (by rw [hbx]; exact unhide Hb9))

/-- what folding answers: no fault -/
def fE (l : List Int) : Int := if l.any nocol = true then 3 else wE (gb (rnL l)) ((rnL l).take (foN (rnL l)))
/-- a sett and an error are told -/
def FdIs (W : World) (l : List Int) (e : Ending) (V : World) : Prop := Below W.heap.size W V ∧ if fE l = 0 then ∃ q cap, e = .returned (.tuple #[sV (gb (rnL l)) q (foN (rnL l)) cap, .int .i64 0]) ∧ Sl V q ((rnL l).take (foN (rnL l))) else e = .returned (.tuple #[sV false none 0 0, .int .i64 (fE l)])
theorem FdIs.bad {W V : World} {l : List Int} {r : Int} (h : fE l ≠ 0) (hr : r = fE l) (hb : Below W.heap.size W V) : FdIs W l (.returned (.tuple #[sV false none 0 0, .int .i64 r])) V := by
  unfold FdIs; rw [if_neg h, hr]; exact ⟨hb, rfl⟩
theorem FdIs.good {W V : World} {l : List Int} {q : Option Addr} {pv : Bool} {n cap : Nat} (h : fE l = 0) (h1 : pv = gb (rnL l)) (h2 : n = foN (rnL l)) (hs : Sl V q ((rnL l).take (foN (rnL l)))) (hb : Below W.heap.size W V) : FdIs W l (.returned (.tuple #[sV pv q n cap, .int .i64 0])) V := by
  unfold FdIs; rw [if_pos h, h1, h2]; exact ⟨hb, _, _, rfl, hs⟩
theorem rn_len (l : List Int) : (rnL l).length ≤ l.length := by
  have := (rn_each l l.length (Nat.le_refl _)).2.1
  rwa [List.take_length] at this

set_option maxRecDepth 100000 in
set_option maxHeartbeats 4000000 in
theorem fold_col (q : Option Addr) (l : List Int) (cap : Nat) (W : World) (hP : Il W q l) (hn : l.length ≤ 1048576) (ha : l.any nocol = true) : Calls Tryd.prog 15 #[.slice q l.length cap] W (FdIs W l) := by
  have e3 : fE l = 3 := by unfold fE; rw [if_pos ha]
  have HF := hide (fun V (hb : Below W.heap.size W V) => FdIs.bad (l := l) (r := 3) (by rw [e3]; decide) e3.symm hb)
  have HC := hide (fun V (hb : Below W.heap.size W V) => containsI_any q l cap V (hP.keep hb) (by unfold maxLen; omega))
  rw [ha] at HC
  have HB := hide (BSw.new W false (.slice none 0 0) 24)
  have Hb := hide (bnew W (.cells #[.bool false, .slice none 0 0] 24))
  clear hP ha e3
  generalize l.length = n at *
  go_enter Tryd.func15, Tryd.ntmps15
  go_upto_region 1 with fail
  generalize W.alloc (.cells #[.bool false, .slice none 0 0] 24) = w1 at *
  generalize hbx : W.heap.size = bx at *
  go_wp2_with fail
  refine (unhide HC _ (unhide Hb)).mono ?_
  rintro e w2 ⟨rfl, hb2⟩
  have Hb2 := hide ((unhide Hb).trans (hb2.mono (by have := (unhide HB).1.1; omega)))
  have HB2 := hide ((unhide HB).keep hb2)
  clear hb2 HB Hb HC
  obtain ⟨⟨hl, c0, c1⟩, fz⟩ := unhide HB2
  have f0 := fz 0
  have f1 := fz 1
  clear fz
  obtain ⟨x9, hx9, hB9, hb9⟩ : ∃ x9, (w2.setCell ⟨bx, 0, none⟩ (.bool false)).setCell ⟨bx, 1, none⟩ (.slice none 0 0) = x9 ∧ BSw x9 bx false (.slice none 0 0) ∧ Below bx W x9 := ⟨_, rfl, (unhide HB2).put, ((unhide Hb2).setCell (p := ⟨bx, 0, none⟩) (Nat.le_refl _) _).setCell (p := ⟨bx, 1, none⟩) (Nat.le_refl _) _⟩
  obtain ⟨⟨-, r0, r1⟩, -⟩ := hB9
  have Hb9 := hide hb9
  clear hb9
  go_wp2
  exact bodyPost_ret (v := .tuple #[sV false none 0 0, .int .i64 3]) (by simp [results, Tryd.results15, go_sem, r0, r1]) rfl (unhide HF _ (unhide Hb9))
end Go.Proofs.YtbnjjkanokmakaaDoor
