/-
  Looms: endPick.
-/
import Derived.Test.YtndfecdhmncdaaaLmD
namespace Go.Proofs.Ytndfecdhmncdaaa
open Go.RowKit

/-- behind a pick that is woven: the next state, and what the loom does -/
def nxS (h wv : Nat) (sp : Bool) (st : Int) : Int := if wv + 1 = h then 6 else if sp || st == 5 then 0 else 1
def nxD (h wv : Nat) (sp : Bool) (st : Int) : Int := if wv + 1 = h then 4 else if sp || st == 5 then 4 else 1

def EndIs (W : World) (L w h : Nat) (p : Option Addr) (n cap D : Nat) (st : Int) (wv : Nat) (dd : Bool) (nx ds : Int) : Prop :=
  Calls Try.prog 31 #[.pointer (some ⟨L, 0, none⟩)] W fun e w' => e = .returned (.tuple #[.int .i64 nx, .int .i64 ds]) ∧ LB w' L w h p n cap D st (wv + 1) false dd ∧ Kept (fun i => i = L) W w'

set_option maxRecDepth 100000 in
set_option maxHeartbeats 2000000 in
theorem end_x {W : World} {L w h : Nat} {p : Option Addr} {n cap D : Nat} {st : Int} {wv : Nat} {sp dd : Bool} (k : LB W L w h p n cap D st wv sp dd) (hw : wv ≤ 64) (b c : Bool) (hb : (sp || st == 5) = b) (hc : ((wv : Int) + 1 == (h : Int)) = c) (nx ds : Int) (hnx : nx = if c then 6 else if b then 0 else 1) (hds : ds = if c then 4 else if b then 4 else 1) :
    EndIs W L w h p n cap D st wv dd nx ds := by
  unfold EndIs
  have K2 := hide (show LB ((W.setCell ⟨L, 6, none⟩ (.bool false)).setCell ⟨L, 5, none⟩ (.int .i64 ((wv : Int) + 1))) L w h p n cap D st (wv + 1) false dd from (k.stop false).woven (wv + 1))
  have KK := hide (((Kept.refl (fun i => i = L) W).set 6 (.bool false) (.inl rfl)).set 5 (.int .i64 ((wv : Int) + 1)) (.inl rfl))
  have Hnx := hide hnx
  have Hds := hide hds
  obtain ⟨-, ⟨a0, a1, a2, a3, a4, a5, a6, a7⟩, b4, b5, b6, b7⟩ := k
  clear hnx hds
  have e3 : wrap64 ((wv : Int) + 1) = (wv : Int) + 1 := by unfold wrap64; omega
  cases sp with
  | true =>
    obtain rfl : true = b := by simpa using hb
    cases c
    all_goals
      go_enter Try.func31, Try.ntmps31
      go_upto_region 4 with fail
      generalize (W.setCell ⟨L, 6, none⟩ (.bool false)).setCell ⟨L, 5, none⟩ (.int .i64 ((wv : Int) + 1)) = w2 at *
      clear a0 a1 a2 a3 a4 a5 a6 a7 b4 b5 b6 b7
      obtain ⟨-, ⟨a0, a1, a2, a3, a4, a5, a6, a7⟩, -⟩ := unhide K2
      go_quiet (fail)
      go_wp2
      go_ret2
      exact ⟨by rw [unhide Hnx, unhide Hds]; rfl, (unhide K2).keep (Joins.below_draws _ _ _), (unhide KK).dr _⟩
  | false =>
    have hb' : (st == 5) = b := by simpa using hb
    clear hb
    cases b
    all_goals
      cases c
      all_goals
        go_enter Try.func31, Try.ntmps31
        go_upto_region 4 with fail
        generalize (W.setCell ⟨L, 6, none⟩ (.bool false)).setCell ⟨L, 5, none⟩ (.int .i64 ((wv : Int) + 1)) = w2 at *
        clear a0 a1 a2 a3 a4 a5 a6 a7 b4 b5 b6 b7
        obtain ⟨-, ⟨a0, a1, a2, a3, a4, a5, a6, a7⟩, -⟩ := unhide K2
        go_quiet (fail)
        go_wp2
        go_ret2
        exact ⟨by rw [unhide Hnx, unhide Hds]; rfl, (unhide K2).keep (Joins.below_draws _ _ _), (unhide KK).dr _⟩
theorem end_any {W : World} {L w h : Nat} {p : Option Addr} {n cap D : Nat} {st : Int} {wv : Nat} {sp dd : Bool} (k : LB W L w h p n cap D st wv sp dd) (hw : wv ≤ 64) : EndIs W L w h p n cap D st wv dd (nxS h wv sp st) (nxD h wv sp st) := by
  refine end_x k hw _ _ rfl rfl _ _ ?_ ?_
  · unfold nxS
    by_cases e : wv + 1 = h
    · rw [if_pos e, if_pos (by simp; omega)]
    · have c : ((wv : Int) + 1 == (h : Int)) = false := by simp; omega
      rw [if_neg e, c]
      rfl
  · unfold nxD
    by_cases e : wv + 1 = h
    · rw [if_pos e, if_pos (by simp; omega)]
    · have c : ((wv : Int) + 1 == (h : Int)) = false := by simp; omega
      rw [if_neg e, c]
      rfl
end Go.Proofs.Ytndfecdhmncdaaa
