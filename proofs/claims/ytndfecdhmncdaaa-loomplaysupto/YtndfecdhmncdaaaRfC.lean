/-
  The document's own loom: what comes behind a pick; what an event does by its table.
-/
import Derived.Test.YtndfecdhmncdaaaRfA
namespace Go.Proofs.Ytndfecdhmncdaaa
open Go.RowKit

/-- what Told's own function leaves -/
def BhPost (W : World) (nb : Nat) (wv : Nat) (st : Int) (sp dd : Bool) (ds : Int) (e : Ending) (w' : World) : Prop :=
  e = .returned (.tuple #[.agg #[.int .i64 (wv : Int), .int .i64 st, .bool sp, .bool dd], .int .i64 0, .int .i64 (wv : Int), .int .i64 ds]) ∧ Kept (fun i => i = nb) W w'

set_option maxRecDepth 100000 in
set_option maxHeartbeats 4000000 in
theorem bh_eq {W : World} {nb mb sb : Nat} {wv h : Nat} {w : Int} {p : Option Addr} {n cap : Nat} {st : Int} {sp dd : Bool} (kn : ZB W nb (wv : Int) st sp dd) (km : OwnM W mb w h p n cap) (ks : ZB W sb (wv : Int) st sp dd) (hnm : ¬ mb = nb) (hns : ¬ sb = nb) (hw : wv ≤ 64) (hc : wv + 1 = h) :
    Calls Try.prog 33 #[.pointer (some ⟨nb, 0, none⟩), .pointer (some ⟨mb, 0, none⟩), .pointer (some ⟨sb, 0, none⟩)] W fun e w' => BhPost W nb (wv + 1) 6 sp dd 4 e w' := by
  unfold BhPost
  have K3 := hide (ZB.new W 0 0 false false)
  have e1 := bal (o := .cells #[.int .i64 0, .int .i64 0, .bool false, .bool false] 61) (Below.refl W.heap.size W)
  have KN := hide (kn.keep e1)
  have KM := hide (km.keep e1)
  have KS := hide (ks.keep e1)
  have Hk1 := hide ((Kept.refl (fun i => i = nb) W).below e1)
  have Hlt := hide (show nb ≠ W.heap.size by have := kn.1.1; omega)
  have kk : ((wv : Int) + 1 == (h : Int)) = true := by simp; omega
  have e3 : wrap64 ((wv : Int) + 1) = (wv : Int) + 1 := by unfold wrap64; omega
  clear e1 kn km ks hc
  go_enter Try.func33, Try.ntmps33
  go_upto_region 1 with fail
  generalize W.alloc (.cells #[.int .i64 0, .int .i64 0, .bool false, .bool false] 61) = w1 at *
  obtain ⟨br, hbr⟩ : ∃ b, b = W.heap.size := ⟨_, rfl⟩
  rw [← hbr] at K3 Hlt
  rw [← hbr]
  have Hbr := hide hbr
  clear hbr
  obtain ⟨-, ⟨n0, n1, n2, n3⟩, u0, u1, u2, u3⟩ := unhide KN
  go_upto_region 2 with fail
  have KN2 := hide ((unhide KN).woven ((wv : Int) + 1))
  have hk2 : Kept (fun i => i = nb) w1 (w1.setCell ⟨nb, 0, none⟩ (.int .i64 ((wv : Int) + 1))) := kset _ _ _ _
  generalize w1.setCell ⟨nb, 0, none⟩ (.int .i64 ((wv : Int) + 1)) = w2 at *
  have KM2 := hide ((unhide KM).kept hk2 hnm)
  have KS2 := hide ((unhide KS).kept hk2 hns)
  have K32 := hide ((unhide K3).kept hk2 (fun e => unhide Hlt e.symm))
  have Hk2 := hide ((unhide Hk1).trans hk2)
  clear n0 n1 n2 n3 u0 u1 u2 u3 hk2
  obtain ⟨-, ⟨n0, n1, n2, n3⟩, u0, u1, u2, u3⟩ := unhide KN2
  obtain ⟨-, m1, m2, m3⟩ := unhide KM2
  obtain ⟨-, ⟨s0, s1, s2, s3⟩, -⟩ := unhide KS2
  go_upto_region 4 with fail
  have KN3 := hide ((unhide KN2).state 6)
  have hk3 : Kept (fun i => i = nb) w2 (w2.setCell ⟨nb, 1, none⟩ (.int .i64 6)) := kset _ _ _ _
  generalize w2.setCell ⟨nb, 1, none⟩ (.int .i64 6) = w3 at *
  have K33 := hide ((unhide K32).kept hk3 (fun e => unhide Hlt e.symm))
  have Hk3 := hide ((unhide Hk2).trans hk3)
  clear n0 n1 n2 n3 u0 u1 u2 u3 m1 m2 m3 s0 s1 s2 s3 hk3
  obtain ⟨-, ⟨n0, n1, n2, n3⟩, u0, u1, u2, u3⟩ := unhide KN3
  obtain ⟨-, ⟨z0, z1, z2, z3⟩, v0, v1, v2, v3⟩ := unhide K33
  have hbn : br ≠ nb := fun e => unhide Hlt e.symm
  have K4 := ((((unhide K33).woven ((wv : Int) + 1)).state 6).stop sp).dead dd
  have HK4 := hide ((((((unhide Hk3).set (b := br) 0 (.int .i64 ((wv : Int) + 1)) (.inr (Nat.le_of_eq (unhide Hbr).symm))).set (b := br) 1 (.int .i64 6) (.inr (Nat.le_of_eq (unhide Hbr).symm))).set (b := br) 2 (.bool sp) (.inr (Nat.le_of_eq (unhide Hbr).symm))).set (b := br) 3 (.bool dd) (.inr (Nat.le_of_eq (unhide Hbr).symm))).below (bdrew _))
  have HK4' := hide K4
  clear K4
  go_region
  all_goals
    go_wp2
    obtain ⟨-, ⟨q0, q1, q2, q3⟩, -⟩ := unhide HK4'
    refine bodyPost_ret (v := .tuple #[.agg #[.int .i64 ((wv : Int) + 1), .int .i64 6, .bool sp, .bool dd], .int .i64 0, .int .i64 ((wv : Int) + 1), .int .i64 4]) ?_ rfl ⟨rfl, unhide HK4⟩
    simp [results, Try.results33, go_sem, q0, q1, q2, q3]

set_option maxRecDepth 100000 in
set_option maxHeartbeats 4000000 in
theorem bh_halt {W : World} {nb mb sb : Nat} {wv h : Nat} {w : Int} {p : Option Addr} {n cap : Nat} {st : Int} {sp dd : Bool} (kn : ZB W nb (wv : Int) st sp dd) (km : OwnM W mb w h p n cap) (ks : ZB W sb (wv : Int) st sp dd) (hnm : ¬ mb = nb) (hns : ¬ sb = nb) (hw : wv ≤ 64) (hc : ¬ wv + 1 = h) (hs : (sp || st == 5) = true) :
    Calls Try.prog 33 #[.pointer (some ⟨nb, 0, none⟩), .pointer (some ⟨mb, 0, none⟩), .pointer (some ⟨sb, 0, none⟩)] W fun e w' => BhPost W nb (wv + 1) 0 false dd 4 e w' := by
  unfold BhPost
  cases sp
  all_goals
    have K3 := hide (ZB.new W 0 0 false false)
    have e1 := bal (o := .cells #[.int .i64 0, .int .i64 0, .bool false, .bool false] 61) (Below.refl W.heap.size W)
    have KN := hide (kn.keep e1)
    have KM := hide (km.keep e1)
    have KS := hide (ks.keep e1)
    have Hk1 := hide ((Kept.refl (fun i => i = nb) W).below e1)
    have Hlt := hide (show nb ≠ W.heap.size by have := kn.1.1; omega)
    have kk : ((wv : Int) + 1 == (h : Int)) = false := by simp; omega
    have e3 : wrap64 ((wv : Int) + 1) = (wv : Int) + 1 := by unfold wrap64; omega
    clear e1 kn km ks hc
    go_enter Try.func33, Try.ntmps33
    go_upto_region 1 with fail
    generalize W.alloc (.cells #[.int .i64 0, .int .i64 0, .bool false, .bool false] 61) = w1 at *
    obtain ⟨br, hbr⟩ : ∃ b, b = W.heap.size := ⟨_, rfl⟩
    rw [← hbr] at K3 Hlt
    rw [← hbr]
    have Hbr := hide hbr
    clear hbr
    obtain ⟨-, ⟨n0, n1, n2, n3⟩, u0, u1, u2, u3⟩ := unhide KN
    go_upto_region 2 with fail
    have KN2 := hide ((unhide KN).woven ((wv : Int) + 1))
    have hk2 : Kept (fun i => i = nb) w1 (w1.setCell ⟨nb, 0, none⟩ (.int .i64 ((wv : Int) + 1))) := kset _ _ _ _
    generalize w1.setCell ⟨nb, 0, none⟩ (.int .i64 ((wv : Int) + 1)) = w2 at *
    have KM2 := hide ((unhide KM).kept hk2 hnm)
    have KS2 := hide ((unhide KS).kept hk2 hns)
    have K32 := hide ((unhide K3).kept hk2 (fun e => unhide Hlt e.symm))
    have Hk2 := hide ((unhide Hk1).trans hk2)
    clear n0 n1 n2 n3 u0 u1 u2 u3 hk2
    obtain ⟨-, ⟨n0, n1, n2, n3⟩, u0, u1, u2, u3⟩ := unhide KN2
    obtain ⟨-, m1, m2, m3⟩ := unhide KM2
    obtain ⟨-, ⟨s0, s1, s2, s3⟩, -⟩ := unhide KS2
    go_upto_region 7 with fail
    have KN3 := hide (((unhide KN2).state 0).stop false)
    have hk3 : Kept (fun i => i = nb) w2 ((w2.setCell ⟨nb, 1, none⟩ (.int .i64 0)).setCell ⟨nb, 2, none⟩ (.bool false)) := ((Kept.refl (fun i => i = nb) w2).set (b := nb) 1 (.int .i64 0) (.inl rfl)).set (b := nb) 2 (.bool false) (.inl rfl)
    generalize (w2.setCell ⟨nb, 1, none⟩ (.int .i64 0)).setCell ⟨nb, 2, none⟩ (.bool false) = w3 at *
    have K33 := hide ((unhide K32).kept hk3 (fun e => unhide Hlt e.symm))
    have Hk3 := hide ((unhide Hk2).trans hk3)
    clear n0 n1 n2 n3 u0 u1 u2 u3 m1 m2 m3 s0 s1 s2 s3 hk3
    obtain ⟨-, ⟨n0, n1, n2, n3⟩, u0, u1, u2, u3⟩ := unhide KN3
    obtain ⟨-, ⟨z0, z1, z2, z3⟩, v0, v1, v2, v3⟩ := unhide K33
    have hbn : br ≠ nb := fun e => unhide Hlt e.symm
    have K4 := ((((unhide K33).woven ((wv : Int) + 1)).state 0).stop false).dead dd
    have HK4 := hide ((((((unhide Hk3).set (b := br) 0 (.int .i64 ((wv : Int) + 1)) (.inr (Nat.le_of_eq (unhide Hbr).symm))).set (b := br) 1 (.int .i64 0) (.inr (Nat.le_of_eq (unhide Hbr).symm))).set (b := br) 2 (.bool false) (.inr (Nat.le_of_eq (unhide Hbr).symm))).set (b := br) 3 (.bool dd) (.inr (Nat.le_of_eq (unhide Hbr).symm))).below (bdrew _))
    have HK4' := hide K4
    clear K4
    go_region
    all_goals
      go_wp2
      obtain ⟨-, ⟨q0, q1, q2, q3⟩, -⟩ := unhide HK4'
      refine bodyPost_ret (v := .tuple #[.agg #[.int .i64 ((wv : Int) + 1), .int .i64 0, .bool false, .bool dd], .int .i64 0, .int .i64 ((wv : Int) + 1), .int .i64 4]) ?_ rfl ⟨rfl, unhide HK4⟩
      simp [results, Try.results33, go_sem, q0, q1, q2, q3]

set_option maxRecDepth 100000 in
set_option maxHeartbeats 4000000 in
theorem bh_go {W : World} {nb mb sb : Nat} {wv h : Nat} {w : Int} {p : Option Addr} {n cap : Nat} {st : Int} {sp dd : Bool} (kn : ZB W nb (wv : Int) st sp dd) (km : OwnM W mb w h p n cap) (ks : ZB W sb (wv : Int) st sp dd) (hnm : ¬ mb = nb) (hns : ¬ sb = nb) (hw : wv ≤ 64) (hc : ¬ wv + 1 = h) (hs : (sp || st == 5) = false) :
    Calls Try.prog 33 #[.pointer (some ⟨nb, 0, none⟩), .pointer (some ⟨mb, 0, none⟩), .pointer (some ⟨sb, 0, none⟩)] W fun e w' => BhPost W nb (wv + 1) 1 sp dd 1 e w' := by
  unfold BhPost
  obtain ⟨rfl, hs'⟩ : sp = false ∧ (st == 5) = false := by simpa using hs
  clear hs
  have K3 := hide (ZB.new W 0 0 false false)
  have e1 := bal (o := .cells #[.int .i64 0, .int .i64 0, .bool false, .bool false] 61) (Below.refl W.heap.size W)
  have KN := hide (kn.keep e1)
  have KM := hide (km.keep e1)
  have KS := hide (ks.keep e1)
  have Hk1 := hide ((Kept.refl (fun i => i = nb) W).below e1)
  have Hlt := hide (show nb ≠ W.heap.size by have := kn.1.1; omega)
  have kk : ((wv : Int) + 1 == (h : Int)) = false := by simp; omega
  have e3 : wrap64 ((wv : Int) + 1) = (wv : Int) + 1 := by unfold wrap64; omega
  clear e1 kn km ks hc
  go_enter Try.func33, Try.ntmps33
  go_upto_region 1 with fail
  generalize W.alloc (.cells #[.int .i64 0, .int .i64 0, .bool false, .bool false] 61) = w1 at *
  obtain ⟨br, hbr⟩ : ∃ b, b = W.heap.size := ⟨_, rfl⟩
  rw [← hbr] at K3 Hlt
  rw [← hbr]
  have Hbr := hide hbr
  clear hbr
  obtain ⟨-, ⟨n0, n1, n2, n3⟩, u0, u1, u2, u3⟩ := unhide KN
  go_upto_region 2 with fail
  have KN2 := hide ((unhide KN).woven ((wv : Int) + 1))
  have hk2 : Kept (fun i => i = nb) w1 (w1.setCell ⟨nb, 0, none⟩ (.int .i64 ((wv : Int) + 1))) := kset _ _ _ _
  generalize w1.setCell ⟨nb, 0, none⟩ (.int .i64 ((wv : Int) + 1)) = w2 at *
  have KM2 := hide ((unhide KM).kept hk2 hnm)
  have KS2 := hide ((unhide KS).kept hk2 hns)
  have K32 := hide ((unhide K3).kept hk2 (fun e => unhide Hlt e.symm))
  have Hk2 := hide ((unhide Hk1).trans hk2)
  clear n0 n1 n2 n3 u0 u1 u2 u3 hk2
  obtain ⟨-, ⟨n0, n1, n2, n3⟩, u0, u1, u2, u3⟩ := unhide KN2
  obtain ⟨-, m1, m2, m3⟩ := unhide KM2
  obtain ⟨-, ⟨s0, s1, s2, s3⟩, -⟩ := unhide KS2
  go_upto_region 9 with fail
  have KN3 := hide ((unhide KN2).state 1)
  have hk3 : Kept (fun i => i = nb) w2 (w2.setCell ⟨nb, 1, none⟩ (.int .i64 1)) := kset _ _ _ _
  generalize w2.setCell ⟨nb, 1, none⟩ (.int .i64 1) = w3 at *
  have K33 := hide ((unhide K32).kept hk3 (fun e => unhide Hlt e.symm))
  have Hk3 := hide ((unhide Hk2).trans hk3)
  clear n0 n1 n2 n3 u0 u1 u2 u3 m1 m2 m3 s0 s1 s2 s3 hk3
  obtain ⟨-, ⟨n0, n1, n2, n3⟩, u0, u1, u2, u3⟩ := unhide KN3
  obtain ⟨-, ⟨z0, z1, z2, z3⟩, v0, v1, v2, v3⟩ := unhide K33
  have hbn : br ≠ nb := fun e => unhide Hlt e.symm
  have K4 := ((((unhide K33).woven ((wv : Int) + 1)).state 1).stop false).dead dd
  have HK4 := hide ((((((unhide Hk3).set (b := br) 0 (.int .i64 ((wv : Int) + 1)) (.inr (Nat.le_of_eq (unhide Hbr).symm))).set (b := br) 1 (.int .i64 1) (.inr (Nat.le_of_eq (unhide Hbr).symm))).set (b := br) 2 (.bool false) (.inr (Nat.le_of_eq (unhide Hbr).symm))).set (b := br) 3 (.bool dd) (.inr (Nat.le_of_eq (unhide Hbr).symm))).below (bdrew _))
  have HK4' := hide K4
  clear K4
  go_region
  all_goals
    go_wp2
    obtain ⟨-, ⟨q0, q1, q2, q3⟩, -⟩ := unhide HK4'
    refine bodyPost_ret (v := .tuple #[.agg #[.int .i64 ((wv : Int) + 1), .int .i64 1, .bool false, .bool dd], .int .i64 0, .int .i64 ((wv : Int) + 1), .int .i64 1]) ?_ rfl ⟨rfl, unhide HK4⟩
    simp [results, Try.results33, go_sem, q0, q1, q2, q3]
end Go.Proofs.Ytndfecdhmncdaaa
