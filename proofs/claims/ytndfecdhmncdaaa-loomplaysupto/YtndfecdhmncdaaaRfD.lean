/-
  The document's own loom: Told.
-/
import Derived.Test.YtndfecdhmncdaaaRfC
namespace Go.Proofs.Ytndfecdhmncdaaa
open Go.RowKit

theorem bh_any {W : World} {nb mb sb : Nat} {wv h : Nat} {w : Int} {p : Option Addr} {n cap : Nat} {st : Int} {sp dd : Bool} (kn : ZB W nb (wv : Int) st sp dd) (km : OwnM W mb w h p n cap) (ks : ZB W sb (wv : Int) st sp dd) (hnm : ¬ mb = nb) (hns : ¬ sb = nb) (hw : wv ≤ 64) :
    Calls Try.prog 33 #[.pointer (some ⟨nb, 0, none⟩), .pointer (some ⟨mb, 0, none⟩), .pointer (some ⟨sb, 0, none⟩)] W fun e w' => BhPost W nb (wv + 1) (nxS h wv sp st) (bhSp h wv st sp) dd (nxD h wv sp st) e w' := by
  unfold nxS nxD bhSp
  by_cases c : wv + 1 = h
  · rw [if_pos c, if_pos c, if_pos c]; exact bh_eq kn km ks hnm hns hw c
  · rw [if_neg c, if_neg c, if_neg c]
    cases hs : (sp || st == 5) with
    | true => exact bh_halt kn km ks hnm hns hw c hs
    | false => exact bh_go kn km ks hnm hns hw c hs

def ToldIs (W : World) (w h : Int) (p : Option Addr) (n cap : Nat) (wv : Nat) (st : Int) (sp dd : Bool) (ev : Int) (wv' : Nat) (st' : Int) (sp' : Bool) (a u d : Int) : Prop :=
  Calls Try.prog 20 #[tr w h p n cap, .agg #[.int .i64 (wv : Int), .int .i64 st, .bool sp, .bool dd], .int .i64 ev] W fun e w' => e = .returned (.tuple #[.agg #[.int .i64 (wv' : Int), .int .i64 st', .bool sp', .bool dd], .int .i64 a, .int .i64 u, .int .i64 d]) ∧ Below W.heap.size W w'

set_option maxRecDepth 100000 in
set_option maxHeartbeats 4000000 in
theorem told_1 {W : World} {w : Int} {h : Nat} {p : Option Addr} {n cap : Nat} {wv : Nat} {st : Int} {sp dd : Bool} : ToldIs W w h p n cap wv st sp dd 1 wv 1 sp (-1) 0 1 := by
  unfold ToldIs
  have one := fun (U : World) (oo : Obj) => bal (o := oo) (Below.refl U.heap.size U)
  have O4 := (((OwnM.new W w h p n cap 24).keep (one _ (.cells #[.int .i64 (wv : Int), .int .i64 st, .bool sp, .bool dd] 61))).keep (one _ (.cells #[.int .i64 0, .int .i64 0, .bool false, .bool false] 61))).keep (one _ (.cells #[.int .i64 (wv : Int), .int .i64 st, .bool sp, .bool dd] 61))
  have S4 := ((ZB.new (W.alloc (.cells #[.int .i64 w, .int .i64 h, .slice p n cap] 24)) (wv : Int) st sp dd).keep (one _ (.cells #[.int .i64 0, .int .i64 0, .bool false, .bool false] 61))).keep (one _ (.cells #[.int .i64 (wv : Int), .int .i64 st, .bool sp, .bool dd] 61))
  have R4' := (ZB.new ((W.alloc (.cells #[.int .i64 w, .int .i64 h, .slice p n cap] 24)).alloc (.cells #[.int .i64 (wv : Int), .int .i64 st, .bool sp, .bool dd] 61)) 0 0 false false).keep (one _ (.cells #[.int .i64 (wv : Int), .int .i64 st, .bool sp, .bool dd] 61))
  have N4 := ZB.new (((W.alloc (.cells #[.int .i64 w, .int .i64 h, .slice p n cap] 24)).alloc (.cells #[.int .i64 (wv : Int), .int .i64 st, .bool sp, .bool dd] 61)).alloc (.cells #[.int .i64 0, .int .i64 0, .bool false, .bool false] 61)) (wv : Int) st sp dd
  have B4 := hide (bal (o := .cells #[.int .i64 (wv : Int), .int .i64 st, .bool sp, .bool dd] 61) (bal (o := .cells #[.int .i64 0, .int .i64 0, .bool false, .bool false] 61) (bal (o := .cells #[.int .i64 (wv : Int), .int .i64 st, .bool sp, .bool dd] 61) (bal (o := .cells #[.int .i64 w, .int .i64 h, .slice p n cap] 24) (Below.refl W.heap.size W)))))
  simp only [World.size_alloc] at S4 R4' N4
  have HO := hide O4
  have HS := hide S4
  have HR := hide R4'
  have HN := hide N4
  clear O4 S4 R4' N4 one
  obtain ⟨b0, hb0⟩ : ∃ b, b = W.heap.size := ⟨_, rfl⟩
  go_enter Try.func20, Try.ntmps20
  go_upto_region 3 with fail
  rw [← hb0] at HO HS HR HN
  rw [← hb0]
  generalize (((W.alloc (.cells #[.int .i64 w, .int .i64 h, .slice p n cap] 24)).alloc (.cells #[.int .i64 (wv : Int), .int .i64 st, .bool sp, .bool dd] 61)).alloc (.cells #[.int .i64 0, .int .i64 0, .bool false, .bool false] 61)).alloc (.cells #[.int .i64 (wv : Int), .int .i64 st, .bool sp, .bool dd] 61) = w1 at *
  have Hb0 := hide hb0
  clear hb0
  obtain ⟨b1, hb1⟩ : ∃ b, b = b0 + 1 := ⟨_, rfl⟩
  rw [← hb1] at HS HR HN
  rw [← hb1]
  obtain ⟨b2, hb2⟩ : ∃ b, b = b1 + 1 := ⟨_, rfl⟩
  rw [← hb2] at HR HN
  rw [← hb2]
  obtain ⟨b3, hb3⟩ : ∃ b, b = b2 + 1 := ⟨_, rfl⟩
  rw [← hb3] at HN
  rw [← hb3]
  have Hne := hide (show b0 = W.heap.size ∧ b0 < b1 ∧ b1 < b2 ∧ b2 < b3 from ⟨unhide Hb0, by omega, by omega, by omega⟩)
  have x1 : b2 ≠ b3 := by omega
  have x2 : b3 ≠ b2 := by omega
  clear hb1 hb2 hb3
  obtain ⟨-, ⟨n0, n1, n2, n3⟩, u0, u1, u2, u3⟩ := unhide HN
  go_upto_region 6 with fail
  have HN2 := hide ((unhide HN).state 1)
  have hk2 : Kept (fun i => i = b3) w1 (w1.setCell ⟨b3, 1, none⟩ (.int .i64 1)) := kset _ _ _ _
  generalize w1.setCell ⟨b3, 1, none⟩ (.int .i64 1) = w2 at *
  have HR2 := hide ((unhide HR).kept hk2 x1)
  have B2 := hide (Kept.back (unhide B4) hk2 (unhide B4).size (fun i e => by have := unhide Hne; omega))
  clear n0 n1 n2 n3 u0 u1 u2 u3
  obtain ⟨-, ⟨n0, n1, n2, n3⟩, -⟩ := unhide HN2
  obtain ⟨-, ⟨r0, r1, r2, r3⟩, v0, v1, v2, v3⟩ := unhide HR2
  obtain ⟨x9, hx9, hZ9, hk9⟩ := (unhide HR2).put (wv : Int) 1 sp dd
  have HZ9 := hide hZ9
  have HB9 := hide (Kept.back (unhide B2) hk9 (unhide B2).size (fun i e => by have := unhide Hne; omega))
  clear hZ9 hk9 hk2
  go_wp2
  obtain ⟨-, ⟨q0, q1, q2, q3⟩, -⟩ := unhide HZ9
  refine bodyPost_ret (v := .tuple #[.agg #[.int .i64 (wv : Int), .int .i64 1, .bool sp, .bool dd], .int .i64 (-1), .int .i64 0, .int .i64 1]) ?_ rfl ⟨rfl, unhide HB9⟩
  simp [results, Try.results20, go_sem, q0, q1, q2, q3]

set_option maxRecDepth 100000 in
set_option maxHeartbeats 4000000 in
theorem told_2 {W : World} {w : Int} {h : Nat} {p : Option Addr} {n cap : Nat} {wv : Nat} {st : Int} {sp dd : Bool} : ToldIs W w h p n cap wv st sp dd 2 wv 2 sp (-1) 0 2 := by
  unfold ToldIs
  have one := fun (U : World) (oo : Obj) => bal (o := oo) (Below.refl U.heap.size U)
  have O4 := (((OwnM.new W w h p n cap 24).keep (one _ (.cells #[.int .i64 (wv : Int), .int .i64 st, .bool sp, .bool dd] 61))).keep (one _ (.cells #[.int .i64 0, .int .i64 0, .bool false, .bool false] 61))).keep (one _ (.cells #[.int .i64 (wv : Int), .int .i64 st, .bool sp, .bool dd] 61))
  have S4 := ((ZB.new (W.alloc (.cells #[.int .i64 w, .int .i64 h, .slice p n cap] 24)) (wv : Int) st sp dd).keep (one _ (.cells #[.int .i64 0, .int .i64 0, .bool false, .bool false] 61))).keep (one _ (.cells #[.int .i64 (wv : Int), .int .i64 st, .bool sp, .bool dd] 61))
  have R4' := (ZB.new ((W.alloc (.cells #[.int .i64 w, .int .i64 h, .slice p n cap] 24)).alloc (.cells #[.int .i64 (wv : Int), .int .i64 st, .bool sp, .bool dd] 61)) 0 0 false false).keep (one _ (.cells #[.int .i64 (wv : Int), .int .i64 st, .bool sp, .bool dd] 61))
  have N4 := ZB.new (((W.alloc (.cells #[.int .i64 w, .int .i64 h, .slice p n cap] 24)).alloc (.cells #[.int .i64 (wv : Int), .int .i64 st, .bool sp, .bool dd] 61)).alloc (.cells #[.int .i64 0, .int .i64 0, .bool false, .bool false] 61)) (wv : Int) st sp dd
  have B4 := hide (bal (o := .cells #[.int .i64 (wv : Int), .int .i64 st, .bool sp, .bool dd] 61) (bal (o := .cells #[.int .i64 0, .int .i64 0, .bool false, .bool false] 61) (bal (o := .cells #[.int .i64 (wv : Int), .int .i64 st, .bool sp, .bool dd] 61) (bal (o := .cells #[.int .i64 w, .int .i64 h, .slice p n cap] 24) (Below.refl W.heap.size W)))))
  simp only [World.size_alloc] at S4 R4' N4
  have HO := hide O4
  have HS := hide S4
  have HR := hide R4'
  have HN := hide N4
  clear O4 S4 R4' N4 one
  obtain ⟨b0, hb0⟩ : ∃ b, b = W.heap.size := ⟨_, rfl⟩
  go_enter Try.func20, Try.ntmps20
  go_upto_region 3 with fail
  rw [← hb0] at HO HS HR HN
  rw [← hb0]
  generalize (((W.alloc (.cells #[.int .i64 w, .int .i64 h, .slice p n cap] 24)).alloc (.cells #[.int .i64 (wv : Int), .int .i64 st, .bool sp, .bool dd] 61)).alloc (.cells #[.int .i64 0, .int .i64 0, .bool false, .bool false] 61)).alloc (.cells #[.int .i64 (wv : Int), .int .i64 st, .bool sp, .bool dd] 61) = w1 at *
  have Hb0 := hide hb0
  clear hb0
  obtain ⟨b1, hb1⟩ : ∃ b, b = b0 + 1 := ⟨_, rfl⟩
  rw [← hb1] at HS HR HN
  rw [← hb1]
  obtain ⟨b2, hb2⟩ : ∃ b, b = b1 + 1 := ⟨_, rfl⟩
  rw [← hb2] at HR HN
  rw [← hb2]
  obtain ⟨b3, hb3⟩ : ∃ b, b = b2 + 1 := ⟨_, rfl⟩
  rw [← hb3] at HN
  rw [← hb3]
  have Hne := hide (show b0 = W.heap.size ∧ b0 < b1 ∧ b1 < b2 ∧ b2 < b3 from ⟨unhide Hb0, by omega, by omega, by omega⟩)
  have x1 : b2 ≠ b3 := by omega
  have x2 : b3 ≠ b2 := by omega
  clear hb1 hb2 hb3
  obtain ⟨-, ⟨n0, n1, n2, n3⟩, u0, u1, u2, u3⟩ := unhide HN
  go_upto_region 9 with fail
  have HN2 := hide ((unhide HN).state 2)
  have hk2 : Kept (fun i => i = b3) w1 (w1.setCell ⟨b3, 1, none⟩ (.int .i64 2)) := kset _ _ _ _
  generalize w1.setCell ⟨b3, 1, none⟩ (.int .i64 2) = w2 at *
  have HR2 := hide ((unhide HR).kept hk2 x1)
  have B2 := hide (Kept.back (unhide B4) hk2 (unhide B4).size (fun i e => by have := unhide Hne; omega))
  clear n0 n1 n2 n3 u0 u1 u2 u3
  obtain ⟨-, ⟨n0, n1, n2, n3⟩, -⟩ := unhide HN2
  obtain ⟨-, ⟨r0, r1, r2, r3⟩, v0, v1, v2, v3⟩ := unhide HR2
  obtain ⟨x9, hx9, hZ9, hk9⟩ := (unhide HR2).put (wv : Int) 2 sp dd
  have HZ9 := hide hZ9
  have HB9 := hide (Kept.back (unhide B2) hk9 (unhide B2).size (fun i e => by have := unhide Hne; omega))
  clear hZ9 hk9 hk2
  go_wp2
  obtain ⟨-, ⟨q0, q1, q2, q3⟩, -⟩ := unhide HZ9
  refine bodyPost_ret (v := .tuple #[.agg #[.int .i64 (wv : Int), .int .i64 2, .bool sp, .bool dd], .int .i64 (-1), .int .i64 0, .int .i64 2]) ?_ rfl ⟨rfl, unhide HB9⟩
  simp [results, Try.results20, go_sem, q0, q1, q2, q3]

set_option maxRecDepth 100000 in
set_option maxHeartbeats 4000000 in
theorem told_4 {W : World} {w : Int} {h : Nat} {p : Option Addr} {n cap : Nat} {wv : Nat} {st : Int} {sp dd : Bool} : ToldIs W w h p n cap wv st sp dd 4 wv 3 sp (-1) 0 4 := by
  unfold ToldIs
  have one := fun (U : World) (oo : Obj) => bal (o := oo) (Below.refl U.heap.size U)
  have O4 := (((OwnM.new W w h p n cap 24).keep (one _ (.cells #[.int .i64 (wv : Int), .int .i64 st, .bool sp, .bool dd] 61))).keep (one _ (.cells #[.int .i64 0, .int .i64 0, .bool false, .bool false] 61))).keep (one _ (.cells #[.int .i64 (wv : Int), .int .i64 st, .bool sp, .bool dd] 61))
  have S4 := ((ZB.new (W.alloc (.cells #[.int .i64 w, .int .i64 h, .slice p n cap] 24)) (wv : Int) st sp dd).keep (one _ (.cells #[.int .i64 0, .int .i64 0, .bool false, .bool false] 61))).keep (one _ (.cells #[.int .i64 (wv : Int), .int .i64 st, .bool sp, .bool dd] 61))
  have R4' := (ZB.new ((W.alloc (.cells #[.int .i64 w, .int .i64 h, .slice p n cap] 24)).alloc (.cells #[.int .i64 (wv : Int), .int .i64 st, .bool sp, .bool dd] 61)) 0 0 false false).keep (one _ (.cells #[.int .i64 (wv : Int), .int .i64 st, .bool sp, .bool dd] 61))
  have N4 := ZB.new (((W.alloc (.cells #[.int .i64 w, .int .i64 h, .slice p n cap] 24)).alloc (.cells #[.int .i64 (wv : Int), .int .i64 st, .bool sp, .bool dd] 61)).alloc (.cells #[.int .i64 0, .int .i64 0, .bool false, .bool false] 61)) (wv : Int) st sp dd
  have B4 := hide (bal (o := .cells #[.int .i64 (wv : Int), .int .i64 st, .bool sp, .bool dd] 61) (bal (o := .cells #[.int .i64 0, .int .i64 0, .bool false, .bool false] 61) (bal (o := .cells #[.int .i64 (wv : Int), .int .i64 st, .bool sp, .bool dd] 61) (bal (o := .cells #[.int .i64 w, .int .i64 h, .slice p n cap] 24) (Below.refl W.heap.size W)))))
  simp only [World.size_alloc] at S4 R4' N4
  have HO := hide O4
  have HS := hide S4
  have HR := hide R4'
  have HN := hide N4
  clear O4 S4 R4' N4 one
  obtain ⟨b0, hb0⟩ : ∃ b, b = W.heap.size := ⟨_, rfl⟩
  go_enter Try.func20, Try.ntmps20
  go_upto_region 3 with fail
  rw [← hb0] at HO HS HR HN
  rw [← hb0]
  generalize (((W.alloc (.cells #[.int .i64 w, .int .i64 h, .slice p n cap] 24)).alloc (.cells #[.int .i64 (wv : Int), .int .i64 st, .bool sp, .bool dd] 61)).alloc (.cells #[.int .i64 0, .int .i64 0, .bool false, .bool false] 61)).alloc (.cells #[.int .i64 (wv : Int), .int .i64 st, .bool sp, .bool dd] 61) = w1 at *
  have Hb0 := hide hb0
  clear hb0
  obtain ⟨b1, hb1⟩ : ∃ b, b = b0 + 1 := ⟨_, rfl⟩
  rw [← hb1] at HS HR HN
  rw [← hb1]
  obtain ⟨b2, hb2⟩ : ∃ b, b = b1 + 1 := ⟨_, rfl⟩
  rw [← hb2] at HR HN
  rw [← hb2]
  obtain ⟨b3, hb3⟩ : ∃ b, b = b2 + 1 := ⟨_, rfl⟩
  rw [← hb3] at HN
  rw [← hb3]
  have Hne := hide (show b0 = W.heap.size ∧ b0 < b1 ∧ b1 < b2 ∧ b2 < b3 from ⟨unhide Hb0, by omega, by omega, by omega⟩)
  have x1 : b2 ≠ b3 := by omega
  have x2 : b3 ≠ b2 := by omega
  clear hb1 hb2 hb3
  obtain ⟨-, ⟨n0, n1, n2, n3⟩, u0, u1, u2, u3⟩ := unhide HN
  go_upto_region 15 with fail
  have HN2 := hide ((unhide HN).state 3)
  have hk2 : Kept (fun i => i = b3) w1 (w1.setCell ⟨b3, 1, none⟩ (.int .i64 3)) := kset _ _ _ _
  generalize w1.setCell ⟨b3, 1, none⟩ (.int .i64 3) = w2 at *
  have HR2 := hide ((unhide HR).kept hk2 x1)
  have B2 := hide (Kept.back (unhide B4) hk2 (unhide B4).size (fun i e => by have := unhide Hne; omega))
  clear n0 n1 n2 n3 u0 u1 u2 u3
  obtain ⟨-, ⟨n0, n1, n2, n3⟩, -⟩ := unhide HN2
  obtain ⟨-, ⟨r0, r1, r2, r3⟩, v0, v1, v2, v3⟩ := unhide HR2
  obtain ⟨x9, hx9, hZ9, hk9⟩ := (unhide HR2).put (wv : Int) 3 sp dd
  have HZ9 := hide hZ9
  have HB9 := hide (Kept.back (unhide B2) hk9 (unhide B2).size (fun i e => by have := unhide Hne; omega))
  clear hZ9 hk9 hk2
  go_wp2
  obtain ⟨-, ⟨q0, q1, q2, q3⟩, -⟩ := unhide HZ9
  refine bodyPost_ret (v := .tuple #[.agg #[.int .i64 (wv : Int), .int .i64 3, .bool sp, .bool dd], .int .i64 (-1), .int .i64 0, .int .i64 4]) ?_ rfl ⟨rfl, unhide HB9⟩
  simp [results, Try.results20, go_sem, q0, q1, q2, q3]

set_option maxRecDepth 100000 in
set_option maxHeartbeats 4000000 in
theorem told_5 {W : World} {w : Int} {h : Nat} {p : Option Addr} {n cap : Nat} {wv : Nat} {st : Int} {sp dd : Bool} : ToldIs W w h p n cap wv st sp dd 5 wv 1 sp (-1) 0 1 := by
  unfold ToldIs
  have one := fun (U : World) (oo : Obj) => bal (o := oo) (Below.refl U.heap.size U)
  have O4 := (((OwnM.new W w h p n cap 24).keep (one _ (.cells #[.int .i64 (wv : Int), .int .i64 st, .bool sp, .bool dd] 61))).keep (one _ (.cells #[.int .i64 0, .int .i64 0, .bool false, .bool false] 61))).keep (one _ (.cells #[.int .i64 (wv : Int), .int .i64 st, .bool sp, .bool dd] 61))
  have S4 := ((ZB.new (W.alloc (.cells #[.int .i64 w, .int .i64 h, .slice p n cap] 24)) (wv : Int) st sp dd).keep (one _ (.cells #[.int .i64 0, .int .i64 0, .bool false, .bool false] 61))).keep (one _ (.cells #[.int .i64 (wv : Int), .int .i64 st, .bool sp, .bool dd] 61))
  have R4' := (ZB.new ((W.alloc (.cells #[.int .i64 w, .int .i64 h, .slice p n cap] 24)).alloc (.cells #[.int .i64 (wv : Int), .int .i64 st, .bool sp, .bool dd] 61)) 0 0 false false).keep (one _ (.cells #[.int .i64 (wv : Int), .int .i64 st, .bool sp, .bool dd] 61))
  have N4 := ZB.new (((W.alloc (.cells #[.int .i64 w, .int .i64 h, .slice p n cap] 24)).alloc (.cells #[.int .i64 (wv : Int), .int .i64 st, .bool sp, .bool dd] 61)).alloc (.cells #[.int .i64 0, .int .i64 0, .bool false, .bool false] 61)) (wv : Int) st sp dd
  have B4 := hide (bal (o := .cells #[.int .i64 (wv : Int), .int .i64 st, .bool sp, .bool dd] 61) (bal (o := .cells #[.int .i64 0, .int .i64 0, .bool false, .bool false] 61) (bal (o := .cells #[.int .i64 (wv : Int), .int .i64 st, .bool sp, .bool dd] 61) (bal (o := .cells #[.int .i64 w, .int .i64 h, .slice p n cap] 24) (Below.refl W.heap.size W)))))
  simp only [World.size_alloc] at S4 R4' N4
  have HO := hide O4
  have HS := hide S4
  have HR := hide R4'
  have HN := hide N4
  clear O4 S4 R4' N4 one
  obtain ⟨b0, hb0⟩ : ∃ b, b = W.heap.size := ⟨_, rfl⟩
  go_enter Try.func20, Try.ntmps20
  go_upto_region 3 with fail
  rw [← hb0] at HO HS HR HN
  rw [← hb0]
  generalize (((W.alloc (.cells #[.int .i64 w, .int .i64 h, .slice p n cap] 24)).alloc (.cells #[.int .i64 (wv : Int), .int .i64 st, .bool sp, .bool dd] 61)).alloc (.cells #[.int .i64 0, .int .i64 0, .bool false, .bool false] 61)).alloc (.cells #[.int .i64 (wv : Int), .int .i64 st, .bool sp, .bool dd] 61) = w1 at *
  have Hb0 := hide hb0
  clear hb0
  obtain ⟨b1, hb1⟩ : ∃ b, b = b0 + 1 := ⟨_, rfl⟩
  rw [← hb1] at HS HR HN
  rw [← hb1]
  obtain ⟨b2, hb2⟩ : ∃ b, b = b1 + 1 := ⟨_, rfl⟩
  rw [← hb2] at HR HN
  rw [← hb2]
  obtain ⟨b3, hb3⟩ : ∃ b, b = b2 + 1 := ⟨_, rfl⟩
  rw [← hb3] at HN
  rw [← hb3]
  have Hne := hide (show b0 = W.heap.size ∧ b0 < b1 ∧ b1 < b2 ∧ b2 < b3 from ⟨unhide Hb0, by omega, by omega, by omega⟩)
  have x1 : b2 ≠ b3 := by omega
  have x2 : b3 ≠ b2 := by omega
  clear hb1 hb2 hb3
  obtain ⟨-, ⟨n0, n1, n2, n3⟩, u0, u1, u2, u3⟩ := unhide HN
  go_upto_region 18 with fail
  have HN2 := hide ((unhide HN).state 1)
  have hk2 : Kept (fun i => i = b3) w1 (w1.setCell ⟨b3, 1, none⟩ (.int .i64 1)) := kset _ _ _ _
  generalize w1.setCell ⟨b3, 1, none⟩ (.int .i64 1) = w2 at *
  have HR2 := hide ((unhide HR).kept hk2 x1)
  have B2 := hide (Kept.back (unhide B4) hk2 (unhide B4).size (fun i e => by have := unhide Hne; omega))
  clear n0 n1 n2 n3 u0 u1 u2 u3
  obtain ⟨-, ⟨n0, n1, n2, n3⟩, -⟩ := unhide HN2
  obtain ⟨-, ⟨r0, r1, r2, r3⟩, v0, v1, v2, v3⟩ := unhide HR2
  obtain ⟨x9, hx9, hZ9, hk9⟩ := (unhide HR2).put (wv : Int) 1 sp dd
  have HZ9 := hide hZ9
  have HB9 := hide (Kept.back (unhide B2) hk9 (unhide B2).size (fun i e => by have := unhide Hne; omega))
  clear hZ9 hk9 hk2
  go_wp2
  obtain ⟨-, ⟨q0, q1, q2, q3⟩, -⟩ := unhide HZ9
  refine bodyPost_ret (v := .tuple #[.agg #[.int .i64 (wv : Int), .int .i64 1, .bool sp, .bool dd], .int .i64 (-1), .int .i64 0, .int .i64 1]) ?_ rfl ⟨rfl, unhide HB9⟩
  simp [results, Try.results20, go_sem, q0, q1, q2, q3]

set_option maxRecDepth 100000 in
set_option maxHeartbeats 4000000 in
theorem told_7 {W : World} {w : Int} {h : Nat} {p : Option Addr} {n cap : Nat} {wv : Nat} {st : Int} {sp dd : Bool} : ToldIs W w h p n cap wv st sp dd 7 wv st true (-1) 0 0 := by
  unfold ToldIs
  have one := fun (U : World) (oo : Obj) => bal (o := oo) (Below.refl U.heap.size U)
  have O4 := (((OwnM.new W w h p n cap 24).keep (one _ (.cells #[.int .i64 (wv : Int), .int .i64 st, .bool sp, .bool dd] 61))).keep (one _ (.cells #[.int .i64 0, .int .i64 0, .bool false, .bool false] 61))).keep (one _ (.cells #[.int .i64 (wv : Int), .int .i64 st, .bool sp, .bool dd] 61))
  have S4 := ((ZB.new (W.alloc (.cells #[.int .i64 w, .int .i64 h, .slice p n cap] 24)) (wv : Int) st sp dd).keep (one _ (.cells #[.int .i64 0, .int .i64 0, .bool false, .bool false] 61))).keep (one _ (.cells #[.int .i64 (wv : Int), .int .i64 st, .bool sp, .bool dd] 61))
  have R4' := (ZB.new ((W.alloc (.cells #[.int .i64 w, .int .i64 h, .slice p n cap] 24)).alloc (.cells #[.int .i64 (wv : Int), .int .i64 st, .bool sp, .bool dd] 61)) 0 0 false false).keep (one _ (.cells #[.int .i64 (wv : Int), .int .i64 st, .bool sp, .bool dd] 61))
  have N4 := ZB.new (((W.alloc (.cells #[.int .i64 w, .int .i64 h, .slice p n cap] 24)).alloc (.cells #[.int .i64 (wv : Int), .int .i64 st, .bool sp, .bool dd] 61)).alloc (.cells #[.int .i64 0, .int .i64 0, .bool false, .bool false] 61)) (wv : Int) st sp dd
  have B4 := hide (bal (o := .cells #[.int .i64 (wv : Int), .int .i64 st, .bool sp, .bool dd] 61) (bal (o := .cells #[.int .i64 0, .int .i64 0, .bool false, .bool false] 61) (bal (o := .cells #[.int .i64 (wv : Int), .int .i64 st, .bool sp, .bool dd] 61) (bal (o := .cells #[.int .i64 w, .int .i64 h, .slice p n cap] 24) (Below.refl W.heap.size W)))))
  simp only [World.size_alloc] at S4 R4' N4
  have HO := hide O4
  have HS := hide S4
  have HR := hide R4'
  have HN := hide N4
  clear O4 S4 R4' N4 one
  obtain ⟨b0, hb0⟩ : ∃ b, b = W.heap.size := ⟨_, rfl⟩
  go_enter Try.func20, Try.ntmps20
  go_upto_region 3 with fail
  rw [← hb0] at HO HS HR HN
  rw [← hb0]
  generalize (((W.alloc (.cells #[.int .i64 w, .int .i64 h, .slice p n cap] 24)).alloc (.cells #[.int .i64 (wv : Int), .int .i64 st, .bool sp, .bool dd] 61)).alloc (.cells #[.int .i64 0, .int .i64 0, .bool false, .bool false] 61)).alloc (.cells #[.int .i64 (wv : Int), .int .i64 st, .bool sp, .bool dd] 61) = w1 at *
  have Hb0 := hide hb0
  clear hb0
  obtain ⟨b1, hb1⟩ : ∃ b, b = b0 + 1 := ⟨_, rfl⟩
  rw [← hb1] at HS HR HN
  rw [← hb1]
  obtain ⟨b2, hb2⟩ : ∃ b, b = b1 + 1 := ⟨_, rfl⟩
  rw [← hb2] at HR HN
  rw [← hb2]
  obtain ⟨b3, hb3⟩ : ∃ b, b = b2 + 1 := ⟨_, rfl⟩
  rw [← hb3] at HN
  rw [← hb3]
  have Hne := hide (show b0 = W.heap.size ∧ b0 < b1 ∧ b1 < b2 ∧ b2 < b3 from ⟨unhide Hb0, by omega, by omega, by omega⟩)
  have x1 : b2 ≠ b3 := by omega
  have x2 : b3 ≠ b2 := by omega
  clear hb1 hb2 hb3
  obtain ⟨-, ⟨n0, n1, n2, n3⟩, u0, u1, u2, u3⟩ := unhide HN
  go_upto_region 23 with fail
  have HN2 := hide ((unhide HN).stop true)
  have hk2 : Kept (fun i => i = b3) w1 (w1.setCell ⟨b3, 2, none⟩ (.bool true)) := kset _ _ _ _
  generalize w1.setCell ⟨b3, 2, none⟩ (.bool true) = w2 at *
  have HR2 := hide ((unhide HR).kept hk2 x1)
  have B2 := hide (Kept.back (unhide B4) hk2 (unhide B4).size (fun i e => by have := unhide Hne; omega))
  clear n0 n1 n2 n3 u0 u1 u2 u3
  obtain ⟨-, ⟨n0, n1, n2, n3⟩, -⟩ := unhide HN2
  obtain ⟨-, ⟨r0, r1, r2, r3⟩, v0, v1, v2, v3⟩ := unhide HR2
  obtain ⟨x9, hx9, hZ9, hk9⟩ := (unhide HR2).put (wv : Int) st true dd
  have HZ9 := hide hZ9
  have HB9 := hide (Kept.back (unhide B2) hk9 (unhide B2).size (fun i e => by have := unhide Hne; omega))
  clear hZ9 hk9 hk2
  go_wp2
  obtain ⟨-, ⟨q0, q1, q2, q3⟩, -⟩ := unhide HZ9
  refine bodyPost_ret (v := .tuple #[.agg #[.int .i64 (wv : Int), .int .i64 st, .bool true, .bool dd], .int .i64 (-1), .int .i64 0, .int .i64 0]) ?_ rfl ⟨rfl, unhide HB9⟩
  simp [results, Try.results20, go_sem, q0, q1, q2, q3]

set_option maxRecDepth 100000 in
set_option maxHeartbeats 4000000 in
theorem told_9 {W : World} {w : Int} {h : Nat} {p : Option Addr} {n cap : Nat} {wv : Nat} {st : Int} {sp dd : Bool} : ToldIs W w h p n cap wv st sp dd 9 wv 0 sp 1 0 0 := by
  unfold ToldIs
  have one := fun (U : World) (oo : Obj) => bal (o := oo) (Below.refl U.heap.size U)
  have O4 := (((OwnM.new W w h p n cap 24).keep (one _ (.cells #[.int .i64 (wv : Int), .int .i64 st, .bool sp, .bool dd] 61))).keep (one _ (.cells #[.int .i64 0, .int .i64 0, .bool false, .bool false] 61))).keep (one _ (.cells #[.int .i64 (wv : Int), .int .i64 st, .bool sp, .bool dd] 61))
  have S4 := ((ZB.new (W.alloc (.cells #[.int .i64 w, .int .i64 h, .slice p n cap] 24)) (wv : Int) st sp dd).keep (one _ (.cells #[.int .i64 0, .int .i64 0, .bool false, .bool false] 61))).keep (one _ (.cells #[.int .i64 (wv : Int), .int .i64 st, .bool sp, .bool dd] 61))
  have R4' := (ZB.new ((W.alloc (.cells #[.int .i64 w, .int .i64 h, .slice p n cap] 24)).alloc (.cells #[.int .i64 (wv : Int), .int .i64 st, .bool sp, .bool dd] 61)) 0 0 false false).keep (one _ (.cells #[.int .i64 (wv : Int), .int .i64 st, .bool sp, .bool dd] 61))
  have N4 := ZB.new (((W.alloc (.cells #[.int .i64 w, .int .i64 h, .slice p n cap] 24)).alloc (.cells #[.int .i64 (wv : Int), .int .i64 st, .bool sp, .bool dd] 61)).alloc (.cells #[.int .i64 0, .int .i64 0, .bool false, .bool false] 61)) (wv : Int) st sp dd
  have B4 := hide (bal (o := .cells #[.int .i64 (wv : Int), .int .i64 st, .bool sp, .bool dd] 61) (bal (o := .cells #[.int .i64 0, .int .i64 0, .bool false, .bool false] 61) (bal (o := .cells #[.int .i64 (wv : Int), .int .i64 st, .bool sp, .bool dd] 61) (bal (o := .cells #[.int .i64 w, .int .i64 h, .slice p n cap] 24) (Below.refl W.heap.size W)))))
  simp only [World.size_alloc] at S4 R4' N4
  have HO := hide O4
  have HS := hide S4
  have HR := hide R4'
  have HN := hide N4
  clear O4 S4 R4' N4 one
  obtain ⟨b0, hb0⟩ : ∃ b, b = W.heap.size := ⟨_, rfl⟩
  go_enter Try.func20, Try.ntmps20
  go_upto_region 3 with fail
  rw [← hb0] at HO HS HR HN
  rw [← hb0]
  generalize (((W.alloc (.cells #[.int .i64 w, .int .i64 h, .slice p n cap] 24)).alloc (.cells #[.int .i64 (wv : Int), .int .i64 st, .bool sp, .bool dd] 61)).alloc (.cells #[.int .i64 0, .int .i64 0, .bool false, .bool false] 61)).alloc (.cells #[.int .i64 (wv : Int), .int .i64 st, .bool sp, .bool dd] 61) = w1 at *
  have Hb0 := hide hb0
  clear hb0
  obtain ⟨b1, hb1⟩ : ∃ b, b = b0 + 1 := ⟨_, rfl⟩
  rw [← hb1] at HS HR HN
  rw [← hb1]
  obtain ⟨b2, hb2⟩ : ∃ b, b = b1 + 1 := ⟨_, rfl⟩
  rw [← hb2] at HR HN
  rw [← hb2]
  obtain ⟨b3, hb3⟩ : ∃ b, b = b2 + 1 := ⟨_, rfl⟩
  rw [← hb3] at HN
  rw [← hb3]
  have Hne := hide (show b0 = W.heap.size ∧ b0 < b1 ∧ b1 < b2 ∧ b2 < b3 from ⟨unhide Hb0, by omega, by omega, by omega⟩)
  have x1 : b2 ≠ b3 := by omega
  have x2 : b3 ≠ b2 := by omega
  clear hb1 hb2 hb3
  obtain ⟨-, ⟨n0, n1, n2, n3⟩, u0, u1, u2, u3⟩ := unhide HN
  go_upto_region 27 with fail
  have HN2 := hide ((unhide HN).state 0)
  have hk2 : Kept (fun i => i = b3) w1 (w1.setCell ⟨b3, 1, none⟩ (.int .i64 0)) := kset _ _ _ _
  generalize w1.setCell ⟨b3, 1, none⟩ (.int .i64 0) = w2 at *
  have HR2 := hide ((unhide HR).kept hk2 x1)
  have B2 := hide (Kept.back (unhide B4) hk2 (unhide B4).size (fun i e => by have := unhide Hne; omega))
  clear n0 n1 n2 n3 u0 u1 u2 u3
  obtain ⟨-, ⟨n0, n1, n2, n3⟩, -⟩ := unhide HN2
  obtain ⟨-, ⟨r0, r1, r2, r3⟩, v0, v1, v2, v3⟩ := unhide HR2
  obtain ⟨x9, hx9, hZ9, hk9⟩ := (unhide HR2).put (wv : Int) 0 sp dd
  have HZ9 := hide hZ9
  have HB9 := hide (Kept.back (unhide B2) hk9 (unhide B2).size (fun i e => by have := unhide Hne; omega))
  clear hZ9 hk9 hk2
  go_wp2
  obtain ⟨-, ⟨q0, q1, q2, q3⟩, -⟩ := unhide HZ9
  refine bodyPost_ret (v := .tuple #[.agg #[.int .i64 (wv : Int), .int .i64 0, .bool sp, .bool dd], .int .i64 1, .int .i64 0, .int .i64 0]) ?_ rfl ⟨rfl, unhide HB9⟩
  simp [results, Try.results20, go_sem, q0, q1, q2, q3]

set_option maxRecDepth 100000 in
set_option maxHeartbeats 4000000 in
theorem told_3 {W : World} {w : Int} {h : Nat} {p : Option Addr} {n cap : Nat} {wv : Nat} {st : Int} {sp dd : Bool} (hw : wv ≤ 64) : ToldIs W w h p n cap wv st sp dd 3 wv 4 sp 1 ((wv : Int) + 1) 3 := by
  have e3 : wrap64 ((wv : Int) + 1) = (wv : Int) + 1 := by unfold wrap64; omega
  have e4 : IntKind.i64.wrap ((wv : Int) + 1) = (wv : Int) + 1 := Go.IntWalk.i64_in _ (by omega)
  unfold ToldIs
  have one := fun (U : World) (oo : Obj) => bal (o := oo) (Below.refl U.heap.size U)
  have O4 := (((OwnM.new W w h p n cap 24).keep (one _ (.cells #[.int .i64 (wv : Int), .int .i64 st, .bool sp, .bool dd] 61))).keep (one _ (.cells #[.int .i64 0, .int .i64 0, .bool false, .bool false] 61))).keep (one _ (.cells #[.int .i64 (wv : Int), .int .i64 st, .bool sp, .bool dd] 61))
  have S4 := ((ZB.new (W.alloc (.cells #[.int .i64 w, .int .i64 h, .slice p n cap] 24)) (wv : Int) st sp dd).keep (one _ (.cells #[.int .i64 0, .int .i64 0, .bool false, .bool false] 61))).keep (one _ (.cells #[.int .i64 (wv : Int), .int .i64 st, .bool sp, .bool dd] 61))
  have R4' := (ZB.new ((W.alloc (.cells #[.int .i64 w, .int .i64 h, .slice p n cap] 24)).alloc (.cells #[.int .i64 (wv : Int), .int .i64 st, .bool sp, .bool dd] 61)) 0 0 false false).keep (one _ (.cells #[.int .i64 (wv : Int), .int .i64 st, .bool sp, .bool dd] 61))
  have N4 := ZB.new (((W.alloc (.cells #[.int .i64 w, .int .i64 h, .slice p n cap] 24)).alloc (.cells #[.int .i64 (wv : Int), .int .i64 st, .bool sp, .bool dd] 61)).alloc (.cells #[.int .i64 0, .int .i64 0, .bool false, .bool false] 61)) (wv : Int) st sp dd
  have B4 := hide (bal (o := .cells #[.int .i64 (wv : Int), .int .i64 st, .bool sp, .bool dd] 61) (bal (o := .cells #[.int .i64 0, .int .i64 0, .bool false, .bool false] 61) (bal (o := .cells #[.int .i64 (wv : Int), .int .i64 st, .bool sp, .bool dd] 61) (bal (o := .cells #[.int .i64 w, .int .i64 h, .slice p n cap] 24) (Below.refl W.heap.size W)))))
  simp only [World.size_alloc] at S4 R4' N4
  have HO := hide O4
  have HS := hide S4
  have HR := hide R4'
  have HN := hide N4
  clear O4 S4 R4' N4 one
  obtain ⟨b0, hb0⟩ : ∃ b, b = W.heap.size := ⟨_, rfl⟩
  go_enter Try.func20, Try.ntmps20
  go_upto_region 3 with fail
  rw [← hb0] at HO HS HR HN
  rw [← hb0]
  generalize (((W.alloc (.cells #[.int .i64 w, .int .i64 h, .slice p n cap] 24)).alloc (.cells #[.int .i64 (wv : Int), .int .i64 st, .bool sp, .bool dd] 61)).alloc (.cells #[.int .i64 0, .int .i64 0, .bool false, .bool false] 61)).alloc (.cells #[.int .i64 (wv : Int), .int .i64 st, .bool sp, .bool dd] 61) = w1 at *
  have Hb0 := hide hb0
  clear hb0
  obtain ⟨b1, hb1⟩ : ∃ b, b = b0 + 1 := ⟨_, rfl⟩
  rw [← hb1] at HS HR HN
  rw [← hb1]
  obtain ⟨b2, hb2⟩ : ∃ b, b = b1 + 1 := ⟨_, rfl⟩
  rw [← hb2] at HR HN
  rw [← hb2]
  obtain ⟨b3, hb3⟩ : ∃ b, b = b2 + 1 := ⟨_, rfl⟩
  rw [← hb3] at HN
  rw [← hb3]
  have Hne := hide (show b0 = W.heap.size ∧ b0 < b1 ∧ b1 < b2 ∧ b2 < b3 from ⟨unhide Hb0, by omega, by omega, by omega⟩)
  have x1 : b2 ≠ b3 := by omega
  have x2 : b3 ≠ b2 := by omega
  clear hb1 hb2 hb3
  obtain ⟨-, ⟨n0, n1, n2, n3⟩, u0, u1, u2, u3⟩ := unhide HN
  go_upto_region 12 with fail
  have HN2 := hide ((unhide HN).state 4)
  have hk2 : Kept (fun i => i = b3) w1 (w1.setCell ⟨b3, 1, none⟩ (.int .i64 4)) := kset _ _ _ _
  generalize w1.setCell ⟨b3, 1, none⟩ (.int .i64 4) = w2 at *
  have HR2 := hide ((unhide HR).kept hk2 x1)
  have HS2 := hide ((unhide HS).kept hk2 (fun e => by have := unhide Hne; omega))
  have B2 := hide (Kept.back (unhide B4) hk2 (unhide B4).size (fun i e => by have := unhide Hne; omega))
  have x3 : b1 ≠ b2 := by have := unhide Hne; omega
  clear n0 n1 n2 n3 u0 u1 u2 u3 hk2
  obtain ⟨-, ⟨n0, n1, n2, n3⟩, -⟩ := unhide HN2
  obtain ⟨-, ⟨s0, s1, s2, s3⟩, -⟩ := unhide HS2
  obtain ⟨-, ⟨r0, r1, r2, r3⟩, v0, v1, v2, v3⟩ := unhide HR2
  have HK4' := hide (((((unhide HR2).woven (wv : Int)).state 4).stop sp).dead dd)
  have hkk := ((((Kept.refl (fun i => i = b2) w2).set (b := b2) 0 (.int .i64 (wv : Int)) (.inl rfl)).set (b := b2) 1 (.int .i64 4) (.inl rfl)).set (b := b2) 2 (.bool sp) (.inl rfl)).set (b := b2) 3 (.bool dd) (.inl rfl)
  have HK4 := hide (Kept.back (unhide B2) (hkk.below (bdrew _)) (unhide B2).size (fun i e => by have := unhide Hne; omega))
  clear hkk
  go_region
  all_goals
    go_wp2
    obtain ⟨-, ⟨q0, q1, q2, q3⟩, -⟩ := unhide HK4'
    refine bodyPost_ret (v := .tuple #[.agg #[.int .i64 (wv : Int), .int .i64 4, .bool sp, .bool dd], .int .i64 1, .int .i64 ((wv : Int) + 1), .int .i64 3]) ?_ rfl ⟨rfl, unhide HK4⟩
    simp [results, Try.results20, go_sem, q0, q1, q2, q3]

set_option maxRecDepth 100000 in
set_option maxHeartbeats 4000000 in
theorem told_6 {W : World} {w : Int} {h : Nat} {p : Option Addr} {n cap : Nat} {wv : Nat} {st : Int} {sp dd : Bool} (hw : wv ≤ 64) : ToldIs W w h p n cap wv st sp dd 6 (wv + 1) (nxS h wv sp st) (bhSp h wv st sp) 0 ((wv : Int) + 1) (nxD h wv sp st) := by
  unfold ToldIs
  have one := fun (U : World) (oo : Obj) => bal (o := oo) (Below.refl U.heap.size U)
  have O4 := (((OwnM.new W w h p n cap 24).keep (one _ (.cells #[.int .i64 (wv : Int), .int .i64 st, .bool sp, .bool dd] 61))).keep (one _ (.cells #[.int .i64 0, .int .i64 0, .bool false, .bool false] 61))).keep (one _ (.cells #[.int .i64 (wv : Int), .int .i64 st, .bool sp, .bool dd] 61))
  have S4 := ((ZB.new (W.alloc (.cells #[.int .i64 w, .int .i64 h, .slice p n cap] 24)) (wv : Int) st sp dd).keep (one _ (.cells #[.int .i64 0, .int .i64 0, .bool false, .bool false] 61))).keep (one _ (.cells #[.int .i64 (wv : Int), .int .i64 st, .bool sp, .bool dd] 61))
  have R4' := (ZB.new ((W.alloc (.cells #[.int .i64 w, .int .i64 h, .slice p n cap] 24)).alloc (.cells #[.int .i64 (wv : Int), .int .i64 st, .bool sp, .bool dd] 61)) 0 0 false false).keep (one _ (.cells #[.int .i64 (wv : Int), .int .i64 st, .bool sp, .bool dd] 61))
  have N4 := ZB.new (((W.alloc (.cells #[.int .i64 w, .int .i64 h, .slice p n cap] 24)).alloc (.cells #[.int .i64 (wv : Int), .int .i64 st, .bool sp, .bool dd] 61)).alloc (.cells #[.int .i64 0, .int .i64 0, .bool false, .bool false] 61)) (wv : Int) st sp dd
  have B4 := hide (bal (o := .cells #[.int .i64 (wv : Int), .int .i64 st, .bool sp, .bool dd] 61) (bal (o := .cells #[.int .i64 0, .int .i64 0, .bool false, .bool false] 61) (bal (o := .cells #[.int .i64 (wv : Int), .int .i64 st, .bool sp, .bool dd] 61) (bal (o := .cells #[.int .i64 w, .int .i64 h, .slice p n cap] 24) (Below.refl W.heap.size W)))))
  simp only [World.size_alloc] at S4 R4' N4
  have HO := hide O4
  have HS := hide S4
  have HR := hide R4'
  have HN := hide N4
  clear O4 S4 R4' N4 one
  obtain ⟨b0, hb0⟩ : ∃ b, b = W.heap.size := ⟨_, rfl⟩
  go_enter Try.func20, Try.ntmps20
  go_upto_region 3 with fail
  rw [← hb0] at HO HS HR HN
  rw [← hb0]
  generalize (((W.alloc (.cells #[.int .i64 w, .int .i64 h, .slice p n cap] 24)).alloc (.cells #[.int .i64 (wv : Int), .int .i64 st, .bool sp, .bool dd] 61)).alloc (.cells #[.int .i64 0, .int .i64 0, .bool false, .bool false] 61)).alloc (.cells #[.int .i64 (wv : Int), .int .i64 st, .bool sp, .bool dd] 61) = w1 at *
  have Hb0 := hide hb0
  clear hb0
  obtain ⟨b1, hb1⟩ : ∃ b, b = b0 + 1 := ⟨_, rfl⟩
  rw [← hb1] at HS HR HN
  rw [← hb1]
  obtain ⟨b2, hb2⟩ : ∃ b, b = b1 + 1 := ⟨_, rfl⟩
  rw [← hb2] at HR HN
  rw [← hb2]
  obtain ⟨b3, hb3⟩ : ∃ b, b = b2 + 1 := ⟨_, rfl⟩
  rw [← hb3] at HN
  rw [← hb3]
  have Hne := hide (show b0 = W.heap.size ∧ b0 < b1 ∧ b1 < b2 ∧ b2 < b3 from ⟨unhide Hb0, by omega, by omega, by omega⟩)
  have x1 : b2 ≠ b3 := by omega
  have x2 : b3 ≠ b2 := by omega
  clear hb1 hb2 hb3
  obtain ⟨-, ⟨n0, n1, n2, n3⟩, u0, u1, u2, u3⟩ := unhide HN
  have HBh := hide (bh_any (unhide HN) (unhide HO) (unhide HS) (fun e => by have := unhide Hne; omega) (fun e => by have := unhide Hne; omega) hw)
  unfold BhPost at HBh
  obtain ⟨nx, hnx⟩ : ∃ x, x = nxS h wv sp st := ⟨_, rfl⟩
  obtain ⟨ds, hds⟩ : ∃ x, x = nxD h wv sp st := ⟨_, rfl⟩
  obtain ⟨s9, hs9⟩ : ∃ x, x = bhSp h wv st sp := ⟨_, rfl⟩
  rw [← hnx, ← hds, ← hs9] at HBh
  have Heq := hide (show Ending.returned (.tuple #[.agg #[.int .i64 ((wv : Int) + 1), .int .i64 nx, .bool s9, .bool dd], .int .i64 0, .int .i64 ((wv : Int) + 1), .int .i64 ds]) = .returned (.tuple #[.agg #[.int .i64 ((wv + 1 : Nat) : Int), .int .i64 (nxS h wv sp st), .bool (bhSp h wv st sp), .bool dd], .int .i64 0, .int .i64 ((wv : Int) + 1), .int .i64 (nxD h wv sp st)]) from by rw [hnx, hds, hs9]; rfl)
  clear hnx hds hs9
  go_wp2_with fail
  refine (unhide HBh).mono ?_
  rintro e w2 ⟨rfl, hk2⟩
  have HR2 := hide ((unhide HR).kept hk2 x1)
  have B2 := hide (Kept.back (unhide B4) hk2 (unhide B4).size (fun i e => by have := unhide Hne; omega))
  clear n0 n1 n2 n3 u0 u1 u2 u3 hk2
  obtain ⟨-, ⟨r0, r1, r2, r3⟩, v0, v1, v2, v3⟩ := unhide HR2
  obtain ⟨x9, hx9, hZ9, hk9⟩ := (unhide HR2).put ((wv : Int) + 1) nx s9 dd
  have HZ9 := hide hZ9
  have HB9 := hide (Kept.back (unhide B2) hk9 (unhide B2).size (fun i e => by have := unhide Hne; omega))
  clear hZ9 hk9
  go_wp2
  obtain ⟨-, ⟨q0, q1, q2, q3⟩, -⟩ := unhide HZ9
  refine bodyPost_ret (v := .tuple #[.agg #[.int .i64 ((wv : Int) + 1), .int .i64 nx, .bool s9, .bool dd], .int .i64 0, .int .i64 ((wv : Int) + 1), .int .i64 ds]) ?_ rfl ⟨unhide Heq, unhide HB9⟩
  simp [results, Try.results20, go_sem, q0, q1, q2, q3]

set_option maxRecDepth 100000 in
set_option maxHeartbeats 4000000 in
theorem told_8 {W : World} {w : Int} {h : Nat} {p : Option Addr} {n cap : Nat} {wv : Nat} {st : Int} {sp dd : Bool} (hw : wv ≤ 64) : ToldIs W w h p n cap wv st sp dd 8 (wv + 1) (nxS h wv sp st) (bhSp h wv st sp) 0 ((wv : Int) + 1) (nxD h wv sp st) := by
  unfold ToldIs
  have one := fun (U : World) (oo : Obj) => bal (o := oo) (Below.refl U.heap.size U)
  have O4 := (((OwnM.new W w h p n cap 24).keep (one _ (.cells #[.int .i64 (wv : Int), .int .i64 st, .bool sp, .bool dd] 61))).keep (one _ (.cells #[.int .i64 0, .int .i64 0, .bool false, .bool false] 61))).keep (one _ (.cells #[.int .i64 (wv : Int), .int .i64 st, .bool sp, .bool dd] 61))
  have S4 := ((ZB.new (W.alloc (.cells #[.int .i64 w, .int .i64 h, .slice p n cap] 24)) (wv : Int) st sp dd).keep (one _ (.cells #[.int .i64 0, .int .i64 0, .bool false, .bool false] 61))).keep (one _ (.cells #[.int .i64 (wv : Int), .int .i64 st, .bool sp, .bool dd] 61))
  have R4' := (ZB.new ((W.alloc (.cells #[.int .i64 w, .int .i64 h, .slice p n cap] 24)).alloc (.cells #[.int .i64 (wv : Int), .int .i64 st, .bool sp, .bool dd] 61)) 0 0 false false).keep (one _ (.cells #[.int .i64 (wv : Int), .int .i64 st, .bool sp, .bool dd] 61))
  have N4 := ZB.new (((W.alloc (.cells #[.int .i64 w, .int .i64 h, .slice p n cap] 24)).alloc (.cells #[.int .i64 (wv : Int), .int .i64 st, .bool sp, .bool dd] 61)).alloc (.cells #[.int .i64 0, .int .i64 0, .bool false, .bool false] 61)) (wv : Int) st sp dd
  have B4 := hide (bal (o := .cells #[.int .i64 (wv : Int), .int .i64 st, .bool sp, .bool dd] 61) (bal (o := .cells #[.int .i64 0, .int .i64 0, .bool false, .bool false] 61) (bal (o := .cells #[.int .i64 (wv : Int), .int .i64 st, .bool sp, .bool dd] 61) (bal (o := .cells #[.int .i64 w, .int .i64 h, .slice p n cap] 24) (Below.refl W.heap.size W)))))
  simp only [World.size_alloc] at S4 R4' N4
  have HO := hide O4
  have HS := hide S4
  have HR := hide R4'
  have HN := hide N4
  clear O4 S4 R4' N4 one
  obtain ⟨b0, hb0⟩ : ∃ b, b = W.heap.size := ⟨_, rfl⟩
  go_enter Try.func20, Try.ntmps20
  go_upto_region 3 with fail
  rw [← hb0] at HO HS HR HN
  rw [← hb0]
  generalize (((W.alloc (.cells #[.int .i64 w, .int .i64 h, .slice p n cap] 24)).alloc (.cells #[.int .i64 (wv : Int), .int .i64 st, .bool sp, .bool dd] 61)).alloc (.cells #[.int .i64 0, .int .i64 0, .bool false, .bool false] 61)).alloc (.cells #[.int .i64 (wv : Int), .int .i64 st, .bool sp, .bool dd] 61) = w1 at *
  have Hb0 := hide hb0
  clear hb0
  obtain ⟨b1, hb1⟩ : ∃ b, b = b0 + 1 := ⟨_, rfl⟩
  rw [← hb1] at HS HR HN
  rw [← hb1]
  obtain ⟨b2, hb2⟩ : ∃ b, b = b1 + 1 := ⟨_, rfl⟩
  rw [← hb2] at HR HN
  rw [← hb2]
  obtain ⟨b3, hb3⟩ : ∃ b, b = b2 + 1 := ⟨_, rfl⟩
  rw [← hb3] at HN
  rw [← hb3]
  have Hne := hide (show b0 = W.heap.size ∧ b0 < b1 ∧ b1 < b2 ∧ b2 < b3 from ⟨unhide Hb0, by omega, by omega, by omega⟩)
  have x1 : b2 ≠ b3 := by omega
  have x2 : b3 ≠ b2 := by omega
  clear hb1 hb2 hb3
  obtain ⟨-, ⟨n0, n1, n2, n3⟩, u0, u1, u2, u3⟩ := unhide HN
  have HBh := hide (bh_any (unhide HN) (unhide HO) (unhide HS) (fun e => by have := unhide Hne; omega) (fun e => by have := unhide Hne; omega) hw)
  unfold BhPost at HBh
  obtain ⟨nx, hnx⟩ : ∃ x, x = nxS h wv sp st := ⟨_, rfl⟩
  obtain ⟨ds, hds⟩ : ∃ x, x = nxD h wv sp st := ⟨_, rfl⟩
  obtain ⟨s9, hs9⟩ : ∃ x, x = bhSp h wv st sp := ⟨_, rfl⟩
  rw [← hnx, ← hds, ← hs9] at HBh
  have Heq := hide (show Ending.returned (.tuple #[.agg #[.int .i64 ((wv : Int) + 1), .int .i64 nx, .bool s9, .bool dd], .int .i64 0, .int .i64 ((wv : Int) + 1), .int .i64 ds]) = .returned (.tuple #[.agg #[.int .i64 ((wv + 1 : Nat) : Int), .int .i64 (nxS h wv sp st), .bool (bhSp h wv st sp), .bool dd], .int .i64 0, .int .i64 ((wv : Int) + 1), .int .i64 (nxD h wv sp st)]) from by rw [hnx, hds, hs9]; rfl)
  clear hnx hds hs9
  go_wp2_with fail
  refine (unhide HBh).mono ?_
  rintro e w2 ⟨rfl, hk2⟩
  have HR2 := hide ((unhide HR).kept hk2 x1)
  have B2 := hide (Kept.back (unhide B4) hk2 (unhide B4).size (fun i e => by have := unhide Hne; omega))
  clear n0 n1 n2 n3 u0 u1 u2 u3 hk2
  obtain ⟨-, ⟨r0, r1, r2, r3⟩, v0, v1, v2, v3⟩ := unhide HR2
  obtain ⟨x9, hx9, hZ9, hk9⟩ := (unhide HR2).put ((wv : Int) + 1) nx s9 dd
  have HZ9 := hide hZ9
  have HB9 := hide (Kept.back (unhide B2) hk9 (unhide B2).size (fun i e => by have := unhide Hne; omega))
  clear hZ9 hk9
  go_wp2
  obtain ⟨-, ⟨q0, q1, q2, q3⟩, -⟩ := unhide HZ9
  refine bodyPost_ret (v := .tuple #[.agg #[.int .i64 ((wv : Int) + 1), .int .i64 nx, .bool s9, .bool dd], .int .i64 0, .int .i64 ((wv : Int) + 1), .int .i64 ds]) ?_ rfl ⟨unhide Heq, unhide HB9⟩
  simp [results, Try.results20, go_sem, q0, q1, q2, q3]

theorem told_any {W : World} {w : Int} {h : Nat} {p : Option Addr} {n cap : Nat} {wv : Nat} {st : Int} {sp dd : Bool} (ev : Int) (he : evB ev = true) (hw : wv ≤ 64) : ToldIs W w h p n cap wv st sp dd ev (tdWv wv ev) (tdSt h wv st sp ev) (tdSp h wv st sp ev) (tdAt ev) (tdW wv ev) (tdDo h wv st sp ev) := by
  rcases evB_cases he with rfl | rfl | rfl | rfl | rfl | rfl | rfl | rfl | rfl
  · exact told_1
  · exact told_2
  · exact told_3 hw
  · exact told_4
  · exact told_5
  · exact told_6 hw
  · exact told_7
  · exact told_8 hw
  · exact told_9
end Go.Proofs.Ytndfecdhmncdaaa
