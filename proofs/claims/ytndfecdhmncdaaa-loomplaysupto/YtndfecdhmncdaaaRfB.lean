/-
  The document's own loom: where it begins.
-/
import Derived.Test.YtndfecdhmncdaaaRfA
namespace Go.Proofs.Ytndfecdhmncdaaa
open Go.RowKit

set_option maxRecDepth 100000 in
set_option maxHeartbeats 4000000 in
theorem begin_i_eq {W : World} {w h : Nat} {p : Option Addr} {n cap : Nat} {q nw cw : Nat} {g : Nat → Int} (wv : Nat) (x1 : Int) (hh : h ≤ 64) (hr : WR W q nw g) (hn : 2 ≤ nw) (h1 : g 1 = x1) (h0 : g 0 = (wv : Int)) (hle : wv ≤ h) (hc : wv = h) :
    Calls Try.prog 18 #[tr w h p n cap, .slice (some ⟨q, 0, none⟩) nw cw] W fun e w' => e = .returned (.agg #[.int .i64 (wv : Int), .int .i64 6, .bool false, .bool false]) ∧ Below W.heap.size W w' := by
  have a1 : (0 : Int) ≤ (wv : Int) := by omega
  have a2 : (wv : Int) ≤ (h : Int) := by omega
  have k1 : ((wv : Int) == (h : Int)) = true := by simp; omega
  have _hh3 := hle
  have e3 : wrap64 ((wv : Int) + 1) = (wv : Int) + 1 := by unfold wrap64; omega
  have e4 : IntKind.i64.wrap ((wv : Int) + 1) = (wv : Int) + 1 := Go.IntWalk.i64_in _ (by omega)
  clear hc
  have _hh1 := h1
  have _hh2 := hh
  have B1 := bal (o := .cells #[.int .i64 w, .int .i64 h, .slice p n cap] 24) (Below.refl W.heap.size W)
  have B2 := bal (o := .cells #[.int .i64 0, .int .i64 0, .bool false, .bool false] 61) B1
  have B3 := bal (o := .cells #[.int .i64 0, .int .i64 0, .bool false, .bool false] 61) B2
  have one := fun (U : World) (oo : Obj) => bal (o := oo) (Below.refl U.heap.size U)
  have O3 := ((OwnM.new W w h p n cap 24).keep (one _ (.cells #[.int .i64 0, .int .i64 0, .bool false, .bool false] 61))).keep (one _ (.cells #[.int .i64 0, .int .i64 0, .bool false, .bool false] 61))
  have Z3 := (ZB.new (W.alloc (.cells #[.int .i64 w, .int .i64 h, .slice p n cap] 24)) 0 0 false false).keep (one _ (.cells #[.int .i64 0, .int .i64 0, .bool false, .bool false] 61))
  have Y3 := ZB.new ((W.alloc (.cells #[.int .i64 w, .int .i64 h, .slice p n cap] 24)).alloc (.cells #[.int .i64 0, .int .i64 0, .bool false, .bool false] 61)) 0 0 false false
  have R3 := hr.keep B3
  simp only [World.size_alloc] at Z3 Y3
  have HO := hide O3
  have HZ := hide Z3
  have HY := hide Y3
  have HR := hide R3
  have HB := hide B3
  have Hlt := hide hr.1.1
  have d0 := (R3.2 0 (by omega)).1
  have d1 := (R3.2 1 (by omega)).1
  rw [h0] at d0
  rw [h1] at d1
  have j0 : (0 : Int) < (nw : Int) := by omega
  have j1 : (1 : Int) < (nw : Int) := by omega
  clear B1 B2 B3 one O3 Z3 Y3 R3 hr
  obtain ⟨b0, hb0⟩ : ∃ b, b = W.heap.size := ⟨_, rfl⟩
  go_enter Try.func18, Try.ntmps18
  go_upto_region 2 with fail
  rw [← hb0] at HO HZ HY
  rw [← hb0]
  generalize ((W.alloc (.cells #[.int .i64 w, .int .i64 h, .slice p n cap] 24)).alloc (.cells #[.int .i64 0, .int .i64 0, .bool false, .bool false] 61)).alloc (.cells #[.int .i64 0, .int .i64 0, .bool false, .bool false] 61) = w3 at *
  have Hb0 := hide hb0
  clear hb0
  obtain ⟨br, hbr⟩ : ∃ b, b = b0 + 1 := ⟨_, rfl⟩
  rw [← hbr] at HZ HY
  rw [← hbr]
  obtain ⟨bs, hbs⟩ : ∃ b, b = br + 1 := ⟨_, rfl⟩
  rw [← hbs] at HY
  rw [← hbs]
  have Hne := hide (show W.heap.size = b0 ∧ br ≠ bs ∧ b0 < br ∧ b0 < bs from ⟨(unhide Hb0).symm, by omega, by omega, by omega⟩)
  clear hbr hbs
  obtain ⟨-, m1, m2, m3⟩ := unhide HO
  obtain ⟨-, ⟨y0, y1, y2, y3⟩, u0, u1, u2, u3⟩ := unhide HY
  go_quiet (fail)
  go_upto_if 26 with fail
  have HY4 := hide (((unhide HY).keep (Joins.below_draws w3.heap.size w3 nq)).woven (wv : Int))
  have hk4 : Kept (fun i => i = bs) w3 ((w3.drewN nq).setCell ⟨bs, 0, none⟩ (.int .i64 (wv : Int))) := ((Kept.refl _ _).below (Joins.below_draws _ _ nq)).set (b := bs) 0 _ (.inl rfl)
  have hg : (w3.drewN nq).setCell ⟨bs, 0, none⟩ (.int .i64 (wv : Int)) = (w3.setCell ⟨bs, 0, none⟩ (.int .i64 (wv : Int))).drewN nq := rfl
  try rw [← hg]
  generalize (w3.drewN nq).setCell ⟨bs, 0, none⟩ (.int .i64 (wv : Int)) = w4 at *
  clear hg
  have HR4 := hide ((unhide HR).kept hk4 (fun e => (unhide HR).1.2.ne (unhide HY).1.2 (by decide) e))
  have HO4 := hide ((unhide HO).kept hk4 (fun e => by have := unhide Hne; omega))
  have HZ4 := hide ((unhide HZ).kept hk4 (unhide Hne).2.1)
  have HB4 := hide (Kept.back (unhide HB) hk4 (unhide HB).size (fun i e => by have := unhide Hne; omega))
  clear d0 d1 m1 m2 m3 y0 y1 y2 y3 u0 u1 u2 u3 hk4 HR HO HZ HB
  have d1 := ((unhide HR4).2 1 (by omega)).1
  rw [h1] at d1
  obtain ⟨-, m1, m2, m3⟩ := unhide HO4
  obtain ⟨-, ⟨y0, y1, y2, y3⟩, u0, u1, u2, u3⟩ := unhide HY4
  go_upto_region 8 with fail
  have HY5 := hide ((unhide HY4).state 6)
  have hk5 : Kept (fun i => i = bs) w4 (w4.setCell ⟨bs, 1, none⟩ (.int .i64 6)) := kset _ _ _ _
  generalize w4.setCell ⟨bs, 1, none⟩ (.int .i64 6) = w5 at *
  have HZ5 := hide ((unhide HZ4).kept hk5 (unhide Hne).2.1)
  have HB5 := hide (Kept.back (unhide HB4) hk5 (unhide HB4).size (fun i e => by have := unhide Hne; omega))
  clear d1 m1 m2 m3 y0 y1 y2 y3 u0 u1 u2 u3 hk5
  obtain ⟨-, ⟨y0, y1, y2, y3⟩, -⟩ := unhide HY5
  obtain ⟨-, ⟨z0, z1, z2, z3⟩, v0, v1, v2, v3⟩ := unhide HZ5
  obtain ⟨x9, hx9, hZ9, hk9⟩ := (unhide HZ5).put (wv : Int) 6 false false
  have HZ9 := hide hZ9
  have HB9 := hide (Kept.back (unhide HB5) hk9 (unhide HB5).size (fun i e => by have := unhide Hne; omega))
  clear hZ9 hk9
  go_wp2
  obtain ⟨-, ⟨q0, q1, q2, q3⟩, -⟩ := unhide HZ9
  refine bodyPost_ret (v := .agg #[.int .i64 (wv : Int), .int .i64 6, .bool false, .bool false]) ?_ rfl ⟨rfl, unhide HB9⟩
  simp [results, Try.results18, go_sem, q0, q1, q2, q3]

set_option maxRecDepth 100000 in
set_option maxHeartbeats 4000000 in
theorem begin_i_doubt {W : World} {w h : Nat} {p : Option Addr} {n cap : Nat} {q nw cw : Nat} {g : Nat → Int} (wv : Nat) (x1 : Int) (hh : h ≤ 64) (hr : WR W q nw g) (hn : 2 ≤ nw) (h1 : g 1 = x1) (h0 : g 0 = (wv : Int)) (hle : wv ≤ h) (hc : ¬ wv = h) (hd : x1 = (wv : Int) + 1) :
    Calls Try.prog 18 #[tr w h p n cap, .slice (some ⟨q, 0, none⟩) nw cw] W fun e w' => e = .returned (.agg #[.int .i64 (wv : Int), .int .i64 5, .bool false, .bool false]) ∧ Below W.heap.size W w' := by
  have a1 : (0 : Int) ≤ (wv : Int) := by omega
  have a2 : (wv : Int) ≤ (h : Int) := by omega
  have k1 : ((wv : Int) == (h : Int)) = false := by simp; omega
  have k2 : (x1 == (wv : Int) + 1) = true := by simp; omega
  have _hh3 := hle
  have e3 : wrap64 ((wv : Int) + 1) = (wv : Int) + 1 := by unfold wrap64; omega
  have e4 : IntKind.i64.wrap ((wv : Int) + 1) = (wv : Int) + 1 := Go.IntWalk.i64_in _ (by omega)
  clear hc hd
  have _hh1 := h1
  have _hh2 := hh
  have B1 := bal (o := .cells #[.int .i64 w, .int .i64 h, .slice p n cap] 24) (Below.refl W.heap.size W)
  have B2 := bal (o := .cells #[.int .i64 0, .int .i64 0, .bool false, .bool false] 61) B1
  have B3 := bal (o := .cells #[.int .i64 0, .int .i64 0, .bool false, .bool false] 61) B2
  have one := fun (U : World) (oo : Obj) => bal (o := oo) (Below.refl U.heap.size U)
  have O3 := ((OwnM.new W w h p n cap 24).keep (one _ (.cells #[.int .i64 0, .int .i64 0, .bool false, .bool false] 61))).keep (one _ (.cells #[.int .i64 0, .int .i64 0, .bool false, .bool false] 61))
  have Z3 := (ZB.new (W.alloc (.cells #[.int .i64 w, .int .i64 h, .slice p n cap] 24)) 0 0 false false).keep (one _ (.cells #[.int .i64 0, .int .i64 0, .bool false, .bool false] 61))
  have Y3 := ZB.new ((W.alloc (.cells #[.int .i64 w, .int .i64 h, .slice p n cap] 24)).alloc (.cells #[.int .i64 0, .int .i64 0, .bool false, .bool false] 61)) 0 0 false false
  have R3 := hr.keep B3
  simp only [World.size_alloc] at Z3 Y3
  have HO := hide O3
  have HZ := hide Z3
  have HY := hide Y3
  have HR := hide R3
  have HB := hide B3
  have Hlt := hide hr.1.1
  have d0 := (R3.2 0 (by omega)).1
  have d1 := (R3.2 1 (by omega)).1
  rw [h0] at d0
  rw [h1] at d1
  have j0 : (0 : Int) < (nw : Int) := by omega
  have j1 : (1 : Int) < (nw : Int) := by omega
  clear B1 B2 B3 one O3 Z3 Y3 R3 hr
  obtain ⟨b0, hb0⟩ : ∃ b, b = W.heap.size := ⟨_, rfl⟩
  go_enter Try.func18, Try.ntmps18
  go_upto_region 2 with fail
  rw [← hb0] at HO HZ HY
  rw [← hb0]
  generalize ((W.alloc (.cells #[.int .i64 w, .int .i64 h, .slice p n cap] 24)).alloc (.cells #[.int .i64 0, .int .i64 0, .bool false, .bool false] 61)).alloc (.cells #[.int .i64 0, .int .i64 0, .bool false, .bool false] 61) = w3 at *
  have Hb0 := hide hb0
  clear hb0
  obtain ⟨br, hbr⟩ : ∃ b, b = b0 + 1 := ⟨_, rfl⟩
  rw [← hbr] at HZ HY
  rw [← hbr]
  obtain ⟨bs, hbs⟩ : ∃ b, b = br + 1 := ⟨_, rfl⟩
  rw [← hbs] at HY
  rw [← hbs]
  have Hne := hide (show W.heap.size = b0 ∧ br ≠ bs ∧ b0 < br ∧ b0 < bs from ⟨(unhide Hb0).symm, by omega, by omega, by omega⟩)
  clear hbr hbs
  obtain ⟨-, m1, m2, m3⟩ := unhide HO
  obtain ⟨-, ⟨y0, y1, y2, y3⟩, u0, u1, u2, u3⟩ := unhide HY
  go_quiet (fail)
  go_upto_if 26 with fail
  have HY4 := hide (((unhide HY).keep (Joins.below_draws w3.heap.size w3 nq)).woven (wv : Int))
  have hk4 : Kept (fun i => i = bs) w3 ((w3.drewN nq).setCell ⟨bs, 0, none⟩ (.int .i64 (wv : Int))) := ((Kept.refl _ _).below (Joins.below_draws _ _ nq)).set (b := bs) 0 _ (.inl rfl)
  have hg : (w3.drewN nq).setCell ⟨bs, 0, none⟩ (.int .i64 (wv : Int)) = (w3.setCell ⟨bs, 0, none⟩ (.int .i64 (wv : Int))).drewN nq := rfl
  try rw [← hg]
  generalize (w3.drewN nq).setCell ⟨bs, 0, none⟩ (.int .i64 (wv : Int)) = w4 at *
  clear hg
  have HR4 := hide ((unhide HR).kept hk4 (fun e => (unhide HR).1.2.ne (unhide HY).1.2 (by decide) e))
  have HO4 := hide ((unhide HO).kept hk4 (fun e => by have := unhide Hne; omega))
  have HZ4 := hide ((unhide HZ).kept hk4 (unhide Hne).2.1)
  have HB4 := hide (Kept.back (unhide HB) hk4 (unhide HB).size (fun i e => by have := unhide Hne; omega))
  clear d0 d1 m1 m2 m3 y0 y1 y2 y3 u0 u1 u2 u3 hk4 HR HO HZ HB
  have d1 := ((unhide HR4).2 1 (by omega)).1
  rw [h1] at d1
  obtain ⟨-, m1, m2, m3⟩ := unhide HO4
  obtain ⟨-, ⟨y0, y1, y2, y3⟩, u0, u1, u2, u3⟩ := unhide HY4
  go_wp2_with fail
  go_quiet (fail)
  go_upto_region 8 with fail
  have HY5 := hide (((unhide HY4).keep (Joins.below_draws w4.heap.size w4 nq)).state 5)
  have hk5 : Kept (fun i => i = bs) w4 ((w4.drewN nq).setCell ⟨bs, 1, none⟩ (.int .i64 5)) := ((Kept.refl _ _).below (Joins.below_draws _ _ nq)).set (b := bs) 1 _ (.inl rfl)
  have hg : (w4.drewN nq).setCell ⟨bs, 1, none⟩ (.int .i64 5) = (w4.setCell ⟨bs, 1, none⟩ (.int .i64 5)).drewN nq := rfl
  try rw [← hg]
  generalize (w4.drewN nq).setCell ⟨bs, 1, none⟩ (.int .i64 5) = w5 at *
  clear hg
  have HZ5 := hide ((unhide HZ4).kept hk5 (unhide Hne).2.1)
  have HB5 := hide (Kept.back (unhide HB4) hk5 (unhide HB4).size (fun i e => by have := unhide Hne; omega))
  clear d1 m1 m2 m3 y0 y1 y2 y3 u0 u1 u2 u3 hk5
  obtain ⟨-, ⟨y0, y1, y2, y3⟩, -⟩ := unhide HY5
  obtain ⟨-, ⟨z0, z1, z2, z3⟩, v0, v1, v2, v3⟩ := unhide HZ5
  obtain ⟨x9, hx9, hZ9, hk9⟩ := (unhide HZ5).put (wv : Int) 5 false false
  have HZ9 := hide hZ9
  have HB9 := hide (Kept.back (unhide HB5) hk9 (unhide HB5).size (fun i e => by have := unhide Hne; omega))
  clear hZ9 hk9
  go_wp2
  obtain ⟨-, ⟨q0, q1, q2, q3⟩, -⟩ := unhide HZ9
  refine bodyPost_ret (v := .agg #[.int .i64 (wv : Int), .int .i64 5, .bool false, .bool false]) ?_ rfl ⟨rfl, unhide HB9⟩
  simp [results, Try.results18, go_sem, q0, q1, q2, q3]

set_option maxRecDepth 100000 in
set_option maxHeartbeats 4000000 in
theorem begin_i_idle {W : World} {w h : Nat} {p : Option Addr} {n cap : Nat} {q nw cw : Nat} {g : Nat → Int} (wv : Nat) (x1 : Int) (hh : h ≤ 64) (hr : WR W q nw g) (hn : 2 ≤ nw) (h1 : g 1 = x1) (h0 : g 0 = (wv : Int)) (hle : wv ≤ h) (hc : ¬ wv = h) (hd : ¬ x1 = (wv : Int) + 1) :
    Calls Try.prog 18 #[tr w h p n cap, .slice (some ⟨q, 0, none⟩) nw cw] W fun e w' => e = .returned (.agg #[.int .i64 (wv : Int), .int .i64 0, .bool false, .bool false]) ∧ Below W.heap.size W w' := by
  have a1 : (0 : Int) ≤ (wv : Int) := by omega
  have a2 : (wv : Int) ≤ (h : Int) := by omega
  have k1 : ((wv : Int) == (h : Int)) = false := by simp; omega
  have k2 : (x1 == (wv : Int) + 1) = false := by simp; omega
  have _hh3 := hle
  have e3 : wrap64 ((wv : Int) + 1) = (wv : Int) + 1 := by unfold wrap64; omega
  have e4 : IntKind.i64.wrap ((wv : Int) + 1) = (wv : Int) + 1 := Go.IntWalk.i64_in _ (by omega)
  clear hc hd
  have _hh1 := h1
  have _hh2 := hh
  have B1 := bal (o := .cells #[.int .i64 w, .int .i64 h, .slice p n cap] 24) (Below.refl W.heap.size W)
  have B2 := bal (o := .cells #[.int .i64 0, .int .i64 0, .bool false, .bool false] 61) B1
  have B3 := bal (o := .cells #[.int .i64 0, .int .i64 0, .bool false, .bool false] 61) B2
  have one := fun (U : World) (oo : Obj) => bal (o := oo) (Below.refl U.heap.size U)
  have O3 := ((OwnM.new W w h p n cap 24).keep (one _ (.cells #[.int .i64 0, .int .i64 0, .bool false, .bool false] 61))).keep (one _ (.cells #[.int .i64 0, .int .i64 0, .bool false, .bool false] 61))
  have Z3 := (ZB.new (W.alloc (.cells #[.int .i64 w, .int .i64 h, .slice p n cap] 24)) 0 0 false false).keep (one _ (.cells #[.int .i64 0, .int .i64 0, .bool false, .bool false] 61))
  have Y3 := ZB.new ((W.alloc (.cells #[.int .i64 w, .int .i64 h, .slice p n cap] 24)).alloc (.cells #[.int .i64 0, .int .i64 0, .bool false, .bool false] 61)) 0 0 false false
  have R3 := hr.keep B3
  simp only [World.size_alloc] at Z3 Y3
  have HO := hide O3
  have HZ := hide Z3
  have HY := hide Y3
  have HR := hide R3
  have HB := hide B3
  have Hlt := hide hr.1.1
  have d0 := (R3.2 0 (by omega)).1
  have d1 := (R3.2 1 (by omega)).1
  rw [h0] at d0
  rw [h1] at d1
  have j0 : (0 : Int) < (nw : Int) := by omega
  have j1 : (1 : Int) < (nw : Int) := by omega
  clear B1 B2 B3 one O3 Z3 Y3 R3 hr
  obtain ⟨b0, hb0⟩ : ∃ b, b = W.heap.size := ⟨_, rfl⟩
  go_enter Try.func18, Try.ntmps18
  go_upto_region 2 with fail
  rw [← hb0] at HO HZ HY
  rw [← hb0]
  generalize ((W.alloc (.cells #[.int .i64 w, .int .i64 h, .slice p n cap] 24)).alloc (.cells #[.int .i64 0, .int .i64 0, .bool false, .bool false] 61)).alloc (.cells #[.int .i64 0, .int .i64 0, .bool false, .bool false] 61) = w3 at *
  have Hb0 := hide hb0
  clear hb0
  obtain ⟨br, hbr⟩ : ∃ b, b = b0 + 1 := ⟨_, rfl⟩
  rw [← hbr] at HZ HY
  rw [← hbr]
  obtain ⟨bs, hbs⟩ : ∃ b, b = br + 1 := ⟨_, rfl⟩
  rw [← hbs] at HY
  rw [← hbs]
  have Hne := hide (show W.heap.size = b0 ∧ br ≠ bs ∧ b0 < br ∧ b0 < bs from ⟨(unhide Hb0).symm, by omega, by omega, by omega⟩)
  clear hbr hbs
  obtain ⟨-, m1, m2, m3⟩ := unhide HO
  obtain ⟨-, ⟨y0, y1, y2, y3⟩, u0, u1, u2, u3⟩ := unhide HY
  go_quiet (fail)
  go_upto_if 26 with fail
  have HY4 := hide (((unhide HY).keep (Joins.below_draws w3.heap.size w3 nq)).woven (wv : Int))
  have hk4 : Kept (fun i => i = bs) w3 ((w3.drewN nq).setCell ⟨bs, 0, none⟩ (.int .i64 (wv : Int))) := ((Kept.refl _ _).below (Joins.below_draws _ _ nq)).set (b := bs) 0 _ (.inl rfl)
  have hg : (w3.drewN nq).setCell ⟨bs, 0, none⟩ (.int .i64 (wv : Int)) = (w3.setCell ⟨bs, 0, none⟩ (.int .i64 (wv : Int))).drewN nq := rfl
  try rw [← hg]
  generalize (w3.drewN nq).setCell ⟨bs, 0, none⟩ (.int .i64 (wv : Int)) = w4 at *
  clear hg
  have HR4 := hide ((unhide HR).kept hk4 (fun e => (unhide HR).1.2.ne (unhide HY).1.2 (by decide) e))
  have HO4 := hide ((unhide HO).kept hk4 (fun e => by have := unhide Hne; omega))
  have HZ4 := hide ((unhide HZ).kept hk4 (unhide Hne).2.1)
  have HB4 := hide (Kept.back (unhide HB) hk4 (unhide HB).size (fun i e => by have := unhide Hne; omega))
  clear d0 d1 m1 m2 m3 y0 y1 y2 y3 u0 u1 u2 u3 hk4 HR HO HZ HB
  have d1 := ((unhide HR4).2 1 (by omega)).1
  rw [h1] at d1
  obtain ⟨-, m1, m2, m3⟩ := unhide HO4
  obtain ⟨-, ⟨y0, y1, y2, y3⟩, u0, u1, u2, u3⟩ := unhide HY4
  go_wp2_with fail
  go_quiet (fail)
  go_upto_region 8 with fail
  have HY5 := hide ((unhide HY4).keep (Joins.below_draws w4.heap.size w4 nq))
  have hk5 : Kept (fun i => i = bs) w4 (w4.drewN nq) := (Kept.refl _ _).below (Joins.below_draws _ _ nq)
  generalize w4.drewN nq = w5 at *
  have HZ5 := hide ((unhide HZ4).kept hk5 (unhide Hne).2.1)
  have HB5 := hide (Kept.back (unhide HB4) hk5 (unhide HB4).size (fun i e => by have := unhide Hne; omega))
  clear d1 m1 m2 m3 y0 y1 y2 y3 u0 u1 u2 u3 hk5
  obtain ⟨-, ⟨y0, y1, y2, y3⟩, -⟩ := unhide HY5
  obtain ⟨-, ⟨z0, z1, z2, z3⟩, v0, v1, v2, v3⟩ := unhide HZ5
  obtain ⟨x9, hx9, hZ9, hk9⟩ := (unhide HZ5).put (wv : Int) 0 false false
  have HZ9 := hide hZ9
  have HB9 := hide (Kept.back (unhide HB5) hk9 (unhide HB5).size (fun i e => by have := unhide Hne; omega))
  clear hZ9 hk9
  go_wp2
  obtain ⟨-, ⟨q0, q1, q2, q3⟩, -⟩ := unhide HZ9
  refine bodyPost_ret (v := .agg #[.int .i64 (wv : Int), .int .i64 0, .bool false, .bool false]) ?_ rfl ⟨rfl, unhide HB9⟩
  simp [results, Try.results18, go_sem, q0, q1, q2, q3]

set_option maxRecDepth 100000 in
set_option maxHeartbeats 4000000 in
theorem begin_ii_eq {W : World} {w h : Nat} {p : Option Addr} {n cap : Nat} {q nw cw : Nat} {g : Nat → Int} (x1 : Int) (hh : h ≤ 64) (hr : WR W q nw g) (hn : 2 ≤ nw) (h1 : g 1 = x1) (x0 : Int) (h0 : g 0 = x0) (hx : x0 < 0) (hc : 0 = h) :
    Calls Try.prog 18 #[tr w h p n cap, .slice (some ⟨q, 0, none⟩) nw cw] W fun e w' => e = .returned (.agg #[.int .i64 (0 : Int), .int .i64 6, .bool false, .bool false]) ∧ Below W.heap.size W w' := by
  have a1 : ¬ ((0 : Int) ≤ x0) := by omega
  have a2 : decide ((0 : Int) ≤ x0) = false := by simpa using hx
  have k1 : ((0 : Int) == (h : Int)) = true := by simp; omega
  clear hc hx
  have _hh1 := h1
  have _hh2 := hh
  have B1 := bal (o := .cells #[.int .i64 w, .int .i64 h, .slice p n cap] 24) (Below.refl W.heap.size W)
  have B2 := bal (o := .cells #[.int .i64 0, .int .i64 0, .bool false, .bool false] 61) B1
  have B3 := bal (o := .cells #[.int .i64 0, .int .i64 0, .bool false, .bool false] 61) B2
  have one := fun (U : World) (oo : Obj) => bal (o := oo) (Below.refl U.heap.size U)
  have O3 := ((OwnM.new W w h p n cap 24).keep (one _ (.cells #[.int .i64 0, .int .i64 0, .bool false, .bool false] 61))).keep (one _ (.cells #[.int .i64 0, .int .i64 0, .bool false, .bool false] 61))
  have Z3 := (ZB.new (W.alloc (.cells #[.int .i64 w, .int .i64 h, .slice p n cap] 24)) 0 0 false false).keep (one _ (.cells #[.int .i64 0, .int .i64 0, .bool false, .bool false] 61))
  have Y3 := ZB.new ((W.alloc (.cells #[.int .i64 w, .int .i64 h, .slice p n cap] 24)).alloc (.cells #[.int .i64 0, .int .i64 0, .bool false, .bool false] 61)) 0 0 false false
  have R3 := hr.keep B3
  simp only [World.size_alloc] at Z3 Y3
  have HO := hide O3
  have HZ := hide Z3
  have HY := hide Y3
  have HR := hide R3
  have HB := hide B3
  have Hlt := hide hr.1.1
  have d0 := (R3.2 0 (by omega)).1
  have d1 := (R3.2 1 (by omega)).1
  rw [h0] at d0
  rw [h1] at d1
  have j0 : (0 : Int) < (nw : Int) := by omega
  have j1 : (1 : Int) < (nw : Int) := by omega
  clear B1 B2 B3 one O3 Z3 Y3 R3 hr
  obtain ⟨b0, hb0⟩ : ∃ b, b = W.heap.size := ⟨_, rfl⟩
  go_enter Try.func18, Try.ntmps18
  go_upto_region 2 with fail
  rw [← hb0] at HO HZ HY
  rw [← hb0]
  generalize ((W.alloc (.cells #[.int .i64 w, .int .i64 h, .slice p n cap] 24)).alloc (.cells #[.int .i64 0, .int .i64 0, .bool false, .bool false] 61)).alloc (.cells #[.int .i64 0, .int .i64 0, .bool false, .bool false] 61) = w3 at *
  have Hb0 := hide hb0
  clear hb0
  obtain ⟨br, hbr⟩ : ∃ b, b = b0 + 1 := ⟨_, rfl⟩
  rw [← hbr] at HZ HY
  rw [← hbr]
  obtain ⟨bs, hbs⟩ : ∃ b, b = br + 1 := ⟨_, rfl⟩
  rw [← hbs] at HY
  rw [← hbs]
  have Hne := hide (show W.heap.size = b0 ∧ br ≠ bs ∧ b0 < br ∧ b0 < bs from ⟨(unhide Hb0).symm, by omega, by omega, by omega⟩)
  clear hbr hbs
  obtain ⟨-, m1, m2, m3⟩ := unhide HO
  obtain ⟨-, ⟨y0, y1, y2, y3⟩, u0, u1, u2, u3⟩ := unhide HY
  go_quiet (fail)
  go_upto_if 26 with fail
  have HY4 := hide ((unhide HY).keep (Joins.below_draws w3.heap.size w3 nq))
  have hk4 : Kept (fun i => i = bs) w3 (w3.drewN nq) := (Kept.refl _ _).below (Joins.below_draws _ _ nq)
  generalize w3.drewN nq = w4 at *
  have HR4 := hide ((unhide HR).kept hk4 (fun e => (unhide HR).1.2.ne (unhide HY).1.2 (by decide) e))
  have HO4 := hide ((unhide HO).kept hk4 (fun e => by have := unhide Hne; omega))
  have HZ4 := hide ((unhide HZ).kept hk4 (unhide Hne).2.1)
  have HB4 := hide (Kept.back (unhide HB) hk4 (unhide HB).size (fun i e => by have := unhide Hne; omega))
  clear d0 d1 m1 m2 m3 y0 y1 y2 y3 u0 u1 u2 u3 hk4 HR HO HZ HB
  have d1 := ((unhide HR4).2 1 (by omega)).1
  rw [h1] at d1
  obtain ⟨-, m1, m2, m3⟩ := unhide HO4
  obtain ⟨-, ⟨y0, y1, y2, y3⟩, u0, u1, u2, u3⟩ := unhide HY4
  go_upto_region 8 with fail
  have HY5 := hide ((unhide HY4).state 6)
  have hk5 : Kept (fun i => i = bs) w4 (w4.setCell ⟨bs, 1, none⟩ (.int .i64 6)) := kset _ _ _ _
  generalize w4.setCell ⟨bs, 1, none⟩ (.int .i64 6) = w5 at *
  have HZ5 := hide ((unhide HZ4).kept hk5 (unhide Hne).2.1)
  have HB5 := hide (Kept.back (unhide HB4) hk5 (unhide HB4).size (fun i e => by have := unhide Hne; omega))
  clear d1 m1 m2 m3 y0 y1 y2 y3 u0 u1 u2 u3 hk5
  obtain ⟨-, ⟨y0, y1, y2, y3⟩, -⟩ := unhide HY5
  obtain ⟨-, ⟨z0, z1, z2, z3⟩, v0, v1, v2, v3⟩ := unhide HZ5
  obtain ⟨x9, hx9, hZ9, hk9⟩ := (unhide HZ5).put (0 : Int) 6 false false
  have HZ9 := hide hZ9
  have HB9 := hide (Kept.back (unhide HB5) hk9 (unhide HB5).size (fun i e => by have := unhide Hne; omega))
  clear hZ9 hk9
  go_wp2
  obtain ⟨-, ⟨q0, q1, q2, q3⟩, -⟩ := unhide HZ9
  refine bodyPost_ret (v := .agg #[.int .i64 (0 : Int), .int .i64 6, .bool false, .bool false]) ?_ rfl ⟨rfl, unhide HB9⟩
  simp [results, Try.results18, go_sem, q0, q1, q2, q3]

set_option maxRecDepth 100000 in
set_option maxHeartbeats 4000000 in
theorem begin_ii_doubt {W : World} {w h : Nat} {p : Option Addr} {n cap : Nat} {q nw cw : Nat} {g : Nat → Int} (x1 : Int) (hh : h ≤ 64) (hr : WR W q nw g) (hn : 2 ≤ nw) (h1 : g 1 = x1) (x0 : Int) (h0 : g 0 = x0) (hx : x0 < 0) (hc : ¬ 0 = h) (hd : x1 = (1 : Int)) :
    Calls Try.prog 18 #[tr w h p n cap, .slice (some ⟨q, 0, none⟩) nw cw] W fun e w' => e = .returned (.agg #[.int .i64 (0 : Int), .int .i64 5, .bool false, .bool false]) ∧ Below W.heap.size W w' := by
  have a1 : ¬ ((0 : Int) ≤ x0) := by omega
  have a2 : decide ((0 : Int) ≤ x0) = false := by simpa using hx
  have k1 : ((0 : Int) == (h : Int)) = false := by simp; omega
  have k2 : (x1 == (1 : Int)) = true := by simp; omega
  clear hc hd hx
  have _hh1 := h1
  have _hh2 := hh
  have B1 := bal (o := .cells #[.int .i64 w, .int .i64 h, .slice p n cap] 24) (Below.refl W.heap.size W)
  have B2 := bal (o := .cells #[.int .i64 0, .int .i64 0, .bool false, .bool false] 61) B1
  have B3 := bal (o := .cells #[.int .i64 0, .int .i64 0, .bool false, .bool false] 61) B2
  have one := fun (U : World) (oo : Obj) => bal (o := oo) (Below.refl U.heap.size U)
  have O3 := ((OwnM.new W w h p n cap 24).keep (one _ (.cells #[.int .i64 0, .int .i64 0, .bool false, .bool false] 61))).keep (one _ (.cells #[.int .i64 0, .int .i64 0, .bool false, .bool false] 61))
  have Z3 := (ZB.new (W.alloc (.cells #[.int .i64 w, .int .i64 h, .slice p n cap] 24)) 0 0 false false).keep (one _ (.cells #[.int .i64 0, .int .i64 0, .bool false, .bool false] 61))
  have Y3 := ZB.new ((W.alloc (.cells #[.int .i64 w, .int .i64 h, .slice p n cap] 24)).alloc (.cells #[.int .i64 0, .int .i64 0, .bool false, .bool false] 61)) 0 0 false false
  have R3 := hr.keep B3
  simp only [World.size_alloc] at Z3 Y3
  have HO := hide O3
  have HZ := hide Z3
  have HY := hide Y3
  have HR := hide R3
  have HB := hide B3
  have Hlt := hide hr.1.1
  have d0 := (R3.2 0 (by omega)).1
  have d1 := (R3.2 1 (by omega)).1
  rw [h0] at d0
  rw [h1] at d1
  have j0 : (0 : Int) < (nw : Int) := by omega
  have j1 : (1 : Int) < (nw : Int) := by omega
  clear B1 B2 B3 one O3 Z3 Y3 R3 hr
  obtain ⟨b0, hb0⟩ : ∃ b, b = W.heap.size := ⟨_, rfl⟩
  go_enter Try.func18, Try.ntmps18
  go_upto_region 2 with fail
  rw [← hb0] at HO HZ HY
  rw [← hb0]
  generalize ((W.alloc (.cells #[.int .i64 w, .int .i64 h, .slice p n cap] 24)).alloc (.cells #[.int .i64 0, .int .i64 0, .bool false, .bool false] 61)).alloc (.cells #[.int .i64 0, .int .i64 0, .bool false, .bool false] 61) = w3 at *
  have Hb0 := hide hb0
  clear hb0
  obtain ⟨br, hbr⟩ : ∃ b, b = b0 + 1 := ⟨_, rfl⟩
  rw [← hbr] at HZ HY
  rw [← hbr]
  obtain ⟨bs, hbs⟩ : ∃ b, b = br + 1 := ⟨_, rfl⟩
  rw [← hbs] at HY
  rw [← hbs]
  have Hne := hide (show W.heap.size = b0 ∧ br ≠ bs ∧ b0 < br ∧ b0 < bs from ⟨(unhide Hb0).symm, by omega, by omega, by omega⟩)
  clear hbr hbs
  obtain ⟨-, m1, m2, m3⟩ := unhide HO
  obtain ⟨-, ⟨y0, y1, y2, y3⟩, u0, u1, u2, u3⟩ := unhide HY
  go_quiet (fail)
  go_upto_if 26 with fail
  have HY4 := hide ((unhide HY).keep (Joins.below_draws w3.heap.size w3 nq))
  have hk4 : Kept (fun i => i = bs) w3 (w3.drewN nq) := (Kept.refl _ _).below (Joins.below_draws _ _ nq)
  generalize w3.drewN nq = w4 at *
  have HR4 := hide ((unhide HR).kept hk4 (fun e => (unhide HR).1.2.ne (unhide HY).1.2 (by decide) e))
  have HO4 := hide ((unhide HO).kept hk4 (fun e => by have := unhide Hne; omega))
  have HZ4 := hide ((unhide HZ).kept hk4 (unhide Hne).2.1)
  have HB4 := hide (Kept.back (unhide HB) hk4 (unhide HB).size (fun i e => by have := unhide Hne; omega))
  clear d0 d1 m1 m2 m3 y0 y1 y2 y3 u0 u1 u2 u3 hk4 HR HO HZ HB
  have d1 := ((unhide HR4).2 1 (by omega)).1
  rw [h1] at d1
  obtain ⟨-, m1, m2, m3⟩ := unhide HO4
  obtain ⟨-, ⟨y0, y1, y2, y3⟩, u0, u1, u2, u3⟩ := unhide HY4
  go_wp2_with fail
  go_quiet (fail)
  go_upto_region 8 with fail
  have HY5 := hide (((unhide HY4).keep (Joins.below_draws w4.heap.size w4 nq)).state 5)
  have hk5 : Kept (fun i => i = bs) w4 ((w4.drewN nq).setCell ⟨bs, 1, none⟩ (.int .i64 5)) := ((Kept.refl _ _).below (Joins.below_draws _ _ nq)).set (b := bs) 1 _ (.inl rfl)
  have hg : (w4.drewN nq).setCell ⟨bs, 1, none⟩ (.int .i64 5) = (w4.setCell ⟨bs, 1, none⟩ (.int .i64 5)).drewN nq := rfl
  try rw [← hg]
  generalize (w4.drewN nq).setCell ⟨bs, 1, none⟩ (.int .i64 5) = w5 at *
  clear hg
  have HZ5 := hide ((unhide HZ4).kept hk5 (unhide Hne).2.1)
  have HB5 := hide (Kept.back (unhide HB4) hk5 (unhide HB4).size (fun i e => by have := unhide Hne; omega))
  clear d1 m1 m2 m3 y0 y1 y2 y3 u0 u1 u2 u3 hk5
  obtain ⟨-, ⟨y0, y1, y2, y3⟩, -⟩ := unhide HY5
  obtain ⟨-, ⟨z0, z1, z2, z3⟩, v0, v1, v2, v3⟩ := unhide HZ5
  obtain ⟨x9, hx9, hZ9, hk9⟩ := (unhide HZ5).put (0 : Int) 5 false false
  have HZ9 := hide hZ9
  have HB9 := hide (Kept.back (unhide HB5) hk9 (unhide HB5).size (fun i e => by have := unhide Hne; omega))
  clear hZ9 hk9
  go_wp2
  obtain ⟨-, ⟨q0, q1, q2, q3⟩, -⟩ := unhide HZ9
  refine bodyPost_ret (v := .agg #[.int .i64 (0 : Int), .int .i64 5, .bool false, .bool false]) ?_ rfl ⟨rfl, unhide HB9⟩
  simp [results, Try.results18, go_sem, q0, q1, q2, q3]

set_option maxRecDepth 100000 in
set_option maxHeartbeats 4000000 in
theorem begin_ii_idle {W : World} {w h : Nat} {p : Option Addr} {n cap : Nat} {q nw cw : Nat} {g : Nat → Int} (x1 : Int) (hh : h ≤ 64) (hr : WR W q nw g) (hn : 2 ≤ nw) (h1 : g 1 = x1) (x0 : Int) (h0 : g 0 = x0) (hx : x0 < 0) (hc : ¬ 0 = h) (hd : ¬ x1 = (1 : Int)) :
    Calls Try.prog 18 #[tr w h p n cap, .slice (some ⟨q, 0, none⟩) nw cw] W fun e w' => e = .returned (.agg #[.int .i64 (0 : Int), .int .i64 0, .bool false, .bool false]) ∧ Below W.heap.size W w' := by
  have a1 : ¬ ((0 : Int) ≤ x0) := by omega
  have a2 : decide ((0 : Int) ≤ x0) = false := by simpa using hx
  have k1 : ((0 : Int) == (h : Int)) = false := by simp; omega
  have k2 : (x1 == (1 : Int)) = false := by simp; omega
  clear hc hd hx
  have _hh1 := h1
  have _hh2 := hh
  have B1 := bal (o := .cells #[.int .i64 w, .int .i64 h, .slice p n cap] 24) (Below.refl W.heap.size W)
  have B2 := bal (o := .cells #[.int .i64 0, .int .i64 0, .bool false, .bool false] 61) B1
  have B3 := bal (o := .cells #[.int .i64 0, .int .i64 0, .bool false, .bool false] 61) B2
  have one := fun (U : World) (oo : Obj) => bal (o := oo) (Below.refl U.heap.size U)
  have O3 := ((OwnM.new W w h p n cap 24).keep (one _ (.cells #[.int .i64 0, .int .i64 0, .bool false, .bool false] 61))).keep (one _ (.cells #[.int .i64 0, .int .i64 0, .bool false, .bool false] 61))
  have Z3 := (ZB.new (W.alloc (.cells #[.int .i64 w, .int .i64 h, .slice p n cap] 24)) 0 0 false false).keep (one _ (.cells #[.int .i64 0, .int .i64 0, .bool false, .bool false] 61))
  have Y3 := ZB.new ((W.alloc (.cells #[.int .i64 w, .int .i64 h, .slice p n cap] 24)).alloc (.cells #[.int .i64 0, .int .i64 0, .bool false, .bool false] 61)) 0 0 false false
  have R3 := hr.keep B3
  simp only [World.size_alloc] at Z3 Y3
  have HO := hide O3
  have HZ := hide Z3
  have HY := hide Y3
  have HR := hide R3
  have HB := hide B3
  have Hlt := hide hr.1.1
  have d0 := (R3.2 0 (by omega)).1
  have d1 := (R3.2 1 (by omega)).1
  rw [h0] at d0
  rw [h1] at d1
  have j0 : (0 : Int) < (nw : Int) := by omega
  have j1 : (1 : Int) < (nw : Int) := by omega
  clear B1 B2 B3 one O3 Z3 Y3 R3 hr
  obtain ⟨b0, hb0⟩ : ∃ b, b = W.heap.size := ⟨_, rfl⟩
  go_enter Try.func18, Try.ntmps18
  go_upto_region 2 with fail
  rw [← hb0] at HO HZ HY
  rw [← hb0]
  generalize ((W.alloc (.cells #[.int .i64 w, .int .i64 h, .slice p n cap] 24)).alloc (.cells #[.int .i64 0, .int .i64 0, .bool false, .bool false] 61)).alloc (.cells #[.int .i64 0, .int .i64 0, .bool false, .bool false] 61) = w3 at *
  have Hb0 := hide hb0
  clear hb0
  obtain ⟨br, hbr⟩ : ∃ b, b = b0 + 1 := ⟨_, rfl⟩
  rw [← hbr] at HZ HY
  rw [← hbr]
  obtain ⟨bs, hbs⟩ : ∃ b, b = br + 1 := ⟨_, rfl⟩
  rw [← hbs] at HY
  rw [← hbs]
  have Hne := hide (show W.heap.size = b0 ∧ br ≠ bs ∧ b0 < br ∧ b0 < bs from ⟨(unhide Hb0).symm, by omega, by omega, by omega⟩)
  clear hbr hbs
  obtain ⟨-, m1, m2, m3⟩ := unhide HO
  obtain ⟨-, ⟨y0, y1, y2, y3⟩, u0, u1, u2, u3⟩ := unhide HY
  go_quiet (fail)
  go_upto_if 26 with fail
  have HY4 := hide ((unhide HY).keep (Joins.below_draws w3.heap.size w3 nq))
  have hk4 : Kept (fun i => i = bs) w3 (w3.drewN nq) := (Kept.refl _ _).below (Joins.below_draws _ _ nq)
  generalize w3.drewN nq = w4 at *
  have HR4 := hide ((unhide HR).kept hk4 (fun e => (unhide HR).1.2.ne (unhide HY).1.2 (by decide) e))
  have HO4 := hide ((unhide HO).kept hk4 (fun e => by have := unhide Hne; omega))
  have HZ4 := hide ((unhide HZ).kept hk4 (unhide Hne).2.1)
  have HB4 := hide (Kept.back (unhide HB) hk4 (unhide HB).size (fun i e => by have := unhide Hne; omega))
  clear d0 d1 m1 m2 m3 y0 y1 y2 y3 u0 u1 u2 u3 hk4 HR HO HZ HB
  have d1 := ((unhide HR4).2 1 (by omega)).1
  rw [h1] at d1
  obtain ⟨-, m1, m2, m3⟩ := unhide HO4
  obtain ⟨-, ⟨y0, y1, y2, y3⟩, u0, u1, u2, u3⟩ := unhide HY4
  go_wp2_with fail
  go_quiet (fail)
  go_upto_region 8 with fail
  have HY5 := hide ((unhide HY4).keep (Joins.below_draws w4.heap.size w4 nq))
  have hk5 : Kept (fun i => i = bs) w4 (w4.drewN nq) := (Kept.refl _ _).below (Joins.below_draws _ _ nq)
  generalize w4.drewN nq = w5 at *
  have HZ5 := hide ((unhide HZ4).kept hk5 (unhide Hne).2.1)
  have HB5 := hide (Kept.back (unhide HB4) hk5 (unhide HB4).size (fun i e => by have := unhide Hne; omega))
  clear d1 m1 m2 m3 y0 y1 y2 y3 u0 u1 u2 u3 hk5
  obtain ⟨-, ⟨y0, y1, y2, y3⟩, -⟩ := unhide HY5
  obtain ⟨-, ⟨z0, z1, z2, z3⟩, v0, v1, v2, v3⟩ := unhide HZ5
  obtain ⟨x9, hx9, hZ9, hk9⟩ := (unhide HZ5).put (0 : Int) 0 false false
  have HZ9 := hide hZ9
  have HB9 := hide (Kept.back (unhide HB5) hk9 (unhide HB5).size (fun i e => by have := unhide Hne; omega))
  clear hZ9 hk9
  go_wp2
  obtain ⟨-, ⟨q0, q1, q2, q3⟩, -⟩ := unhide HZ9
  refine bodyPost_ret (v := .agg #[.int .i64 (0 : Int), .int .i64 0, .bool false, .bool false]) ?_ rfl ⟨rfl, unhide HB9⟩
  simp [results, Try.results18, go_sem, q0, q1, q2, q3]

set_option maxRecDepth 100000 in
set_option maxHeartbeats 4000000 in
theorem begin_iii_eq {W : World} {w h : Nat} {p : Option Addr} {n cap : Nat} {q nw cw : Nat} {g : Nat → Int} (x1 : Int) (hh : h ≤ 64) (hr : WR W q nw g) (hn : 2 ≤ nw) (h1 : g 1 = x1) (x0 : Int) (h0 : g 0 = x0) (hx : (h : Int) < x0) (hc : 0 = h) :
    Calls Try.prog 18 #[tr w h p n cap, .slice (some ⟨q, 0, none⟩) nw cw] W fun e w' => e = .returned (.agg #[.int .i64 (0 : Int), .int .i64 6, .bool false, .bool false]) ∧ Below W.heap.size W w' := by
  have a1 : (0 : Int) ≤ x0 := by omega
  have a3 : ¬ (x0 ≤ (h : Int)) := by omega
  have a4 : decide (x0 ≤ (h : Int)) = false := by simpa using hx
  have k1 : ((0 : Int) == (h : Int)) = true := by simp; omega
  clear hc hx
  have _hh1 := h1
  have _hh2 := hh
  have B1 := bal (o := .cells #[.int .i64 w, .int .i64 h, .slice p n cap] 24) (Below.refl W.heap.size W)
  have B2 := bal (o := .cells #[.int .i64 0, .int .i64 0, .bool false, .bool false] 61) B1
  have B3 := bal (o := .cells #[.int .i64 0, .int .i64 0, .bool false, .bool false] 61) B2
  have one := fun (U : World) (oo : Obj) => bal (o := oo) (Below.refl U.heap.size U)
  have O3 := ((OwnM.new W w h p n cap 24).keep (one _ (.cells #[.int .i64 0, .int .i64 0, .bool false, .bool false] 61))).keep (one _ (.cells #[.int .i64 0, .int .i64 0, .bool false, .bool false] 61))
  have Z3 := (ZB.new (W.alloc (.cells #[.int .i64 w, .int .i64 h, .slice p n cap] 24)) 0 0 false false).keep (one _ (.cells #[.int .i64 0, .int .i64 0, .bool false, .bool false] 61))
  have Y3 := ZB.new ((W.alloc (.cells #[.int .i64 w, .int .i64 h, .slice p n cap] 24)).alloc (.cells #[.int .i64 0, .int .i64 0, .bool false, .bool false] 61)) 0 0 false false
  have R3 := hr.keep B3
  simp only [World.size_alloc] at Z3 Y3
  have HO := hide O3
  have HZ := hide Z3
  have HY := hide Y3
  have HR := hide R3
  have HB := hide B3
  have Hlt := hide hr.1.1
  have d0 := (R3.2 0 (by omega)).1
  have d1 := (R3.2 1 (by omega)).1
  rw [h0] at d0
  rw [h1] at d1
  have j0 : (0 : Int) < (nw : Int) := by omega
  have j1 : (1 : Int) < (nw : Int) := by omega
  clear B1 B2 B3 one O3 Z3 Y3 R3 hr
  obtain ⟨b0, hb0⟩ : ∃ b, b = W.heap.size := ⟨_, rfl⟩
  go_enter Try.func18, Try.ntmps18
  go_upto_region 2 with fail
  rw [← hb0] at HO HZ HY
  rw [← hb0]
  generalize ((W.alloc (.cells #[.int .i64 w, .int .i64 h, .slice p n cap] 24)).alloc (.cells #[.int .i64 0, .int .i64 0, .bool false, .bool false] 61)).alloc (.cells #[.int .i64 0, .int .i64 0, .bool false, .bool false] 61) = w3 at *
  have Hb0 := hide hb0
  clear hb0
  obtain ⟨br, hbr⟩ : ∃ b, b = b0 + 1 := ⟨_, rfl⟩
  rw [← hbr] at HZ HY
  rw [← hbr]
  obtain ⟨bs, hbs⟩ : ∃ b, b = br + 1 := ⟨_, rfl⟩
  rw [← hbs] at HY
  rw [← hbs]
  have Hne := hide (show W.heap.size = b0 ∧ br ≠ bs ∧ b0 < br ∧ b0 < bs from ⟨(unhide Hb0).symm, by omega, by omega, by omega⟩)
  clear hbr hbs
  obtain ⟨-, m1, m2, m3⟩ := unhide HO
  obtain ⟨-, ⟨y0, y1, y2, y3⟩, u0, u1, u2, u3⟩ := unhide HY
  go_quiet (fail)
  go_upto_if 26 with fail
  have HY4 := hide ((unhide HY).keep (Joins.below_draws w3.heap.size w3 nq))
  have hk4 : Kept (fun i => i = bs) w3 (w3.drewN nq) := (Kept.refl _ _).below (Joins.below_draws _ _ nq)
  generalize w3.drewN nq = w4 at *
  have HR4 := hide ((unhide HR).kept hk4 (fun e => (unhide HR).1.2.ne (unhide HY).1.2 (by decide) e))
  have HO4 := hide ((unhide HO).kept hk4 (fun e => by have := unhide Hne; omega))
  have HZ4 := hide ((unhide HZ).kept hk4 (unhide Hne).2.1)
  have HB4 := hide (Kept.back (unhide HB) hk4 (unhide HB).size (fun i e => by have := unhide Hne; omega))
  clear d0 d1 m1 m2 m3 y0 y1 y2 y3 u0 u1 u2 u3 hk4 HR HO HZ HB
  have d1 := ((unhide HR4).2 1 (by omega)).1
  rw [h1] at d1
  obtain ⟨-, m1, m2, m3⟩ := unhide HO4
  obtain ⟨-, ⟨y0, y1, y2, y3⟩, u0, u1, u2, u3⟩ := unhide HY4
  go_upto_region 8 with fail
  have HY5 := hide ((unhide HY4).state 6)
  have hk5 : Kept (fun i => i = bs) w4 (w4.setCell ⟨bs, 1, none⟩ (.int .i64 6)) := kset _ _ _ _
  generalize w4.setCell ⟨bs, 1, none⟩ (.int .i64 6) = w5 at *
  have HZ5 := hide ((unhide HZ4).kept hk5 (unhide Hne).2.1)
  have HB5 := hide (Kept.back (unhide HB4) hk5 (unhide HB4).size (fun i e => by have := unhide Hne; omega))
  clear d1 m1 m2 m3 y0 y1 y2 y3 u0 u1 u2 u3 hk5
  obtain ⟨-, ⟨y0, y1, y2, y3⟩, -⟩ := unhide HY5
  obtain ⟨-, ⟨z0, z1, z2, z3⟩, v0, v1, v2, v3⟩ := unhide HZ5
  obtain ⟨x9, hx9, hZ9, hk9⟩ := (unhide HZ5).put (0 : Int) 6 false false
  have HZ9 := hide hZ9
  have HB9 := hide (Kept.back (unhide HB5) hk9 (unhide HB5).size (fun i e => by have := unhide Hne; omega))
  clear hZ9 hk9
  go_wp2
  obtain ⟨-, ⟨q0, q1, q2, q3⟩, -⟩ := unhide HZ9
  refine bodyPost_ret (v := .agg #[.int .i64 (0 : Int), .int .i64 6, .bool false, .bool false]) ?_ rfl ⟨rfl, unhide HB9⟩
  simp [results, Try.results18, go_sem, q0, q1, q2, q3]

set_option maxRecDepth 100000 in
set_option maxHeartbeats 4000000 in
theorem begin_iii_doubt {W : World} {w h : Nat} {p : Option Addr} {n cap : Nat} {q nw cw : Nat} {g : Nat → Int} (x1 : Int) (hh : h ≤ 64) (hr : WR W q nw g) (hn : 2 ≤ nw) (h1 : g 1 = x1) (x0 : Int) (h0 : g 0 = x0) (hx : (h : Int) < x0) (hc : ¬ 0 = h) (hd : x1 = (1 : Int)) :
    Calls Try.prog 18 #[tr w h p n cap, .slice (some ⟨q, 0, none⟩) nw cw] W fun e w' => e = .returned (.agg #[.int .i64 (0 : Int), .int .i64 5, .bool false, .bool false]) ∧ Below W.heap.size W w' := by
  have a1 : (0 : Int) ≤ x0 := by omega
  have a3 : ¬ (x0 ≤ (h : Int)) := by omega
  have a4 : decide (x0 ≤ (h : Int)) = false := by simpa using hx
  have k1 : ((0 : Int) == (h : Int)) = false := by simp; omega
  have k2 : (x1 == (1 : Int)) = true := by simp; omega
  clear hc hd hx
  have _hh1 := h1
  have _hh2 := hh
  have B1 := bal (o := .cells #[.int .i64 w, .int .i64 h, .slice p n cap] 24) (Below.refl W.heap.size W)
  have B2 := bal (o := .cells #[.int .i64 0, .int .i64 0, .bool false, .bool false] 61) B1
  have B3 := bal (o := .cells #[.int .i64 0, .int .i64 0, .bool false, .bool false] 61) B2
  have one := fun (U : World) (oo : Obj) => bal (o := oo) (Below.refl U.heap.size U)
  have O3 := ((OwnM.new W w h p n cap 24).keep (one _ (.cells #[.int .i64 0, .int .i64 0, .bool false, .bool false] 61))).keep (one _ (.cells #[.int .i64 0, .int .i64 0, .bool false, .bool false] 61))
  have Z3 := (ZB.new (W.alloc (.cells #[.int .i64 w, .int .i64 h, .slice p n cap] 24)) 0 0 false false).keep (one _ (.cells #[.int .i64 0, .int .i64 0, .bool false, .bool false] 61))
  have Y3 := ZB.new ((W.alloc (.cells #[.int .i64 w, .int .i64 h, .slice p n cap] 24)).alloc (.cells #[.int .i64 0, .int .i64 0, .bool false, .bool false] 61)) 0 0 false false
  have R3 := hr.keep B3
  simp only [World.size_alloc] at Z3 Y3
  have HO := hide O3
  have HZ := hide Z3
  have HY := hide Y3
  have HR := hide R3
  have HB := hide B3
  have Hlt := hide hr.1.1
  have d0 := (R3.2 0 (by omega)).1
  have d1 := (R3.2 1 (by omega)).1
  rw [h0] at d0
  rw [h1] at d1
  have j0 : (0 : Int) < (nw : Int) := by omega
  have j1 : (1 : Int) < (nw : Int) := by omega
  clear B1 B2 B3 one O3 Z3 Y3 R3 hr
  obtain ⟨b0, hb0⟩ : ∃ b, b = W.heap.size := ⟨_, rfl⟩
  go_enter Try.func18, Try.ntmps18
  go_upto_region 2 with fail
  rw [← hb0] at HO HZ HY
  rw [← hb0]
  generalize ((W.alloc (.cells #[.int .i64 w, .int .i64 h, .slice p n cap] 24)).alloc (.cells #[.int .i64 0, .int .i64 0, .bool false, .bool false] 61)).alloc (.cells #[.int .i64 0, .int .i64 0, .bool false, .bool false] 61) = w3 at *
  have Hb0 := hide hb0
  clear hb0
  obtain ⟨br, hbr⟩ : ∃ b, b = b0 + 1 := ⟨_, rfl⟩
  rw [← hbr] at HZ HY
  rw [← hbr]
  obtain ⟨bs, hbs⟩ : ∃ b, b = br + 1 := ⟨_, rfl⟩
  rw [← hbs] at HY
  rw [← hbs]
  have Hne := hide (show W.heap.size = b0 ∧ br ≠ bs ∧ b0 < br ∧ b0 < bs from ⟨(unhide Hb0).symm, by omega, by omega, by omega⟩)
  clear hbr hbs
  obtain ⟨-, m1, m2, m3⟩ := unhide HO
  obtain ⟨-, ⟨y0, y1, y2, y3⟩, u0, u1, u2, u3⟩ := unhide HY
  go_quiet (fail)
  go_upto_if 26 with fail
  have HY4 := hide ((unhide HY).keep (Joins.below_draws w3.heap.size w3 nq))
  have hk4 : Kept (fun i => i = bs) w3 (w3.drewN nq) := (Kept.refl _ _).below (Joins.below_draws _ _ nq)
  generalize w3.drewN nq = w4 at *
  have HR4 := hide ((unhide HR).kept hk4 (fun e => (unhide HR).1.2.ne (unhide HY).1.2 (by decide) e))
  have HO4 := hide ((unhide HO).kept hk4 (fun e => by have := unhide Hne; omega))
  have HZ4 := hide ((unhide HZ).kept hk4 (unhide Hne).2.1)
  have HB4 := hide (Kept.back (unhide HB) hk4 (unhide HB).size (fun i e => by have := unhide Hne; omega))
  clear d0 d1 m1 m2 m3 y0 y1 y2 y3 u0 u1 u2 u3 hk4 HR HO HZ HB
  have d1 := ((unhide HR4).2 1 (by omega)).1
  rw [h1] at d1
  obtain ⟨-, m1, m2, m3⟩ := unhide HO4
  obtain ⟨-, ⟨y0, y1, y2, y3⟩, u0, u1, u2, u3⟩ := unhide HY4
  go_wp2_with fail
  go_quiet (fail)
  go_upto_region 8 with fail
  have HY5 := hide (((unhide HY4).keep (Joins.below_draws w4.heap.size w4 nq)).state 5)
  have hk5 : Kept (fun i => i = bs) w4 ((w4.drewN nq).setCell ⟨bs, 1, none⟩ (.int .i64 5)) := ((Kept.refl _ _).below (Joins.below_draws _ _ nq)).set (b := bs) 1 _ (.inl rfl)
  have hg : (w4.drewN nq).setCell ⟨bs, 1, none⟩ (.int .i64 5) = (w4.setCell ⟨bs, 1, none⟩ (.int .i64 5)).drewN nq := rfl
  try rw [← hg]
  generalize (w4.drewN nq).setCell ⟨bs, 1, none⟩ (.int .i64 5) = w5 at *
  clear hg
  have HZ5 := hide ((unhide HZ4).kept hk5 (unhide Hne).2.1)
  have HB5 := hide (Kept.back (unhide HB4) hk5 (unhide HB4).size (fun i e => by have := unhide Hne; omega))
  clear d1 m1 m2 m3 y0 y1 y2 y3 u0 u1 u2 u3 hk5
  obtain ⟨-, ⟨y0, y1, y2, y3⟩, -⟩ := unhide HY5
  obtain ⟨-, ⟨z0, z1, z2, z3⟩, v0, v1, v2, v3⟩ := unhide HZ5
  obtain ⟨x9, hx9, hZ9, hk9⟩ := (unhide HZ5).put (0 : Int) 5 false false
  have HZ9 := hide hZ9
  have HB9 := hide (Kept.back (unhide HB5) hk9 (unhide HB5).size (fun i e => by have := unhide Hne; omega))
  clear hZ9 hk9
  go_wp2
  obtain ⟨-, ⟨q0, q1, q2, q3⟩, -⟩ := unhide HZ9
  refine bodyPost_ret (v := .agg #[.int .i64 (0 : Int), .int .i64 5, .bool false, .bool false]) ?_ rfl ⟨rfl, unhide HB9⟩
  simp [results, Try.results18, go_sem, q0, q1, q2, q3]

set_option maxRecDepth 100000 in
set_option maxHeartbeats 4000000 in
theorem begin_iii_idle {W : World} {w h : Nat} {p : Option Addr} {n cap : Nat} {q nw cw : Nat} {g : Nat → Int} (x1 : Int) (hh : h ≤ 64) (hr : WR W q nw g) (hn : 2 ≤ nw) (h1 : g 1 = x1) (x0 : Int) (h0 : g 0 = x0) (hx : (h : Int) < x0) (hc : ¬ 0 = h) (hd : ¬ x1 = (1 : Int)) :
    Calls Try.prog 18 #[tr w h p n cap, .slice (some ⟨q, 0, none⟩) nw cw] W fun e w' => e = .returned (.agg #[.int .i64 (0 : Int), .int .i64 0, .bool false, .bool false]) ∧ Below W.heap.size W w' := by
  have a1 : (0 : Int) ≤ x0 := by omega
  have a3 : ¬ (x0 ≤ (h : Int)) := by omega
  have a4 : decide (x0 ≤ (h : Int)) = false := by simpa using hx
  have k1 : ((0 : Int) == (h : Int)) = false := by simp; omega
  have k2 : (x1 == (1 : Int)) = false := by simp; omega
  clear hc hd hx
  have _hh1 := h1
  have _hh2 := hh
  have B1 := bal (o := .cells #[.int .i64 w, .int .i64 h, .slice p n cap] 24) (Below.refl W.heap.size W)
  have B2 := bal (o := .cells #[.int .i64 0, .int .i64 0, .bool false, .bool false] 61) B1
  have B3 := bal (o := .cells #[.int .i64 0, .int .i64 0, .bool false, .bool false] 61) B2
  have one := fun (U : World) (oo : Obj) => bal (o := oo) (Below.refl U.heap.size U)
  have O3 := ((OwnM.new W w h p n cap 24).keep (one _ (.cells #[.int .i64 0, .int .i64 0, .bool false, .bool false] 61))).keep (one _ (.cells #[.int .i64 0, .int .i64 0, .bool false, .bool false] 61))
  have Z3 := (ZB.new (W.alloc (.cells #[.int .i64 w, .int .i64 h, .slice p n cap] 24)) 0 0 false false).keep (one _ (.cells #[.int .i64 0, .int .i64 0, .bool false, .bool false] 61))
  have Y3 := ZB.new ((W.alloc (.cells #[.int .i64 w, .int .i64 h, .slice p n cap] 24)).alloc (.cells #[.int .i64 0, .int .i64 0, .bool false, .bool false] 61)) 0 0 false false
  have R3 := hr.keep B3
  simp only [World.size_alloc] at Z3 Y3
  have HO := hide O3
  have HZ := hide Z3
  have HY := hide Y3
  have HR := hide R3
  have HB := hide B3
  have Hlt := hide hr.1.1
  have d0 := (R3.2 0 (by omega)).1
  have d1 := (R3.2 1 (by omega)).1
  rw [h0] at d0
  rw [h1] at d1
  have j0 : (0 : Int) < (nw : Int) := by omega
  have j1 : (1 : Int) < (nw : Int) := by omega
  clear B1 B2 B3 one O3 Z3 Y3 R3 hr
  obtain ⟨b0, hb0⟩ : ∃ b, b = W.heap.size := ⟨_, rfl⟩
  go_enter Try.func18, Try.ntmps18
  go_upto_region 2 with fail
  rw [← hb0] at HO HZ HY
  rw [← hb0]
  generalize ((W.alloc (.cells #[.int .i64 w, .int .i64 h, .slice p n cap] 24)).alloc (.cells #[.int .i64 0, .int .i64 0, .bool false, .bool false] 61)).alloc (.cells #[.int .i64 0, .int .i64 0, .bool false, .bool false] 61) = w3 at *
  have Hb0 := hide hb0
  clear hb0
  obtain ⟨br, hbr⟩ : ∃ b, b = b0 + 1 := ⟨_, rfl⟩
  rw [← hbr] at HZ HY
  rw [← hbr]
  obtain ⟨bs, hbs⟩ : ∃ b, b = br + 1 := ⟨_, rfl⟩
  rw [← hbs] at HY
  rw [← hbs]
  have Hne := hide (show W.heap.size = b0 ∧ br ≠ bs ∧ b0 < br ∧ b0 < bs from ⟨(unhide Hb0).symm, by omega, by omega, by omega⟩)
  clear hbr hbs
  obtain ⟨-, m1, m2, m3⟩ := unhide HO
  obtain ⟨-, ⟨y0, y1, y2, y3⟩, u0, u1, u2, u3⟩ := unhide HY
  go_quiet (fail)
  go_upto_if 26 with fail
  have HY4 := hide ((unhide HY).keep (Joins.below_draws w3.heap.size w3 nq))
  have hk4 : Kept (fun i => i = bs) w3 (w3.drewN nq) := (Kept.refl _ _).below (Joins.below_draws _ _ nq)
  generalize w3.drewN nq = w4 at *
  have HR4 := hide ((unhide HR).kept hk4 (fun e => (unhide HR).1.2.ne (unhide HY).1.2 (by decide) e))
  have HO4 := hide ((unhide HO).kept hk4 (fun e => by have := unhide Hne; omega))
  have HZ4 := hide ((unhide HZ).kept hk4 (unhide Hne).2.1)
  have HB4 := hide (Kept.back (unhide HB) hk4 (unhide HB).size (fun i e => by have := unhide Hne; omega))
  clear d0 d1 m1 m2 m3 y0 y1 y2 y3 u0 u1 u2 u3 hk4 HR HO HZ HB
  have d1 := ((unhide HR4).2 1 (by omega)).1
  rw [h1] at d1
  obtain ⟨-, m1, m2, m3⟩ := unhide HO4
  obtain ⟨-, ⟨y0, y1, y2, y3⟩, u0, u1, u2, u3⟩ := unhide HY4
  go_wp2_with fail
  go_quiet (fail)
  go_upto_region 8 with fail
  have HY5 := hide ((unhide HY4).keep (Joins.below_draws w4.heap.size w4 nq))
  have hk5 : Kept (fun i => i = bs) w4 (w4.drewN nq) := (Kept.refl _ _).below (Joins.below_draws _ _ nq)
  generalize w4.drewN nq = w5 at *
  have HZ5 := hide ((unhide HZ4).kept hk5 (unhide Hne).2.1)
  have HB5 := hide (Kept.back (unhide HB4) hk5 (unhide HB4).size (fun i e => by have := unhide Hne; omega))
  clear d1 m1 m2 m3 y0 y1 y2 y3 u0 u1 u2 u3 hk5
  obtain ⟨-, ⟨y0, y1, y2, y3⟩, -⟩ := unhide HY5
  obtain ⟨-, ⟨z0, z1, z2, z3⟩, v0, v1, v2, v3⟩ := unhide HZ5
  obtain ⟨x9, hx9, hZ9, hk9⟩ := (unhide HZ5).put (0 : Int) 0 false false
  have HZ9 := hide hZ9
  have HB9 := hide (Kept.back (unhide HB5) hk9 (unhide HB5).size (fun i e => by have := unhide Hne; omega))
  clear hZ9 hk9
  go_wp2
  obtain ⟨-, ⟨q0, q1, q2, q3⟩, -⟩ := unhide HZ9
  refine bodyPost_ret (v := .agg #[.int .i64 (0 : Int), .int .i64 0, .bool false, .bool false]) ?_ rfl ⟨rfl, unhide HB9⟩
  simp [results, Try.results18, go_sem, q0, q1, q2, q3]

theorem begin_any {W : World} {w h : Nat} {p : Option Addr} {n cap : Nat} {q nw cw : Nat} {g : Nat → Int} (hh : h ≤ 64) (hr : WR W q nw g) (hn : 2 ≤ nw) :
    Calls Try.prog 18 #[tr w h p n cap, .slice (some ⟨q, 0, none⟩) nw cw] W fun e w' => e = .returned (.agg #[.int .i64 (woN (g 0) h : Nat), .int .i64 (fsS (g 1) (woN (g 0) h) h), .bool false, .bool false]) ∧ Below W.heap.size W w' := by
  by_cases c1 : 0 ≤ g 0 ∧ g 0 ≤ (h : Int)
  · have e : ((woN (g 0) h : Nat) : Int) = g 0 := by unfold woN; rw [if_pos c1]; omega
    have hle : woN (g 0) h ≤ h := woN_le _ _
    generalize woN (g 0) h = wv at *
    unfold fsS
    by_cases c2 : wv = h
    · rw [if_pos c2]; exact begin_i_eq wv (g 1) hh hr hn rfl e.symm hle c2
    · rw [if_neg c2]
      by_cases c3 : g 1 = (wv : Int) + 1
      · rw [if_pos c3]; exact begin_i_doubt wv (g 1) hh hr hn rfl e.symm hle c2 c3
      · rw [if_neg c3]; exact begin_i_idle wv (g 1) hh hr hn rfl e.symm hle c2 c3
  · have e : woN (g 0) h = 0 := by unfold woN; rw [if_neg c1]
    rw [e]
    unfold fsS
    by_cases c0 : g 0 < 0
    · by_cases c2 : 0 = h
      · rw [if_pos c2]; exact begin_ii_eq (g 1) hh hr hn rfl (g 0) rfl c0 c2
      · rw [if_neg c2]
        by_cases c3 : g 1 = ((0 : Nat) : Int) + 1
        · rw [if_pos c3]; exact begin_ii_doubt (g 1) hh hr hn rfl (g 0) rfl c0 c2 c3
        · rw [if_neg c3]; exact begin_ii_idle (g 1) hh hr hn rfl (g 0) rfl c0 c2 c3
    · have c4 : (h : Int) < g 0 := by omega
      by_cases c2 : 0 = h
      · rw [if_pos c2]; exact begin_iii_eq (g 1) hh hr hn rfl (g 0) rfl c4 c2
      · rw [if_neg c2]
        by_cases c3 : g 1 = ((0 : Nat) : Int) + 1
        · rw [if_pos c3]; exact begin_iii_doubt (g 1) hh hr hn rfl (g 0) rfl c4 c2 c3
        · rw [if_neg c3]; exact begin_iii_idle (g 1) hh hr hn rfl (g 0) rfl c4 c2 c3
end Go.Proofs.Ytndfecdhmncdaaa
