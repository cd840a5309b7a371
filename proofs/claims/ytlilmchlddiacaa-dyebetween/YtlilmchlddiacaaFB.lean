/-
  Package dye: fair, plus, far.
-/
import Derived.Test.YtlilmchlddiacaaFA
namespace Go.Proofs.Ytlilmchlddiacaa
open Go.RowKit

theorem index45 (p : Nat → Nat) (x : Nat) (hx : x < 3) (w : World) : (Instr.index 45 (.agg #[.float .f64 (p 0), .float .f64 (p 1), .float .f64 (p 2)]) (.int .i64 (x : Int))).run Try.prog w = .ok (.float .f64 (p x)) w := by
  rcases (show x = 0 ∨ x = 1 ∨ x = 2 by omega) with rfl | rfl | rfl <;> kernel_rfl
theorem unB_parts {x : Nat} {b : Bool} (h : unB x = b) : ∃ o1 o2, FloatKind.f64.format.order x 0 = o1 ∧ FloatKind.f64.format.order x 4607182418800017408 = o2 ∧ ((o1 == some .gt || o1 == some .eq) && (o2 == some .lt || o2 == some .eq)) = b := ⟨_, _, rfl, rfl, h⟩

set_option maxHeartbeats 4000000 in
theorem fair_yes (p : Nat → Nat) (h : ∀ j, j < 3 → unB (p j) = true) (W : World) : Calls Try.prog 19 #[pvV p] W fun e w' => e = .returned (.bool true) ∧ Below W.heap.size W w' := by
  have H := hide h
  have hF := FR.new W p 45
  have a0 := (hF.2 0 (by omega)).1
  have a1 := (hF.2 1 (by omega)).1
  have a2 := (hF.2 2 (by omega)).1
  have Hb := hide (bnew W (.cells #[.float .f64 (p 0), .float .f64 (p 1), .float .f64 (p 2)] 45))
  clear h hF
  unfold pvV
  go_enter Try.func19, Try.ntmps19
  go_upto_region 1 with fail
  generalize W.alloc (.cells #[.float .f64 (p 0), .float .f64 (p 1), .float .f64 (p 2)] 45) = w1 at *
  generalize W.heap.size = n0 at a0 a1 a2 ⊢
  go_wp2
  clear a0 a1 a2
  go_loopw [6] (fun i wr => ∃ x : Nat, x ≤ 3 ∧ i = .int .i64 x ∧ Below W.heap.size W wr) (fun i _ => 3 - (intOf i).toNat)
  case atStart => exact ⟨0, by omega, rfl, unhide Hb⟩
  case round =>
    clear Hb
    obtain ⟨x, hx, rfl, hb⟩ := hrel
    have Hb := hide hb
    clear hb
    by_cases hlt : x < 3
    · have q0 : (x : Int) < 3 := by omega
      have q1 : (0 : Int) ≤ (x : Int) := by omega
      have hix : ∀ w, _ := fun w => index45 p x hlt w
      obtain ⟨o1, o2, h1, h2, hu⟩ := unB_parts (unhide H x hlt)
      generalize p x = px at *
      rcases o1 with _ | (_ | _ | _) <;> rcases o2 with _ | (_ | _ | _) <;> first | exact absurd hu (by decide) | skip
      all_goals
        clear hu
        go_wp2
        go_roundw
        case rel => exact ⟨x + 1, by omega, by go_num, unhide Hb⟩
        case measure => simp [intOf]; omega
    · obtain rfl : x = 3 := by omega
      have cl : ¬ ((3 : Int) < 3) := by omega
      go_wp2
      go_ret
      exact ⟨rfl, unhide Hb⟩
set_option maxHeartbeats 4000000 in
theorem fair_no (p : Nat → Nat) (k : Nat) (hk : k < 3) (h : ∀ j, j < k → unB (p j) = true) (h0 : unB (p k) = false) (W : World) : Calls Try.prog 19 #[pvV p] W fun e w' => e = .returned (.bool false) ∧ Below W.heap.size W w' := by
  have H := hide h
  have H0 := hide h0
  have hF := FR.new W p 45
  have a0 := (hF.2 0 (by omega)).1
  have a1 := (hF.2 1 (by omega)).1
  have a2 := (hF.2 2 (by omega)).1
  have Hb := hide (bnew W (.cells #[.float .f64 (p 0), .float .f64 (p 1), .float .f64 (p 2)] 45))
  clear h hF h0
  unfold pvV
  go_enter Try.func19, Try.ntmps19
  go_upto_region 1 with fail
  generalize W.alloc (.cells #[.float .f64 (p 0), .float .f64 (p 1), .float .f64 (p 2)] 45) = w1 at *
  generalize W.heap.size = n0 at a0 a1 a2 ⊢
  go_wp2
  clear a0 a1 a2
  go_loopw [6] (fun i wr => ∃ x : Nat, x ≤ k ∧ i = .int .i64 x ∧ Below W.heap.size W wr) (fun i _ => 3 - (intOf i).toNat)
  case atStart => exact ⟨0, by omega, rfl, unhide Hb⟩
  case round =>
    clear Hb
    obtain ⟨x, hx, rfl, hb⟩ := hrel
    have Hb := hide hb
    clear hb
    have q0 : (x : Int) < 3 := by omega
    have q1 : (0 : Int) ≤ (x : Int) := by omega
    have hix : ∀ w, _ := fun w => index45 p x (by omega) w
    by_cases hlt : x < k
    · obtain ⟨o1, o2, h1, h2, hu⟩ := unB_parts (unhide H x hlt)
      clear H0
      generalize p x = px at *
      rcases o1 with _ | (_ | _ | _) <;> rcases o2 with _ | (_ | _ | _) <;> first | exact absurd hu (by decide) | skip
      all_goals
        clear hu
        go_wp2
        go_roundw
        case rel => exact ⟨x + 1, by omega, by go_num, unhide Hb⟩
        case measure => simp [intOf]; omega
    · obtain rfl : k = x := by omega
      obtain ⟨o1, o2, h1, h2, hu⟩ := unB_parts (unhide H0)
      clear H0 H
      generalize p k = px at *
      rcases o1 with _ | (_ | _ | _) <;> rcases o2 with _ | (_ | _ | _) <;> first | exact absurd hu (by decide) | skip
      all_goals
        clear hu
        go_wp2
        go_ret
        exact ⟨rfl, unhide Hb⟩
theorem fair_any (p : Nat → Nat) (W : World) : Calls Try.prog 19 #[pvV p] W fun e w' => e = .returned (.bool (faB p)) ∧ Below W.heap.size W w' := by
  cases h0 : unB (p 0) with
  | false => rw [show faB p = false by simp [faB, h0]]; exact fair_no p 0 (by omega) (fun j hj => by omega) h0 W
  | true =>
    cases h1 : unB (p 1) with
    | false => rw [show faB p = false by simp [faB, h1]]; exact fair_no p 1 (by omega) (fun j hj => by rw [show j = 0 by omega]; exact h0) h1 W
    | true =>
      cases h2 : unB (p 2) with
      | false =>
        rw [show faB p = false by simp [faB, h2]]
        refine fair_no p 2 (by omega) (fun j hj => ?_) h2 W
        rcases (show j = 0 ∨ j = 1 by omega) with rfl | rfl
        · exact h0
        · exact h1
      | true =>
        rw [show faB p = true by simp [faB, h0, h1, h2]]
        refine fair_yes p (fun j hj => ?_) W
        rcases (show j = 0 ∨ j = 1 ∨ j = 2 by omega) with rfl | rfl | rfl
        · exact h0
        · exact h1
        · exact h2

set_option maxHeartbeats 1000000 in
theorem plus_any (p q r : Nat → Nat) (h : ∀ j, j < 3 → floatBits .add .f64 (p j) (q j) = some (r j)) (W : World) : Calls Try.prog 20 #[pvV p, pvV q] W fun e w' => e = .returned (pvV r) ∧ Below W.heap.size W w' := by
  obtain ⟨w0, E, hA, hQ, hB, hb⟩ := three_boxes W p q 45 45 45
  have H := hide h
  have HA := hide hA
  have HQ := hide hQ
  have HB := hide hB
  have Hb := hide hb
  clear h hA hB hb hQ
  unfold pvV
  have hst := stF
  go_enter Try.func20, Try.ntmps20
  go_upto_region 1 with fail
  clear E
  obtain ⟨n2, hn2⟩ : ∃ n2, W.heap.size + 1 + 1 = n2 := ⟨_, rfl⟩
  obtain ⟨n1, hn1⟩ : ∃ n1, W.heap.size + 1 = n1 := ⟨_, rfl⟩
  obtain ⟨n0, hn0⟩ : ∃ n0, W.heap.size = n0 := ⟨_, rfl⟩
  have Hn := hide (show W.heap.size = n0 ∧ W.heap.size + 1 = n1 ∧ W.heap.size + 2 = n2 by omega)
  first | rw [hn2] at HB ⊢ | (rw [hn2] at HB; rw [show W.heap.size + 2 = n2 by omega])
  rw [hn1] at HQ ⊢
  rw [hn0] at HA ⊢
  clear hn0 hn1 hn2
  go_wp2
  go_loopw [6] (fun i wr => ∃ x : Nat, x ≤ 3 ∧ i = .int .i64 x ∧ FR wr n0 (fup p r x) ∧ FR wr n1 q ∧ FR wr n2 (fun _ => 0) ∧ Below W.heap.size W wr) (fun i _ => 3 - (intOf i).toNat)
  case atStart => exact ⟨0, by omega, rfl, by rw [fup_zero]; exact unhide HA, unhide HQ, unhide HB, unhide Hb⟩
  case round =>
    clear HA HB Hb HQ
    obtain ⟨x, hx, rfl, hF, hQ, hG, hb⟩ := hrel
    by_cases hlt : x < 3
    · have q0 : (x : Int) < 3 := by omega
      have q1 : (0 : Int) ≤ (x : Int) := by omega
      have kx := (hF.2 x hlt).1
      rw [fup_at] at kx
      have kq := (hQ.2 x hlt).1
      have kf := (hF.2 x hlt).2
      have hop : ∀ t w, (binOp .add t (.float .f64 (p x)) (.float .f64 (q x))).run Try.prog w = .ok (.float .f64 (r x)) w := fun t w => run_float_arith w .add t .f64 _ _ _ (unhide H x hlt)
      have HF := hide ((hF.put (v := r x) rfl).keep (bdrew _))
      have HG := hide ((hG.kept (kset wr n0 x (.float .f64 (r x))) (by have := unhide Hn; omega)).keep (bdrew _))
      have HQ := hide ((hQ.kept (kset wr n0 x (.float .f64 (r x))) (by have := unhide Hn; omega)).keep (bdrew _))
      have Hb := hide (btrans (bset (p := ⟨n0, x, none⟩) (u := .float .f64 (r x)) hb (by have := unhide Hn; show W.heap.size ≤ n0; omega)) (bdrew _))
      generalize p x = px at *
      generalize q x = qx at *
      generalize r x = rx at *
      clear hF hG hb hQ
      go_wp2_with fail
      go_region
      go_wp2
      go_roundw
      case rel => exact ⟨x + 1, by omega, by go_num, unhide HF, unhide HQ, unhide HG, unhide Hb⟩
      case measure => simp [intOf]; omega
    · obtain rfl : x = 3 := by omega
      have cl : ¬ ((3 : Int) < 3) := by omega
      have hF3 := hF.ext (fun j hj => fup_three p r j hj)
      obtain ⟨V, E2, hV, hK⟩ := hG.put3 r
      have Hb := hide (Kept.back hb hK hb.size (fun i hi => by have := unhide Hn; omega))
      have a0 := (hF3.2 0 (by omega)).1
      have a1 := (hF3.2 1 (by omega)).1
      have a2 := (hF3.2 2 (by omega)).1
      have b0 := (hG.2 0 (by omega)).1
      have b1 := (hG.2 1 (by omega)).1
      have b2 := (hG.2 2 (by omega)).1
      have f0 := (hG.2 0 (by omega)).2
      have f1 := (hG.2 1 (by omega)).2
      have f2 := (hG.2 2 (by omega)).2
      have v0 := (hV.2 0 (by omega)).1
      have v1 := (hV.2 1 (by omega)).1
      have v2 := (hV.2 2 (by omega)).1
      clear hF hF3 hG hb hV hK H hQ
      go_wp2
      exact bodyPost_ret (v := .agg #[.float .f64 (r 0), .float .f64 (r 1), .float .f64 (r 2)]) (by simp [results, Try.results20, go_sem, v0, v1, v2]) rfl ⟨rfl, unhide Hb⟩

/-- how far two dyes are apart: each step is fixed -/
structure Fr (p q d s : Nat → Nat) (a z : Nat) : Prop where
  sub : ∀ j, j < 3 → floatBits .sub .f64 (p j) (q j) = some (d j)
  mul : ∀ j, j < 3 → floatBits .mul .f64 (d j) (d j) = some (s j)
  one : floatBits .add .f64 (s 0) (s 1) = some a
  two : floatBits .add .f64 a (s 2) = some z
set_option maxHeartbeats 1000000 in
theorem far_any (p q d s : Nat → Nat) (a z : Nat) (h : Fr p q d s a z) (W : World) : Calls Try.prog 27 #[pvV p, pvV q] W fun e w' => e = .returned (.float .f64 z) ∧ Below W.heap.size W w' := by
  obtain ⟨w0, E, hA, hQ, hb⟩ := two_full W p q 45 45
  have H := hide h
  have HA := hide hA
  have HQ := hide hQ
  have Hb := hide hb
  clear h hA hb hQ
  unfold pvV
  have hst := stF
  go_enter Try.func27, Try.ntmps27
  go_upto_region 1 with fail
  clear E
  obtain ⟨n1, hn1⟩ : ∃ n1, W.heap.size + 1 = n1 := ⟨_, rfl⟩
  obtain ⟨n0, hn0⟩ : ∃ n0, W.heap.size = n0 := ⟨_, rfl⟩
  have Hn := hide (And.intro hn0 hn1)
  rw [hn1] at HQ ⊢
  rw [hn0] at HA ⊢
  clear hn0 hn1
  go_wp2
  go_loopw [7] (fun i wr => ∃ x : Nat, x ≤ 3 ∧ i = .int .i64 x ∧ FR wr n0 (fup p s x) ∧ FR wr n1 q ∧ Below W.heap.size W wr) (fun i _ => 3 - (intOf i).toNat)
  case atStart => exact ⟨0, by omega, rfl, by rw [fup_zero]; exact unhide HA, unhide HQ, unhide Hb⟩
  case round =>
    clear HA Hb HQ
    obtain ⟨x, hx, rfl, hF0, hQ0, hb0⟩ := hrel
    by_cases hlt : x < 3
    · have q0 : (x : Int) < 3 := by omega
      have q1 : (0 : Int) ≤ (x : Int) := by omega
      have hF := hF0.keep (bdrew wr)
      have hQ := hQ0.keep (bdrew wr)
      have hb := btrans hb0 (bdrew wr)
      have kx := (hF0.2 x hlt).1
      rw [fup_at] at kx
      have kq := (hQ0.2 x hlt).1
      have ky := (hF.2 x hlt).1
      rw [fup_at] at ky
      have kf := (hF.2 x hlt).2
      have hop : ∀ t w, (binOp .sub t (.float .f64 (p x)) (.float .f64 (q x))).run Try.prog w = .ok (.float .f64 (d x)) w := fun t w => run_float_arith w .sub t .f64 _ _ _ ((unhide H).sub x hlt)
      have hop2 : ∀ t w, (binOp .mul t (.float .f64 (d x)) (.float .f64 (d x))).run Try.prog w = .ok (.float .f64 (s x)) w := fun t w => run_float_arith w .mul t .f64 _ _ _ ((unhide H).mul x hlt)
      have HF := hide (hF.put (v := s x) rfl)
      have HQ := hide (hQ.kept (kset wr.drew n0 x (.float .f64 (s x))) (by have := unhide Hn; omega))
      have Hb := hide (bset (p := ⟨n0, x, none⟩) (u := .float .f64 (s x)) hb (by have := unhide Hn; show W.heap.size ≤ n0; omega))
      generalize p x = px at *
      generalize q x = qx at *
      generalize s x = sx at *
      generalize d x = dx at *
      clear hF hb hQ hF0 hQ0 hb0
      go_wp2_with fail
      go_region
      generalize wr.drew = w8 at *
      clear kx kq
      go_wp2
      go_roundw
      case rel => exact ⟨x + 1, by omega, by go_num, unhide HF, unhide HQ, unhide Hb⟩
      case measure => simp [intOf]; omega
    · obtain rfl : x = 3 := by omega
      have cl : ¬ ((3 : Int) < 3) := by omega
      have hF3 := hF0.ext (fun j hj => fup_three p s j hj)
      have a0 := (hF3.2 0 (by omega)).1
      have a1 := (hF3.2 1 (by omega)).1
      have a2 := (hF3.2 2 (by omega)).1
      have hop1 : ∀ t w, (binOp .add t (.float .f64 (s 0)) (.float .f64 (s 1))).run Try.prog w = .ok (.float .f64 a) w := fun t w => run_float_arith w .add t .f64 _ _ _ (unhide H).one
      have hop2 : ∀ t w, (binOp .add t (.float .f64 a) (.float .f64 (s 2))).run Try.prog w = .ok (.float .f64 z) w := fun t w => run_float_arith w .add t .f64 _ _ _ (unhide H).two
      have Hb := hide hb0
      clear hF0 hF3 hb0 hQ0 H
      go_wp2
      go_ret
      exact ⟨rfl, unhide Hb⟩

set_option maxRecDepth 100000 in
set_option maxHeartbeats 1000000 in
theorem rfar_any (p q d s : Nat → Nat) (a z : Nat) (h : Fr p q d s a z) (W : World) : Calls Try.prog 16 #[pvV p, pvV q] W fun e w' => e = .returned (.float .f64 z) ∧ Below W.heap.size W w' := by
  obtain ⟨w0, E, hA, hQ, hb⟩ := two_full W p q 26 26
  have a0 := (hA.2 0 (by omega)).1
  have a1 := (hA.2 1 (by omega)).1
  have a2 := (hA.2 2 (by omega)).1
  have b0 := (hQ.2 0 (by omega)).1
  have b1 := (hQ.2 1 (by omega)).1
  have b2 := (hQ.2 2 (by omega)).1
  have s0 : ∀ t w, (binOp .sub t (.float .f64 (p 0)) (.float .f64 (q 0))).run Try.prog w = .ok (.float .f64 (d 0)) w := fun t w => run_float_arith w .sub t .f64 _ _ _ (h.sub 0 (by omega))
  have s1 : ∀ t w, (binOp .sub t (.float .f64 (p 1)) (.float .f64 (q 1))).run Try.prog w = .ok (.float .f64 (d 1)) w := fun t w => run_float_arith w .sub t .f64 _ _ _ (h.sub 1 (by omega))
  have s2 : ∀ t w, (binOp .sub t (.float .f64 (p 2)) (.float .f64 (q 2))).run Try.prog w = .ok (.float .f64 (d 2)) w := fun t w => run_float_arith w .sub t .f64 _ _ _ (h.sub 2 (by omega))
  have m0 : ∀ t w, (binOp .mul t (.float .f64 (d 0)) (.float .f64 (d 0))).run Try.prog w = .ok (.float .f64 (s 0)) w := fun t w => run_float_arith w .mul t .f64 _ _ _ (h.mul 0 (by omega))
  have m1 : ∀ t w, (binOp .mul t (.float .f64 (d 1)) (.float .f64 (d 1))).run Try.prog w = .ok (.float .f64 (s 1)) w := fun t w => run_float_arith w .mul t .f64 _ _ _ (h.mul 1 (by omega))
  have m2 : ∀ t w, (binOp .mul t (.float .f64 (d 2)) (.float .f64 (d 2))).run Try.prog w = .ok (.float .f64 (s 2)) w := fun t w => run_float_arith w .mul t .f64 _ _ _ (h.mul 2 (by omega))
  have hop1 : ∀ t w, (binOp .add t (.float .f64 (s 0)) (.float .f64 (s 1))).run Try.prog w = .ok (.float .f64 a) w := fun t w => run_float_arith w .add t .f64 _ _ _ h.one
  have hop2 : ∀ t w, (binOp .add t (.float .f64 a) (.float .f64 (s 2))).run Try.prog w = .ok (.float .f64 z) w := fun t w => run_float_arith w .add t .f64 _ _ _ h.two
  have Hb := hide (btrans hb (bdrew _))
  clear h hA hQ hb
  unfold pvV
  go_enter Try.func16, Try.ntmps16
  go_upto_region 1 with fail
  clear E
  generalize p 0 = p0 at *
  generalize p 1 = p1 at *
  generalize p 2 = p2 at *
  generalize q 0 = q0 at *
  generalize q 1 = q1 at *
  generalize q 2 = q2 at *
  generalize d 0 = d0 at *
  generalize d 1 = d1 at *
  generalize d 2 = d2 at *
  generalize s 0 = t0 at *
  generalize s 1 = t1 at *
  generalize s 2 = t2 at *
  generalize W.heap.size + 1 = n1 at b0 b1 b2 ⊢
  generalize W.heap.size = n0 at a0 a1 a2 ⊢
  go_region
  go_wp2
  go_ret
  exact ⟨rfl, unhide Hb⟩

set_option maxRecDepth 100000 in
set_option maxHeartbeats 1000000 in
theorem rfair_any (p : Nat → Nat) (W : World) : Calls Try.prog 24 #[pvV p] W fun e w' => e = .returned (.bool (faB p)) ∧ Below W.heap.size W w' := by
  have hF := FR.new W p 26
  have a0 := (hF.2 0 (by omega)).1
  have a1 := (hF.2 1 (by omega)).1
  have a2 := (hF.2 2 (by omega)).1
  have l0 := hF.1
  have H0 := hide (fun V => unit_any (p 0) V)
  have H1 := hide (fun V => unit_any (p 1) V)
  have H2 := hide (fun V => unit_any (p 2) V)
  have Hb := hide (bnew W (.cells #[.float .f64 (p 0), .float .f64 (p 1), .float .f64 (p 2)] 26))
  have Hf := hide (show faB p = (unB (p 0) && unB (p 1) && unB (p 2)) from rfl)
  rw [unhide Hf]
  clear hF Hf
  unfold pvV
  generalize unB (p 0) = u0 at *
  generalize unB (p 1) = u1 at *
  generalize unB (p 2) = u2 at *
  generalize p 0 = p0 at *
  generalize p 1 = p1 at *
  generalize p 2 = p2 at *
  cases u0 with
  | false =>
    go_enter Try.func24, Try.ntmps24
    go_upto_region 1 with fail
    generalize W.alloc (.cells #[.float .f64 p0, .float .f64 p1, .float .f64 p2] 26) = w1 at *
    generalize W.heap.size = n0 at a0 a1 a2 l0 ⊢
    go_wp2_with fail
    refine (unhide H0 _).mono ?_
    rintro e w2 ⟨rfl, hb2⟩
    have Hb2 := hide (btrans (unhide Hb) hb2)
    clear hb2
    go_wp2
    go_ret
    exact ⟨rfl, unhide Hb2⟩
  | true =>
    cases u1 with
    | false =>
      go_enter Try.func24, Try.ntmps24
      go_upto_region 1 with fail
      generalize W.alloc (.cells #[.float .f64 p0, .float .f64 p1, .float .f64 p2] 26) = w1 at *
      generalize W.heap.size = n0 at a0 a1 a2 l0 ⊢
      go_wp2_with fail
      refine (unhide H0 _).mono ?_
      rintro e w2 ⟨rfl, hb2⟩
      replace a1 := keepC hb2 l0 a1
      have Hb2 := hide (btrans (unhide Hb) hb2)
      clear hb2
      go_wp2_with fail
      refine (unhide H1 _).mono ?_
      rintro e w3 ⟨rfl, hb3⟩
      have Hb3 := hide (btrans (unhide Hb2) hb3)
      clear hb3
      go_wp2
      go_ret
      exact ⟨rfl, unhide Hb3⟩
    | true =>
      go_enter Try.func24, Try.ntmps24
      go_upto_region 1 with fail
      generalize W.alloc (.cells #[.float .f64 p0, .float .f64 p1, .float .f64 p2] 26) = w1 at *
      generalize W.heap.size = n0 at a0 a1 a2 l0 ⊢
      go_wp2_with fail
      refine (unhide H0 _).mono ?_
      rintro e w2 ⟨rfl, hb2⟩
      replace a1 := keepC hb2 l0 a1
      replace a2 := keepC hb2 l0 a2
      have l2 : n0 < w2.heap.size := Nat.lt_of_lt_of_le l0 hb2.size
      have Hb2 := hide (btrans (unhide Hb) hb2)
      clear hb2
      go_wp2_with fail
      refine (unhide H1 _).mono ?_
      rintro e w3 ⟨rfl, hb3⟩
      replace a2 := keepC hb3 l2 a2
      have Hb3 := hide (btrans (unhide Hb2) hb3)
      clear hb3
      go_wp2_with fail
      refine (unhide H2 _).mono ?_
      rintro e w4 ⟨rfl, hb4⟩
      have Hb4 := hide (btrans (unhide Hb3) hb4)
      clear hb4
      go_wp2
      go_ret
      exact ⟨rfl, unhide Hb4⟩
end Go.Proofs.Ytlilmchlddiacaa
