/-
  The reference: Mix, channel by channel.
-/
import Derived.Test.YtlilmchlddiacaaFE
namespace Go.Proofs.Ytlilmchlddiacaa
open Go.RowKit

theorem shB_parts {x : Nat} {b : Bool} (h : shB x = b) : ∃ o1 o2, FloatKind.f64.format.order x 4517110426252607488 = o1 ∧ FloatKind.f64.format.order x 4697254411347427328 = o2 ∧ ((o1 == some .gt || o1 == some .eq) && (o2 == some .lt || o2 == some .eq)) = b := ⟨_, _, rfl, rfl, h⟩

set_option maxRecDepth 100000 in
set_option maxHeartbeats 4000000 in
theorem rmix_many (n cap : Nat) (q : Option Addr) (h : ¬ (1 ≤ n ∧ n ≤ 64)) (W : World) : AnsM 8 #[.slice q n cap] W (fun _ => 0) 5 := by
  unfold AnsM
  have hst := stF
  have hZ := zero_new W 26
  have Hb0 := hide (bnew W (.cells #[.float .f64 0, .float .f64 0, .float .f64 0] 26))
  obtain ⟨n2, hn2⟩ : ∃ n2, W.heap.size = n2 := ⟨_, rfl⟩
  have Hn := hide hn2
  go_enter Try.func8, Try.ntmps8
  go_upto_region 1 with fail
  generalize W.alloc (.cells #[.float .f64 0, .float .f64 0, .float .f64 0] 26) = w1 at *
  rw [hn2] at hZ
  clear hn2
  obtain ⟨V, E2, hV, hK⟩ := (hZ).put3 (fun _ => 0)
  have Hbz := hide (Kept.back (unhide Hb0) hK (unhide Hb0).size (fun i hi => by have := unhide Hn; omega))
  have b0 := ((hZ).2 0 (by omega)).1
  have b1 := ((hZ).2 1 (by omega)).1
  have b2 := ((hZ).2 2 (by omega)).1
  have f0 := ((hZ).2 0 (by omega)).2
  have f1 := ((hZ).2 1 (by omega)).2
  have f2 := ((hZ).2 2 (by omega)).2
  have v0 := (hV.2 0 (by omega)).1
  have v1 := (hV.2 1 (by omega)).1
  have v2 := (hV.2 2 (by omega)).1
  clear hV hK
  clear hZ
  by_cases c1 : (n : Int) < 1
  · have c1' : decide ((n : Int) < 1) = true := decide_eq_true c1
    clear h
    go_wp2
    exact bodyPost_ret (v := .tuple #[.agg #[.float .f64 0, .float .f64 0, .float .f64 0], .int .i64 5]) (by simp [results, Try.results8, go_sem, v0, v1, v2]) rfl ⟨rfl, unhide Hbz⟩
  · have c1' : decide ((n : Int) < 1) = false := decide_eq_false c1
    have c2 : 64 < (n : Int) := by omega
    have c2' : decide (64 < (n : Int)) = true := decide_eq_true c2
    clear h
    go_wp2
    exact bodyPost_ret (v := .tuple #[.agg #[.float .f64 0, .float .f64 0, .float .f64 0], .int .i64 5]) (by simp [results, Try.results8, go_sem, v0, v1, v2]) rfl ⟨rfl, unhide Hbz⟩

set_option maxRecDepth 100000 in
set_option maxHeartbeats 4000000 in
theorem rmix_bad (n k cap : Nat) (q : Option Addr) (d : Nat → Nat → Nat) (s : Nat → Nat) (hn1 : 1 ≤ n) (hn2' : n ≤ 64) (hk : k < n) (h : DpOk k d s ∨ k = 0) (h0 : dpB (d k) (s k) = false) (W : World) (hD : Dp W q n d s) : AnsM 8 #[.slice q n cap] W (fun _ => 0) 3 := by
  unfold AnsM
  have HD := hide hD
  have H := hide (show ∀ x, x < k → dpB (d x) (s x) = true from fun x hx => h.elim (fun h => h.2.2 x hx) (fun h => by omega))
  have H0 := hide h0
  clear hD h h0
  have c1 : ¬ ((n : Int) < 1) := by omega
  have c1' : decide ((n : Int) < 1) = false := decide_eq_false c1
  have c2 : ¬ (64 < (n : Int)) := by omega
  have c2' : decide (64 < (n : Int)) = false := decide_eq_false c2
  have hst := stF
  have hZ := zero_new W 26
  have Hb0 := hide (bnew W (.cells #[.float .f64 0, .float .f64 0, .float .f64 0] 26))
  obtain ⟨n2, hn2⟩ : ∃ n2, W.heap.size = n2 := ⟨_, rfl⟩
  have Hn := hide hn2
  go_enter Try.func8, Try.ntmps8
  go_upto_region 1 with fail
  generalize W.alloc (.cells #[.float .f64 0, .float .f64 0, .float .f64 0] 26) = w1 at *
  rw [hn2] at hZ
  clear hn2
  have HZ := hide hZ
  clear hZ
  go_wp2
  go_loopw [26] (fun i wr => ∃ x : Nat, x ≤ k ∧ i = .int .i64 x ∧ FR wr n2 (fun _ => 0) ∧ Below W.heap.size W wr) (fun i _ => n - (intOf i).toNat)
  case atStart => exact ⟨0, by omega, rfl, unhide HZ, unhide Hb0⟩
  case round =>
    clear HZ Hb0
    obtain ⟨x, hx, rfl, hZ, hb⟩ := hrel
    by_cases hlt : x < k
    · skip
      obtain ⟨ad0, oo, rfl, k0, k1, k2, k3⟩ := ((unhide HD).keep hb).at (x := x) (by omega)
      have q0 : (x : Int) < (n : Int) := by omega
      have q1 : (0 : Int) ≤ (x : Int) := by omega
      have HB := hide (BD.new wr (d x) (s x) 41)
      have HZ := hide (hZ.keep (bnew wr (.cells #[.float .f64 (d x 0), .float .f64 (d x 1), .float .f64 (d x 2), .float .f64 (s x)] 41)))
      have Hb := hide (bal (o := .cells #[.float .f64 (d x 0), .float .f64 (d x 1), .float .f64 (d x 2), .float .f64 (s x)] 41) hb)
      clear hZ hb
      go_upto_region 6 with fail
      generalize wr.alloc (.cells #[.float .f64 (d x 0), .float .f64 (d x 1), .float .f64 (d x 2), .float .f64 (s x)] 41) = w3 at *
      generalize wr.heap.size = n7 at *
      clear k0 k1 k2 k3
      have hok := unhide H x hlt
      have i0 := (unhide HB).2.1
      have i1 := (unhide HB).2.2.1
      have i2 := (unhide HB).2.2.2.1
      go_wp2_with fail
      refine (rfair_any (d x) _).mono ?_
      rintro e w4 ⟨rfl, hb4⟩
      have HB4 := hide ((unhide HB).keep hb4)
      have HZ4 := hide ((unhide HZ).keep hb4)
      have Hb4 := hide (btrans (unhide Hb) hb4)
      clear hb4 HB HZ Hb i0 i1 i2
      unfold dpB at hok
      rw [Bool.and_eq_true] at hok
      rw [hok.2]
      obtain ⟨o1, o2, h1, h2, hu⟩ := shB_parts hok.1
      clear hok
      have i3 := (unhide HB4).2.2.2.2
      rcases o1 with _ | (_ | _ | _) <;> rcases o2 with _ | (_ | _ | _) <;> first | exact absurd hu (by decide) | skip
      all_goals
        clear hu
        go_wp2
        go_roundw
        case rel => exact ⟨x + 1, by omega, by go_num, unhide HZ4, unhide Hb4⟩
        case measure => simp [intOf]; omega
    · obtain rfl : k = x := by omega
      obtain ⟨ad0, oo, rfl, k0, k1, k2, k3⟩ := ((unhide HD).keep hb).at (x := k) (by omega)
      have q0 : (k : Int) < (n : Int) := by omega
      have q1 : (0 : Int) ≤ (k : Int) := by omega
      have HB := hide (BD.new wr (d k) (s k) 41)
      have HZ := hide (hZ.keep (bnew wr (.cells #[.float .f64 (d k 0), .float .f64 (d k 1), .float .f64 (d k 2), .float .f64 (s k)] 41)))
      have Hb := hide (bal (o := .cells #[.float .f64 (d k 0), .float .f64 (d k 1), .float .f64 (d k 2), .float .f64 (s k)] 41) hb)
      clear hZ hb
      go_upto_region 6 with fail
      generalize wr.alloc (.cells #[.float .f64 (d k 0), .float .f64 (d k 1), .float .f64 (d k 2), .float .f64 (s k)] 41) = w3 at *
      generalize wr.heap.size = n7 at *
      clear k0 k1 k2 k3
      have i0 := (unhide HB).2.1
      have i1 := (unhide HB).2.2.1
      have i2 := (unhide HB).2.2.2.1
      go_wp2_with fail
      refine (rfair_any (d k) _).mono ?_
      rintro e w4 ⟨rfl, hb4⟩
      have HB4 := hide ((unhide HB).keep hb4)
      have HZ4 := hide ((unhide HZ).keep hb4)
      have Hb4 := hide (btrans (unhide Hb) hb4)
      clear hb4 HB HZ Hb i0 i1 i2
      cases hf : faB (d k) with
      | false =>
        obtain ⟨V, E2, hV, hK⟩ := (unhide HZ4).put3 (fun _ => 0)
        have Hbz := hide (Kept.back (unhide Hb4) hK (unhide Hb4).size (fun i hi => by have := unhide Hn; omega))
        have b0 := ((unhide HZ4).2 0 (by omega)).1
        have b1 := ((unhide HZ4).2 1 (by omega)).1
        have b2 := ((unhide HZ4).2 2 (by omega)).1
        have f0 := ((unhide HZ4).2 0 (by omega)).2
        have f1 := ((unhide HZ4).2 1 (by omega)).2
        have f2 := ((unhide HZ4).2 2 (by omega)).2
        have v0 := (hV.2 0 (by omega)).1
        have v1 := (hV.2 1 (by omega)).1
        have v2 := (hV.2 2 (by omega)).1
        clear hV hK
        clear HZ4 HB4
        go_wp2
        exact bodyPost_ret (v := .tuple #[.agg #[.float .f64 0, .float .f64 0, .float .f64 0], .int .i64 3]) (by simp [results, Try.results8, go_sem, v0, v1, v2]) rfl ⟨rfl, unhide Hbz⟩
      | true =>
        have hs : shB (s k) = false := by
          have := unhide H0
          unfold dpB at this
          rw [hf, Bool.and_true] at this
          exact this
        obtain ⟨o1, o2, h1, h2, hu⟩ := shB_parts hs
        clear hs H0 H
        have i3 := (unhide HB4).2.2.2.2
        obtain ⟨V, E2, hV, hK⟩ := (unhide HZ4).put3 (fun _ => 0)
        have Hbz := hide (Kept.back (unhide Hb4) hK (unhide Hb4).size (fun i hi => by have := unhide Hn; omega))
        have b0 := ((unhide HZ4).2 0 (by omega)).1
        have b1 := ((unhide HZ4).2 1 (by omega)).1
        have b2 := ((unhide HZ4).2 2 (by omega)).1
        have f0 := ((unhide HZ4).2 0 (by omega)).2
        have f1 := ((unhide HZ4).2 1 (by omega)).2
        have f2 := ((unhide HZ4).2 2 (by omega)).2
        have v0 := (hV.2 0 (by omega)).1
        have v1 := (hV.2 1 (by omega)).1
        have v2 := (hV.2 2 (by omega)).1
        clear hV hK
        clear HZ4 HB4
        rcases o1 with _ | (_ | _ | _) <;> rcases o2 with _ | (_ | _ | _) <;> first | exact absurd hu (by decide) | skip
        all_goals
          clear hu
          go_wp2
          exact bodyPost_ret (v := .tuple #[.agg #[.float .f64 0, .float .f64 0, .float .f64 0], .int .i64 3]) (by simp [results, Try.results8, go_sem, v0, v1, v2]) rfl ⟨rfl, unhide Hbz⟩

set_option maxRecDepth 100000 in
set_option maxHeartbeats 4000000 in
theorem rmix_ok (n cap : Nat) (q : Option Addr) (d : Nat → Nat → Nat) (s : Nat → Nat) (h : DpOk n d s) (W : World) (hD : Dp W q n d s) : AnsM 8 #[.slice q n cap] W (mxF d s n) 0 := by
  unfold AnsM
  have HD := hide hD
  have H := hide h
  have hn1 := h.1
  have hn2' := h.2.1
  clear hD h
  have c1 : ¬ ((n : Int) < 1) := by omega
  have c1' : decide ((n : Int) < 1) = false := decide_eq_false c1
  have c2 : ¬ (64 < (n : Int)) := by omega
  have c2' : decide (64 < (n : Int)) = false := decide_eq_false c2
  have hst := stF
  have hZ := zero_new W 26
  have Hb0 := hide (bnew W (.cells #[.float .f64 0, .float .f64 0, .float .f64 0] 26))
  obtain ⟨n2, hn2⟩ : ∃ n2, W.heap.size = n2 := ⟨_, rfl⟩
  have Hn := hide hn2
  go_enter Try.func8, Try.ntmps8
  go_upto_region 1 with fail
  generalize W.alloc (.cells #[.float .f64 0, .float .f64 0, .float .f64 0] 26) = w1 at *
  rw [hn2] at hZ
  clear hn2
  have HZ := hide hZ
  clear hZ
  go_wp2
  go_loopw [26] (fun i wr => ∃ x : Nat, x ≤ n ∧ i = .int .i64 x ∧ FR wr n2 (fun _ => 0) ∧ Below W.heap.size W wr) (fun i _ => n - (intOf i).toNat)
  case atStart => exact ⟨0, by omega, rfl, unhide HZ, unhide Hb0⟩
  case round =>
    clear HZ Hb0
    obtain ⟨x, hx, rfl, hZ, hb⟩ := hrel
    by_cases hlt : x < n
    · skip
      obtain ⟨ad0, oo, rfl, k0, k1, k2, k3⟩ := ((unhide HD).keep hb).at (x := x) (by omega)
      have q0 : (x : Int) < (n : Int) := by omega
      have q1 : (0 : Int) ≤ (x : Int) := by omega
      have HB := hide (BD.new wr (d x) (s x) 41)
      have HZ := hide (hZ.keep (bnew wr (.cells #[.float .f64 (d x 0), .float .f64 (d x 1), .float .f64 (d x 2), .float .f64 (s x)] 41)))
      have Hb := hide (bal (o := .cells #[.float .f64 (d x 0), .float .f64 (d x 1), .float .f64 (d x 2), .float .f64 (s x)] 41) hb)
      clear hZ hb
      go_upto_region 6 with fail
      generalize wr.alloc (.cells #[.float .f64 (d x 0), .float .f64 (d x 1), .float .f64 (d x 2), .float .f64 (s x)] 41) = w3 at *
      generalize wr.heap.size = n7 at *
      clear k0 k1 k2 k3
      have hok := (unhide H).2.2 x hlt
      have i0 := (unhide HB).2.1
      have i1 := (unhide HB).2.2.1
      have i2 := (unhide HB).2.2.2.1
      go_wp2_with fail
      refine (rfair_any (d x) _).mono ?_
      rintro e w4 ⟨rfl, hb4⟩
      have HB4 := hide ((unhide HB).keep hb4)
      have HZ4 := hide ((unhide HZ).keep hb4)
      have Hb4 := hide (btrans (unhide Hb) hb4)
      clear hb4 HB HZ Hb i0 i1 i2
      unfold dpB at hok
      rw [Bool.and_eq_true] at hok
      rw [hok.2]
      obtain ⟨o1, o2, h1, h2, hu⟩ := shB_parts hok.1
      clear hok
      have i3 := (unhide HB4).2.2.2.2
      rcases o1 with _ | (_ | _ | _) <;> rcases o2 with _ | (_ | _ | _) <;> first | exact absurd hu (by decide) | skip
      all_goals
        clear hu
        go_wp2
        go_roundw
        case rel => exact ⟨x + 1, by omega, by go_num, unhide HZ4, unhide Hb4⟩
        case measure => simp [intOf]; omega
    · obtain rfl : n = x := by omega
      have cl : ¬ ((n : Int) < (n : Int)) := by omega
      have HZ := hide hZ
      have Hb := hide hb
      clear hZ hb
      go_wp2
      go_loopw [6, 7, 8, 9, 47] (fun r g b a i wr => ∃ x : Nat, x ≤ n ∧ i = .int .i64 x ∧ r = .float .f64 (smF d s x 0) ∧ g = .float .f64 (smF d s x 1) ∧ b = .float .f64 (smF d s x 2) ∧ a = .float .f64 (TF s x) ∧ FR wr n2 (fun _ => 0) ∧ Below W.heap.size W wr) (fun _ _ _ _ i _ => n - (intOf i).toNat)
      case atStart => exact ⟨0, by omega, rfl, rfl, rfl, rfl, rfl, unhide HZ, unhide Hb⟩
      case round =>
        clear HZ Hb
        rename_i wr
        obtain ⟨x, hx, rfl, rfl, rfl, rfl, rfl, hZ, hb⟩ := hrel
        by_cases hlt : x < n
        · skip
          obtain ⟨ad0, oo, rfl, k0, k1, k2, k3⟩ := ((unhide HD).keep hb).at (x := x) (by omega)
          have q0 : (x : Int) < (n : Int) := by omega
          have q1 : (0 : Int) ≤ (x : Int) := by omega
          have HB := hide (BD.new wr (d x) (s x) 41)
          have HZ := hide (hZ.keep (bnew wr (.cells #[.float .f64 (d x 0), .float .f64 (d x 1), .float .f64 (d x 2), .float .f64 (s x)] 41)))
          have Hb := hide (bal (o := .cells #[.float .f64 (d x 0), .float .f64 (d x 1), .float .f64 (d x 2), .float .f64 (s x)] 41) hb)
          clear hZ hb
          go_upto_region 15 with fail
          generalize wr.alloc (.cells #[.float .f64 (d x 0), .float .f64 (d x 1), .float .f64 (d x 2), .float .f64 (s x)] 41) = w3 at *
          generalize wr.heap.size = n7 at *
          clear k0 k1 k2 k3
          have i0 := (unhide HB).2.1
          have i1 := (unhide HB).2.2.1
          have i2 := (unhide HB).2.2.2.1
          have i3 := (unhide HB).2.2.2.2
          have hB8 := (unhide HB).keep (bdrew w3)
          have j3 := hB8.2.2.2.2
          have HZ8 := hide (((unhide HZ).keep (bdrew w3)).keep (bdrew w3.drew))
          have Hb8 := hide (btrans (btrans (unhide Hb) (bdrew w3)) (bdrew w3.drew))
          have HX := hide ((unhide H).step x hlt)
          have m0 : ∀ t w, (binOp .mul t (.float .f64 (s x)) (.float .f64 (d x 0))).run Try.prog w = .ok (.float .f64 (pdF d s x 0)) w := fun t w => run_float_arith w .mul t .f64 _ _ _ ((unhide HX).1 0 (by omega))
          have m1 : ∀ t w, (binOp .mul t (.float .f64 (s x)) (.float .f64 (d x 1))).run Try.prog w = .ok (.float .f64 (pdF d s x 1)) w := fun t w => run_float_arith w .mul t .f64 _ _ _ ((unhide HX).1 1 (by omega))
          have m2 : ∀ t w, (binOp .mul t (.float .f64 (s x)) (.float .f64 (d x 2))).run Try.prog w = .ok (.float .f64 (pdF d s x 2)) w := fun t w => run_float_arith w .mul t .f64 _ _ _ ((unhide HX).1 2 (by omega))
          have a0 : ∀ t w, (binOp .add t (.float .f64 (smF d s x 0)) (.float .f64 (pdF d s x 0))).run Try.prog w = .ok (.float .f64 (smF d s (x + 1) 0)) w := fun t w => run_float_arith w .add t .f64 _ _ _ ((unhide HX).2.1 0 (by omega))
          have a1 : ∀ t w, (binOp .add t (.float .f64 (smF d s x 1)) (.float .f64 (pdF d s x 1))).run Try.prog w = .ok (.float .f64 (smF d s (x + 1) 1)) w := fun t w => run_float_arith w .add t .f64 _ _ _ ((unhide HX).2.1 1 (by omega))
          have a2 : ∀ t w, (binOp .add t (.float .f64 (smF d s x 2)) (.float .f64 (pdF d s x 2))).run Try.prog w = .ok (.float .f64 (smF d s (x + 1) 2)) w := fun t w => run_float_arith w .add t .f64 _ _ _ ((unhide HX).2.1 2 (by omega))
          have a3 : ∀ t w, (binOp .add t (.float .f64 (TF s x)) (.float .f64 (s x))).run Try.prog w = .ok (.float .f64 (TF s (x + 1))) w := fun t w => run_float_arith w .add t .f64 _ _ _ (unhide HX).2.2
          have He := hide (show (smF d s (x + 1) 0, smF d s (x + 1) 1, smF d s (x + 1) 2, TF s (x + 1)) = (smF d s (x + 1) 0, smF d s (x + 1) 1, smF d s (x + 1) 2, TF s (x + 1)) from rfl)
          clear hB8 HX HB HZ Hb
          obtain ⟨r0, e0⟩ : ∃ y, smF d s (x + 1) 0 = y := ⟨_, rfl⟩
          obtain ⟨r1, e1⟩ : ∃ y, smF d s (x + 1) 1 = y := ⟨_, rfl⟩
          obtain ⟨r2, e2⟩ : ∃ y, smF d s (x + 1) 2 = y := ⟨_, rfl⟩
          obtain ⟨r3, e3⟩ : ∃ y, TF s (x + 1) = y := ⟨_, rfl⟩
          have Hee := hide (And.intro e0 (And.intro e1 (And.intro e2 e3)))
          rw [e0] at a0
          rw [e1] at a1
          rw [e2] at a2
          rw [e3] at a3
          clear e0 e1 e2 e3 He
          generalize smF d s x 0 = u0 at *
          generalize smF d s x 1 = u1 at *
          generalize smF d s x 2 = u2 at *
          generalize TF s x = u3 at *
          generalize pdF d s x 0 = y0 at *
          generalize pdF d s x 1 = y1 at *
          generalize pdF d s x 2 = y2 at *
          generalize d x 0 = d0 at *
          generalize d x 1 = d1 at *
          generalize d x 2 = d2 at *
          generalize s x = s0 at *
          go_region
          generalize w3.drew = w8 at *
          clear i0 i1 i2 i3 m0 m1 m2
          go_wp2_with fail
          go_region
          generalize w8.drew = w9 at *
          clear j3 a0 a1 a2 a3
          go_wp2
          go_roundw
          case rel => exact ⟨x + 1, by omega, by go_num, by rw [(unhide Hee).1], by rw [(unhide Hee).2.1], by rw [(unhide Hee).2.2.1], by rw [(unhide Hee).2.2.2], unhide HZ8, unhide Hb8⟩
          case measure => simp [intOf]; omega
        · obtain rfl : n = x := by omega
          have g0 : ∀ t w, (binOp .quo t (.float .f64 (smF d s n 0)) (.float .f64 (TF s n))).run Try.prog w = .ok (.float .f64 (mxF d s n 0)) w := fun t w => run_float_arith w .quo t .f64 _ _ _ ((unhide H).last 0 (by omega))
          have g1 : ∀ t w, (binOp .quo t (.float .f64 (smF d s n 1)) (.float .f64 (TF s n))).run Try.prog w = .ok (.float .f64 (mxF d s n 1)) w := fun t w => run_float_arith w .quo t .f64 _ _ _ ((unhide H).last 1 (by omega))
          have g2 : ∀ t w, (binOp .quo t (.float .f64 (smF d s n 2)) (.float .f64 (TF s n))).run Try.prog w = .ok (.float .f64 (mxF d s n 2)) w := fun t w => run_float_arith w .quo t .f64 _ _ _ ((unhide H).last 2 (by omega))
          obtain ⟨V, E2, hV, hK⟩ := (hZ).put3 (mxF d s n)
          have Hbz := hide (Kept.back (hb) hK (hb).size (fun i hi => by have := unhide Hn; omega))
          have b0 := ((hZ).2 0 (by omega)).1
          have b1 := ((hZ).2 1 (by omega)).1
          have b2 := ((hZ).2 2 (by omega)).1
          have f0 := ((hZ).2 0 (by omega)).2
          have f1 := ((hZ).2 1 (by omega)).2
          have f2 := ((hZ).2 2 (by omega)).2
          have v0 := (hV.2 0 (by omega)).1
          have v1 := (hV.2 1 (by omega)).1
          have v2 := (hV.2 2 (by omega)).1
          clear hV hK
          clear hZ hb H HD
          go_wp2
          exact bodyPost_ret (v := .tuple #[.agg #[.float .f64 (mxF d s n 0), .float .f64 (mxF d s n 1), .float .f64 (mxF d s n 2)], .int .i64 0]) (by simp [results, Try.results8, go_sem, v0, v1, v2]) rfl ⟨rfl, unhide Hbz⟩

theorem rmix_any {n : Nat} {d : Nat → Nat → Nat} {s : Nat → Nat} {p : Nat → Nat} {er : Int} (h : MixIs n d s p er) (cap : Nat) (q : Option Addr) (W : World) (hD : Dp W q n d s) : AnsM 8 #[.slice q n cap] W p er := by
  rcases h with ⟨h, rfl, rfl⟩ | ⟨hn, ⟨k, hk, h1, h2⟩, rfl, rfl⟩ | ⟨h, rfl, rfl⟩
  · exact rmix_many n cap q h W
  · exact rmix_bad n k cap q d s hn.1 hn.2 hk h1 h2 W hD
  · exact rmix_ok n cap q d s h W hD
end Go.Proofs.Ytlilmchlddiacaa
