/-
  Package dye: Nearest.
-/
import Derived.Test.YtlilmchlddiacaaNM
namespace Go.Proofs.Ytlilmchlddiacaa
open Go.RowKit

set_option maxRecDepth 100000 in
set_option maxHeartbeats 4000000 in
theorem near_many (n cap : Nat) (q : Option Addr) (p : Nat → Nat) (h : ¬ (1 ≤ n ∧ n ≤ 256)) (W : World) : AnsN 10 #[.slice q n cap, pvV p] W 0 5 := by
  unfold AnsN pvV
  have hst := stF
  have HF0 := hide (FR.new W p 26)
  have Hb0 := hide (bnew W (.cells #[.float .f64 (p 0), .float .f64 (p 1), .float .f64 (p 2)] 26))
  obtain ⟨n3, hn3⟩ : ∃ n3, W.heap.size = n3 := ⟨_, rfl⟩
  have Hn3 := hide hn3
  go_enter Try.func10, Try.ntmps10
  go_upto_region 1 with fail
  generalize W.alloc (.cells #[.float .f64 (p 0), .float .f64 (p 1), .float .f64 (p 2)] 26) = w1 at *
  rw [hn3] at HF0
  try rw [hn3]
  clear hn3
  by_cases c1 : (n : Int) < 1
  · have c1' : decide ((n : Int) < 1) = true := decide_eq_true c1
    clear h
    go_wp2
    exact bodyPost_ret (v := .tuple #[.int .i64 0, .int .i64 5]) (by simp [results, Try.results10, go_sem]) rfl ⟨rfl, unhide Hb0⟩
  · have c1' : decide ((n : Int) < 1) = false := decide_eq_false c1
    have c2 : 256 < (n : Int) := by omega
    have c2' : decide (256 < (n : Int)) = true := decide_eq_true c2
    clear h
    go_wp2
    exact bodyPost_ret (v := .tuple #[.int .i64 0, .int .i64 5]) (by simp [results, Try.results10, go_sem]) rfl ⟨rfl, unhide Hb0⟩

set_option maxRecDepth 100000 in
set_option maxHeartbeats 4000000 in
theorem near_unfair (n cap : Nat) (q : Option Addr) (p : Nat → Nat) (hn1 : 1 ≤ n) (hn2 : n ≤ 256) (hp : faB p = false) (W : World) : AnsN 10 #[.slice q n cap, pvV p] W 0 3 := by
  have c1 : ¬ ((n : Int) < 1) := by omega
  have c1' : decide ((n : Int) < 1) = false := decide_eq_false c1
  have c2 : ¬ (256 < (n : Int)) := by omega
  have c2' : decide (256 < (n : Int)) = false := decide_eq_false c2
  unfold AnsN pvV
  have hst := stF
  have HF0 := hide (FR.new W p 26)
  have Hb0 := hide (bnew W (.cells #[.float .f64 (p 0), .float .f64 (p 1), .float .f64 (p 2)] 26))
  obtain ⟨n3, hn3⟩ : ∃ n3, W.heap.size = n3 := ⟨_, rfl⟩
  have Hn3 := hide hn3
  go_enter Try.func10, Try.ntmps10
  go_upto_region 1 with fail
  generalize W.alloc (.cells #[.float .f64 (p 0), .float .f64 (p 1), .float .f64 (p 2)] 26) = w1 at *
  rw [hn3] at HF0
  try rw [hn3]
  clear hn3
  have a0 := ((unhide HF0).2 0 (by omega)).1
  have a1 := ((unhide HF0).2 1 (by omega)).1
  have a2 := ((unhide HF0).2 2 (by omega)).1
  go_wp2_with fail
  refine (partsOf_any p _).mono ?_
  rintro e w2 ⟨rfl, hb2⟩
  have Hb2 := hide (btrans (unhide Hb0) hb2)
  clear hb2 Hb0 a0 a1 a2 HF0
  unfold pvV
  have HP3 := hide (FR.new w2 p 45)
  have Hb3 := hide (bal (o := .cells #[.float .f64 (p 0), .float .f64 (p 1), .float .f64 (p 2)] 45) (unhide Hb2))
  go_upto_region 4 with fail
  generalize w2.alloc (.cells #[.float .f64 (p 0), .float .f64 (p 1), .float .f64 (p 2)] 45) = w3 at *
  generalize w2.heap.size = n6 at *
  clear Hb2
  have z0 := ((unhide HP3).2 0 (by omega)).1
  have z1 := ((unhide HP3).2 1 (by omega)).1
  have z2 := ((unhide HP3).2 2 (by omega)).1
  go_wp2_with fail
  refine (fair_any p _).mono ?_
  rintro e w4 ⟨rfl, hb4⟩
  have HP4 := hide ((unhide HP3).keep hb4)
  have Hb4 := hide (btrans (unhide Hb3) hb4)
  clear hb4 HP3 Hb3 z0 z1 z2
  rw [hp]
  go_wp2
  exact bodyPost_ret (v := .tuple #[.int .i64 0, .int .i64 3]) (by simp [results, Try.results10, go_sem]) rfl ⟨rfl, unhide Hb4⟩

set_option maxRecDepth 100000 in
set_option maxHeartbeats 4000000 in
theorem near_bad (n m cap : Nat) (q : Option Addr) (d : Nat → Nat → Nat) (p : Nat → Nat) (hn1 : 1 ≤ n) (hn2 : n ≤ 256) (hp : faB p = true) (hm : m < n) (h : ∀ i, i < m → faB (d i) = true) (h0 : faB (d m) = false) (W : World) (hD : Dy W q n d) : AnsN 10 #[.slice q n cap, pvV p] W 0 3 := by
  have HD := hide hD
  have H := hide h
  have H0 := hide h0
  clear hD h h0
  have c1 : ¬ ((n : Int) < 1) := by omega
  have c1' : decide ((n : Int) < 1) = false := decide_eq_false c1
  have c2 : ¬ (256 < (n : Int)) := by omega
  have c2' : decide (256 < (n : Int)) = false := decide_eq_false c2
  unfold AnsN pvV
  have hst := stF
  have HF0 := hide (FR.new W p 26)
  have Hb0 := hide (bnew W (.cells #[.float .f64 (p 0), .float .f64 (p 1), .float .f64 (p 2)] 26))
  obtain ⟨n3, hn3⟩ : ∃ n3, W.heap.size = n3 := ⟨_, rfl⟩
  have Hn3 := hide hn3
  go_enter Try.func10, Try.ntmps10
  go_upto_region 1 with fail
  generalize W.alloc (.cells #[.float .f64 (p 0), .float .f64 (p 1), .float .f64 (p 2)] 26) = w1 at *
  rw [hn3] at HF0
  try rw [hn3]
  clear hn3
  have a0 := ((unhide HF0).2 0 (by omega)).1
  have a1 := ((unhide HF0).2 1 (by omega)).1
  have a2 := ((unhide HF0).2 2 (by omega)).1
  go_wp2_with fail
  refine (partsOf_any p _).mono ?_
  rintro e w2 ⟨rfl, hb2⟩
  have Hb2 := hide (btrans (unhide Hb0) hb2)
  clear hb2 Hb0 a0 a1 a2 HF0
  unfold pvV
  have HP3 := hide (FR.new w2 p 45)
  have Hb3 := hide (bal (o := .cells #[.float .f64 (p 0), .float .f64 (p 1), .float .f64 (p 2)] 45) (unhide Hb2))
  go_upto_region 4 with fail
  generalize w2.alloc (.cells #[.float .f64 (p 0), .float .f64 (p 1), .float .f64 (p 2)] 45) = w3 at *
  generalize w2.heap.size = n6 at *
  clear Hb2
  have z0 := ((unhide HP3).2 0 (by omega)).1
  have z1 := ((unhide HP3).2 1 (by omega)).1
  have z2 := ((unhide HP3).2 2 (by omega)).1
  go_wp2_with fail
  refine (fair_any p _).mono ?_
  rintro e w4 ⟨rfl, hb4⟩
  have HP4 := hide ((unhide HP3).keep hb4)
  have Hb4 := hide (btrans (unhide Hb3) hb4)
  clear hb4 HP3 Hb3 z0 z1 z2
  rw [hp]
  have Hp := hide hp
  clear hp
  go_wp2
  go_loopw [7, 8, 28] (fun pl le i wr => ∃ (x k z : Nat), x ≤ m ∧ i = .int .i64 (x : Int) ∧ pl = .int .i64 (k : Int) ∧ le = .float .f64 z ∧ ((x = 0 ∧ k = 0) ∨ (0 < x ∧ IsNear x (fv d p) k ∧ z = zF (d k) p)) ∧ FR wr n6 p ∧ Below W.heap.size W wr) (fun _ _ i _ => n - (intOf i).toNat)
  case atStart => exact ⟨0, 0, 0, by omega, rfl, rfl, rfl, .inl ⟨rfl, rfl⟩, unhide HP4, unhide Hb4⟩
  case round =>
    clear HP4 Hb4
    obtain ⟨x, k, z, hx, rfl, rfl, rfl, hs, hP, hb⟩ := hrel
    have Hs := hide hs
    clear hs
    by_cases hlt : x < m
    · skip
      obtain ⟨ad0, oo, rfl, k0, k1, k2⟩ := ((unhide HD).keep hb).at (x := x) (by omega)
      have q0 : (x : Int) < (n : Int) := by omega
      have q1 : (0 : Int) ≤ (x : Int) := by omega
      have HB := hide (FR.new wr (d x) 26)
      have HP1 := hide (hP.keep (bnew wr (.cells #[.float .f64 (d x 0), .float .f64 (d x 1), .float .f64 (d x 2)] 26)))
      have Hb1 := hide (bal (o := .cells #[.float .f64 (d x 0), .float .f64 (d x 1), .float .f64 (d x 2)] 26) hb)
      clear hP hb
      go_upto_region 10 with fail
      generalize wr.alloc (.cells #[.float .f64 (d x 0), .float .f64 (d x 1), .float .f64 (d x 2)] 26) = w3 at *
      generalize wr.heap.size = n10 at *
      clear k0 k1 k2
      have i0 := ((unhide HB).2 0 (by omega)).1
      have i1 := ((unhide HB).2 1 (by omega)).1
      have i2 := ((unhide HB).2 2 (by omega)).1
      go_wp2_with fail
      refine (partsOf_any (d x) _).mono ?_
      rintro e w4 ⟨rfl, hb4⟩
      have HP4 := hide ((unhide HP1).keep hb4)
      have Hb4 := hide (btrans (unhide Hb1) hb4)
      clear hb4 i0 i1 i2 HB HP1 Hb1
      unfold pvV
      have HQ := hide (FR.new w4 (d x) 45)
      have HP5 := hide ((unhide HP4).keep (bnew w4 (.cells #[.float .f64 (d x 0), .float .f64 (d x 1), .float .f64 (d x 2)] 45)))
      have Hb5 := hide (bal (o := .cells #[.float .f64 (d x 0), .float .f64 (d x 1), .float .f64 (d x 2)] 45) (unhide Hb4))
      go_upto_region 11 with fail
      generalize w4.alloc (.cells #[.float .f64 (d x 0), .float .f64 (d x 1), .float .f64 (d x 2)] 45) = w5 at *
      generalize w4.heap.size = n11 at *
      clear HP4 Hb4
      have j0 := ((unhide HQ).2 0 (by omega)).1
      have j1 := ((unhide HQ).2 1 (by omega)).1
      have j2 := ((unhide HQ).2 2 (by omega)).1
      go_wp2_with fail
      refine (fair_any (d x) _).mono ?_
      rintro e w6 ⟨rfl, hb6⟩
      have HQ6 := hide ((unhide HQ).keep hb6)
      have HP6 := hide ((unhide HP5).keep hb6)
      have Hb6 := hide (btrans (unhide Hb5) hb6)
      clear hb6 j0 j1 j2 HQ HP5 Hb5
      rw [unhide H x (by omega)]
      have HFr := hide (fr_at (unhide H x (by omega)) (unhide Hp)).1
      have j0 := ((unhide HQ6).2 0 (by omega)).1
      have j1 := ((unhide HQ6).2 1 (by omega)).1
      have j2 := ((unhide HQ6).2 2 (by omega)).1
      have p0 := ((unhide HP6).2 0 (by omega)).1
      have p1 := ((unhide HP6).2 1 (by omega)).1
      have p2 := ((unhide HP6).2 2 (by omega)).1
      go_wp2_with fail
      refine (far_any (d x) p _ _ _ _ (unhide HFr) _).mono ?_
      rintro e w7 ⟨rfl, hb7⟩
      have HP7 := hide ((unhide HP6).keep hb7)
      have Hb7 := hide (btrans (unhide Hb6) hb7)
      clear hb7 j0 j1 j2 p0 p1 p2 HQ6 HP6 Hb6 HFr
      rcases unhide Hs with ⟨h0, hk0⟩ | ⟨h0, hN, hz⟩
      · have d0 : ((x : Int) == 0) = true := by simp; omega
        have H00 := hide h0
        clear hk0 Hs h0
        go_wp2
        go_roundw
        case rel => exact ⟨x + 1, x, _, by omega, by go_num, rfl, rfl, .inr ⟨by omega, by rw [unhide H00]; exact IsNear.one _, rfl⟩, unhide HP7, unhide Hb7⟩
        case measure => simp [intOf]; omega
      · have d0 : ((x : Int) == 0) = false := by simp; omega
        have d0' : ¬ ((x : Int) = 0) := by omega
        have hkx := hN.1
        subst hz
        have HN := hide hN
        clear Hs hN
        rcases ord_at (unhide Hp) (unhide H x (by omega)) (unhide H k (by omega)) with ⟨ho, hl⟩ | ⟨ho, hl⟩ | ⟨ho, hl⟩
        · have Hl := hide hl
          clear hl
          go_wp2
          go_roundw
          case rel => exact ⟨x + 1, x, _, by omega, by go_num, rfl, rfl, .inr ⟨by omega, (unhide HN).less (unhide Hl), rfl⟩, unhide HP7, unhide Hb7⟩
          case measure => simp [intOf]; omega
        · have Hl := hide (show fv d p k ≤ fv d p x by omega)
          clear hl
          go_wp2
          go_roundw
          case rel => exact ⟨x + 1, k, _, by omega, by go_num, rfl, rfl, .inr ⟨by omega, (unhide HN).stay (Int.not_lt.2 (unhide Hl)), rfl⟩, unhide HP7, unhide Hb7⟩
          case measure => simp [intOf]; omega
        · have Hl := hide (show fv d p k ≤ fv d p x by omega)
          clear hl
          go_wp2
          go_roundw
          case rel => exact ⟨x + 1, k, _, by omega, by go_num, rfl, rfl, .inr ⟨by omega, (unhide HN).stay (Int.not_lt.2 (unhide Hl)), rfl⟩, unhide HP7, unhide Hb7⟩
          case measure => simp [intOf]; omega
    · obtain rfl : m = x := by omega
      clear Hs
      obtain ⟨ad0, oo, rfl, k0, k1, k2⟩ := ((unhide HD).keep hb).at (x := m) (by omega)
      have q0 : (m : Int) < (n : Int) := by omega
      have q1 : (0 : Int) ≤ (m : Int) := by omega
      have HB := hide (FR.new wr (d m) 26)
      have HP1 := hide (hP.keep (bnew wr (.cells #[.float .f64 (d m 0), .float .f64 (d m 1), .float .f64 (d m 2)] 26)))
      have Hb1 := hide (bal (o := .cells #[.float .f64 (d m 0), .float .f64 (d m 1), .float .f64 (d m 2)] 26) hb)
      clear hP hb
      go_upto_region 10 with fail
      generalize wr.alloc (.cells #[.float .f64 (d m 0), .float .f64 (d m 1), .float .f64 (d m 2)] 26) = w3 at *
      generalize wr.heap.size = n10 at *
      clear k0 k1 k2
      have i0 := ((unhide HB).2 0 (by omega)).1
      have i1 := ((unhide HB).2 1 (by omega)).1
      have i2 := ((unhide HB).2 2 (by omega)).1
      go_wp2_with fail
      refine (partsOf_any (d m) _).mono ?_
      rintro e w4 ⟨rfl, hb4⟩
      have HP4 := hide ((unhide HP1).keep hb4)
      have Hb4 := hide (btrans (unhide Hb1) hb4)
      clear hb4 i0 i1 i2 HB HP1 Hb1
      unfold pvV
      have HQ := hide (FR.new w4 (d m) 45)
      have HP5 := hide ((unhide HP4).keep (bnew w4 (.cells #[.float .f64 (d m 0), .float .f64 (d m 1), .float .f64 (d m 2)] 45)))
      have Hb5 := hide (bal (o := .cells #[.float .f64 (d m 0), .float .f64 (d m 1), .float .f64 (d m 2)] 45) (unhide Hb4))
      go_upto_region 11 with fail
      generalize w4.alloc (.cells #[.float .f64 (d m 0), .float .f64 (d m 1), .float .f64 (d m 2)] 45) = w5 at *
      generalize w4.heap.size = n11 at *
      clear HP4 Hb4
      have j0 := ((unhide HQ).2 0 (by omega)).1
      have j1 := ((unhide HQ).2 1 (by omega)).1
      have j2 := ((unhide HQ).2 2 (by omega)).1
      go_wp2_with fail
      refine (fair_any (d m) _).mono ?_
      rintro e w6 ⟨rfl, hb6⟩
      have HQ6 := hide ((unhide HQ).keep hb6)
      have HP6 := hide ((unhide HP5).keep hb6)
      have Hb6 := hide (btrans (unhide Hb5) hb6)
      clear hb6 j0 j1 j2 HQ HP5 Hb5
      rw [unhide H0]
      clear H0 H HD HQ6 HP6
      go_wp2
      exact bodyPost_ret (v := .tuple #[.int .i64 0, .int .i64 3]) (by simp [results, Try.results10, go_sem]) rfl ⟨rfl, unhide Hb6⟩

set_option maxRecDepth 100000 in
set_option maxHeartbeats 4000000 in
theorem near_ok (n K cap : Nat) (q : Option Addr) (d : Nat → Nat → Nat) (p : Nat → Nat) (hn1 : 1 ≤ n) (hn2 : n ≤ 256) (hp : faB p = true) (h : ∀ i, i < n → faB (d i) = true) (hK : IsNear n (fv d p) K) (W : World) (hD : Dy W q n d) : AnsN 10 #[.slice q n cap, pvV p] W K 0 := by
  have HD := hide hD
  have H := hide h
  have HK := hide hK
  clear hD h hK
  have c1 : ¬ ((n : Int) < 1) := by omega
  have c1' : decide ((n : Int) < 1) = false := decide_eq_false c1
  have c2 : ¬ (256 < (n : Int)) := by omega
  have c2' : decide (256 < (n : Int)) = false := decide_eq_false c2
  unfold AnsN pvV
  have hst := stF
  have HF0 := hide (FR.new W p 26)
  have Hb0 := hide (bnew W (.cells #[.float .f64 (p 0), .float .f64 (p 1), .float .f64 (p 2)] 26))
  obtain ⟨n3, hn3⟩ : ∃ n3, W.heap.size = n3 := ⟨_, rfl⟩
  have Hn3 := hide hn3
  go_enter Try.func10, Try.ntmps10
  go_upto_region 1 with fail
  generalize W.alloc (.cells #[.float .f64 (p 0), .float .f64 (p 1), .float .f64 (p 2)] 26) = w1 at *
  rw [hn3] at HF0
  try rw [hn3]
  clear hn3
  have a0 := ((unhide HF0).2 0 (by omega)).1
  have a1 := ((unhide HF0).2 1 (by omega)).1
  have a2 := ((unhide HF0).2 2 (by omega)).1
  go_wp2_with fail
  refine (partsOf_any p _).mono ?_
  rintro e w2 ⟨rfl, hb2⟩
  have Hb2 := hide (btrans (unhide Hb0) hb2)
  clear hb2 Hb0 a0 a1 a2 HF0
  unfold pvV
  have HP3 := hide (FR.new w2 p 45)
  have Hb3 := hide (bal (o := .cells #[.float .f64 (p 0), .float .f64 (p 1), .float .f64 (p 2)] 45) (unhide Hb2))
  go_upto_region 4 with fail
  generalize w2.alloc (.cells #[.float .f64 (p 0), .float .f64 (p 1), .float .f64 (p 2)] 45) = w3 at *
  generalize w2.heap.size = n6 at *
  clear Hb2
  have z0 := ((unhide HP3).2 0 (by omega)).1
  have z1 := ((unhide HP3).2 1 (by omega)).1
  have z2 := ((unhide HP3).2 2 (by omega)).1
  go_wp2_with fail
  refine (fair_any p _).mono ?_
  rintro e w4 ⟨rfl, hb4⟩
  have HP4 := hide ((unhide HP3).keep hb4)
  have Hb4 := hide (btrans (unhide Hb3) hb4)
  clear hb4 HP3 Hb3 z0 z1 z2
  rw [hp]
  have Hp := hide hp
  clear hp
  go_wp2
  go_loopw [7, 8, 28] (fun pl le i wr => ∃ (x k z : Nat), x ≤ n ∧ i = .int .i64 (x : Int) ∧ pl = .int .i64 (k : Int) ∧ le = .float .f64 z ∧ ((x = 0 ∧ k = 0) ∨ (0 < x ∧ IsNear x (fv d p) k ∧ z = zF (d k) p)) ∧ FR wr n6 p ∧ Below W.heap.size W wr) (fun _ _ i _ => n - (intOf i).toNat)
  case atStart => exact ⟨0, 0, 0, by omega, rfl, rfl, rfl, .inl ⟨rfl, rfl⟩, unhide HP4, unhide Hb4⟩
  case round =>
    clear HP4 Hb4
    obtain ⟨x, k, z, hx, rfl, rfl, rfl, hs, hP, hb⟩ := hrel
    have Hs := hide hs
    clear hs
    by_cases hlt : x < n
    · skip
      obtain ⟨ad0, oo, rfl, k0, k1, k2⟩ := ((unhide HD).keep hb).at (x := x) (by omega)
      have q0 : (x : Int) < (n : Int) := by omega
      have q1 : (0 : Int) ≤ (x : Int) := by omega
      have HB := hide (FR.new wr (d x) 26)
      have HP1 := hide (hP.keep (bnew wr (.cells #[.float .f64 (d x 0), .float .f64 (d x 1), .float .f64 (d x 2)] 26)))
      have Hb1 := hide (bal (o := .cells #[.float .f64 (d x 0), .float .f64 (d x 1), .float .f64 (d x 2)] 26) hb)
      clear hP hb
      go_upto_region 10 with fail
      generalize wr.alloc (.cells #[.float .f64 (d x 0), .float .f64 (d x 1), .float .f64 (d x 2)] 26) = w3 at *
      generalize wr.heap.size = n10 at *
      clear k0 k1 k2
      have i0 := ((unhide HB).2 0 (by omega)).1
      have i1 := ((unhide HB).2 1 (by omega)).1
      have i2 := ((unhide HB).2 2 (by omega)).1
      go_wp2_with fail
      refine (partsOf_any (d x) _).mono ?_
      rintro e w4 ⟨rfl, hb4⟩
      have HP4 := hide ((unhide HP1).keep hb4)
      have Hb4 := hide (btrans (unhide Hb1) hb4)
      clear hb4 i0 i1 i2 HB HP1 Hb1
      unfold pvV
      have HQ := hide (FR.new w4 (d x) 45)
      have HP5 := hide ((unhide HP4).keep (bnew w4 (.cells #[.float .f64 (d x 0), .float .f64 (d x 1), .float .f64 (d x 2)] 45)))
      have Hb5 := hide (bal (o := .cells #[.float .f64 (d x 0), .float .f64 (d x 1), .float .f64 (d x 2)] 45) (unhide Hb4))
      go_upto_region 11 with fail
      generalize w4.alloc (.cells #[.float .f64 (d x 0), .float .f64 (d x 1), .float .f64 (d x 2)] 45) = w5 at *
      generalize w4.heap.size = n11 at *
      clear HP4 Hb4
      have j0 := ((unhide HQ).2 0 (by omega)).1
      have j1 := ((unhide HQ).2 1 (by omega)).1
      have j2 := ((unhide HQ).2 2 (by omega)).1
      go_wp2_with fail
      refine (fair_any (d x) _).mono ?_
      rintro e w6 ⟨rfl, hb6⟩
      have HQ6 := hide ((unhide HQ).keep hb6)
      have HP6 := hide ((unhide HP5).keep hb6)
      have Hb6 := hide (btrans (unhide Hb5) hb6)
      clear hb6 j0 j1 j2 HQ HP5 Hb5
      rw [unhide H x (by omega)]
      have HFr := hide (fr_at (unhide H x (by omega)) (unhide Hp)).1
      have j0 := ((unhide HQ6).2 0 (by omega)).1
      have j1 := ((unhide HQ6).2 1 (by omega)).1
      have j2 := ((unhide HQ6).2 2 (by omega)).1
      have p0 := ((unhide HP6).2 0 (by omega)).1
      have p1 := ((unhide HP6).2 1 (by omega)).1
      have p2 := ((unhide HP6).2 2 (by omega)).1
      go_wp2_with fail
      refine (far_any (d x) p _ _ _ _ (unhide HFr) _).mono ?_
      rintro e w7 ⟨rfl, hb7⟩
      have HP7 := hide ((unhide HP6).keep hb7)
      have Hb7 := hide (btrans (unhide Hb6) hb7)
      clear hb7 j0 j1 j2 p0 p1 p2 HQ6 HP6 Hb6 HFr
      rcases unhide Hs with ⟨h0, hk0⟩ | ⟨h0, hN, hz⟩
      · have d0 : ((x : Int) == 0) = true := by simp; omega
        have H00 := hide h0
        clear hk0 Hs h0
        go_wp2
        go_roundw
        case rel => exact ⟨x + 1, x, _, by omega, by go_num, rfl, rfl, .inr ⟨by omega, by rw [unhide H00]; exact IsNear.one _, rfl⟩, unhide HP7, unhide Hb7⟩
        case measure => simp [intOf]; omega
      · have d0 : ((x : Int) == 0) = false := by simp; omega
        have d0' : ¬ ((x : Int) = 0) := by omega
        have hkx := hN.1
        subst hz
        have HN := hide hN
        clear Hs hN
        rcases ord_at (unhide Hp) (unhide H x (by omega)) (unhide H k (by omega)) with ⟨ho, hl⟩ | ⟨ho, hl⟩ | ⟨ho, hl⟩
        · have Hl := hide hl
          clear hl
          go_wp2
          go_roundw
          case rel => exact ⟨x + 1, x, _, by omega, by go_num, rfl, rfl, .inr ⟨by omega, (unhide HN).less (unhide Hl), rfl⟩, unhide HP7, unhide Hb7⟩
          case measure => simp [intOf]; omega
        · have Hl := hide (show fv d p k ≤ fv d p x by omega)
          clear hl
          go_wp2
          go_roundw
          case rel => exact ⟨x + 1, k, _, by omega, by go_num, rfl, rfl, .inr ⟨by omega, (unhide HN).stay (Int.not_lt.2 (unhide Hl)), rfl⟩, unhide HP7, unhide Hb7⟩
          case measure => simp [intOf]; omega
        · have Hl := hide (show fv d p k ≤ fv d p x by omega)
          clear hl
          go_wp2
          go_roundw
          case rel => exact ⟨x + 1, k, _, by omega, by go_num, rfl, rfl, .inr ⟨by omega, (unhide HN).stay (Int.not_lt.2 (unhide Hl)), rfl⟩, unhide HP7, unhide Hb7⟩
          case measure => simp [intOf]; omega
    · obtain rfl : n = x := by omega
      have cl : ¬ ((n : Int) < (n : Int)) := by omega
      obtain rfl : K = k := by
        rcases unhide Hs with ⟨h0, -⟩ | ⟨-, hN, -⟩
        · omega
        · exact (unhide HK).same hN
      have Hb := hide hb
      clear hb hP Hs HK H HD Hp
      go_wp2
      exact bodyPost_ret (v := .tuple #[.int .i64 (K : Int), .int .i64 0]) (by simp [results, Try.results10, go_sem]) rfl ⟨rfl, unhide Hb⟩

theorem nearP_any {n k : Nat} {d : Nat → Nat → Nat} {p : Nat → Nat} {er : Int} (h : NearIs n d p k er) (cap : Nat) (q : Option Addr) (W : World) (hD : Dy W q n d) : AnsN 10 #[.slice q n cap, pvV p] W k er := by
  rcases h with ⟨h, rfl, rfl⟩ | ⟨hn, hp, rfl, rfl⟩ | ⟨hn, hp, ⟨j, hj, h1, h2⟩, rfl, rfl⟩ | ⟨hn, hp, h1, h2, rfl⟩
  · exact near_many n cap q p h W
  · exact near_unfair n cap q p hn.1 hn.2 hp W
  · exact near_bad n j cap q d p hn.1 hn.2 hp hj h1 h2 W hD
  · exact near_ok n k cap q d p hn.1 hn.2 hp h1 h2 W hD
end Go.Proofs.Ytlilmchlddiacaa
