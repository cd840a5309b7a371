/-
  The reference: SamePoints, Fits.
-/
import Derived.Test.YtkhmdgppkjafoaaPG
namespace Go.Proofs.Ytkhmdgppkjafoaa
open Go.RowKit

set_option maxHeartbeats 4000000 in
set_option maxRecDepth 100000 in
theorem same_any (q q' : Option Addr) (n cap cap' : Nat) (X Y : Nat → Int) (hn : n ≤ 256) (W : World) (h1 : Ps W q n X Y) (h2 : Ps W q' n X Y) :
    Calls Try.prog 8 #[.slice q n cap, .slice q' n cap'] W fun e V => e = .returned (.bool true) ∧ Below W.heap.size W V := by
  have H1 := hide h1
  have H2 := hide h2
  have c0 : ((n : Int) != (n : Int)) = false := by simp
  clear h1 h2
  go_enter Try.func8, Try.ntmps8
  go_wp2
  go_loopw [13] (fun i wr => ∃ k : Nat, k ≤ n ∧ i = .int .i64 (k : Int) ∧ Below W.heap.size W wr) (fun i _ => n - (intOf i).toNat)
  case atStart => exact ⟨0, Nat.zero_le _, rfl, Below.refl _ _⟩
  case round =>
    obtain ⟨k, hk, rfl, hbel⟩ := hrel
    by_cases hlt : k < n
    · have q1 : (0 : Int) ≤ (k : Int) := by omega
      have q2 : (k : Int) < (n : Int) := by omega
      obtain ⟨g1, o1, rfl, p1, p2⟩ := ((unhide H1).keep hbel).at hlt
      obtain ⟨g2, o2, rfl, p3, p4⟩ := ((unhide H2).keep hbel).at hlt
      have Hl := hide hlt
      have Hb := hide hbel
      clear hbel hlt
      go_wp2_with fail
      go_quiet (fail)
      go_wp2
      go_roundw
      case rel => exact ⟨k + 1, unhide Hl, by go_num, btrans (unhide Hb) (Joins.below_draws _ _ _)⟩
      case measure => have := unhide Hl; simp [intOf]; omega
    · have e : k = n := by omega
      have cl : ¬ ((k : Int) < (n : Int)) := by omega
      have Hb := hide hbel
      clear hbel e
      go_wp2
      go_ret
      exact ⟨ret_bool (by simp), unhide Hb⟩

set_option maxHeartbeats 1000000 in
theorem rfits_err (wide high : Int) (q : Option Addr) (n cap : Nat) (a b : Nat → Int) (q' : Option Addr) (n' cap' : Nat) (W : World) (hP : Ps W q n a b) (he : wE wide n a b ≠ 0) : AnsB 10 #[.int .i64 wide, .int .i64 high, .slice q n cap, .slice q' n' cap'] W false (wE wide n a b) := by
  unfold AnsB
  have HC := hide (rwrong_any wide q n cap a b W hP)
  generalize wE wide n a b = er at *
  have h1 : (er != 0) = true := by simpa using he
  clear hP he
  go_enter Try.func10, Try.ntmps10
  go_wp2_with fail
  refine (unhide HC).mono ?_
  rintro e w1 ⟨rfl, hb1⟩
  go_wp2
  exact bodyPost_ret (v := .tuple #[.bool false, .int .i64 er]) (by simp [results, Try.results10, go_sem]) rfl ⟨rfl, hb1⟩
set_option maxHeartbeats 1000000 in
theorem rfits_len (wide high : Int) (q : Option Addr) (n cap : Nat) (a b : Nat → Int) (q' : Option Addr) (n' cap' : Nat) (W : World) (hP : Ps W q n a b) (he : wE wide n a b = 0) (hl : n' ≠ n) : AnsB 10 #[.int .i64 wide, .int .i64 high, .slice q n cap, .slice q' n' cap'] W false 8 := by
  unfold AnsB
  have HC := hide (rwrong_any wide q n cap a b W hP)
  rw [he] at HC
  have h1 : ((n' : Int) != (n : Int)) = true := by simp; omega
  clear hP he
  go_enter Try.func10, Try.ntmps10
  go_wp2_with fail
  refine (unhide HC).mono ?_
  rintro e w1 ⟨rfl, hb1⟩
  go_wp2
  exact bodyPost_ret (v := .tuple #[.bool false, .int .i64 8]) (by simp [results, Try.results10, go_sem]) rfl ⟨rfl, hb1⟩

/-- all lie on the cloth, and no two of them meet -/
theorem fit_of {wide high : Int} {n : Nat} {a b X Y : Nat → Int} (h1 : ∀ i, i < n → InP wide high (a i) (b i) (X i) (Y i)) (h2 : ∀ i, i < n → ∀ k, k < n → i ≠ k → ¬ MtP (a i) (b i) (X i) (Y i) (a k) (b k) (X k) (Y k)) : FitP wide high n a b X Y :=
  fun i hi => ⟨h1 i hi, fun j hj => h2 i hi j (by omega) (by omega)⟩
theorem fit_not {wide high : Int} {n i k : Nat} {a b X Y : Nat → Int} (hi : i < n) (hk : k < n) (hne : i ≠ k) (h : MtP (a i) (b i) (X i) (Y i) (a k) (b k) (X k) (Y k)) : ¬ FitP wide high n a b X Y := fun f => by
  rcases Nat.lt_or_gt_of_ne hne with c | c
  · exact (f k hk).2 i c h.symm
  · exact (f i hi).2 k c h

set_option maxRecDepth 100000 in
set_option maxHeartbeats 8000000 in
theorem rfits_ok (wide : Nat) (high : Int) (hh : high ≤ 9223372036854775807) (q : Option Addr) (n cap : Nat) (w h : Nat → Nat) (r : Rg wide n w h) (q' : Option Addr) (cap' : Nat) (X Y : Nat → Int) (W : World) (hP : Ps W q n (fun k => (w k : Int)) (fun k => (h k : Int))) (hZ : Ps W q' n X Y) :
    AnsB 10 #[.int .i64 (wide : Int), .int .i64 high, .slice q n cap, .slice q' n cap'] W (decide (FitP (wide : Int) high n (fun k => (w k : Int)) (fun k => (h k : Int)) X Y)) 0 := by
  unfold AnsB
  have hw := r.wide
  have hn := r.many
  have HC := hide (rwrong_any (wide : Int) q n cap _ _ W hP)
  rw [wE_rg r] at HC
  have HP := hide hP
  have HZ := hide hZ
  have Hr := hide r
  have h1 : ((n : Int) != (n : Int)) = false := by simp
  obtain ⟨fb, hfb⟩ : ∃ fb, fb = decide (FitP (wide : Int) high n (fun k => (w k : Int)) (fun k => (h k : Int)) X Y) := ⟨_, rfl⟩
  rw [← hfb]
  have Hno := hide (show (¬ FitP (wide : Int) high n (fun k => (w k : Int)) (fun k => (h k : Int)) X Y) → fb = false from fun q => by rw [hfb, decide_eq_false q])
  have Hyes := hide (show FitP (wide : Int) high n (fun k => (w k : Int)) (fun k => (h k : Int)) X Y → fb = true from fun q => by rw [hfb, decide_eq_true q])
  clear hP hZ r hfb
  go_enter Try.func10, Try.ntmps10
  go_wp2_with fail
  refine (unhide HC).mono ?_
  rintro e w1 ⟨rfl, hb1⟩
  have Hb1 := hide hb1
  clear hb1 HC
  go_wp2
  go_loopw [31] (fun i wr => ∃ x : Nat, x ≤ n ∧ i = .int .i64 (x : Int) ∧ Hid (∀ i, i < x → InP (wide : Int) high (w i : Int) (h i : Int) (X i) (Y i)) ∧ Below W.heap.size W wr) (fun i _ => n - (intOf i).toNat)
  case atStart => exact ⟨0, Nat.zero_le _, rfl, hide (fun i hi => by omega), unhide Hb1⟩
  case round =>
    clear Hb1
    obtain ⟨x, hx, rfl, Hf, hb⟩ := hrel
    by_cases hlt : x < n
    · have q0 : (x : Int) < (n : Int) := by omega
      have q1 : (0 : Int) ≤ (x : Int) := by omega
      obtain ⟨ad, oo, rfl, k0, k1⟩ := ((unhide HP).keep hb).at hlt
      obtain ⟨ad2, oo2, rfl, l0, l1⟩ := ((unhide HZ).keep hb).at hlt
      have Hea := hide ((unhide Hr).each x hlt)
      have Hin := hide (show InP (wide : Int) high (w x : Int) (h x : Int) (X x) (Y x) ↔ (0 ≤ X x ∧ X x < (wide : Int) ∧ (w x : Int) ≤ (wide : Int) - X x) ∧ (0 ≤ Y x ∧ Y x < high ∧ (h x : Int) ≤ high - Y x) from Iff.rfl)
      have Hbad := hide (show ¬ InP (wide : Int) high (w x : Int) (h x : Int) (X x) (Y x) → fb = false from fun p => unhide Hno fun f => p (f x hlt).1)
      have Hgood := hide (show InP (wide : Int) high (w x : Int) (h x : Int) (X x) (Y x) → ∀ i, i < x + 1 → InP (wide : Int) high (w i : Int) (h i : Int) (X i) (Y i) from fun p i hi => by
        by_cases e : i = x
        · rw [e]; exact p
        · exact unhide Hf i (by omega))
      generalize InP (wide : Int) high (w x : Int) (h x : Int) (X x) (Y x) = IP at *
      generalize X x = ux at *
      generalize Y x = uy at *
      generalize w x = ua at *
      generalize h x = ub at *
      have HB1 := hide (B2.new wr (ua : Int) (ub : Int) 33)
      have Hb4 := hide (bal (o := .cells #[.int .i64 (ua : Int), .int .i64 (ub : Int)] 33) hb)
      have l0' := keepC (bnew wr (.cells #[.int .i64 (ua : Int), .int .i64 (ub : Int)] 33)) (World.block_lt_of_cell? wr _ l0) l0
      have l1' := keepC (bnew wr (.cells #[.int .i64 (ua : Int), .int .i64 (ub : Int)] 33)) (World.block_lt_of_cell? wr _ l0) l1
      clear hb
      go_upto_region 9 with fail
      generalize wr.alloc (.cells #[.int .i64 (ua : Int), .int .i64 (ub : Int)] 33) = w4 at *
      generalize wr.heap.size = n12 at *
      clear k0 k1 l0 l1
      have HB2 := hide ((unhide HB1).keep (bnew w4 (.cells #[.int .i64 ux, .int .i64 uy] 35)))
      have HB3 := hide (B2.new w4 ux uy 35)
      have Hb5 := hide (bal (o := .cells #[.int .i64 ux, .int .i64 uy] 35) (unhide Hb4))
      clear HB1 Hb4
      go_upto_region 10 with fail
      generalize w4.alloc (.cells #[.int .i64 ux, .int .i64 uy] 35) = w5 at *
      generalize w4.heap.size = n13 at *
      clear l0' l1'
      obtain ⟨-, i0, i1⟩ := unhide HB2
      obtain ⟨-, j0, j1⟩ := unhide HB3
      have hea := unhide Hea
      by_cases c1 : ux < 0
      · have c1' : decide (ux < 0) = true := decide_eq_true c1
        have He := hide (unhide Hbad (fun p => by have := (unhide Hin).1 p; omega))
        go_wp2
        exact bodyPost_ret (v := .tuple #[.bool false, .int .i64 0]) (by simp [results, Try.results10, go_sem]) rfl ⟨by rw [unhide He], unhide Hb5⟩
      have c1' : decide (ux < 0) = false := decide_eq_false c1
      by_cases c2 : (wide : Int) < ux
      · have c2' : decide ((wide : Int) < ux) = true := decide_eq_true c2
        have He := hide (unhide Hbad (fun p => by have := (unhide Hin).1 p; omega))
        go_wp2
        exact bodyPost_ret (v := .tuple #[.bool false, .int .i64 0]) (by simp [results, Try.results10, go_sem]) rfl ⟨by rw [unhide He], unhide Hb5⟩
      have c2' : decide ((wide : Int) < ux) = false := decide_eq_false c2
      obtain ⟨dx, hdx⟩ : ∃ dx, (wide : Int) - ux = dx := ⟨_, rfl⟩
      have hdx2 : 0 ≤ dx ∧ dx ≤ 1048576 := by omega
      by_cases c3 : dx < (ua : Int)
      · have c3' : decide (dx < (ua : Int)) = true := decide_eq_true c3
        have He := hide (unhide Hbad (fun p => by have := (unhide Hin).1 p; omega))
        go_wp2
        exact bodyPost_ret (v := .tuple #[.bool false, .int .i64 0]) (by simp [results, Try.results10, go_sem]) rfl ⟨by rw [unhide He], unhide Hb5⟩
      have c3' : decide (dx < (ua : Int)) = false := decide_eq_false c3
      by_cases c4 : uy < 0
      · have c4' : decide (uy < 0) = true := decide_eq_true c4
        have He := hide (unhide Hbad (fun p => by have := (unhide Hin).1 p; omega))
        go_wp2
        exact bodyPost_ret (v := .tuple #[.bool false, .int .i64 0]) (by simp [results, Try.results10, go_sem]) rfl ⟨by rw [unhide He], unhide Hb5⟩
      have c4' : decide (uy < 0) = false := decide_eq_false c4
      by_cases c5 : high < uy
      · have c5' : decide (high < uy) = true := decide_eq_true c5
        have He := hide (unhide Hbad (fun p => by have := (unhide Hin).1 p; omega))
        go_wp2
        exact bodyPost_ret (v := .tuple #[.bool false, .int .i64 0]) (by simp [results, Try.results10, go_sem]) rfl ⟨by rw [unhide He], unhide Hb5⟩
      have c5' : decide (high < uy) = false := decide_eq_false c5
      obtain ⟨dy, hdy⟩ : ∃ dy, high - uy = dy := ⟨_, rfl⟩
      have hdy2 : 0 ≤ dy ∧ dy ≤ 9223372036854775807 := by omega
      by_cases c6 : dy < (ub : Int)
      · have c6' : decide (dy < (ub : Int)) = true := decide_eq_true c6
        have He := hide (unhide Hbad (fun p => by have := (unhide Hin).1 p; omega))
        go_wp2
        exact bodyPost_ret (v := .tuple #[.bool false, .int .i64 0]) (by simp [results, Try.results10, go_sem]) rfl ⟨by rw [unhide He], unhide Hb5⟩
      have c6' : decide (dy < (ub : Int)) = false := decide_eq_false c6
      have Hok := hide (unhide Hgood ((unhide Hin).2 (by omega)))
      go_wp2
      go_roundw
      case rel => exact ⟨x + 1, by omega, by go_num, hide (unhide Hok), unhide Hb5⟩
      case measure => simp [intOf]; omega
    · obtain rfl : n = x := by omega
      have cl : ¬ ((n : Int) < (n : Int)) := by omega
      have Hb := hide hb
      have Hall := hide (unhide Hf)
      clear hb Hf
      go_wp2
      go_loopw [81] (fun i wr => ∃ x : Nat, x ≤ n ∧ i = .int .i64 (x : Int) ∧ Hid (∀ i, i < x → ∀ k, k < n → i ≠ k → ¬ MtP (w i : Int) (h i : Int) (X i) (Y i) (w k : Int) (h k : Int) (X k) (Y k)) ∧ Below W.heap.size W wr) (fun i _ => n - (intOf i).toNat)
      case atStart => exact ⟨0, Nat.zero_le _, rfl, hide (fun i hi => by omega), unhide Hb⟩
      case round =>
        clear Hb
        obtain ⟨x, hx2, rfl, Hf, hb⟩ := hrel
        by_cases hlt : x < n
        · have q0 : (x : Int) < (n : Int) := by omega
          have q1 : (0 : Int) ≤ (x : Int) := by omega
          obtain ⟨ad, oo, rfl, k0, k1⟩ := ((unhide HP).keep hb).at hlt
          have HB1 := hide (B2.new wr (w x : Int) (h x : Int) 33)
          have Hb4 := hide (bal (o := .cells #[.int .i64 (w x : Int), .int .i64 (h x : Int)] 33) hb)
          clear hb
          go_upto_region 16 with fail
          generalize wr.alloc (.cells #[.int .i64 (w x : Int), .int .i64 (h x : Int)] 33) = w4 at *
          generalize wr.heap.size = n15 at *
          clear k0 k1
          have Hx := hide (unhide Hall x hlt)
          have Hea := hide ((unhide Hr).each x hlt)
          go_wp2
          go_loopw [88] (fun i wr => ∃ z : Nat, z ≤ n ∧ i = .int .i64 (z : Int) ∧ Hid (∀ k, k < z → x ≠ k → ¬ MtP (w x : Int) (h x : Int) (X x) (Y x) (w k : Int) (h k : Int) (X k) (Y k)) ∧ B2 wr n15 (w x : Int) (h x : Int) ∧ Below W.heap.size W wr) (fun i _ => n - (intOf i).toNat)
          case atStart => exact ⟨0, Nat.zero_le _, rfl, hide (fun i hi => by omega), unhide HB1, unhide Hb4⟩
          case round =>
            clear HB1 Hb4
            obtain ⟨z, hz, rfl, Hg, hB1, hb⟩ := hrel
            by_cases hlz : z < n
            · have q2 : (z : Int) < (n : Int) := by omega
              have q3 : (0 : Int) ≤ (z : Int) := by omega
              obtain ⟨ad5, oo5, hq5, k0, k1⟩ := ((unhide HP).keep hb).at hlz
              cases hq5
              have HB2 := hide (hB1.keep (bnew wr (.cells #[.int .i64 (w z : Int), .int .i64 (h z : Int)] 33)))
              have HB3 := hide (B2.new wr (w z : Int) (h z : Int) 33)
              have Hb5 := hide (bal (o := .cells #[.int .i64 (w z : Int), .int .i64 (h z : Int)] 33) hb)
              clear hB1 hb
              go_upto_region 19 with fail
              generalize wr.alloc (.cells #[.int .i64 (w z : Int), .int .i64 (h z : Int)] 33) = w5 at *
              generalize wr.heap.size = n17 at *
              clear k0 k1
              obtain ⟨ad6, oo6, rfl, l0, l1⟩ := ((unhide HZ).keep (unhide Hb5)).at hlt
              obtain ⟨ad7, oo7, hq7, m0, m1⟩ := ((unhide HZ).keep (unhide Hb5)).at hlz
              cases hq7
              have Hea2 := hide ((unhide Hr).each z hlz)
              have Hz := hide (unhide Hall z hlz)
              have Hbt := hide (show (btB (X x) (w x : Int) (X z) (w z : Int) = false ∨ btB (Y x) (h x : Int) (Y z) (h z : Int) = false ∨ x = z) → ∀ k, k < z + 1 → x ≠ k → ¬ MtP (w x : Int) (h x : Int) (X x) (Y x) (w k : Int) (h k : Int) (X k) (Y k) from fun p k hk hne m => by
                by_cases e : k = z
                · subst e
                  rcases p with p | p | p
                  · exact of_decide_eq_false p ⟨m.1, m.2.1⟩
                  · exact of_decide_eq_false p ⟨m.2.2.1, m.2.2.2⟩
                  · exact hne p
                · exact unhide Hg k (by omega) hne m)
              have Hbf := hide (show btB (X x) (w x : Int) (X z) (w z : Int) = true → btB (Y x) (h x : Int) (Y z) (h z : Int) = true → x ≠ z → fb = false from fun p1 p2 hne => unhide Hno (fit_not hlt hlz hne ⟨(of_decide_eq_true p1).1, (of_decide_eq_true p1).2, (of_decide_eq_true p2).1, (of_decide_eq_true p2).2⟩))
              have HCx := hide (fun V => between_any (X x) (w x : Int) (X z) (w z : Int) (by have := (unhide Hx).1; omega) (by have := (unhide Hz).1; omega) (by have := unhide Hea; omega) (by have := unhide Hea2; omega) V)
              have HCy := hide (fun V => between_any (Y x) (h x : Int) (Y z) (h z : Int) (by have := (unhide Hx).2; omega) (by have := (unhide Hz).2; omega) (by have := unhide Hea; omega) (by have := unhide Hea2; omega) V)
              obtain ⟨-, i0, i1⟩ := unhide HB2
              obtain ⟨-, j0, j1⟩ := unhide HB3
              have HB4 := hide (fun V (hV : Below w5.heap.size w5 V) => (unhide HB2).keep hV)
              by_cases hxz : x = z
              · have d0 : ((x : Int) != (z : Int)) = false := by simp; omega
                have Hn := hide (unhide Hbt (.inr (.inr hxz)))
                clear hxz Hbt Hbf HCx HCy Hg
                go_wp2_with fail
                go_quiet (fail)
                have Hb9 := hide (Joins.below_draws w5.heap.size w5 nq)
                generalize w5.drewN nq = w9 at *
                go_wp2
                go_roundw
                case rel => exact ⟨z + 1, by omega, by go_num, hide (unhide Hn), unhide HB4 _ (unhide Hb9), btrans (unhide Hb5) (unhide Hb9)⟩
                case measure => simp [intOf]; omega
              · have d0 : ((x : Int) != (z : Int)) = true := by simp; omega
                generalize hux : X x = ux at *
                generalize huy : Y x = uy at *
                generalize hvx : X z = vx at *
                generalize hvy : Y z = vy at *
                have Hxy := hide (And.intro hux huy)
                clear hux huy hvx hvy
                cases p1 : btB ux (w x : Int) vx (w z : Int) with
                | false =>
                  rw [p1] at HCx
                  have Hn := hide (unhide Hbt (.inl p1))
                  clear p1 hxz Hbt Hbf HCy Hg
                  go_wp2_with fail
                  go_quiet (first | (go_at_call_of 19 ux; exact Calls.quiet_of_same (unhide HCx _)))
                  have Hb9 := hide (Joins.below_draws w5.heap.size w5 nq)
                  generalize w5.drewN nq = w9 at *
                  go_wp2
                  go_roundw
                  case rel => exact ⟨z + 1, by omega, by go_num, hide (by rw [(unhide Hxy).1, (unhide Hxy).2]; exact unhide Hn), unhide HB4 _ (unhide Hb9), btrans (unhide Hb5) (unhide Hb9)⟩
                  case measure => simp [intOf]; omega
                | true =>
                  rw [p1] at HCx
                  cases p2 : btB uy (h x : Int) vy (h z : Int) with
                  | false =>
                    rw [p2] at HCy
                    have Hn := hide (unhide Hbt (.inr (.inl p2)))
                    clear p1 p2 hxz Hbt Hbf Hg
                    go_wp2_with fail
                    go_quiet (first | (go_at_call_of 19 ux; exact Calls.quiet_of_same (unhide HCx _)) | (go_at_call_of 19 uy; exact Calls.quiet_of_same (unhide HCy _)))
                    have Hb9 := hide (Joins.below_draws w5.heap.size w5 nq)
                    generalize w5.drewN nq = w9 at *
                    go_wp2
                    go_roundw
                    case rel => exact ⟨z + 1, by omega, by go_num, hide (by rw [(unhide Hxy).1, (unhide Hxy).2]; exact unhide Hn), unhide HB4 _ (unhide Hb9), btrans (unhide Hb5) (unhide Hb9)⟩
                    case measure => simp [intOf]; omega
                  | true =>
                    rw [p2] at HCy
                    have Hn := hide (unhide Hbf p1 p2 hxz)
                    clear p1 p2 hxz Hbt Hbf Hg
                    go_wp2_with fail
                    go_quiet (first | (go_at_call_of 19 ux; exact Calls.quiet_of_same (unhide HCx _)) | (go_at_call_of 19 uy; exact Calls.quiet_of_same (unhide HCy _)))
                    have Hb9 := hide (Joins.below_draws w5.heap.size w5 nq)
                    generalize w5.drewN nq = w9 at *
                    go_wp2
                    exact bodyPost_ret (v := .tuple #[.bool false, .int .i64 0]) (by simp [results, Try.results10, go_sem]) rfl ⟨by rw [unhide Hn], btrans (unhide Hb5) (unhide Hb9)⟩
            · obtain rfl : n = z := by omega
              have cl2 : ¬ ((n : Int) < (n : Int)) := by omega
              have Hn := hide (show ∀ i, i < x + 1 → ∀ k, k < n → i ≠ k → ¬ MtP (w i : Int) (h i : Int) (X i) (Y i) (w k : Int) (h k : Int) (X k) (Y k) from fun i hi => by
                by_cases e : i = x
                · subst e; exact unhide Hg
                · exact unhide Hf i (by omega))
              have Hb9 := hide hb
              clear hb hB1 Hg Hf
              go_wp2
              go_roundw
              case rel => exact ⟨x + 1, by omega, by go_num, hide (unhide Hn), unhide Hb9⟩
              case measure => simp [intOf]; omega
        · obtain rfl : n = x := by omega
          have He := hide (unhide Hyes (fit_of (unhide Hall) (unhide Hf)))
          have Hb := hide hb
          clear hb
          go_wp2
          exact bodyPost_ret (v := .tuple #[.bool true, .int .i64 0]) (by simp [results, Try.results10, go_sem]) rfl ⟨by rw [unhide He], unhide Hb⟩
end Go.Proofs.Ytkhmdgppkjafoaa
