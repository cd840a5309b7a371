/-
  The laws' alive; ShapeBalanced.
-/
import Derived.Test.YtmblnfdadpcigaaB
namespace Go.Proofs.Ytmblnfdadpcigaa
open Go.RowKit

set_option maxHeartbeats 1000000 in
theorem alive_any (W : World) : Calls Try.prog 13 #[] W fun e w' => e = .returned (.bool true) ∧ Below W.heap.size W w' := by
  have HS : Hid (∀ V, AnsN 6 #[.int .i64 4, .int .i64 2] V 2 (fun i => (sp 4 2 i : Nat)) 0) := hide (fun V => spread_ok 4 2 (by omega) (by omega) (by omega) V)
  go_enter Try.func13, Try.ntmps13
  go_wp2_with fail
  refine (unhide HS _).mono ?_
  rintro e w1 ⟨q, cp, rfl, hI, hb⟩
  obtain ⟨a, rfl, hl, hk⟩ := hI.at (x := 0) (by omega)
  have k0 : w1.cell? ⟨a, 0, none⟩ = some (.int .i64 1) := hk 0 (by omega)
  have k1 : w1.cell? ⟨a, 1, none⟩ = some (.int .i64 3) := hk 1 (by omega)
  clear hI hk HS
  go_wp2
  go_ret
  exact ⟨rfl, hb⟩

set_option maxRecDepth 100000 in
set_option maxHeartbeats 1000000 in
theorem bal_err (t m a b l : Int) (h : caB t m = false) (W : World) : Calls Try.prog 4 #[.int .i64 t, .int .i64 m, .int .i64 a, .int .i64 b, .int .i64 l] W fun e w' => e = .returned (.bool true) ∧ Below W.heap.size W w' := by
  have HA := hide (fun V => alive_any V)
  have HS := hide (fun V => spread_err t m h V)
  clear h
  go_enter Try.func4, Try.ntmps4
  go_wp2_with fail
  refine (unhide HA _).mono ?_
  rintro e w1 ⟨rfl, hb1⟩
  go_wp2_with fail
  refine (unhide HS _).mono ?_
  rintro e w2 ⟨q, cp, rfl, -, hb2⟩
  have Hb := hide (btrans hb1 hb2)
  clear hb1 hb2 HA HS
  go_wp2
  go_ret
  exact ⟨rfl, unhide Hb⟩

/-- what a mark is, and the one ahead of it -/
theorem mark_nums (t m x : Nat) (ht : 0 < t) (hm : m ≤ t) (hx : x < m) : ∃ v : Nat, sp t m x = v ∧ (v : Int) < (t : Int) ∧ v ≤ t ∧ mb t m v = x ∧ ∀ y : Nat, x = y + 1 → ∃ u : Nat, sp t m y = u ∧ (u : Int) < (v : Int) := by
  have h1 := sp_lt t m x ht hx
  refine ⟨_, rfl, by omega, by omega, mb_sp t m x ht (by omega) hm, fun y hy => ⟨_, rfl, ?_⟩⟩
  have := sp_step t m y (by omega) hm
  subst hy
  omega
/-- all four numbers -/
theorem bal_nums (t m a b l : Nat) (ht : 0 < t) (hm : m ≤ t) (hm2 : t ≤ 1048576) (ha : a + l ≤ t) (hb : b + l ≤ t) : ∃ p q r s : Nat, mb t m a = p ∧ mb t m (a + l) = q ∧ mb t m b = r ∧ mb t m (b + l) = s ∧ p ≤ 1048576 ∧ q ≤ 1048576 ∧ r ≤ 1048576 ∧ s ≤ 1048576 ∧ -1 ≤ (q : Int) - (p : Int) - ((s : Int) - (r : Int)) ∧ (q : Int) - (p : Int) - ((s : Int) - (r : Int)) ≤ 1 := by
  have h := balanced t m a b l ht
  exact ⟨_, _, _, _, rfl, rfl, rfl, rfl, Nat.le_trans (mb_le t m _ ht (by omega)) (by omega), Nat.le_trans (mb_le t m _ ht (by omega)) (by omega), Nat.le_trans (mb_le t m _ ht (by omega)) (by omega), Nat.le_trans (mb_le t m _ ht (by omega)) (by omega), h.1, h.2⟩

set_option maxRecDepth 100000 in
set_option maxHeartbeats 4000000 in
theorem bal_ok (t m : Nat) (a b l : Int) (ht : 0 < t) (ht2 : t ≤ 1048576) (hm : m ≤ t) (W : World) : Calls Try.prog 4 #[.int .i64 t, .int .i64 m, .int .i64 a, .int .i64 b, .int .i64 l] W fun e w' => e = .returned (.bool true) ∧ Below W.heap.size W w' := by
  have HA := hide (fun V => alive_any V)
  have HS := hide (fun V => spread_ok t m ht ht2 hm V)
  have HC := hide (fun (p : Nat) (hp : p ≤ t) V => count_ok t m p ht ht2 hm hp V)
  have HM := hide (fun (x : Nat) (hx : x < m) => mark_nums t m x ht hm hx)
  have HN := hide (fun (a b l : Nat) ha hb => bal_nums t m a b l ht hm ht2 ha hb)
  have emm : ((m : Int) != (m : Int)) = false := by simp
  go_enter Try.func4, Try.ntmps4
  go_wp2_with fail
  refine (unhide HA _).mono ?_
  rintro e w1 ⟨rfl, hb1⟩
  go_wp2_with fail
  refine (unhide HS _).mono ?_
  rintro e w2 ⟨q, cp, rfl, hI, hb2⟩
  have Hb := hide (btrans hb1 hb2)
  have HI := hide hI
  clear hb1 hb2 HA HS hI
  go_wp2
  go_loopw [42] (fun i wr => ∃ x : Nat, x ≤ m ∧ i = .int .i64 x ∧ Below w2.heap.size w2 wr) (fun i _ => m - (intOf i).toNat)
  case atStart => exact ⟨0, Nat.zero_le _, rfl, Below.refl _ _⟩
  case round =>
    obtain ⟨x, hx, rfl, hb⟩ := hrel
    by_cases hlt : x < m
    · obtain ⟨ad, rfl, hl, hk⟩ := ((unhide HI).keep hb).at (x := x) hlt
      obtain ⟨v, hv, v1, v2, v3, v4⟩ := unhide HM x hlt
      have kx := hk x hlt
      rw [hv] at kx
      have HCv := hide (unhide HC v v2)
      rw [v3] at HCv
      have q0 : (x : Int) < (m : Int) := by omega
      have q1 : (0 : Int) ≤ (x : Int) := by omega
      have q2 : ¬ ((v : Int) < 0) := by omega
      have q2' : decide ((v : Int) < 0) = false := decide_eq_false q2
      have q3 : ¬ ((t : Int) ≤ (v : Int)) := by omega
      have q3' : decide ((t : Int) ≤ (v : Int)) = false := by simpa using q3
      have q4 : ((x : Int) != (x : Int)) = false := by simp
      by_cases h0 : x = 0
      · have q5 : ¬ (0 < (x : Int)) := by omega
        have q5' : decide (0 < (x : Int)) = false := by simpa using q5
        have Hbb := hide hb
        clear hk v4 h0 hv v2 v3 hb
        go_wp2_with fail
        refine (unhide HCv _).mono ?_
        rintro e w3 ⟨rfl, hb3⟩
        have Hb3 := hide (btrans (unhide Hbb) hb3)
        clear hb3 HCv Hbb
        go_wp2
        go_roundw
        case rel => exact ⟨x + 1, by omega, by go_num, unhide Hb3⟩
        case measure => simp [intOf]; omega
      · obtain ⟨y, hy⟩ : ∃ y, x = y + 1 := ⟨x - 1, by omega⟩
        obtain ⟨u, hu, u1⟩ := v4 y hy
        have ky := hk y (by omega)
        rw [hu] at ky
        have q5 : 0 < (x : Int) := by omega
        have q5' : decide (0 < (x : Int)) = true := by simpa using q5
        have q6 : (x : Int) - 1 = (y : Int) := by omega
        have q7 : (y : Int) < (m : Int) := by omega
        have q8 : (0 : Int) ≤ (y : Int) := by omega
        have q9 : ¬ ((v : Int) ≤ (u : Int)) := by omega
        have q9' : decide ((v : Int) ≤ (u : Int)) = false := by simpa using q9
        have Hbb := hide hb
        have Hy := hide hy
        clear hk v4 h0 hv v2 v3 hb hy hu
        go_wp2_with fail
        refine (unhide HCv _).mono ?_
        rintro e w3 ⟨rfl, hb3⟩
        have Hb3 := hide (btrans (unhide Hbb) hb3)
        clear hb3 HCv Hbb q6
        go_wp2
        go_roundw
        case rel => exact ⟨x + 1, by omega, by go_num, unhide Hb3⟩
        case measure => simp [intOf]; omega
    · obtain rfl : m = x := by omega
      have cl : ¬ ((m : Int) < (m : Int)) := by omega
      have Hb2 := hide (btrans (unhide Hb) hb)
      clear hb Hb HI HM
      by_cases c1 : a < 0
      · have d1 : decide (a < 0) = true := by simpa using c1
        go_wp2
        go_ret
        exact ⟨rfl, unhide Hb2⟩
      · have d1 : decide (a < 0) = false := by simpa using c1
        by_cases c2 : b < 0
        · have d2 : decide (b < 0) = true := by simpa using c2
          go_wp2
          go_ret
          exact ⟨rfl, unhide Hb2⟩
        · have d2 : decide (b < 0) = false := by simpa using c2
          by_cases c3 : l < 0
          · have d3 : decide (l < 0) = true := by simpa using c3
            go_wp2
            go_ret
            exact ⟨rfl, unhide Hb2⟩
          · have d3 : decide (l < 0) = false := by simpa using c3
            obtain ⟨A, rfl⟩ : ∃ A : Nat, a = (A : Int) := ⟨a.toNat, by omega⟩
            obtain ⟨B, rfl⟩ : ∃ B : Nat, b = (B : Int) := ⟨b.toNat, by omega⟩
            obtain ⟨L, rfl⟩ : ∃ L : Nat, l = (L : Int) := ⟨l.toNat, by omega⟩
            by_cases c4 : (t : Int) < (A : Int)
            · have d4 : decide ((t : Int) < (A : Int)) = true := by simpa using c4
              go_wp2
              go_ret
              exact ⟨rfl, unhide Hb2⟩
            · have d4 : decide ((t : Int) < (A : Int)) = false := by simpa using c4
              by_cases c5 : (t : Int) < (B : Int)
              · have d5 : decide ((t : Int) < (B : Int)) = true := by simpa using c5
                go_wp2
                go_ret
                exact ⟨rfl, unhide Hb2⟩
              · have d5 : decide ((t : Int) < (B : Int)) = false := by simpa using c5
                obtain ⟨tA, eA⟩ : ∃ tA : Nat, (t : Int) - (A : Int) = (tA : Int) := ⟨t - A, by omega⟩
                obtain ⟨tB, eB⟩ : ∃ tB : Nat, (t : Int) - (B : Int) = (tB : Int) := ⟨t - B, by omega⟩
                by_cases c6 : (tA : Int) < (L : Int)
                · have d6 : decide ((tA : Int) < (L : Int)) = true := by simpa using c6
                  go_wp2
                  go_ret
                  exact ⟨rfl, unhide Hb2⟩
                · have d6 : decide ((tA : Int) < (L : Int)) = false := by simpa using c6
                  by_cases c7 : (tB : Int) < (L : Int)
                  · have d7 : decide ((tB : Int) < (L : Int)) = true := by simpa using c7
                    go_wp2
                    go_ret
                    exact ⟨rfl, unhide Hb2⟩
                  · have d7 : decide ((tB : Int) < (L : Int)) = false := by simpa using c7
                    obtain ⟨p, qq, r, s, hp, hq, hr, hs, p1, p2, p3, p4, p5, p6⟩ := unhide HN A B L (by omega) (by omega)
                    have H1 := hide (unhide HC A (by omega))
                    have H2 := hide (unhide HC (A + L) (by omega))
                    have H3 := hide (unhide HC B (by omega))
                    have H4 := hide (unhide HC (B + L) (by omega))
                    rw [hp] at H1
                    rw [hq] at H2
                    rw [hr] at H3
                    rw [hs] at H4
                    obtain ⟨AL, hAL⟩ : ∃ AL, A + L = AL := ⟨_, rfl⟩
                    obtain ⟨BL, hBL⟩ : ∃ BL, B + L = BL := ⟨_, rfl⟩
                    rw [hAL] at H2
                    rw [hBL] at H4
                    have f1 : (A : Int) + (L : Int) = (AL : Int) := by omega
                    have f2 : (B : Int) + (L : Int) = (BL : Int) := by omega
                    have f3 : (AL : Int) ≤ 1048576 := by omega
                    have f4 : (BL : Int) ≤ 1048576 := by omega
                    clear hp hq hr hs hAL hBL HN HC
                    go_wp2_with fail
                    refine (unhide H1 _).mono ?_
                    rintro e w3 ⟨rfl, hb3⟩
                    have Hb3 := hide (btrans (unhide Hb2) hb3)
                    clear hb3 H1 Hb2
                    go_wp2_with fail
                    refine (unhide H2 _).mono ?_
                    rintro e w4 ⟨rfl, hb4⟩
                    have Hb4 := hide (btrans (unhide Hb3) hb4)
                    clear hb4 H2 Hb3
                    go_wp2_with fail
                    refine (unhide H3 _).mono ?_
                    rintro e w5 ⟨rfl, hb5⟩
                    have Hb5 := hide (btrans (unhide Hb4) hb5)
                    clear hb5 H3 Hb4
                    go_wp2_with fail
                    refine (unhide H4 _).mono ?_
                    rintro e w6 ⟨rfl, hb6⟩
                    have Hb6 := hide (btrans (unhide Hb5) hb6)
                    clear hb6 H4 Hb5 f1 f2 eA eB
                    go_wp2
                    go_ret
                    exact ⟨rfl, unhide Hb6⟩
theorem balanced_any (t m a b l : Int) (W : World) : Calls Try.prog 4 #[.int .i64 t, .int .i64 m, .int .i64 a, .int .i64 b, .int .i64 l] W fun e w' => e = .returned (.bool true) ∧ Below W.heap.size W w' := by
  cases h : caB t m with
  | false => exact bal_err t m a b l h W
  | true =>
    have := (caB_iff t m).1 h
    obtain ⟨T, rfl⟩ : ∃ T : Nat, t = (T : Int) := ⟨t.toNat, by omega⟩
    obtain ⟨M, rfl⟩ : ∃ M : Nat, m = (M : Int) := ⟨m.toNat, by omega⟩
    exact bal_ok T M a b l (by omega) (by omega) (by omega) W
end Go.Proofs.Ytmblnfdadpcigaa
