/-
  The document's power, Stands, Behind, same, name.
-/
import Derived.Test.YtpdknodnlamphaaJ
namespace Go.Proofs.Ytpdknodnlamphaa
open Go.RowKit

set_option maxRecDepth 100000 in
set_option maxHeartbeats 1000000 in
theorem rpower_any (n : Nat) (h : n ≤ 5) (W : World) : Calls Try.prog 27 #[.int .i64 n] W fun e w' => e = .returned (.int .i64 ((2 ^ n : Nat) : Int)) ∧ w' = W := by
  go_enter Try.func27, Try.ntmps27
  go_wp2
  go_loop [0, 3] (fun i x => ∃ k y : Nat, i = .int .i64 k ∧ x = .int .i64 y ∧ k ≤ n ∧ Hid (y = 2 ^ (n - k)) ∧ y ≤ 32) (fun i _ => (intOf i).toNat)
  case atStart => exact ⟨n, 1, rfl, rfl, Nat.le_refl _, hide (by simp), by omega⟩
  case round =>
    obtain ⟨k, y, rfl, rfl, hk, hy, hy2⟩ := hrel
    by_cases h0 : k = 0
    · subst h0
      go_wp2
      go_ret
      have e : ((2 : Int) ^ n) = (y : Int) := by have := unhide hy; simp only [Nat.sub_zero] at this; rw [this]; simp
      exact ⟨by rw [e]; rfl, rfl⟩
    · obtain ⟨k1, rfl⟩ : ∃ k1, k = k1 + 1 := ⟨k - 1, by omega⟩
      have hy3 : 2 * y = 2 ^ (n - k1) := by rw [unhide hy, show n - k1 = n - (k1 + 1) + 1 by omega, Nat.pow_succ]; omega
      have hy4 : 2 * y ≤ 32 := by rw [hy3]; exact Nat.pow_le_pow_right (n := 2) (j := 5) (by omega) (by omega)
      have w1 : IntKind.i64.wrap (2 * (y : Int)) = 2 * (y : Int) := Go.IntWalk.i64_in _ (by omega)
      have w2 : wrap64 (2 * (y : Int)) = 2 * (y : Int) := Go.IntWalk.wrap64_in _ (by omega)
      have w3 : ((k1 + 1 : Nat) : Int) - 1 = (k1 : Int) := by omega
      have HY := hide hy3
      clear hy3 h0
      go_wp2
      go_round
      case rel => exact ⟨k1, 2 * y, by go_num, by go_num, by omega, HY, hy4⟩
      case measure => simp [intOf]

set_option maxRecDepth 100000 in
set_option maxHeartbeats 4000000 in
theorem rstand_any (q p : Option Addr) (n m c d : Nat) (f t : Nat → Int) (sl : Int) (W : World) (hq : Is W q n f) (hp : Is W p m t) (hn : n ≤ m) (hn5 : n ≤ 5) :
    Calls Try.prog 16 #[.slice q n c, .slice p m d, .int .i64 sl] W fun e w' => e = .returned (.bool (stB n t sl f)) ∧ ∃ j, w' = W.drewN j := by
  have Hq := hide hq
  have Hp := hide hp
  clear hq hp
  go_enter Try.func16, Try.ntmps16
  go_wp2
  go_loopw [11] (fun i wr => ∃ k : Nat, i = .int .i64 k ∧ k ≤ n ∧ (∀ j, j < k → StP t sl f j) ∧ ∃ j, wr = W.drewN j) (fun i _ => n - (intOf i).toNat)
  case atStart => exact ⟨0, rfl, Nat.zero_le _, fun j hj => by omega, 0, rfl⟩
  case round =>
    obtain ⟨k, rfl, hk, hdone, hw⟩ := hrel
    have hbw : Below W.heap.size W wr := by obtain ⟨j0, rfl⟩ := hw; exact Joins.below_draws _ W j0
    have Hw := hide (show ∀ i, ∃ j, wr.drewN i = W.drewN j from fun i => by obtain ⟨j0, rfl⟩ := hw; exact ⟨_, World.drewN_drewN _ _ _⟩)
    have Hw0 := hide hw
    clear hw
    have Hdone := hide hdone
    clear hdone
    by_cases hlt : k < n
    · obtain ⟨b, o, rfl, hc⟩ := ((unhide Hq).keep hbw).at hlt
      by_cases hr : 0 ≤ f k ∧ f k ≤ 11
      · obtain ⟨hr1, hr2⟩ := hr
        by_cases h0 : k = 0
        · subst h0
          have HD := hide (show ∀ j, j < 0 + 1 → StP t sl f j from fun j hj => by
            obtain rfl : j = 0 := by omega
            exact ⟨⟨hr1, hr2⟩, fun h => by omega⟩)
          simp only [Nat.add_zero] at hc
          go_wp2_with fail
          go_quiet (fail)
          go_wp2
          go_roundw
          case rel => exact ⟨1, by simp, by omega, unhide HD, unhide Hw _⟩
          case measure => simp [intOf]; omega
        · obtain ⟨k1, hk1⟩ : ∃ k1, k = k1 + 1 := ⟨k - 1, by omega⟩
          obtain ⟨b', o', e', hc1⟩ := ((unhide Hq).keep hbw).at (k := k1) (by omega)
          cases e'
          obtain ⟨b2, o2, rfl, ht⟩ := ((unhide Hp).keep hbw).at (k := k) (by omega)
          obtain ⟨b2', o2', e', ht1⟩ := ((unhide Hp).keep hbw).at (k := k1) (by omega)
          cases e'
          have hr3 := (unhide Hdone k1 (by omega)).1
          have Hst := hide (show StP t sl f k ↔ (f k1 ≤ f k ∧ f k - f k1 ≤ sl ∧ (f k = f k1 → t k = t k1)) from by
            rw [show k1 = k - 1 by omega]
            exact ⟨fun h => h.2 (by omega), fun h => ⟨⟨hr1, hr2⟩, fun _ => h⟩⟩)
          have w2 : (k : Int) - 1 = (k1 : Int) := by omega
          have w3 : IntKind.i64.wrap (k1 : Int) = (k1 : Int) := Go.IntWalk.i64_in _ (by omega)
          have w4 : IntKind.i64.wrap (f k - f k1) = f k - f k1 := Go.IntWalk.i64_in _ (by omega)
          have g0 : 0 < k := by omega
          have g0' : decide (0 < k) = true := by simpa using g0
          have g1 : (0 : Int) ≤ (k : Int) := by omega
          have g2 : (k : Int) < (n : Int) := by omega
          have g3 : (k : Int) < (m : Int) := by omega
          have g4 : (0 : Int) ≤ (k1 : Int) := by omega
          have g5 : (k1 : Int) < (n : Int) := by omega
          have g6 : (k1 : Int) < (m : Int) := by omega
          by_cases a1 : f k < f k1
          · have HR := hide (stB_no hlt (fun h => by have := (unhide Hst).1 h; omega))
            have a1' : decide (f k < f k1) = true := by simpa using a1
            generalize f k = x at *
            generalize f k1 = y at *
            generalize t k = u at *
            generalize t k1 = v at *
            clear hk1 hr3 Hst
            go_wp2_with fail
            go_quiet (fail)
            go_wp2
            go_ret
            exact ⟨by rw [unhide HR]; rfl, unhide Hw _⟩
          · have a1' : decide (f k < f k1) = false := by simpa using a1
            by_cases a2 : sl < f k - f k1
            · have HR := hide (stB_no hlt (fun h => by have := (unhide Hst).1 h; omega))
              have a2' : decide (sl < f k - f k1) = true := by simpa using a2
              generalize f k = x at *
              generalize f k1 = y at *
              generalize t k = u at *
              generalize t k1 = v at *
              clear hk1 hr3 Hst
              go_wp2_with fail
              go_quiet (fail)
              go_wp2
              go_ret
              exact ⟨by rw [unhide HR]; rfl, unhide Hw _⟩
            · have a2' : decide (sl < f k - f k1) = false := by simpa using a2
              by_cases a3 : f k = f k1
              · have a3' : (f k == f k1) = true := by simpa using a3
                by_cases a4 : t k = t k1
                · have a4' : (t k != t k1) = false := by simpa using a4
                  have hst : StP t sl f k := (unhide Hst).2 ⟨by omega, by omega, fun _ => a4⟩
                  have HD := hide (show ∀ j, j < k + 1 → StP t sl f j from fun j hj => by
                    rcases Nat.lt_or_eq_of_le (Nat.le_of_lt_succ hj) with h | h
                    · exact unhide Hdone j h
                    · rw [h]; exact hst)
                  clear hst
                  rw [a3] at hc
                  rw [a4] at ht
                  have q1 : ¬ f k1 < f k1 := by omega
                  have q2 : ¬ sl < f k1 - f k1 := by omega
                  have q3 : ¬ sl < 0 := by omega
                  have w5 : IntKind.i64.wrap 0 = 0 := Go.IntWalk.i64_in _ (by omega)
                  clear a1 a1' a2 a2' a3' a4' w4 a3 a4 hr1 hr2
                  obtain ⟨r1, r2⟩ := hr3
                  generalize f k1 = y at *
                  generalize t k1 = v at *
                  clear hk1 Hst
                  go_wp2_with fail
                  go_quiet (fail)
                  go_wp2
                  go_roundw
                  case rel => exact ⟨k + 1, by go_num, by omega, unhide HD, unhide Hw _⟩
                  case measure => simp [intOf]; omega
                · have a4' : (t k != t k1) = true := by simpa using a4
                  have HR := hide (stB_no hlt (fun h => by have := ((unhide Hst).1 h).2.2 a3; exact a4 this))
                  rw [a3] at hc
                  have q1 : ¬ f k1 < f k1 := by omega
                  have q2 : ¬ sl < f k1 - f k1 := by omega
                  have q3 : ¬ sl < 0 := by omega
                  have w5 : IntKind.i64.wrap 0 = 0 := Go.IntWalk.i64_in _ (by omega)
                  clear a1 a1' a2 a2' a3' w4 a3 hr1 hr2
                  obtain ⟨r1, r2⟩ := hr3
                  generalize f k1 = y at *
                  generalize t k = u at *
                  generalize t k1 = v at *
                  clear hk1 Hst
                  go_wp2_with fail
                  go_quiet (fail)
                  go_wp2
                  go_ret
                  exact ⟨by rw [unhide HR]; rfl, unhide Hw _⟩
              · have a3' : (f k == f k1) = false := by simpa using a3
                have hst : StP t sl f k := (unhide Hst).2 ⟨by omega, by omega, fun e => absurd e a3⟩
                have HD := hide (show ∀ j, j < k + 1 → StP t sl f j from fun j hj => by
                  rcases Nat.lt_or_eq_of_le (Nat.le_of_lt_succ hj) with h | h
                  · exact unhide Hdone j h
                  · rw [h]; exact hst)
                clear hst
                generalize f k = x at *
                generalize f k1 = y at *
                generalize t k = u at *
                generalize t k1 = v at *
                clear hk1 hr3 Hst
                go_wp2_with fail
                go_quiet (fail)
                go_wp2
                go_roundw
                case rel => exact ⟨k + 1, by go_num, by omega, unhide HD, unhide Hw _⟩
                case measure => simp [intOf]; omega
      · have HR := hide (stB_no (t := t) (sl := sl) hlt (fun h => hr h.1))
        by_cases h1 : f k < 0
        · generalize f k = x at *
          clear hr
          go_wp2
          go_ret
          exact ⟨by rw [unhide HR]; rfl, unhide Hw0⟩
        · have h2 : 11 < f k := by omega
          generalize f k = x at *
          clear hr
          go_wp2
          go_ret
          exact ⟨by rw [unhide HR]; rfl, unhide Hw0⟩
    · obtain rfl : k = n := by omega
      have HR := hide (stB_iff.2 (unhide Hdone))
      have cl : ¬ ((k : Int) < (k : Int)) := by omega
      clear hlt
      go_wp2
      go_ret
      exact ⟨by rw [unhide HR]; rfl, unhide Hw0⟩
end Go.Proofs.Ytpdknodnlamphaa
