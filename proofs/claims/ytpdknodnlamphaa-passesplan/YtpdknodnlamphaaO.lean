/-
  The document's Wrong.
-/
import Derived.Test.YtpdknodnlamphaaM
namespace Go.Proofs.Ytpdknodnlamphaa
open Go.RowKit

set_option maxRecDepth 100000 in
set_option maxHeartbeats 4000000 in
theorem rwrong_any (q p : Option Addr) (n m c d : Nat) (f t : Nat → Int) (sl : Int) (W : World) (hq : Is W q n f) (hp : Is W p m t) :
    Calls Try.prog 7 #[.slice q n c, .slice p m d, .int .i64 sl] W fun e w' => e = .returned (.int .i64 (wE n m f t sl)) ∧ ∃ j, w' = W.drewN j := by
  generalize hans : wE n m f t sl = ans
  unfold wE at hans
  by_cases h1 : n < 1 ∨ 5 < n ∨ m ≠ n
  · rw [if_pos h1] at hans
    subst hans
    clear hq hp
    go_enter Try.func7, Try.ntmps7
    by_cases a1 : n < 1
    · have a1' : (n : Int) < 1 := by omega
      clear h1
      go_wp2
      go_ret
      exact ⟨rfl, 0, rfl⟩
    · have a1' : ¬ (n : Int) < 1 := by omega
      by_cases a2 : 5 < n
      · have a2' : (5 : Int) < (n : Int) := by omega
        clear h1
        go_wp2
        go_ret
        exact ⟨rfl, 0, rfl⟩
      · have a2' : ¬ (5 : Int) < (n : Int) := by omega
        have a3 : ¬ ((m : Int) = (n : Int)) := by omega
        clear h1
        go_wp2
        go_ret
        exact ⟨rfl, 0, rfl⟩
  · rw [if_neg h1] at hans
    obtain ⟨a1, a2, rfl⟩ : 1 ≤ n ∧ n ≤ 5 ∧ m = n := by omega
    clear h1
    have a1' : ¬ (m : Int) < 1 := by omega
    have a2' : ¬ (5 : Int) < (m : Int) := by omega
    by_cases h2 : sl < 1 ∨ 12 ≤ sl
    · rw [if_pos h2] at hans
      subst hans
      go_enter Try.func7, Try.ntmps7
      by_cases b1 : sl < 1
      · clear h2
        go_wp2
        go_ret
        exact ⟨rfl, 0, rfl⟩
      · have b2 : 11 < sl := by omega
        clear h2
        go_wp2
        go_ret
        exact ⟨rfl, 0, rfl⟩
    · rw [if_neg h2] at hans
      have b1 : ¬ sl < 1 := by omega
      have b2 : ¬ 11 < sl := by omega
      have H1 := hide (fun V (hb : Below W.heap.size W V) => rstand_any q p m m c d f t sl V (hq.keep hb) (hp.keep hb) (Nat.le_refl _) a2)
      have H2 := hide (fun V (hb : Below W.heap.size W V) => rstand_any p p m m d d t t sl V (hp.keep hb) (hp.keep hb) (Nat.le_refl _) a2)
      have Hq := hide hq
      have Hans := hide hans
      clear h2 hq hp hans
      generalize stB m t sl f = r1 at *
      generalize stB m t sl t = r2 at *
      go_enter Try.func7, Try.ntmps7
      go_wp2
      go_loopw [7] (fun i wr => ∃ k : Nat, i = .int .i64 k ∧ 1 ≤ k ∧ k ≤ m ∧ (∀ i, 0 < i → i < k → f i ≠ f (i - 1)) ∧ ∃ j, wr = W.drewN j) (fun i _ => m - (intOf i).toNat)
      case atStart => exact ⟨1, rfl, Nat.le_refl _, a1, fun j h0 h1 => by omega, 0, rfl⟩
      case round =>
        obtain ⟨k, rfl, hk1, hk, hdone, hw⟩ := hrel
        have hbw : Below W.heap.size W wr := by obtain ⟨j0, rfl⟩ := hw; exact Joins.below_draws _ W j0
        have Hw := hide (show ∀ i, ∃ j, wr.drewN i = W.drewN j from fun i => by obtain ⟨j0, rfl⟩ := hw; exact ⟨_, World.drewN_drewN _ _ _⟩)
        have Hw0 := hide hw
        have Hdone := hide hdone
        clear hdone hw
        by_cases hlt : k < m
        · obtain ⟨b, o, rfl, hc⟩ := ((unhide Hq).keep hbw).at hlt
          obtain ⟨k1, hk1'⟩ : ∃ k1, k = k1 + 1 := ⟨k - 1, by omega⟩
          obtain ⟨b', o', e', hc1⟩ := ((unhide Hq).keep hbw).at (k := k1) (by omega)
          cases e'
          have w2 : (k : Int) - 1 = (k1 : Int) := by omega
          have w3 : IntKind.i64.wrap (k1 : Int) = (k1 : Int) := Go.IntWalk.i64_in _ (by omega)
          have g0 : 0 < k := by omega
          have g1 : (0 : Int) ≤ (k : Int) := by omega
          have g2 : (k : Int) < (m : Int) := by omega
          have g4 : (0 : Int) ≤ (k1 : Int) := by omega
          have g5 : (k1 : Int) < (m : Int) := by omega
          by_cases hst : f k = f k1
          · have HR := hide (shB_yes (f := f) g0 hlt (by rw [hst, show k - 1 = k1 by omega]))
            rw [hst] at hc
            generalize f k1 = y at *
            clear hst hk1'
            go_wp2_with fail
            go_quiet (fail)
            go_wp2
            go_ret
            exact ⟨by have := unhide Hans; rw [unhide HR, if_pos rfl] at this; rw [← this]; rfl, unhide Hw _⟩
          · have HD := hide (show ∀ i, 0 < i → i < k + 1 → f i ≠ f (i - 1) from fun i h1 h2 => by
              rcases Nat.lt_or_eq_of_le (Nat.le_of_lt_succ h2) with h | h
              · exact unhide Hdone i h1 h
              · rw [h, hk1']; rw [hk1'] at hst; exact hst)
            have hsb : (f k == f k1) = false := by simpa using hst
            generalize f k = x at *
            generalize f k1 = y at *
            clear hst hk1'
            go_wp2_with fail
            go_quiet (fail)
            go_wp2
            go_roundw
            case rel => exact ⟨k + 1, by go_num, by omega, by omega, unhide HD, unhide Hw _⟩
            case measure => simp [intOf]; omega
        · obtain rfl : k = m := by omega
          have hno : shB k f = false := shB_no (unhide Hdone)
          have cl : ¬ ((k : Int) < (k : Int)) := by omega
          have hans := unhide Hans
          rw [hno, if_neg (by simp)] at hans
          clear hlt Hans hno Hdone
          go_wp2_with fail
          refine (unhide H1 wr hbw).mono ?_
          rintro e w2 ⟨rfl, j2, hj2⟩
          have Hj2 := hide (show ∃ j, w2 = W.drewN j from by rw [hj2]; exact unhide Hw j2)
          have B2 : Below W.heap.size W w2 := by obtain ⟨j, hj⟩ := unhide Hj2; rw [hj]; exact Joins.below_draws _ W j
          clear hj2
          cases r1 with
          | false =>
            rw [if_pos rfl] at hans
            subst hans
            go_wp2
            go_ret
            exact ⟨rfl, unhide Hj2⟩
          | true =>
            rw [if_neg (by simp)] at hans
            go_wp2_with fail
            refine (unhide H2 w2 B2).mono ?_
            rintro e w3 ⟨rfl, j3, hj3⟩
            have Hj3 := hide (show ∃ j, w3 = W.drewN j from by obtain ⟨j, hj⟩ := unhide Hj2; exact ⟨j + j3, by rw [hj3, hj, World.drewN_drewN]⟩)
            clear hj3
            cases r2 with
            | false =>
              rw [if_pos rfl] at hans
              subst hans
              go_wp2
              go_ret
              exact ⟨rfl, unhide Hj3⟩
            | true =>
              rw [if_neg (by simp)] at hans
              subst hans
              go_wp2
              go_ret
              exact ⟨rfl, unhide Hj3⟩
end Go.Proofs.Ytpdknodnlamphaa
