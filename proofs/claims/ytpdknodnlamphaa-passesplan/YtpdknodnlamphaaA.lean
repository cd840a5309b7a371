/-
  Package passes: mayFollow, mayStand, shareNeedle, Wrong.
-/
import Derived.Test.YtpdknodnlamphaaMp
namespace Go.Proofs.Ytpdknodnlamphaa
open Go.RowKit

/-- numbers that lie in a slice -/
def Is (W : World) (q : Option Addr) (n : Nat) (f : Nat → Int) : Prop := n = 0 ∨ ∃ b o, q = some ⟨b, o, none⟩ ∧ b < W.heap.size ∧ ∀ k, k < n → W.cell? ⟨b, o + k, none⟩ = some (.int .i64 (f k))
theorem Is.keep {W V : World} {q : Option Addr} {n : Nat} {f : Nat → Int} (h : Is W q n f) (hb : Below W.heap.size W V) : Is V q n f := by
  rcases h with h | ⟨b, o, e, hl, hk⟩
  · exact .inl h
  · exact .inr ⟨b, o, e, Nat.lt_of_lt_of_le hl hb.size, fun k hkn => keepC hb hl (hk k hkn)⟩
theorem Is.at {W : World} {q : Option Addr} {n k : Nat} {f : Nat → Int} (h : Is W q n f) (hk : k < n) : ∃ b o, q = some ⟨b, o, none⟩ ∧ W.cell? ⟨b, o + k, none⟩ = some (.int .i64 (f k)) := by
  rcases h with h | ⟨b, o, e, -, hc⟩
  · omega
  · exact ⟨b, o, e, hc k hk⟩

/-- a loop may stand so far to the right of the one ahead of it -/
def flB (x : Int) (s : Bool) (sl : Int) : Bool := if x = 0 then s else decide (0 < x ∧ x ≤ sl)
set_option maxHeartbeats 1000000 in
theorem mayFollow_any (x : Int) (s : Bool) (sl : Int) (W : World) : Calls Try.prog 29 #[.int .i64 x, .bool s, .int .i64 sl] W fun e w' => e = .returned (.bool (flB x s sl)) ∧ w' = W := by
  generalize hans : flB x s sl = ans
  unfold flB at hans
  go_enter Try.func29, Try.ntmps29
  by_cases h0 : x = 0
  · rw [if_pos h0] at hans
    subst hans
    go_wp2
    go_ret
    exact ⟨rfl, rfl⟩
  · rw [if_neg h0] at hans
    by_cases h1 : 0 < x
    · by_cases h2 : x ≤ sl
      · obtain rfl : ans = true := by rw [← hans]; simp [h1, h2]
        go_wp2
        go_ret
        exact ⟨ret_bool (by simp), rfl⟩
      · obtain rfl : ans = false := by rw [← hans]; simp [h2]
        go_wp2
        go_ret
        exact ⟨ret_bool (by simp), rfl⟩
    · obtain rfl : ans = false := by rw [← hans]; simp [h1]
      go_wp2
      go_ret
      exact ⟨ret_bool (by simp), rfl⟩

/-- loops that stand so are right at this place -/
def StP (t : Nat → Int) (sl : Int) (f : Nat → Int) (i : Nat) : Prop := (0 ≤ f i ∧ f i ≤ 11) ∧ (0 < i → f (i - 1) ≤ f i ∧ f i - f (i - 1) ≤ sl ∧ (f i = f (i - 1) → t i = t (i - 1)))
open Classical in
noncomputable def stB (n : Nat) (t : Nat → Int) (sl : Int) (f : Nat → Int) : Bool := decide (Stn n t sl f)
theorem stB_iff {n : Nat} {t : Nat → Int} {sl : Int} {f : Nat → Int} : stB n t sl f = true ↔ Stn n t sl f := by unfold stB; simp
theorem stB_no {n : Nat} {t : Nat → Int} {sl : Int} {f : Nat → Int} {i : Nat} (hi : i < n) (h : ¬ StP t sl f i) : stB n t sl f = false := by
  unfold stB
  simp only [decide_eq_false_iff_not]
  exact fun k => h (k i hi)
theorem follow_iff {x y sl : Int} {s : Bool} {e : Prop} (hs : 1 ≤ sl) (he : s = true ↔ e) : (if y - x = 0 then s else decide (0 < y - x ∧ y - x ≤ sl)) = true ↔ (x ≤ y ∧ y - x ≤ sl ∧ (y = x → e)) := by
  by_cases h : y - x = 0
  · rw [if_pos h, he]
    constructor
    · intro k; exact ⟨by omega, by omega, fun _ => k⟩
    · intro k; exact k.2.2 (by omega)
  · rw [if_neg h, decide_eq_true_eq]
    constructor
    · intro k; exact ⟨by omega, k.2, fun e => by omega⟩
    · intro k; exact ⟨by omega, k.2.1⟩

set_option maxRecDepth 100000 in
set_option maxHeartbeats 4000000 in
theorem mayStand_any (q p : Option Addr) (n m c d : Nat) (f t : Nat → Int) (sl : Int) (W : World) (hq : Is W q n f) (hp : Is W p m t) (hn : n ≤ m) (hn5 : n ≤ 5) (hs : 1 ≤ sl ∧ sl ≤ 11) :
    Calls Try.prog 15 #[.slice q n c, .slice p m d, .int .i64 sl] W fun e w' => e = .returned (.bool (stB n t sl f)) ∧ ∃ j, w' = W.drewN j := by
  have Hf := hide (mayFollow_any)
  have Hq := hide hq
  have Hp := hide hp
  clear hq hp
  go_enter Try.func15, Try.ntmps15
  go_wp2
  go_loopw [11] (fun i wr => ∃ k : Nat, i = .int .i64 k ∧ k ≤ n ∧ (∀ j, j < k → StP t sl f j) ∧ ∃ j, wr = W.drewN j) (fun i _ => n - (intOf i).toNat)
  case atStart => exact ⟨0, rfl, Nat.zero_le _, fun j hj => by omega, 0, rfl⟩
  case round =>
    obtain ⟨k, rfl, hk, hdone, hw⟩ := hrel
    have hbw : Below W.heap.size W wr := by obtain ⟨j0, rfl⟩ := hw; exact Joins.below_draws _ W j0
    have Hw := hide (show ∀ i, ∃ j, wr.drewN i = W.drewN j from fun i => by obtain ⟨j0, rfl⟩ := hw; exact ⟨_, World.drewN_drewN _ _ _⟩)
    have Hw0 := hide hw
    clear hw
    have Hdone := hide hdone
    clear hdone
    by_cases hlt : k < n
    · obtain ⟨b, o, rfl, hc⟩ := ((unhide Hq).keep hbw).at hlt
      by_cases hr : 0 ≤ f k ∧ f k ≤ 11
      · obtain ⟨hr1, hr2⟩ := hr
        by_cases h0 : k = 0
        · subst h0
          have HD := hide (show ∀ j, j < 0 + 1 → StP t sl f j from fun j hj => by
            obtain rfl : j = 0 := by omega
            exact ⟨⟨hr1, hr2⟩, fun h => by omega⟩)
          simp only [Nat.add_zero] at hc
          go_wp2_with fail
          go_quiet (fail)
          go_wp2
          go_roundw
          case rel => exact ⟨1, by simp, by omega, unhide HD, unhide Hw _⟩
          case measure => simp [intOf]; omega
        · obtain ⟨k1, hk1⟩ : ∃ k1, k = k1 + 1 := ⟨k - 1, by omega⟩
          obtain ⟨b', o', e', hc1⟩ := ((unhide Hq).keep hbw).at (k := k1) (by omega)
          cases e'
          obtain ⟨b2, o2, rfl, ht⟩ := ((unhide Hp).keep hbw).at (k := k) (by omega)
          obtain ⟨b2', o2', e', ht1⟩ := ((unhide Hp).keep hbw).at (k := k1) (by omega)
          cases e'
          have hr3 := (unhide Hdone k1 (by omega)).1
          have Hst := hide (show StP t sl f k ↔ flB (wrap64 (f k - f k1)) (t k == t k1) sl = true from by
            rw [flB, Go.IntWalk.wrap64_in _ (by omega), follow_iff hs.1 (by simp : (t k == t k1) = true ↔ t k = t k1), show k1 = k - 1 by omega]
            exact ⟨fun h => h.2 (by omega), fun h => ⟨⟨hr1, hr2⟩, fun _ => h⟩⟩)
          have w2 : (k : Int) - 1 = (k1 : Int) := by omega
          have w3 : IntKind.i64.wrap (k1 : Int) = (k1 : Int) := Go.IntWalk.i64_in _ (by omega)
          have g0 : 0 < k := by omega
          have g0' : decide (0 < k) = true := by simpa using g0
          have g1 : (0 : Int) ≤ (k : Int) := by omega
          have g2 : (k : Int) < (n : Int) := by omega
          have g3 : (k : Int) < (m : Int) := by omega
          have g4 : (0 : Int) ≤ (k1 : Int) := by omega
          have g5 : (k1 : Int) < (n : Int) := by omega
          have g6 : (k1 : Int) < (m : Int) := by omega
          generalize f k = x at *
          generalize f k1 = y at *
          generalize t k = u at *
          generalize t k1 = v at *
          have Hk1 := hide hk1
          clear hr3 hk1
          go_wp2_with fail
          go_quiet (first | (go_at_call 29; exact Calls.quiet_of_same (unhide Hf _ _ _ _)))
          by_cases hst : StP t sl f k
          · have e1 := (unhide Hst).1 hst
            have HD := hide (show ∀ j, j < k + 1 → StP t sl f j from fun j hj => by
              rcases Nat.lt_or_eq_of_le (Nat.le_of_lt_succ hj) with h | h
              · exact unhide Hdone j h
              · rw [h]; exact hst)
            clear hst
            simp only [e1]
            go_wp2
            go_roundw
            case rel => exact ⟨k + 1, by go_num, by omega, unhide HD, unhide Hw _⟩
            case measure => simp [intOf]; omega
          · have e1 : flB (wrap64 (x - y)) (u == v) sl = false := Bool.eq_false_iff.2 (fun k => hst ((unhide Hst).2 k))
            have HR := hide (stB_no hlt hst)
            clear hst
            simp only [e1]
            go_wp2
            go_ret
            exact ⟨by rw [unhide HR]; rfl, unhide Hw _⟩
      · have HR := hide (stB_no (t := t) (sl := sl) hlt (fun h => hr h.1))
        by_cases h1 : f k < 0
        · generalize f k = x at *
          clear hr
          go_wp2
          go_ret
          exact ⟨by rw [unhide HR]; rfl, unhide Hw0⟩
        · have h2 : 12 ≤ f k := by omega
          generalize f k = x at *
          clear hr
          go_wp2
          go_ret
          exact ⟨by rw [unhide HR]; rfl, unhide Hw0⟩
    · obtain rfl : k = n := by omega
      have HR := hide (stB_iff.2 (unhide Hdone))
      have cl : ¬ ((k : Int) < (k : Int)) := by omega
      clear hlt
      go_wp2
      go_ret
      exact ⟨by rw [unhide HR]; rfl, unhide Hw0⟩

/-- two neighbours stand on one needle -/
def ShN (n : Nat) (f : Nat → Int) : Prop := ∃ i, 0 < i ∧ i < n ∧ f i = f (i - 1)
open Classical in
noncomputable def shB (n : Nat) (f : Nat → Int) : Bool := decide (ShN n f)
theorem shB_yes {n i : Nat} {f : Nat → Int} (h0 : 0 < i) (hi : i < n) (h : f i = f (i - 1)) : shB n f = true := by
  unfold shB
  simp only [decide_eq_true_eq]
  exact ⟨i, h0, hi, h⟩
theorem shB_no {n : Nat} {f : Nat → Int} (h : ∀ i, 0 < i → i < n → f i ≠ f (i - 1)) : shB n f = false := by
  unfold shB
  simp only [decide_eq_false_iff_not]
  rintro ⟨i, h0, hi, e⟩
  exact h i h0 hi e

set_option maxRecDepth 100000 in
set_option maxHeartbeats 4000000 in
theorem shareNeedle_any (q : Option Addr) (n c : Nat) (f : Nat → Int) (W : World) (hq : Is W q n f) (hn5 : n ≤ 5) :
    Calls Try.prog 14 #[.slice q n c] W fun e w' => e = .returned (.bool (shB n f)) ∧ ∃ j, w' = W.drewN j := by
  have Hq := hide hq
  clear hq
  go_enter Try.func14, Try.ntmps14
  go_wp2
  go_loopw [6] (fun i wr => ∃ k : Nat, i = .int .i64 k ∧ k ≤ n ∧ (∀ i, 0 < i → i < k → f i ≠ f (i - 1)) ∧ ∃ j, wr = W.drewN j) (fun i _ => n - (intOf i).toNat)
  case atStart => exact ⟨0, rfl, Nat.zero_le _, fun j hj => by omega, 0, rfl⟩
  case round =>
    obtain ⟨k, rfl, hk, hdone, hw⟩ := hrel
    have hbw : Below W.heap.size W wr := by obtain ⟨j0, rfl⟩ := hw; exact Joins.below_draws _ W j0
    have Hw := hide (show ∀ i, ∃ j, wr.drewN i = W.drewN j from fun i => by obtain ⟨j0, rfl⟩ := hw; exact ⟨_, World.drewN_drewN _ _ _⟩)
    have Hw0 := hide hw
    have Hdone := hide hdone
    clear hdone hw
    by_cases hlt : k < n
    · obtain ⟨b, o, rfl, hc⟩ := ((unhide Hq).keep hbw).at hlt
      by_cases h0 : k = 0
      · subst h0
        have HD := hide (show ∀ i, 0 < i → i < 0 + 1 → f i ≠ f (i - 1) from fun i h1 h2 => by omega)
        simp only [Nat.add_zero] at hc
        go_wp2_with fail
        go_quiet (fail)
        go_wp2
        go_roundw
        case rel => exact ⟨1, by simp, by omega, unhide HD, unhide Hw _⟩
        case measure => simp [intOf]; omega
      · obtain ⟨k1, hk1⟩ : ∃ k1, k = k1 + 1 := ⟨k - 1, by omega⟩
        obtain ⟨b', o', e', hc1⟩ := ((unhide Hq).keep hbw).at (k := k1) (by omega)
        cases e'
        have w2 : (k : Int) - 1 = (k1 : Int) := by omega
        have w3 : IntKind.i64.wrap (k1 : Int) = (k1 : Int) := Go.IntWalk.i64_in _ (by omega)
        have g0 : 0 < k := by omega
        have g0' : decide (0 < k) = true := by simpa using g0
        have g1 : (0 : Int) ≤ (k : Int) := by omega
        have g2 : (k : Int) < (n : Int) := by omega
        have g4 : (0 : Int) ≤ (k1 : Int) := by omega
        have g5 : (k1 : Int) < (n : Int) := by omega
        by_cases hst : f k = f k1
        · have HR := hide (shB_yes (f := f) g0 hlt (by rw [hst, show k - 1 = k1 by omega]))
          rw [hst] at hc
          generalize f k1 = y at *
          clear hst hk1
          go_wp2_with fail
          go_quiet (fail)
          go_wp2
          go_ret
          exact ⟨by rw [unhide HR]; rfl, unhide Hw _⟩
        · have HD := hide (show ∀ i, 0 < i → i < k + 1 → f i ≠ f (i - 1) from fun i h1 h2 => by
            rcases Nat.lt_or_eq_of_le (Nat.le_of_lt_succ h2) with h | h
            · exact unhide Hdone i h1 h
            · rw [h, hk1]; rw [hk1] at hst; exact hst)
          have hsb : (f k == f k1) = false := by simpa using hst
          generalize f k = x at *
          generalize f k1 = y at *
          clear hst hk1
          go_wp2_with fail
          go_quiet (fail)
          go_wp2
          go_roundw
          case rel => exact ⟨k + 1, by go_num, by omega, unhide HD, unhide Hw _⟩
          case measure => simp [intOf]; omega
    · obtain rfl : k = n := by omega
      have HR := hide (shB_no (unhide Hdone))
      have cl : ¬ ((k : Int) < (k : Int)) := by omega
      clear hlt
      go_wp2
      go_ret
      exact ⟨by rw [unhide HR]; rfl, unhide Hw0⟩

/-- what is wrong -/
noncomputable def wE (n m : Nat) (f t : Nat → Int) (sl : Int) : Int :=
  if n < 1 ∨ 5 < n ∨ m ≠ n then 5 else if sl < 1 ∨ 12 ≤ sl then 3 else if shB n f = true then 8 else if stB n t sl f = false then 8 else if stB n t sl t = false then 8 else 0

set_option maxRecDepth 100000 in
set_option maxHeartbeats 4000000 in
theorem wrong_any (q p : Option Addr) (n m c d : Nat) (f t : Nat → Int) (sl : Int) (W : World) (hq : Is W q n f) (hp : Is W p m t) :
    Calls Try.prog 6 #[.slice q n c, .slice p m d, .int .i64 sl] W fun e w' => e = .returned (.int .i64 (wE n m f t sl)) ∧ ∃ j, w' = W.drewN j := by
  generalize hans : wE n m f t sl = ans
  unfold wE at hans
  by_cases h1 : n < 1 ∨ 5 < n ∨ m ≠ n
  · rw [if_pos h1] at hans
    subst hans
    go_enter Try.func6, Try.ntmps6
    by_cases a1 : n < 1
    · have a1' : (n : Int) < 1 := by omega
      clear h1
      go_wp2
      go_ret
      exact ⟨rfl, 0, rfl⟩
    · have a1' : ¬ (n : Int) < 1 := by omega
      by_cases a2 : 5 < n
      · have a2' : (5 : Int) < (n : Int) := by omega
        clear h1
        go_wp2
        go_ret
        exact ⟨rfl, 0, rfl⟩
      · have a2' : ¬ (5 : Int) < (n : Int) := by omega
        have a3 : ¬ ((m : Int) = (n : Int)) := by omega
        clear h1
        go_wp2
        go_ret
        exact ⟨rfl, 0, rfl⟩
  · rw [if_neg h1] at hans
    obtain ⟨a1, a2, rfl⟩ : 1 ≤ n ∧ n ≤ 5 ∧ m = n := by omega
    clear h1
    have a1' : ¬ (m : Int) < 1 := by omega
    have a2' : ¬ (5 : Int) < (m : Int) := by omega
    by_cases h2 : sl < 1 ∨ 12 ≤ sl
    · rw [if_pos h2] at hans
      subst hans
      go_enter Try.func6, Try.ntmps6
      by_cases b1 : sl < 1
      · clear h2
        go_wp2
        go_ret
        exact ⟨rfl, 0, rfl⟩
      · have b2 : 12 ≤ sl := by omega
        clear h2
        go_wp2
        go_ret
        exact ⟨rfl, 0, rfl⟩
    · rw [if_neg h2] at hans
      have b1 : ¬ sl < 1 := by omega
      have b2 : ¬ 12 ≤ sl := by omega
      have HS := hide (shareNeedle_any q m c f W hq a2)
      have H1 := hide (fun V (hb : Below W.heap.size W V) => mayStand_any q p m m c d f t sl V (hq.keep hb) (hp.keep hb) (Nat.le_refl _) a2 (by omega))
      have H2 := hide (fun V (hb : Below W.heap.size W V) => mayStand_any p p m m d d t t sl V (hp.keep hb) (hp.keep hb) (Nat.le_refl _) a2 (by omega))
      clear h2 hq hp
      generalize shB m f = r0 at *
      generalize stB m t sl f = r1 at *
      generalize stB m t sl t = r2 at *
      go_enter Try.func6, Try.ntmps6
      go_wp2_with fail
      refine (unhide HS).mono ?_
      rintro e w1 ⟨rfl, j1, hj1⟩
      have B1 : Below W.heap.size W w1 := by rw [hj1]; exact Joins.below_draws _ W j1
      cases r0 with
      | true =>
        rw [if_pos rfl] at hans
        subst hans
        have Hj := hide hj1
        clear hj1
        go_wp2
        go_ret
        exact ⟨rfl, _, unhide Hj⟩
      | false =>
        rw [if_neg (by simp)] at hans
        have Hj1 := hide hj1
        clear hj1
        go_wp2_with fail
        refine (unhide H1 w1 B1).mono ?_
        rintro e w2 ⟨rfl, j2, hj2⟩
        have Hj2 := hide (show ∃ j, w2 = W.drewN j from ⟨j1 + j2, by rw [hj2, unhide Hj1, World.drewN_drewN]⟩)
        have B2 : Below W.heap.size W w2 := by obtain ⟨j, hj⟩ := unhide Hj2; rw [hj]; exact Joins.below_draws _ W j
        clear hj2
        cases r1 with
        | false =>
          rw [if_pos rfl] at hans
          subst hans
          go_wp2
          go_ret
          exact ⟨rfl, unhide Hj2⟩
        | true =>
          rw [if_neg (by simp)] at hans
          go_wp2_with fail
          refine (unhide H2 w2 B2).mono ?_
          rintro e w3 ⟨rfl, j3, hj3⟩
          have Hj3 := hide (show ∃ j, w3 = W.drewN j from by obtain ⟨j, hj⟩ := unhide Hj2; exact ⟨j + j3, by rw [hj3, hj, World.drewN_drewN]⟩)
          clear hj3
          cases r2 with
          | false =>
            rw [if_pos rfl] at hans
            subst hans
            go_wp2
            go_ret
            exact ⟨rfl, unhide Hj3⟩
          | true =>
            rw [if_neg (by simp)] at hans
            subst hans
            go_wp2
            go_ret
            exact ⟨rfl, unhide Hj3⟩
end Go.Proofs.Ytpdknodnlamphaa
