/-
  allSame; the reference's Alone; what Even counts.
-/
import Derived.Test.YtpefcpbkdofblaaTwC
namespace Go.Proofs.Ytpefcpbkdofblaa
open Go.RowKit Go.Shelf

/-- all are as the first one -/
def smB (f : Nat → Nat) (n : Nat) : Bool := (List.range n).all fun y => f y == f 0
theorem smB_yes (f : Nat → Nat) (n : Nat) (h : ∀ y, y < n → f y = f 0) : smB f n = true := by
  unfold smB
  rw [List.all_eq_true]
  intro y hy
  rw [h y (by simpa using hy)]; simp
theorem smB_no (f : Nat → Nat) (n y : Nat) (hy : y < n) (h : ¬ f y = f 0) : smB f n = false := by
  cases c : smB f n with
  | false => rfl
  | true =>
    unfold smB at c
    rw [List.all_eq_true] at c
    exact absurd (by simpa using c y (by simpa using hy)) h

set_option maxHeartbeats 1000000 in
theorem same_row (q n : Nat) (f : Nat → Nat) (W : World) (hn : n ≤ 64) (hq : IRow W q n f) :
    Calls Try.prog 27 #[.slice (some ⟨q, 0, none⟩) n n] W fun e w' => e = .returned (.bool (smB f n)) ∧ Below W.heap.size W w' := by
  have HQ := hide hq
  clear hq
  go_enter Try.func27, Try.ntmps27
  go_wp2
  go_loopw [7] (fun i wr => ∃ x : Nat, x ≤ n ∧ i = .int .i64 x ∧ (∀ j, j < x → f j = f 0) ∧ Below W.heap.size W wr) (fun i _ => n - (intOf i).toNat)
  case atStart => exact ⟨0, Nat.zero_le _, rfl, fun j hj => by omega, Below.refl _ _⟩
  case round =>
    obtain ⟨x, hx, rfl, he, hb⟩ := hrel
    have He := hide he
    clear he
    by_cases hlt : x < n
    · have c1 := (((unhide HQ).keep hb).2 x hlt).1
      have c2 := (((unhide HQ).keep hb).2 0 (by omega)).1
      have q1 : (x : Int) < (n : Int) := by omega
      have q2 : (0 : Int) ≤ (x : Int) := by omega
      have q3 : (0 : Int) < (n : Int) := by omega
      by_cases hv : f x = f 0
      · have Hn := hide (show ∀ j, j < x + 1 → f j = f 0 from fun j hj => by
          by_cases e : j = x
          · subst e; exact hv
          · exact unhide He j (by omega))
        have hv' : ((f x : Int) != (f 0 : Int)) = false := by simp [hv]
        clear hv
        generalize f x = a at *
        generalize f 0 = b at *
        go_wp2
        go_roundw
        case rel => exact ⟨x + 1, by omega, by go_num, unhide Hn, hb⟩
        case measure => simp [intOf]; omega
      · have hv' : ((f x : Int) != (f 0 : Int)) = true := by simp; omega
        have Hz := hide (smB_no f n x hlt hv)
        clear hv
        generalize f x = a at *
        generalize f 0 = b at *
        go_wp2
        go_ret
        exact ⟨ret_bool (unhide Hz).symm, hb⟩
    · obtain rfl : x = n := by omega
      have cl : ¬ ((x : Int) < (x : Int)) := by omega
      have Hz := hide (smB_yes f x (unhide He))
      go_wp2
      go_ret
      exact ⟨ret_bool (unhide Hz).symm, hb⟩

theorem alone_iff (a b : Nat) (ha : 1 ≤ a) : (∀ d, 2 ≤ d → d ≤ a → ¬ (a % d = 0 ∧ b % d = 0)) ↔ Nat.gcd a b = 1 := by
  constructor
  · intro h
    have hp : 0 < Nat.gcd a b := Nat.gcd_pos_of_pos_left b ha
    refine Classical.byContradiction fun hne => ?_
    exact h (Nat.gcd a b) (by omega) (Nat.le_of_dvd ha (Nat.gcd_dvd_left a b)) ⟨Nat.mod_eq_zero_of_dvd (Nat.gcd_dvd_left a b), Nat.mod_eq_zero_of_dvd (Nat.gcd_dvd_right a b)⟩
  · intro hg d hd _ ⟨h1, h2⟩
    have := Nat.dvd_gcd (Nat.dvd_of_mod_eq_zero h1) (Nat.dvd_of_mod_eq_zero h2)
    rw [hg] at this
    have := Nat.le_of_dvd (by omega) this
    omega

set_option maxHeartbeats 1000000 in
theorem alone_any (a b : Nat) (ha : 1 ≤ a) (ha2 : a ≤ 64) (hb2 : b ≤ 64) (W : World) :
    Calls Try.prog 18 #[.int .i64 a, .int .i64 b] W fun e w' => e = .returned (.bool (decide (Nat.gcd a b = 1))) ∧ Below W.heap.size W w' := by
  have HA := hide (alone_iff a b ha)
  obtain ⟨ans, hans⟩ : ∃ ans : Bool, ans = decide (Nat.gcd a b = 1) := ⟨_, rfl⟩
  rw [← hans]
  have Hans := hide hans
  clear hans
  go_enter Try.func18, Try.ntmps18
  go_wp2
  go_loopw [5] (fun i wr => ∃ d : Nat, 2 ≤ d ∧ i = .int .i64 d ∧ (∀ j, 2 ≤ j → j < d → ¬ (a % j = 0 ∧ b % j = 0)) ∧ Below W.heap.size W wr) (fun i _ => 65 - (intOf i).toNat)
  case atStart => exact ⟨2, by omega, rfl, fun j h1 h2 => by omega, Below.refl _ _⟩
  case round =>
    obtain ⟨d, hd, rfl, he, hb⟩ := hrel
    have He := hide he
    clear he
    by_cases hlt : d ≤ a
    · have q1 : (d : Int) ≤ (a : Int) := by omega
      have q2 : ((d : Int) == 0) = false := by simp; omega
      have q3 : (0 : Int) ≤ (a : Int) := by omega
      have q4 : (0 : Int) ≤ (b : Int) := by omega
      obtain ⟨u, hu⟩ : ∃ u : Nat, u = a % d := ⟨_, rfl⟩
      obtain ⟨v, hv⟩ : ∃ v : Nat, v = b % d := ⟨_, rfl⟩
      have e1 : (a : Int) % (d : Int) = (u : Int) := by rw [hu]; simp
      have e2 : (b : Int) % (d : Int) = (v : Int) := by rw [hv]; simp
      have Hn := hide (show ¬ (u = 0 ∧ v = 0) → ∀ j, 2 ≤ j → j < d + 1 → ¬ (a % j = 0 ∧ b % j = 0) from fun hno j h1 h2 => by
        by_cases e : j = d
        · subst e; rw [← hu, ← hv]; exact hno
        · exact unhide He j h1 (by omega))
      have Hz := hide (show u = 0 ∧ v = 0 → ans = false from fun hyes => by
        rw [unhide Hans]
        have : ¬ Nat.gcd a b = 1 := fun hg => (unhide HA).2 hg d hd hlt (by rw [← hu, ← hv]; exact hyes)
        simpa using this)
      clear hu hv
      by_cases hu0 : u = 0
      · have g1 : ((u : Int) == 0) = true := by simp [hu0]
        by_cases hv0 : v = 0
        · have g2 : ((v : Int) == 0) = true := by simp [hv0]
          have Hzz := hide (unhide Hz ⟨hu0, hv0⟩)
          clear hu0 hv0 Hn Hz
          go_wp2
          go_ret
          exact ⟨ret_bool (unhide Hzz).symm, hb⟩
        · have g2 : ((v : Int) == 0) = false := by simp; omega
          have Hnn := hide (unhide Hn (by omega))
          clear hu0 hv0 Hn Hz
          go_wp2
          go_roundw
          case rel => exact ⟨d + 1, by omega, by go_num, unhide Hnn, hb⟩
          case measure => simp [intOf]; omega
      · have g1 : ((u : Int) == 0) = false := by simp; omega
        have Hnn := hide (unhide Hn (by omega))
        clear hu0 Hn Hz
        go_wp2
        go_roundw
        case rel => exact ⟨d + 1, by omega, by go_num, unhide Hnn, hb⟩
        case measure => simp [intOf]; omega
    · have q1 : ¬ ((d : Int) ≤ (a : Int)) := by omega
      have Hz := hide (show ans = true by
        rw [unhide Hans]
        have := (unhide HA).1 (fun j h1 h2 => unhide He j h1 (by omega))
        simpa using this)
      go_wp2
      go_ret
      exact ⟨ret_bool (unhide Hz).symm, hb⟩

theorem in_no (f : Nat → Bool) (w : Nat) (c : Bool) (x : Nat) (h : f x = false) : (fun i => inN f w c i x) = fun i => inN f w c i (x + 1) := by
  funext i
  show _ = cnt (inF f w c i) x + (if inF f w c i x then 1 else 0)
  simp [inF, h]
theorem in_row_yes (f : Nat → Bool) (w x : Nat) (h : f x = true) (v : Nat) (hv : v = inN f w false (x / w) x) : (fun i => if i = x / w then v + 1 else inN f w false i x) = fun i => inN f w false i (x + 1) := by
  funext i
  show _ = cnt (inF f w false i) x + (if inF f w false i x then 1 else 0)
  by_cases e : i = x / w
  · subst e; simp [inF, h, hv]
  · rw [if_neg e]
    have : ¬ x / w = i := fun k => e k.symm
    simp [inF, this]
theorem in_col_yes (f : Nat → Bool) (w x : Nat) (h : f x = true) (v : Nat) (hv : v = inN f w true (x % w) x) : (fun i => if i = x % w then v + 1 else inN f w true i x) = fun i => inN f w true i (x + 1) := by
  funext i
  show _ = cnt (inF f w true i) x + (if inF f w true i x then 1 else 0)
  by_cases e : i = x % w
  · subst e; simp [inF, h, hv]
  · rw [if_neg e]
    have : ¬ x % w = i := fun k => e k.symm
    simp [inF, this]
theorem evB_sm (f : Nat → Bool) (w h : Nat) : evB f w h = (smB (fun y => inN f w false y (w * h)) h && smB (fun x => inN f w true x (w * h)) w) := rfl

/-- 'make' of at most 64 numbers where the order is drawn -/
theorem make_drawn {V : World} {op : Oper} {act : Act} {K : Act → World → Prop} {Q : Exit → Act → World → Prop} (x : Operand) (k : Nat) (hk : k ≤ 64) (h2 : op.op = Op.makeSlice 22 x x) (h3 : act.eval x = .int .i64 k)
    (next : ∀ V', IRow V' V.heap.size k (fun _ => 0) → Below V.heap.size V V' → K (act.put op.dst (.slice (some ⟨V.heap.size, 0, none⟩) k k)) V') : op.wp Try.prog act V K Q := by
  obtain ⟨t, ht, ht0, ht1, ht2⟩ := info_parts info3
  obtain ⟨V', hrun, hrow, hgrow⟩ := run_make_full (P := Try.prog) V V.heap.size 22 3 t (.int .i64 0) 1 Try.underlying22 ht ht0 ht1 .i64 .i64 k (by rw [ht2]; omega) (by unfold maxLen; omega) (Nat.le_refl _)
  rw [Nat.mul_one] at hrow
  have hnext := next V' (irow_made hrow) ((Below.refl V.heap.size V).grown hgrow (Nat.le_refl _) (fun j e => by cases e))
  unfold Oper.wp
  simp [execOp, h2, h3, hrun, Result.andThen]
  exact hnext
end Go.Proofs.Ytpefcpbkdofblaa
