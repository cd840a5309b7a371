/-
  slices.Index, slices.Contains, longestIn of package truth.
-/
import Derived.Test.YtpefcpbkdofblaaRt
import Derived.Test.YtpefcpbkdofblaaRuns
namespace Go.Proofs.Ytpefcpbkdofblaa
open Go.RowKit Go.Shelf

/-- somewhere in the row it is v -/
def hasN (f : Nat → Bool) (v : Bool) (n : Nat) : Bool := (List.range n).any fun x => v == f x
theorem hasN_yes (f : Nat → Bool) (v : Bool) (n x : Nat) (h : x < n) (e : (v == f x) = true) : hasN f v n = true :=
  List.any_eq_true.2 ⟨x, by simpa using h, e⟩
theorem hasN_no (f : Nat → Bool) (v : Bool) (n : Nat) (h : ∀ x, x < n → (v == f x) = false) : hasN f v n = false := by
  cases c : hasN f v n with
  | false => rfl
  | true =>
    obtain ⟨x, hx, e⟩ := List.any_eq_true.1 c
    rw [h x (by simpa using hx)] at e
    cases e

set_option maxHeartbeats 1000000 in
theorem index_any (p : Option Addr) (n cap : Nat) (f : Nat → Bool) (v : Bool) (W : World) (hn : n ≤ 64) (hf : Bs W p n cap f) :
    Calls Try.prog 41 #[.slice p n cap, .bool v] W fun e w' => (∃ i : Int, e = .returned (.int .i64 i) ∧ decide (0 ≤ i) = hasN f v n) ∧ Below W.heap.size W w' := by
  have Hf := hide hf
  clear hf
  go_enter Try.func41, Try.ntmps41
  go_wp2
  go_loopw [8] (fun i wr => ∃ x : Nat, x ≤ n ∧ i = .int .i64 x ∧ (∀ j, j < x → (v == f j) = false) ∧ Below W.heap.size W wr) (fun i _ => n - (intOf i).toNat)
  case atStart => exact ⟨0, Nat.zero_le _, rfl, fun j hj => by omega, Below.refl _ _⟩
  case round =>
    obtain ⟨x, hx, rfl, he, hb⟩ := hrel
    have He := hide he
    clear he
    by_cases hlt : x < n
    · obtain ⟨b1, o1, rfl, l1, k1⟩ : ∃ b o, p = some ⟨b, o, none⟩ ∧ b < wr.heap.size ∧ ∀ k, k < n → wr.cell? ⟨b, o + k, none⟩ = some (.bool (f k)) := by
        rcases ((unhide Hf).keep hb).2 with h0 | h1
        · omega
        · exact h1
      have d1 := k1 x hlt
      have q1 : (x : Int) < (n : Int) := by omega
      have q2 : (0 : Int) ≤ (x : Int) := by omega
      clear k1
      have Hv := hide (show ∀ a, f x = a → (v == a) = false → ∀ j, j < x + 1 → (v == f j) = false from fun a h1 h2 j hj => by
        by_cases e : j = x
        · subst e; rw [h1]; exact h2
        · exact unhide He j (by omega))
      have Hy := hide (show ∀ a, f x = a → (v == a) = true → hasN f v n = true from fun a h1 h2 => hasN_yes f v n x hlt (by rw [h1]; exact h2))
      generalize hfx : f x = a at *
      have Hfx := hide hfx
      clear hfx
      cases v <;> cases a
      · have Hz := hide (unhide Hy _ rfl rfl)
        go_wp2
        go_ret
        exact ⟨⟨_, rfl, by rw [unhide Hz]; simp⟩, hb⟩
      · go_wp2
        go_roundw
        case rel => exact ⟨x + 1, by omega, by go_num, unhide Hv _ rfl rfl, hb⟩
        case measure => simp [intOf]; omega
      · go_wp2
        go_roundw
        case rel => exact ⟨x + 1, by omega, by go_num, unhide Hv _ rfl rfl, hb⟩
        case measure => simp [intOf]; omega
      · have Hz := hide (unhide Hy _ rfl rfl)
        go_wp2
        go_ret
        exact ⟨⟨_, rfl, by rw [unhide Hz]; simp⟩, hb⟩
    · obtain rfl : x = n := by omega
      have cl : ¬ ((x : Int) < (x : Int)) := by omega
      have Hz := hide (hasN_no f v x (unhide He))
      go_wp2
      go_ret
      exact ⟨⟨_, rfl, by rw [unhide Hz]; rfl⟩, hb⟩

set_option maxHeartbeats 1000000 in
theorem contains_any (p : Option Addr) (n cap : Nat) (f : Nat → Bool) (v : Bool) (W : World) (hn : n ≤ 64) (hf : Bs W p n cap f) :
    Calls Try.prog 40 #[.slice p n cap, .bool v] W fun e w' => e = .returned (.bool (hasN f v n)) ∧ Below W.heap.size W w' := by
  have HI := hide (index_any p n cap f v W hn hf)
  clear hf
  go_enter Try.func40, Try.ntmps40
  go_wp2_with fail
  refine (unhide HI).mono ?_
  rintro e w1 ⟨⟨i, rfl, hi⟩, hb⟩
  have Hi := hide hi
  clear hi
  go_wp2
  go_ret
  exact ⟨ret_bool (unhide Hi), hb⟩

/-- what is so in a row -/
abbrev soF (f : Nat → Bool) (v : Bool) (x : Nat) : Bool := f x == v
theorem hasN_not (f : Nat → Bool) (v : Bool) (n : Nat) : hasN f (!v) n = !allN (soF f v) n := by
  cases c : allN (soF f v) n with
  | true =>
    rw [allN_iff] at c
    refine hasN_no _ _ _ fun x hx => ?_
    have := c x hx
    unfold soF at this
    generalize f x = a at *
    cases v <;> cases a <;> first | rfl | cases this
  | false =>
    cases d : hasN f (!v) n with
    | true => rfl
    | false =>
      exfalso
      have : allN (soF f v) n = true := (allN_iff _ _).2 fun x hx => by
        unfold soF
        generalize ha : f x = a
        have h1 : ¬ ((!v) == f x) = true := fun e => by rw [hasN_yes f _ n x hx e] at d; cases d
        rw [ha] at h1
        cases v <;> cases a <;> first | rfl | exact absurd rfl h1
      rw [this] at c
      cases c
theorem lgS_at (so : Nat → Bool) (n r x : Nat) (hx : x < n) : lgS so n (r * n + x + 1) = lgStep (lgS so n (r * n + x)) (so x) := by
  show lgStep (lgS so n (r * n + x)) (so ((r * n + x) % n)) = _
  rw [Nat.mul_comm, Nat.mul_add_mod, Nat.mod_eq_of_lt hx]

theorem mx_succ (M R : Nat) : (if (M : Int) < (R : Int) + 1 then (R : Int) + 1 else (M : Int)) = ((max M (R + 1) : Nat) : Int) := by
  split <;> omega
theorem mx_zero (M : Nat) : (M : Int) = ((max M 0 : Nat) : Int) := by omega
theorem mx_nat (M R : Nat) : (if (M : Int) < (R : Int) then (R : Int) else (M : Int)) = ((max M R : Nat) : Int) := by
  split <;> omega

set_option maxHeartbeats 1000000 in
theorem longestIn_any (p : Option Addr) (n cap : Nat) (f : Nat → Bool) (v : Bool) (W : World) (hn : n ≤ 64) (hf : Bs W p n cap f) :
    Calls Try.prog 38 #[.slice p n cap, .bool v] W fun e w' => e = .returned (.int .i64 (lgI (soF f v) n : Nat)) ∧ Below W.heap.size W w' := by
  have HC := hide (contains_any p n cap f (!v) W hn hf)
  rw [hasN_not] at HC
  have Hf := hide hf
  clear hf
  go_enter Try.func38, Try.ntmps38
  go_wp2_with fail
  refine (unhide HC).mono ?_
  rintro e w1 ⟨rfl, hb⟩
  clear HC
  cases hall : allN (soF f v) n with
  | true =>
    have Hz := hide (show lgI (soF f v) n = 65 by unfold lgI; rw [if_pos hall])
    clear hall
    go_wp2
    go_ret
    exact ⟨ret_int (by rw [unhide Hz]; rfl), hb⟩
  | false =>
    have Hz := hide (show lgI (soF f v) n = (lgS (soF f v) n (2 * n)).1 by unfold lgI; rw [if_neg (by rw [hall]; exact Bool.false_ne_true)])
    clear hall
    go_wp2
    go_loopw [5, 6, 14] (fun m r i wr => ∃ k : Nat, k ≤ 2 ∧ i = .int .i64 k ∧ m = .int .i64 ((lgS (soF f v) n (k * n)).1 : Nat) ∧ r = .int .i64 ((lgS (soF f v) n (k * n)).2 : Nat) ∧ Below W.heap.size W wr) (fun _ _ i _ => 2 - (intOf i).toNat)
    case atStart => exact ⟨0, Nat.zero_le _, rfl, by simp [lgS], by simp [lgS], hb⟩
    case round =>
      clear hb
      obtain ⟨k, hk, rfl, rfl, rfl, hb⟩ := hrel
      by_cases hlt : k < 2
      · have q0 : (k : Int) < 2 := by omega
        have hkn : k * n ≤ 64 := by
          have := Nat.mul_le_mul (show k ≤ 1 by omega) hn
          omega
        obtain ⟨m0, hm0⟩ : ∃ m0, m0 = (lgS (soF f v) n (k * n)).1 := ⟨_, rfl⟩
        obtain ⟨r0, hr0⟩ : ∃ r0, r0 = (lgS (soF f v) n (k * n)).2 := ⟨_, rfl⟩
        rw [← hm0, ← hr0]
        have Hm0 := hide hm0
        have Hr0 := hide hr0
        clear hm0 hr0
        go_wp2
        obtain ⟨wo, rfl⟩ : ∃ wo : World, wo = wr := ⟨_, rfl⟩
        go_loopw [5, 6, 18] (fun m r i wr => ∃ x : Nat, x ≤ n ∧ i = .int .i64 x ∧ m = .int .i64 ((lgS (soF f v) n (k * n + x)).1 : Nat) ∧ r = .int .i64 ((lgS (soF f v) n (k * n + x)).2 : Nat) ∧ Below W.heap.size W wr) (fun _ _ i _ => n - (intOf i).toNat)
        case atStart => exact ⟨0, Nat.zero_le _, rfl, by rw [unhide Hm0]; rfl, by rw [unhide Hr0]; rfl, hb⟩
        case round =>
          clear hb
          obtain ⟨x, hx, rfl, rfl, rfl, hb⟩ := hrel
          have hle := lg_le (soF f v) n (k * n + x)
          by_cases hlx : x < n
          · obtain ⟨b1, o1, rfl, l1, k1⟩ : ∃ b o, p = some ⟨b, o, none⟩ ∧ b < wr.heap.size ∧ ∀ k, k < n → wr.cell? ⟨b, o + k, none⟩ = some (.bool (f k)) := by
              rcases ((unhide Hf).keep hb).2 with h0 | h1
              · omega
              · exact h1
            have d1 := k1 x hlx
            have q1 : (x : Int) < (n : Int) := by omega
            have q2 : (0 : Int) ≤ (x : Int) := by omega
            have Hs := hide (lgS_at (soF f v) n k x hlx)
            clear k1
            generalize lgS (soF f v) n (k * n + x) = S at *
            obtain ⟨M, R⟩ := S
            dsimp only at hle ⊢
            have hMR : R ≤ 200 ∧ M ≤ 200 := by omega
            have Hn1 := hide (show ∀ b, soF f v x = b → lgS (soF f v) n (k * n + (x + 1)) = lgStep (M, R) b from fun b hb' => by
              rw [← Nat.add_assoc, unhide Hs, hb'])
            unfold soF at Hn1
            generalize f x = a at *
            clear Hs hle
            have q3 : (R : Int) + 1 ≤ 201 := by omega
            have q4 : (0 : Int) ≤ (R : Int) := by omega
            have q5 : (0 : Int) ≤ (M : Int) := by omega
            have yes : (a == v) = true → lgS (fun x => f x == v) n (k * n + (x + 1)) = (max M (R + 1), R + 1) := fun e => by rw [unhide Hn1 _ e]; rfl
            have no : (a == v) = false → lgS (fun x => f x == v) n (k * n + (x + 1)) = (max M 0, 0) := fun e => by rw [unhide Hn1 _ e]; rfl
            have Hyes := hide yes
            have Hno := hide no
            clear yes no Hn1
            cases a <;> cases v
            · go_wp2
              refine ⟨⟨x + 1, by omega, by go_num, congrArg (Value.int .i64) ?_, congrArg (Value.int .i64) ?_, hb⟩, by simp [intOf]; omega⟩
              · rw [unhide Hyes rfl]; exact mx_succ M R
              · rw [unhide Hyes rfl]; rfl
            · go_wp2
              refine ⟨⟨x + 1, by omega, by go_num, congrArg (Value.int .i64) ?_, congrArg (Value.int .i64) ?_, hb⟩, by simp [intOf]; omega⟩
              · rw [unhide Hno rfl]; exact mx_zero M
              · rw [unhide Hno rfl]; rfl
            · go_wp2
              refine ⟨⟨x + 1, by omega, by go_num, congrArg (Value.int .i64) ?_, congrArg (Value.int .i64) ?_, hb⟩, by simp [intOf]; omega⟩
              · rw [unhide Hno rfl]; exact mx_zero M
              · rw [unhide Hno rfl]; rfl
            · go_wp2
              refine ⟨⟨x + 1, by omega, by go_num, congrArg (Value.int .i64) ?_, congrArg (Value.int .i64) ?_, hb⟩, by simp [intOf]; omega⟩
              · rw [unhide Hyes rfl]; exact mx_succ M R
              · rw [unhide Hyes rfl]; rfl
          · obtain rfl : x = n := by omega
            have cl : ¬ ((x : Int) < (x : Int)) := by omega
            have Hk := hide (show k * x + x = (k + 1) * x by rw [mul_step])
            go_wp2
            go_roundw
            case rel => exact ⟨k + 1, by omega, by go_num, by rw [unhide Hk], by rw [unhide Hk], hb⟩
            case measure => simp [intOf]; omega
      · obtain rfl : k = 2 := by omega
        go_wp2
        go_ret
        exact ⟨ret_int (by rw [unhide Hz]), hb⟩
end Go.Proofs.Ytpefcpbkdofblaa
