/-
  What a machine is asked: has, facing, held, and the small questions of package knit.
-/
import Derived.Test.YtancniamgfppiaaMaA
namespace Go.Proofs.Ytancniamgfppiaa
open Go.RowKit

abbrev mp (m : Nat) : Value := .pointer (some ⟨m, 0, none⟩)
abbrev plV (b n : Int) : Value := .agg #[.int .i64 b, .int .i64 n]
/-- what is answered, and nothing old is changed -/
def Ans (F : Nat) (args : Array Value) (W : World) (v : Value) : Prop := Calls Try.prog F args W fun e w' => e = .returned v ∧ Below W.heap.size W w'

set_option maxHeartbeats 1000000 in
theorem rack_any (t : Int) (W : World) : Calls Try.prog 54 #[.int .i64 t] W fun e w' => e = .returned (.int .i64 (raE t)) ∧ w' = W := by
  by_cases h1 : t < -4
  · have Hr := hide (show raE t = 3 by unfold raE; rw [if_pos (.inl h1)])
    go_enter Try.func54, Try.ntmps54
    go_wp2
    go_ret
    exact ⟨by rw [unhide Hr]; rfl, rfl⟩
  · have h1' : decide (t < -4) = false := by simpa using h1
    by_cases h2 : 4 < t
    · have Hr := hide (show raE t = 3 by unfold raE; rw [if_pos (.inr h2)])
      go_enter Try.func54, Try.ntmps54
      go_wp2
      go_ret
      exact ⟨by rw [unhide Hr]; rfl, rfl⟩
    · have h2' : decide (4 < t) = false := by simpa using h2
      have Hr := hide (show raE t = 0 by unfold raE; rw [if_neg (by omega)])
      go_enter Try.func54, Try.ntmps54
      go_wp2
      go_ret
      exact ⟨by rw [unhide Hr]; rfl, rfl⟩

set_option maxHeartbeats 1000000 in
theorem uses_any (d : Int) (W : World) : Calls Try.prog 56 #[.int .i64 d] W fun e w' => e = .returned (.bool (usB d)) ∧ w' = W := by
  cases h1 : (d == 1) with
  | true =>
    go_enter Try.func56, Try.ntmps56
    go_wp2
    go_ret
    exact ⟨by simp [usB, h1], rfl⟩
  | false =>
    cases h2 : (d == 2) with
    | true =>
      go_enter Try.func56, Try.ntmps56
      go_wp2
      go_ret
      exact ⟨by simp [usB, h2], rfl⟩
    | false =>
      go_enter Try.func56, Try.ntmps56
      go_wp2
      go_ret
      exact ⟨by rw [usB, h1, h2]; rfl, rfl⟩
set_option maxHeartbeats 1000000 in
theorem needs_any (d : Int) (W : World) : Calls Try.prog 74 #[.int .i64 d] W fun e w' => e = .returned (.bool (neB d)) ∧ w' = W := by
  cases h1 : (d == 1) with
  | true =>
    go_enter Try.func74, Try.ntmps74
    go_wp2
    go_ret
    exact ⟨by simp [neB, h1], rfl⟩
  | false =>
    cases h2 : (d == 4) with
    | true =>
      go_enter Try.func74, Try.ntmps74
      go_wp2
      go_ret
      exact ⟨by simp [neB, h2], rfl⟩
    | false =>
      go_enter Try.func74, Try.ntmps74
      go_wp2
      go_ret
      exact ⟨by rw [neB, h1, h2]; rfl, rfl⟩

set_option maxRecDepth 100000 in
set_option maxHeartbeats 1000000 in
theorem has_any {B : Nat} {W : World} {m N : Nat} {s : St} {g : Mg} (k : MB B W m N s g) (b n : Int) : Ans 55 #[mp m, plV b n] W (.bool (hasB N b n)) := by
  unfold Ans
  have B0 := hide (bnew W (.cells #[.int .i64 b, .int .i64 n] 75))
  have HP := hide (PB.new W b n)
  have HK := hide (k.keep (unhide B0))
  by_cases h1 : 0 ≤ b
  · by_cases h2 : b < 2
    · by_cases h3 : 0 ≤ n
      · have Hr := hide (show hasB N b n = decide (n < N) by simp [hasB, h1, h2, h3])
        rcases (show b = 0 ∨ b = 1 by omega) with rfl | rfl
        all_goals
          go_enter Try.func55, Try.ntmps55
          go_wp2_with fail
          have c0 := (unhide HK).box.2.1.1
          have c1 := (unhide HK).box.2.1.2.1
          obtain ⟨-, p0, p1⟩ := unhide HP
          generalize W.alloc (.cells #[.int .i64 _, .int .i64 n] 75) = w0 at *
          go_quiet (fail)
          go_wp2
          go_ret
          exact ⟨by rw [unhide Hr]; rfl, (unhide B0).trans ((Joins.below_draws _ _ _).mono (unhide B0).size)⟩
      · have h3' : decide (0 ≤ n) = false := by simpa using h3
        have Hr := hide (show hasB N b n = false by simp [hasB, h1, h2, h3'])
        go_enter Try.func55, Try.ntmps55
        go_wp2_with fail
        obtain ⟨-, p0, p1⟩ := unhide HP
        generalize W.alloc (.cells #[.int .i64 _, .int .i64 n] 75) = w0 at *
        go_quiet (fail)
        go_wp2
        go_ret
        exact ⟨by rw [unhide Hr]; rfl, (unhide B0).trans ((Joins.below_draws _ _ _).mono (unhide B0).size)⟩
    · have h2' : decide (b < 2) = false := by simpa using h2
      have Hr := hide (show hasB N b n = false by simp [hasB, h1, h2'])
      go_enter Try.func55, Try.ntmps55
      go_wp2_with fail
      obtain ⟨-, p0, p1⟩ := unhide HP
      generalize W.alloc (.cells #[.int .i64 _, .int .i64 n] 75) = w0 at *
      go_quiet (fail)
      go_wp2
      go_ret
      exact ⟨by rw [unhide Hr]; rfl, (unhide B0).trans ((Joins.below_draws _ _ _).mono (unhide B0).size)⟩
  · have h1' : decide (0 ≤ b) = false := by simpa using h1
    have Hr := hide (show hasB N b n = false by simp [hasB, h1'])
    go_enter Try.func55, Try.ntmps55
    go_wp2_with fail
    obtain ⟨-, p0, p1⟩ := unhide HP
    generalize W.alloc (.cells #[.int .i64 _, .int .i64 n] 75) = w0 at *
    go_quiet (fail)
    go_wp2
    go_ret
    exact ⟨by rw [unhide Hr]; rfl, (unhide B0).trans ((Joins.below_draws _ _ _).mono (unhide B0).size)⟩
end Go.Proofs.Ytancniamgfppiaa
