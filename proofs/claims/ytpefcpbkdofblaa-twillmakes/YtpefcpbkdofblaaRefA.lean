/-
  The reference: Bit, Rows, run, Longest, SameNumbers.
-/
import Derived.Test.YtpefcpbkdofblaaLFloatM
namespace Go.Proofs.Ytpefcpbkdofblaa
open Go.RowKit Go.Shelf

theorem bs_at {W : World} {p : Option Addr} {n cap k : Nat} {f : Nat → Bool} (h : Bs W p n cap f) (hk : k < n) : ∃ b o, p = some ⟨b, o, none⟩ ∧ b < W.heap.size ∧ W.cell? ⟨b, o + k, none⟩ = some (.bool (f k)) := by
  rcases h.2 with h0 | ⟨b, o, e, hb, hc⟩
  · omega
  · exact ⟨b, o, e, hb, hc k hk⟩

set_option maxHeartbeats 1000000 in
theorem bit_ok {W : World} {w h : Nat} {p : Option Addr} {n cap : Nat} {f : Nat → Bool} (r : Rt W w h p n cap f) (y x : Nat) (hy : y < h) (hx : x < w) :
    Calls Try.prog 34 #[tr w h p n cap, .int .i64 y, .int .i64 x] W fun e w' => e = .returned (.bool (f (y * w + x))) ∧ Below W.heap.size W w' := by
  have hw := r.1
  have hh := r.2.1
  have hk : y * w + x < n := by rw [r.2.2.1]; exact row_lt hx hy
  have r' := r.2.2.2.keep (bal (o := .cells #[.int .i64 w, .int .i64 h, .slice p n cap] 25) (Below.refl W.heap.size W))
  obtain ⟨b, o, rfl, hb, hc⟩ := bs_at r' hk
  have hn4 : n ≤ 4096 := by rw [r.2.2.1]; exact Nat.mul_le_mul hw hh
  obtain ⟨yw, hyw⟩ : ∃ yw : Nat, yw = y * w := ⟨_, rfl⟩
  rw [← hyw] at hk hc ⊢
  have e3 : wrap64 ((y : Int) * (w : Int)) = (yw : Int) := by
    rw [hyw, ← Int.natCast_mul]
    exact Go.IntWalk.wrap64_in _ (by omega)
  obtain ⟨k, hk2⟩ : ∃ k : Nat, k = yw + x := ⟨_, rfl⟩
  rw [← hk2] at hk hc ⊢
  have e4 : (yw : Int) + (x : Int) = (k : Int) := by omega
  have hkn : (k : Int) < (n : Int) := by omega
  have hk0 : (0 : Int) ≤ (k : Int) := by omega
  have q1 : (yw : Int) ≤ 4096 := by omega
  have q2 : (0 : Int) ≤ (yw : Int) := by omega
  have q3 : (x : Int) ≤ 64 := by omega
  clear r r' hyw hk2
  go_enter Try.func34, Try.ntmps34
  go_wp2
  go_ret
  exact ⟨rfl, bal (Below.refl _ _)⟩

set_option maxHeartbeats 2000000 in
theorem same_numbers_any (q1 q2 n c1 c2 : Nat) (f : Nat → Nat) (W : World) (hn : n ≤ 64) (h1 : n = 0 ∨ ∀ j, j < n → W.cell? ⟨q1, j, none⟩ = some (.int .i64 (f j : Nat))) (h2 : n = 0 ∨ ∀ j, j < n → W.cell? ⟨q2, j, none⟩ = some (.int .i64 (f j : Nat))) (l1 : q1 < W.heap.size) (l2 : q2 < W.heap.size) :
    Calls Try.prog 11 #[.slice (some ⟨q1, 0, none⟩) n c1, .slice (some ⟨q2, 0, none⟩) n c2] W fun e w' => e = .returned (.bool true) ∧ Below W.heap.size W w' := by
  have H1 := hide h1
  have H2 := hide h2
  have hnn : ((n : Int) != (n : Int)) = false := by simp
  clear h1 h2
  go_enter Try.func11, Try.ntmps11
  go_wp2
  go_loopw [13] (fun i wr => ∃ x : Nat, x ≤ n ∧ i = .int .i64 x ∧ Below W.heap.size W wr) (fun i _ => n - (intOf i).toNat)
  case atStart => exact ⟨0, Nat.zero_le _, rfl, Below.refl _ _⟩
  case round =>
    obtain ⟨x, hx, rfl, hb⟩ := hrel
    by_cases hlt : x < n
    · have d1 := keepC hb l1 ((unhide H1).resolve_left (by omega) x hlt)
      have d2 := keepC hb l2 ((unhide H2).resolve_left (by omega) x hlt)
      have q1 : (x : Int) < (n : Int) := by omega
      have q2 : (0 : Int) ≤ (x : Int) := by omega
      generalize f x = v at *
      have e1 : ((v : Int) != (v : Int)) = false := by simp
      go_wp2_with fail
      go_quiet (fail)
      go_wp2
      go_roundw
      case rel => exact ⟨x + 1, by omega, by go_num, btrans hb (Joins.below_draws _ _ _)⟩
      case measure => simp [intOf]; omega
    · obtain rfl : x = n := by omega
      have cl : ¬ ((x : Int) < (x : Int)) := by omega
      go_wp2
      go_ret
      exact ⟨rfl, hb⟩

set_option maxHeartbeats 2000000 in
theorem same_numbers_none (a b : Option Addr) (c1 c2 : Nat) (W : World) :
    Calls Try.prog 11 #[.slice a 0 c1, .slice b 0 c2] W fun e w' => e = .returned (.bool true) ∧ Below W.heap.size W w' := by
  go_enter Try.func11, Try.ntmps11
  go_wp2
  go_loopw [13] (fun i wr => i = .int .i64 0 ∧ wr = W) (fun _ _ => 0)
  case atStart => exact ⟨rfl, rfl⟩
  case round =>
    obtain ⟨rfl, rfl⟩ := hrel
    go_wp2
    go_ret
    exact ⟨rfl, Below.refl _ _⟩
end Go.Proofs.Ytpefcpbkdofblaa
