/-
  State, Woven and Row of looms.
-/
import Derived.Test.YtndfecdhmncdaaaLmC
namespace Go.Proofs.Ytndfecdhmncdaaa
open Go.RowKit

set_option maxHeartbeats 1000000 in
theorem state_any {W : World} {L w h : Nat} {p : Option Addr} {n cap D : Nat} {st : Int} {wv : Nat} {sp dd : Bool} (k : LB W L w h p n cap D st wv sp dd) : Calls Try.prog 14 #[.pointer (some ⟨L, 0, none⟩)] W fun e w' => e = .returned (.int .i64 st) ∧ w' = W := by
  obtain ⟨-, ⟨-, -, -, -, a4, -⟩, -⟩ := k
  go_enter Try.func14, Try.ntmps14
  go_wp2
  go_ret
  exact ⟨rfl, rfl⟩
set_option maxHeartbeats 1000000 in
theorem woven_any {W : World} {L w h : Nat} {p : Option Addr} {n cap D : Nat} {st : Int} {wv : Nat} {sp dd : Bool} (k : LB W L w h p n cap D st wv sp dd) : Calls Try.prog 15 #[.pointer (some ⟨L, 0, none⟩)] W fun e w' => e = .returned (.int .i64 wv) ∧ w' = W := by
  obtain ⟨-, ⟨-, -, -, -, -, a5, -⟩, -⟩ := k
  go_enter Try.func15, Try.ntmps15
  go_wp2
  go_ret
  exact ⟨rfl, rfl⟩

set_option maxHeartbeats 1000000 in
theorem row_no {W : World} {L w h : Nat} {p : Option Addr} {n cap D : Nat} {st : Int} {wv : Nat} {sp dd : Bool} (k : LB W L w h p n cap D st wv sp dd) (ha : amid st = false) : Calls Try.prog 16 #[.pointer (some ⟨L, 0, none⟩)] W fun e w' => e = .returned (.tuple #[.slice none 0 0, .int .i64 9]) ∧ w' = W := by
  obtain ⟨-, ⟨-, -, -, -, a4, -⟩, -⟩ := k
  have HA := hide (fun V => amid_any st V)
  rw [ha] at HA
  clear ha
  go_enter Try.func16, Try.ntmps16
  go_wp2_with fail
  refine (unhide HA _).mono ?_
  rintro e w1 ⟨rfl, rfl⟩
  go_wp2
  go_ret2
  exact ⟨rfl, rfl⟩

theorem rp_some (b o cap l : Nat) (h : cap ≠ l) : rp (some ⟨b, o, none⟩) cap l = some ⟨b, o + l, none⟩ := by
  unfold rp Addr.add
  rw [if_neg h]
  by_cases e : l = 0 <;> simp [e]
theorem Bs.row {W : World} {p : Option Addr} {w h cap y n : Nat} {f : Nat → Bool} (k : Bs W p n cap f) (hn : n = w * h) (hy : y < h) (hw : 0 < w) : Bs W (p.map (·.add (y * w))) w (cap - y * w) (fun x => f (y * w + x)) := by
  have hl : y * w + w ≤ n := by
    have := Nat.mul_le_mul_right w (show y + 1 ≤ h by omega)
    rw [mul_step, Nat.mul_comm h w] at this
    omega
  have h1 := k.1
  refine ⟨by omega, .inr ?_⟩
  obtain ⟨b, o, rfl, hb, -⟩ := bs_at k (show y * w < n by omega)
  refine ⟨b, o + y * w, ?_, hb, fun j hj => ?_⟩
  · unfold Addr.add
    by_cases e : y * w = 0 <;> simp [e]
  · obtain ⟨b', o', e, -, c⟩ := bs_at k (show y * w + j < n by omega)
    cases e
    rw [Nat.add_assoc]
    exact c
theorem clone_bs {W : World} {p : Option Addr} {n cap : Nat} {f : Nat → Bool} (h : Bs W p n cap f) (h0 : 0 < n) (hn : n ≤ 4096) :
    Calls Try.prog 26 #[.slice p n cap] W fun e w' => ∃ q c, e = .returned (.slice q n c) ∧ w'.ownsRow W.heap.size 4 1 (.slice q n c) n (bitsV f n) ∧ Below W.heap.size W w' := by
  obtain ⟨b, o, rfl, -, -⟩ := bs_at h h0
  exact clone_any h hn

set_option maxRecDepth 100000 in
set_option maxHeartbeats 2000000 in
theorem row_ok {W : World} {L w h : Nat} {p : Option Addr} {n cap D : Nat} {st : Int} {wv : Nat} {sp dd : Bool} {f : Nat → Bool} (k : LB W L w h p n cap D st wv sp dd) (hB : Bs W p n cap f) (hn : n = w * h) (hw : w ≤ 64) (hh : h ≤ 64) (hw0 : 0 < w) (hwv : wv < h) (ha : amid st = true) :
    Calls Try.prog 16 #[.pointer (some ⟨L, 0, none⟩)] W fun e w' => ∃ q c, e = .returned (.tuple #[.slice q w c, .int .i64 0]) ∧ w'.ownsRow W.heap.size 4 1 (.slice q w c) w (bitsV (fun x => f (wv * w + x)) w) ∧ Below W.heap.size W w' := by
  have HC := hide (fun V (hV : Below W.heap.size W V) => clone_bs ((hB.keep hV).row hn hwv hw0) hw0 (by omega))
  have hcap := hB.1
  have hl2 : wv * w + w ≤ cap := by
    have := Nat.mul_le_mul_right w (show wv + 1 ≤ h by omega)
    rw [mul_step, Nat.mul_comm h w] at this
    omega
  have hl4 : wv * w ≤ 4096 := Nat.mul_le_mul (show wv ≤ 64 by omega) hw
  obtain ⟨-, ⟨a0, a1, a2, a3, a4, a5, a6, a7⟩, -⟩ := k
  have HA := hide (fun V => amid_any st V)
  rw [ha] at HA
  obtain ⟨l, hl⟩ : ∃ l, l = wv * w := ⟨_, rfl⟩
  have Hl := hide hl
  rw [← hl] at hl2 hl4 HC
  have e1 : wrap64 ((wv : Int) * (w : Int)) = (l : Int) := by
    rw [hl, ← Int.natCast_mul]
    exact Go.IntWalk.wrap64_in _ (by omega)
  have e1' : IntKind.i64.wrap ((wv : Int) * (w : Int)) = (l : Int) := by
    rw [hl, ← Int.natCast_mul]
    exact Go.IntWalk.i64_in _ (by omega)
  have e2 : IntKind.i64.wrap ((l : Int) + (w : Int)) = (l : Int) + (w : Int) := Go.IntWalk.i64_in _ (by omega)
  have q1 : (l : Int) + (w : Int) ≤ (cap : Int) := by omega
  have q0 : (0 : Int) ≤ (l : Int) := by omega
  have q2 : (0 : Int) ≤ (l : Int) + (w : Int) := by omega
  have q3 : (l : Int) ≤ (l : Int) + (w : Int) := by omega
  have q4 : ((l : Int) + (w : Int)).toNat - l = w := by omega
  have hcl : ¬ cap = l := by omega
  have S0 := hide (Below.refl W.heap.size W)
  clear hl ha hB hcap hn
  go_enter Try.func16, Try.ntmps16
  go_wp2_with fail
  refine (unhide HA _).mono ?_
  rintro e w1 ⟨rfl, rfl⟩
  go_wp2_with fail
  go_quiet (fail)
  go_wp2_with fail
  go_region_with (go_at_call 26; refine (unhide HC _ (by exact ⟨rfl, rfl, rfl, Nat.le_refl _, fun _ _ => rfl⟩)).mono ?_; rintro e w3 ⟨q5, c5, rfl, hO5, hb5⟩)
  all_goals go_wp2
  all_goals go_ret2
  all_goals exact ⟨q5, c5, rfl, by have := own_keep hO5 (bdrew _); rw [unhide Hl] at this; exact this, (Joins.below_draws _ _ _).trans hb5⟩
end Go.Proofs.Ytndfecdhmncdaaa
