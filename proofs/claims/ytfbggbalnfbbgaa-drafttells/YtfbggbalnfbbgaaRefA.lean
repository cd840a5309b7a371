/-
  The reference: Bit, Rows, run, Longest, SameNumbers.
-/
import Derived.Test.YtfbggbalnfbbgaaLFloatM
namespace Go.Proofs.Ytfbggbalnfbbgaa
open Go.RowKit Go.Shelf

theorem bs_at {W : World} {p : Option Addr} {n cap k : Nat} {f : Nat → Bool} (h : Bs W p n cap f) (hk : k < n) : ∃ b o, p = some ⟨b, o, none⟩ ∧ b < W.heap.size ∧ W.cell? ⟨b, o + k, none⟩ = some (.bool (f k)) := by
  rcases h.2 with h0 | ⟨b, o, e, hb, hc⟩
  · omega
  · exact ⟨b, o, e, hb, hc k hk⟩

set_option maxHeartbeats 1000000 in
theorem bit_ok {W : World} {w h : Nat} {p : Option Addr} {n cap : Nat} {f : Nat → Bool} (r : Rt W w h p n cap f) (y x : Nat) (hy : y < h) (hx : x < w) :
    Calls Try.prog 33 #[tr w h p n cap, .int .i64 y, .int .i64 x] W fun e w' => e = .returned (.bool (f (y * w + x))) ∧ Below W.heap.size W w' := by
  have hw := r.1
  have hh := r.2.1
  have hk : y * w + x < n := by rw [r.2.2.1]; exact row_lt hx hy
  have r' := r.2.2.2.keep (bal (o := .cells #[.int .i64 w, .int .i64 h, .slice p n cap] 25) (Below.refl W.heap.size W))
  obtain ⟨b, o, rfl, hb, hc⟩ := bs_at r' hk
  have hn4 : n ≤ 4096 := by rw [r.2.2.1]; exact Nat.mul_le_mul hw hh
  obtain ⟨yw, hyw⟩ : ∃ yw : Nat, yw = y * w := ⟨_, rfl⟩
  rw [← hyw] at hk hc ⊢
  have e3 : wrap64 ((y : Int) * (w : Int)) = (yw : Int) := by
    rw [hyw, ← Int.natCast_mul]
    exact Go.IntWalk.wrap64_in _ (by omega)
  obtain ⟨k, hk2⟩ : ∃ k : Nat, k = yw + x := ⟨_, rfl⟩
  rw [← hk2] at hk hc ⊢
  have e4 : (yw : Int) + (x : Int) = (k : Int) := by omega
  have hkn : (k : Int) < (n : Int) := by omega
  have hk0 : (0 : Int) ≤ (k : Int) := by omega
  have q1 : (yw : Int) ≤ 4096 := by omega
  have q2 : (0 : Int) ≤ (yw : Int) := by omega
  have q3 : (x : Int) ≤ 64 := by omega
  clear r r' hyw hk2
  go_enter Try.func33, Try.ntmps33
  go_wp2
  go_ret
  exact ⟨rfl, bal (Below.refl _ _)⟩

set_option maxRecDepth 100000 in
set_option maxHeartbeats 2000000 in
theorem rows_alike_ok {W : World} {w h : Nat} {p : Option Addr} {n cap : Nat} {f : Nat → Bool} (r : Rt W w h p n cap f) (y z : Nat) (hy : y < h) (hz : z < h) :
    Calls Try.prog 47 #[tr w h p n cap, .int .i64 y, .int .i64 z] W fun e w' => e = .returned (.bool (rwE f w y z)) ∧ Below W.heap.size W w' := by
  have hw := r.1
  have T0 := hide (Tb.new r)
  have B0 := hide (bal (o := .cells #[.int .i64 w, .int .i64 h, .slice p n cap] 25) (Below.refl W.heap.size W))
  clear r
  go_enter Try.func47, Try.ntmps47
  go_wp2
  generalize W.alloc (.cells #[.int .i64 w, .int .i64 h, .slice p n cap] 25) = w0 at *
  go_loopw [7] (fun c wr => ∃ x : Nat, x ≤ w ∧ c = .int .i64 x ∧ eqN (fun x => f (y * w + x)) (fun x => f (z * w + x)) x = true ∧ Below w0.heap.size w0 wr) (fun c _ => w - (intOf c).toNat)
  case atStart => exact ⟨0, Nat.zero_le _, rfl, rfl, Below.refl _ _⟩
  case round =>
    obtain ⟨x, hx, rfl, he, hb⟩ := hrel
    have He := hide he
    have m1 := ((unhide T0).1.keep hb).2
    clear he
    by_cases hlt : x < w
    · have q1 : (x : Int) < (w : Int) := by omega
      have Hby := hide (show ∀ V, Below wr.heap.size wr V → Calls Try.prog 33 #[tr w h p n cap, .int .i64 y, .int .i64 x] V fun e w' => e = .returned (.bool (f (y * w + x))) ∧ Below V.heap.size V w' from fun V hV => bit_ok ((unhide T0).2.keep (btrans hb hV)) y x hy hlt)
      have Hbz := hide (show ∀ V, Below wr.heap.size wr V → Calls Try.prog 33 #[tr w h p n cap, .int .i64 z, .int .i64 x] V fun e w' => e = .returned (.bool (f (z * w + x))) ∧ Below V.heap.size V w' from fun V hV => bit_ok ((unhide T0).2.keep (btrans hb hV)) z x hz hlt)
      have Hld := hide (show ∀ V, Below wr.heap.size wr V → V.cell? ⟨W.heap.size, 0, none⟩ = some (.int .i64 w) ∧ V.cell? ⟨W.heap.size, 1, none⟩ = some (.int .i64 h) ∧ V.cell? ⟨W.heap.size, 2, none⟩ = some (.slice p n cap) from fun V hV => ((unhide T0).1.keep (btrans hb hV)).2)
      have Hs := hide (show eqN (fun x => f (y * w + x)) (fun x => f (z * w + x)) (x + 1) = (f (y * w + x) == f (z * w + x)) by rw [eqN_succ, unhide He]; simp)
      have Hf := hide (show (f (y * w + x) == f (z * w + x)) = false → rwE f w y z = false from fun e => eqN_false _ _ w x hlt e)
      generalize f (y * w + x) = a at *
      generalize f (z * w + x) = c at *
      have Hb := hide hb
      have Hlt := hide hlt
      clear hb hlt
      go_wp2_with fail
      clear m1
      have hb2 := True.intro
      have hb3 := True.intro
      go_region_held3 (fun V => Below wr.heap.size wr V ∧ V.cell? ⟨W.heap.size, 0, none⟩ = some (.int .i64 w) ∧ V.cell? ⟨W.heap.size, 1, none⟩ = some (.int .i64 h) ∧ V.cell? ⟨W.heap.size, 2, none⟩ = some (.slice p n cap))
        (first
          | (exact ⟨Below.drew (Below.refl _ _), unhide Hld _ (Below.drew (Below.refl _ _))⟩)
          | (exact ⟨hb3, unhide Hld _ hb3⟩)
          | (exact ⟨hb2, unhide Hld _ hb2⟩))
        (first
          | (go_at_call_of 33 (Value.int .i64 (y : Int)); refine (unhide Hby _ (by first | exact hb2 | exact Below.drew (Below.refl _ _))).mono ?_; rintro e w10 ⟨rfl, hb⟩; have hb3 := btrans (by first | exact hb2 | exact Below.drew (Below.refl _ _)) hb)
          | (go_at_call_of 33 (Value.int .i64 (z : Int)); refine (unhide Hbz _ (by first | exact hb3 | exact Below.drew (Below.refl _ _))).mono ?_; rintro e w11 ⟨rfl, hb⟩; have hb2 := btrans (by first | exact hb3 | exact Below.drew (Below.refl _ _)) hb))
      have S5 := hide (btrans (unhide Hb) hb2)
      have hlt := unhide Hlt
      clear hb hb2 hb3 Hby Hbz Hld
      have eq1 : ∀ a : Bool, (a == a) = true := fun a => by cases a <;> rfl
      have go1 : a = c → eqN (fun x => f (y * w + x)) (fun x => f (z * w + x)) (x + 1) = true := fun e => by rw [unhide Hs, e]; exact eq1 c
      have Hgo := hide go1
      clear go1 eq1 Hs
      cases a <;> cases c
      · go_wp2
        go_roundw
        case rel => exact ⟨x + 1, by omega, by go_num, unhide Hgo rfl, unhide S5⟩
        case measure => simp [intOf]; omega
      · have Sf := hide (btrans (unhide B0) (unhide S5))
        go_wp2
        go_ret
        exact ⟨ret_bool (unhide Hf rfl).symm, unhide Sf⟩
      · have Sf := hide (btrans (unhide B0) (unhide S5))
        go_wp2
        go_ret
        exact ⟨ret_bool (unhide Hf rfl).symm, unhide Sf⟩
      · go_wp2
        go_roundw
        case rel => exact ⟨x + 1, by omega, by go_num, unhide Hgo rfl, unhide S5⟩
        case measure => simp [intOf]; omega
    · obtain rfl : x = w := by omega
      have cl : ¬ ((x : Int) < (x : Int)) := by omega
      have Sf := hide (btrans (unhide B0) hb)
      go_wp2
      go_ret
      exact ⟨ret_bool (unhide He).symm, unhide Sf⟩

set_option maxHeartbeats 2000000 in
theorem same_numbers_any (q1 q2 n c1 c2 : Nat) (f : Nat → Nat) (W : World) (hn : n ≤ 64) (h1 : n = 0 ∨ ∀ j, j < n → W.cell? ⟨q1, j, none⟩ = some (.int .i64 (f j : Nat))) (h2 : n = 0 ∨ ∀ j, j < n → W.cell? ⟨q2, j, none⟩ = some (.int .i64 (f j : Nat))) (l1 : q1 < W.heap.size) (l2 : q2 < W.heap.size) :
    Calls Try.prog 34 #[.slice (some ⟨q1, 0, none⟩) n c1, .slice (some ⟨q2, 0, none⟩) n c2] W fun e w' => e = .returned (.bool true) ∧ Below W.heap.size W w' := by
  have H1 := hide h1
  have H2 := hide h2
  have hnn : ((n : Int) != (n : Int)) = false := by simp
  clear h1 h2
  go_enter Try.func34, Try.ntmps34
  go_wp2
  go_loopw [13] (fun i wr => ∃ x : Nat, x ≤ n ∧ i = .int .i64 x ∧ Below W.heap.size W wr) (fun i _ => n - (intOf i).toNat)
  case atStart => exact ⟨0, Nat.zero_le _, rfl, Below.refl _ _⟩
  case round =>
    obtain ⟨x, hx, rfl, hb⟩ := hrel
    by_cases hlt : x < n
    · have d1 := keepC hb l1 ((unhide H1).resolve_left (by omega) x hlt)
      have d2 := keepC hb l2 ((unhide H2).resolve_left (by omega) x hlt)
      have q1 : (x : Int) < (n : Int) := by omega
      have q2 : (0 : Int) ≤ (x : Int) := by omega
      generalize f x = v at *
      have e1 : ((v : Int) != (v : Int)) = false := by simp
      go_wp2_with fail
      go_quiet (fail)
      go_wp2
      go_roundw
      case rel => exact ⟨x + 1, by omega, by go_num, btrans hb (Joins.below_draws _ _ _)⟩
      case measure => simp [intOf]; omega
    · obtain rfl : x = n := by omega
      have cl : ¬ ((x : Int) < (x : Int)) := by omega
      go_wp2
      go_ret
      exact ⟨rfl, hb⟩

set_option maxHeartbeats 2000000 in
theorem same_numbers_none (a b : Option Addr) (c1 c2 : Nat) (W : World) :
    Calls Try.prog 34 #[.slice a 0 c1, .slice b 0 c2] W fun e w' => e = .returned (.bool true) ∧ Below W.heap.size W w' := by
  go_enter Try.func34, Try.ntmps34
  go_wp2
  go_loopw [13] (fun i wr => i = .int .i64 0 ∧ wr = W) (fun _ _ => 0)
  case atStart => exact ⟨rfl, rfl⟩
  case round =>
    obtain ⟨rfl, rfl⟩ := hrel
    go_wp2
    go_ret
    exact ⟨rfl, Below.refl _ _⟩
end Go.Proofs.Ytfbggbalnfbbgaa
