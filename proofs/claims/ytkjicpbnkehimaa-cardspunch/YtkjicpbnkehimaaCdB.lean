/-
  What isAsAhead, rowsFrom, bytesOf, hole and balance of package cards answer.
-/
import Derived.Test.YtkjicpbnkehimaaCdA
namespace Go.Proofs.Ytkjicpbnkehimaa
open Go.RowKit

theorem rt_cap {W : World} {w h : Nat} {p : Option Addr} {n cap : Nat} {f : Nat → Bool} (r : Rt W w h p n cap f) : h * w ≤ cap := by
  have h1 := r.2.2.2.1
  have h2 := r.2.2.1
  rw [Nat.mul_comm]; omega
theorem rt_row {W : World} {w h : Nat} {p : Option Addr} {n cap : Nat} {f : Nat → Bool} (r : Rt W w h p n cap f) (y : Nat) (hy : y < h) : Bs W (rp p cap (y * w)) w (cap - y * w) (row f w y) := by
  have h1 := r.2.2.2
  rw [r.2.2.1] at h1
  exact h1.row hy

set_option maxHeartbeats 1000000 in
theorem asahead_no (W : World) (w h : Nat) (p : Option Addr) (n cap : Nat) :
    Calls Try.prog 15 #[tr w h p n cap, .int .i64 0] W fun e w' => e = .returned (.bool false) ∧ Below W.heap.size W w' := by
  have B0 := hide (bal (o := .cells #[.int .i64 w, .int .i64 h, .slice p n cap] 24) (Below.refl W.heap.size W))
  go_enter Try.func15, Try.ntmps15
  go_wp2_with fail
  go_quiet (fail)
  go_wp2
  go_ret
  exact ⟨rfl, btrans (unhide B0) (Joins.below_draws _ _ _)⟩

set_option maxRecDepth 100000 in
set_option maxHeartbeats 2000000 in
theorem asahead_yes {W : World} {w h : Nat} {p : Option Addr} {n cap : Nat} {f : Nat → Bool} (r : Rt W w h p n cap f) (y z : Nat) (hz : y = z + 1) (hy : y < h) :
    Calls Try.prog 15 #[tr w h p n cap, .int .i64 y] W fun e w' => e = .returned (.bool (eqN (row f w y) (row f w z) w)) ∧ Below W.heap.size W w' := by
  have hw := r.1
  have hh := r.2.1
  have T0 := hide (Tb.new r)
  have B0 := hide (bal (o := .cells #[.int .i64 w, .int .i64 h, .slice p n cap] 24) (Below.refl W.heap.size W))
  have hc := rt_cap r
  clear r
  have e1 : (y : Int) - 1 = (z : Int) := by omega
  have q0 : 0 < y := by omega
  have q01 : decide (0 < y) = true := by simpa using q0
  have q1 : (0 : Int) < (y : Int) := by omega
  have q2 : (y : Int) ≤ 64 := by omega
  have hzh : z < h := by omega
  have q3 : IntKind.i64.wrap (z : Int) = (z : Int) := Go.IntWalk.i64_in _ (by omega)
  clear hz
  have HR := hide (show ∀ x : Nat, x < h → ∀ V : World, Calls Try.prog 18 #[tr w h p n cap, .int .i64 x] V fun e w' => e = .returned (rowV p cap w x) ∧ Below V.heap.size V w' from fun x hx V => row_any w h x p n cap V hw hx hh hc)
  have HE := hide (show ∀ V, Below (W.alloc (.cells #[.int .i64 w, .int .i64 h, .slice p n cap] 24)).heap.size (W.alloc (.cells #[.int .i64 w, .int .i64 h, .slice p n cap] 24)) V → Calls Try.prog 33 #[rowV p cap w y, rowV p cap w z] V fun e w' => e = .returned (.bool (eqN (row f w y) (row f w z) w)) ∧ Below V.heap.size V w' from fun V hV => equal_any _ _ w _ _ _ _ V hw (rt_row ((unhide T0).2.keep hV) y hy) (rt_row ((unhide T0).2.keep hV) z hzh))
  have Hld := hide (show ∀ V, Below (W.alloc (.cells #[.int .i64 w, .int .i64 h, .slice p n cap] 24)).heap.size (W.alloc (.cells #[.int .i64 w, .int .i64 h, .slice p n cap] 24)) V → V.cell? ⟨W.heap.size, 0, none⟩ = some (.int .i64 w) ∧ V.cell? ⟨W.heap.size, 1, none⟩ = some (.int .i64 h) ∧ V.cell? ⟨W.heap.size, 2, none⟩ = some (.slice p n cap) from fun V hV => ((unhide T0).1.keep hV).2)
  clear T0 hh hc hw
  go_enter Try.func15, Try.ntmps15
  go_wp2_with fail
  generalize W.alloc (.cells #[.int .i64 w, .int .i64 h, .slice p n cap] 24) = w0 at *
  have hb2 := True.intro
  have hb3 := True.intro
  have hb4 := True.intro
  go_region_held3 (fun V => Below w0.heap.size w0 V ∧ V.cell? ⟨W.heap.size, 0, none⟩ = some (.int .i64 w) ∧ V.cell? ⟨W.heap.size, 1, none⟩ = some (.int .i64 h) ∧ V.cell? ⟨W.heap.size, 2, none⟩ = some (.slice p n cap))
    (first
      | (exact ⟨Below.drew (Below.refl _ _), unhide Hld _ (Below.drew (Below.refl _ _))⟩)
      | (exact ⟨hb4, unhide Hld _ hb4⟩)
      | (exact ⟨hb3, unhide Hld _ hb3⟩)
      | (exact ⟨hb2, unhide Hld _ hb2⟩))
    (first
      | (go_at_call_of 18 (Value.int .i64 (y : Int)); refine (unhide HR y hy _).mono ?_; rintro e w10 ⟨rfl, hb⟩; have hb3 := btrans (by first | exact hb2 | exact Below.drew (Below.refl _ _)) hb)
      | (go_at_call_of 18 (Value.int .i64 (z : Int)); refine (unhide HR z hzh _).mono ?_; rintro e w11 ⟨rfl, hb⟩; have hb2 := btrans (by first | exact hb3 | exact Below.drew (Below.refl _ _)) hb)
      | (go_at_call 33; refine (unhide HE _ (by first | exact hb2 | exact hb3)).mono ?_; rintro e w12 ⟨rfl, hb⟩; have hb4 := btrans (by first | exact hb2 | exact hb3) hb))
  have Sf := hide (btrans (unhide B0) hb4)
  clear hb hb2 hb3 hb4
  go_wp2
  go_ret
  exact ⟨rfl, unhide Sf⟩
theorem asahead_any {W : World} {w h : Nat} {p : Option Addr} {n cap : Nat} {f : Nat → Bool} (r : Rt W w h p n cap f) (y : Nat) (hy : y < h) :
    Calls Try.prog 15 #[tr w h p n cap, .int .i64 y] W fun e w' => e = .returned (.bool (ah f w y)) ∧ Below W.heap.size W w' := by
  rcases y with _ | y
  · exact asahead_no W w h p n cap
  · have := asahead_yes r (y + 1) y rfl hy
    unfold ah
    simpa using this

set_option maxHeartbeats 1000000 in
theorem rowsFrom_any {W : World} {w h : Nat} {p : Option Addr} {n cap : Nat} {f : Nat → Bool} (r : Rt W w h p n cap f) (y : Nat) (hy : y < h) :
    Calls Try.prog 16 #[tr w h p n cap, .int .i64 y] W fun e w' => e = .returned (.int .i64 ((ru f w h y : Nat) : Int)) ∧ Below W.heap.size W w' := by
  have hh := r.2.1
  have T0 := hide (Tb.new r)
  have B0 := hide (bal (o := .cells #[.int .i64 w, .int .i64 h, .slice p n cap] 24) (Below.refl W.heap.size W))
  clear r
  go_enter Try.func16, Try.ntmps16
  go_wp2
  generalize W.alloc (.cells #[.int .i64 w, .int .i64 h, .slice p n cap] 24) = w0 at *
  go_loopw [5] (fun c wr => ∃ m : Nat, 1 ≤ m ∧ y + m ≤ h ∧ c = .int .i64 m ∧ rn (ah f w) (h - y - m) (y + m) + m = ru f w h y ∧ Below w0.heap.size w0 wr) (fun c _ => h - (intOf c).toNat)
  case atStart => exact ⟨1, Nat.le_refl _, by omega, rfl, rfl, Below.refl _ _⟩
  case round =>
    obtain ⟨m, hm, hmh, rfl, he, hb⟩ := hrel
    have He := hide he
    obtain ⟨-, c0, c1, c2⟩ := (unhide T0).1.keep hb
    have q2 : (y : Int) ≤ 64 := by omega
    have q3 : (m : Int) ≤ 64 := by omega
    have q4 : (0 : Int) ≤ m := by omega
    have q5 : (0 : Int) ≤ y := by omega
    clear he
    by_cases hlt : y + m < h
    · have q1 : (y : Int) + (m : Int) < (h : Int) := by omega
      obtain ⟨z, hz⟩ : ∃ z : Nat, z = y + m := ⟨_, rfl⟩
      have e1 : (y : Int) + (m : Int) = (z : Int) := by omega
      rw [e1] at q1
      have HA := hide (asahead_any ((unhide T0).2.keep hb) z (by omega))
      have Hs := hide (show rn (ah f w) (h - y - m) (y + m) = if ah f w z then rn (ah f w) (h - y - (m + 1)) (y + (m + 1)) + 1 else 0 by
        obtain ⟨k, hk⟩ : ∃ k, h - y - m = k + 1 := ⟨h - y - m - 1, by omega⟩
        rw [hk, rn, hz, show h - y - (m + 1) = k by omega]; rfl)
      have Hlt := hide hlt
      clear hz hlt
      generalize ah f w z = a at *
      go_wp2_with fail
      refine (unhide HA).mono ?_
      rintro e w1 ⟨rfl, hb1⟩
      have S1 := btrans hb hb1
      clear hb hb1 c0 c1 c2 HA
      cases a
      · have Sf := hide (btrans (unhide B0) S1)
        have Hm := hide (show m = ru f w h y by have h1 := unhide He; have h2 := unhide Hs; simp at h2; omega)
        clear S1
        go_wp2
        go_ret
        exact ⟨ret_int (by rw [← unhide Hm]), unhide Sf⟩
      · go_wp2
        go_roundw
        case rel => exact ⟨m + 1, by omega, by have := unhide Hlt; omega, by go_num, by have h1 := unhide He; have h2 := unhide Hs; simp at h2; omega, S1⟩
        case measure => have := unhide Hlt; simp [intOf]; omega
    · have q1 : ¬ ((y : Int) + (m : Int) < (h : Int)) := by omega
      have q6 : decide ((y : Int) + (m : Int) < (h : Int)) = false := by simpa using q1
      have Sf := hide (btrans (unhide B0) hb)
      have Hm := hide (show m = ru f w h y by
        have h1 := unhide He
        rw [show h - y - m = 0 by omega, rn] at h1
        omega)
      go_wp2
      go_ret
      exact ⟨ret_int (by rw [← unhide Hm]), unhide Sf⟩

set_option maxHeartbeats 400000 in
theorem bytesOf_any (w : Nat) (hw : w ≤ 4096) (W : World) : Calls Try.prog 34 #[.int .i64 w] W fun e w' => e = .returned (.int .i64 ((nb w : Nat) : Int)) ∧ w' = W := by
  have q1 : (0 : Int) ≤ (w : Int) := by omega
  have q2 : (w : Int) ≤ 4096 := by omega
  go_enter Try.func34, Try.ntmps34
  go_wp2
  go_ret
  exact ⟨ret_int (by unfold nb; omega), rfl⟩
theorem ret_u8 {a b : Int} (h : a = b) : Ending.returned (.int .u8 a) = .returned (.int .u8 b) := by rw [h]
set_option maxHeartbeats 400000 in
theorem hole_any (x : Nat) (W : World) : Calls Try.prog 35 #[.int .i64 x] W fun e w' => e = .returned (.int .u8 ((2 ^ (7 - x % 8) : Nat) : Int)) ∧ w' = W := by
  have q1 : (0 : Int) ≤ (x : Int) := by omega
  have c : x % 8 = 0 ∨ x % 8 = 1 ∨ x % 8 = 2 ∨ x % 8 = 3 ∨ x % 8 = 4 ∨ x % 8 = 5 ∨ x % 8 = 6 ∨ x % 8 = 7 := by omega
  rcases c with c | c | c | c | c | c | c | c
  all_goals
    have e : (x : Int) % 8 = ((x % 8 : Nat) : Int) := by omega
    rw [c] at e
    rw [c]
    clear c
    go_enter Try.func35, Try.ntmps35
    go_wp2
    go_ret
    exact ⟨ret_u8 (by decide), rfl⟩
end Go.Proofs.Ytkjicpbnkehimaa
