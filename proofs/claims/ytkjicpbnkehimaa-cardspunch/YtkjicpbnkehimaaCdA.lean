/-
  Rows of truths: rowOf, slices.Equal; of the document: Bit, Rows, Same.
-/
import Derived.Test.YtkjicpbnkehimaaCb
import Derived.Test.YtkjicpbnkehimaaCdM
namespace Go.Proofs.Ytkjicpbnkehimaa
open Go.RowKit

set_option maxHeartbeats 1000000 in
theorem row_any (w h y : Nat) (p : Option Addr) (n cap : Nat) (W : World) (hw : w ≤ 64) (hy : y < h) (hh : h ≤ 64) (hc : h * w ≤ cap) : Calls Try.prog 18 #[tr w h p n cap, .int .i64 y] W fun e w' => e = .returned (rowV p cap w y) ∧ Below W.heap.size W w' := by
  have hl2 : y * w + w ≤ cap := by
    have := Nat.mul_le_mul_right w (show y + 1 ≤ h by omega)
    rw [mul_step] at this
    omega
  have hl4 : y * w ≤ 4096 := Nat.mul_le_mul (show y ≤ 64 by omega) hw
  obtain ⟨l, hl⟩ : ∃ l, l = y * w := ⟨_, rfl⟩
  have Hl := hide hl
  rw [← hl] at hl2 hl4
  have e1 : wrap64 ((y : Int) * (w : Int)) = (l : Int) := by
    rw [hl, ← Int.natCast_mul]
    exact Go.IntWalk.wrap64_in _ (by omega)
  have e2 : wrap64 (((y : Int) + 1) * (w : Int)) = (l : Int) + (w : Int) := by
    rw [hl, show ((y : Int) + 1) = ((y + 1 : Nat) : Int) from rfl, ← Int.natCast_mul, mul_step, ← hl]
    exact Go.IntWalk.wrap64_in _ (by omega)
  have q1 : (l : Int) + (w : Int) ≤ (cap : Int) := by omega
  have q0 : (0 : Int) ≤ (l : Int) := by omega
  have q2 : (0 : Int) ≤ (l : Int) + (w : Int) := by omega
  have q3 : (l : Int) ≤ (l : Int) + (w : Int) := by omega
  have q4 : ((l : Int) + (w : Int)).toNat - l = w := by omega
  have q5 : (y : Int) ≤ 64 := by omega
  clear hl hy hh hc
  by_cases hcl : cap = l
  · obtain rfl : w = 0 := by omega
    go_enter Try.func18, Try.ntmps18
    go_wp2
    go_ret
    exact ⟨by have := unhide Hl; simp at this; simp [rp, hcl, this], bal (Below.refl _ _)⟩
  · go_enter Try.func18, Try.ntmps18
    go_wp2
    go_ret
    exact ⟨by simp [rp, hcl, ← unhide Hl], bal (Below.refl _ _)⟩

theorem rp_some (b o cap l : Nat) (h : cap ≠ l) : rp (some ⟨b, o, none⟩) cap l = some ⟨b, o + l, none⟩ := by
  unfold rp Addr.add
  rw [if_neg h]
  by_cases e : l = 0 <;> simp [e]

/-- a row of truths -/
theorem Bs.row {W : World} {p : Option Addr} {w h cap y : Nat} {f : Nat → Bool} (k : Bs W p (w * h) cap f) (hy : y < h) : Bs W (rp p cap (y * w)) w (cap - y * w) (fun x => f (y * w + x)) := by
  have hl : y * w + w ≤ w * h := by
    have := Nat.mul_le_mul_right w (show y + 1 ≤ h by omega)
    rw [mul_step, Nat.mul_comm h w] at this
    exact this
  have h1 := k.1
  refine ⟨by omega, ?_⟩
  rcases k.2 with h0 | ⟨b, o, rfl, hb, hc⟩
  · exact .inl (by omega)
  · by_cases hw : w = 0
    · exact .inl hw
    · refine .inr ⟨b, o + y * w, rp_some b o cap (y * w) (by omega), hb, fun j hj => ?_⟩
      rw [Nat.add_assoc]
      exact hc _ (by omega)

set_option maxHeartbeats 1000000 in
theorem equal_any (p1 p2 : Option Addr) (n c1 c2 : Nat) (f g : Nat → Bool) (W : World) (hn : n ≤ 64) (h1 : Bs W p1 n c1 f) (h2 : Bs W p2 n c2 g) :
    Calls Try.prog 33 #[.slice p1 n c1, .slice p2 n c2] W fun e w' => e = .returned (.bool (eqN f g n)) ∧ Below W.heap.size W w' := by
  have H1 := hide h1
  have H2 := hide h2
  have hnn : ((n : Int) != (n : Int)) = false := by simp
  clear h1 h2
  go_enter Try.func33, Try.ntmps33
  go_wp2
  go_loopw [13] (fun i wr => ∃ x : Nat, x ≤ n ∧ i = .int .i64 x ∧ eqN f g x = true ∧ Below W.heap.size W wr) (fun i _ => n - (intOf i).toNat)
  case atStart => exact ⟨0, Nat.zero_le _, rfl, rfl, Below.refl _ _⟩
  case round =>
    obtain ⟨x, hx, rfl, he, hb⟩ := hrel
    have He := hide he
    clear he
    by_cases hlt : x < n
    · obtain ⟨b1, o1, rfl, l1, k1⟩ : ∃ b o, p1 = some ⟨b, o, none⟩ ∧ b < wr.heap.size ∧ ∀ k, k < n → wr.cell? ⟨b, o + k, none⟩ = some (.bool (f k)) := by
        rcases ((unhide H1).keep hb).2 with h0 | h1
        · omega
        · exact h1
      obtain ⟨b2, o2, rfl, l2, k2⟩ : ∃ b o, p2 = some ⟨b, o, none⟩ ∧ b < wr.heap.size ∧ ∀ k, k < n → wr.cell? ⟨b, o + k, none⟩ = some (.bool (g k)) := by
        rcases ((unhide H2).keep hb).2 with h0 | h1
        · omega
        · exact h1
      have d1 := k1 x hlt
      have d2 := k2 x hlt
      have q1 : (x : Int) < (n : Int) := by omega
      have q2 : (0 : Int) ≤ (x : Int) := by omega
      clear k1 k2
      cases hv : (f x == g x) with
      | false =>
        have Hf := hide (eqN_false f g n x hlt hv)
        have hv' : (f x != g x) = true := by rw [bne, hv]; rfl
        clear hv
        generalize f x = a at *
        generalize g x = c at *
        have n1 : ((true : Bool) != false) = true := rfl
        have n2 : ((false : Bool) != true) = true := rfl
        cases a <;> cases c
        · cases hv'
        · clear hv'
          go_wp2_with fail
          go_quiet (fail)
          go_wp2
          go_ret
          exact ⟨ret_bool (unhide Hf).symm, btrans hb (Joins.below_draws _ _ _)⟩
        · clear hv'
          go_wp2_with fail
          go_quiet (fail)
          go_wp2
          go_ret
          exact ⟨ret_bool (unhide Hf).symm, btrans hb (Joins.below_draws _ _ _)⟩
        · cases hv'
      | true =>
        have Hf := hide (show eqN f g (x + 1) = true by rw [eqN_succ, unhide He, hv]; rfl)
        have hv' : (f x != g x) = false := by rw [bne, hv]; rfl
        clear hv
        generalize f x = a at *
        generalize g x = c at *
        cases a <;> cases c
        · clear hv'
          go_wp2_with fail
          go_quiet (fail)
          go_wp2
          go_roundw
          case rel => exact ⟨x + 1, by omega, by go_num, unhide Hf, btrans hb (Joins.below_draws _ _ _)⟩
          case measure => simp [intOf]; omega
        · cases hv'
        · cases hv'
        · clear hv'
          go_wp2_with fail
          go_quiet (fail)
          go_wp2
          go_roundw
          case rel => exact ⟨x + 1, by omega, by go_num, unhide Hf, btrans hb (Joins.below_draws _ _ _)⟩
          case measure => simp [intOf]; omega
    · obtain rfl : x = n := by omega
      have cl : ¬ ((x : Int) < (x : Int)) := by omega
      go_wp2
      go_ret
      exact ⟨ret_bool (unhide He).symm, hb⟩

/-- two rows of truths are alike -/
def rwE (f : Nat → Bool) (w u y : Nat) : Bool := eqN (fun x => f (u * w + x)) (fun x => f (y * w + x)) w

theorem row_lt {w h x y : Nat} (hx : x < w) (hy : y < h) : y * w + x < w * h := by
  have := Nat.mul_le_mul_right w (show y + 1 ≤ h by omega)
  rw [mul_step, Nat.mul_comm h w] at this
  omega

set_option maxHeartbeats 1000000 in
theorem bit_ok {W : World} {w h : Nat} {p : Option Addr} {n cap : Nat} {f : Nat → Bool} (r : Rt W w h p n cap f) (y x : Nat) (hy : y < h) (hx : x < w) :
    Calls Try.prog 36 #[tr w h p n cap, .int .i64 y, .int .i64 x] W fun e w' => e = .returned (.bool (f (y * w + x))) ∧ Below W.heap.size W w' := by
  have hw := r.1
  have hh := r.2.1
  have hk : y * w + x < n := by rw [r.2.2.1]; exact row_lt hx hy
  have r' := r.2.2.2.keep (bal (o := .cells #[.int .i64 w, .int .i64 h, .slice p n cap] 24) (Below.refl W.heap.size W))
  obtain ⟨b, o, rfl, hb, hc⟩ := bs_at r' hk
  have hn4 : n ≤ 4096 := by rw [r.2.2.1]; exact Nat.mul_le_mul hw hh
  obtain ⟨yw, hyw⟩ : ∃ yw : Nat, yw = y * w := ⟨_, rfl⟩
  rw [← hyw] at hk hc ⊢
  have e3 : wrap64 ((y : Int) * (w : Int)) = (yw : Int) := by
    rw [hyw, ← Int.natCast_mul]
    exact Go.IntWalk.wrap64_in _ (by omega)
  obtain ⟨k, hk2⟩ : ∃ k : Nat, k = yw + x := ⟨_, rfl⟩
  rw [← hk2] at hk hc ⊢
  have e4 : (yw : Int) + (x : Int) = (k : Int) := by omega
  have hkn : (k : Int) < (n : Int) := by omega
  have hk0 : (0 : Int) ≤ (k : Int) := by omega
  have q1 : (yw : Int) ≤ 4096 := by omega
  have q2 : (0 : Int) ≤ (yw : Int) := by omega
  have q3 : (x : Int) ≤ 64 := by omega
  clear r r' hyw hk2
  go_enter Try.func36, Try.ntmps36
  go_wp2
  go_ret
  exact ⟨rfl, bal (Below.refl _ _)⟩

set_option maxRecDepth 100000 in
set_option maxHeartbeats 2000000 in
theorem rows_alike_ok {W : World} {w h : Nat} {p : Option Addr} {n cap : Nat} {f : Nat → Bool} (r : Rt W w h p n cap f) (y z : Nat) (hy : y < h) (hz : z < h) :
    Calls Try.prog 22 #[tr w h p n cap, .int .i64 y, .int .i64 z] W fun e w' => e = .returned (.bool (rwE f w y z)) ∧ Below W.heap.size W w' := by
  have hw := r.1
  have T0 := hide (Tb.new r)
  have B0 := hide (bal (o := .cells #[.int .i64 w, .int .i64 h, .slice p n cap] 24) (Below.refl W.heap.size W))
  clear r
  go_enter Try.func22, Try.ntmps22
  go_wp2
  generalize W.alloc (.cells #[.int .i64 w, .int .i64 h, .slice p n cap] 24) = w0 at *
  go_loopw [7] (fun c wr => ∃ x : Nat, x ≤ w ∧ c = .int .i64 x ∧ eqN (fun x => f (y * w + x)) (fun x => f (z * w + x)) x = true ∧ Below w0.heap.size w0 wr) (fun c _ => w - (intOf c).toNat)
  case atStart => exact ⟨0, Nat.zero_le _, rfl, rfl, Below.refl _ _⟩
  case round =>
    obtain ⟨x, hx, rfl, he, hb⟩ := hrel
    have He := hide he
    have m1 := ((unhide T0).1.keep hb).2
    clear he
    by_cases hlt : x < w
    · have q1 : (x : Int) < (w : Int) := by omega
      have Hby := hide (show ∀ V, Below wr.heap.size wr V → Calls Try.prog 36 #[tr w h p n cap, .int .i64 y, .int .i64 x] V fun e w' => e = .returned (.bool (f (y * w + x))) ∧ Below V.heap.size V w' from fun V hV => bit_ok ((unhide T0).2.keep (btrans hb hV)) y x hy hlt)
      have Hbz := hide (show ∀ V, Below wr.heap.size wr V → Calls Try.prog 36 #[tr w h p n cap, .int .i64 z, .int .i64 x] V fun e w' => e = .returned (.bool (f (z * w + x))) ∧ Below V.heap.size V w' from fun V hV => bit_ok ((unhide T0).2.keep (btrans hb hV)) z x hz hlt)
      have Hld := hide (show ∀ V, Below wr.heap.size wr V → V.cell? ⟨W.heap.size, 0, none⟩ = some (.int .i64 w) ∧ V.cell? ⟨W.heap.size, 1, none⟩ = some (.int .i64 h) ∧ V.cell? ⟨W.heap.size, 2, none⟩ = some (.slice p n cap) from fun V hV => ((unhide T0).1.keep (btrans hb hV)).2)
      have Hs := hide (show eqN (fun x => f (y * w + x)) (fun x => f (z * w + x)) (x + 1) = (f (y * w + x) == f (z * w + x)) by rw [eqN_succ, unhide He]; simp)
      have Hf := hide (show (f (y * w + x) == f (z * w + x)) = false → rwE f w y z = false from fun e => eqN_false _ _ w x hlt e)
      generalize f (y * w + x) = a at *
      generalize f (z * w + x) = c at *
      have Hb := hide hb
      have Hlt := hide hlt
      clear hb hlt
      go_wp2_with fail
      clear m1
      have hb2 := True.intro
      have hb3 := True.intro
      go_region_held3 (fun V => Below wr.heap.size wr V ∧ V.cell? ⟨W.heap.size, 0, none⟩ = some (.int .i64 w) ∧ V.cell? ⟨W.heap.size, 1, none⟩ = some (.int .i64 h) ∧ V.cell? ⟨W.heap.size, 2, none⟩ = some (.slice p n cap))
        (first
          | (exact ⟨Below.drew (Below.refl _ _), unhide Hld _ (Below.drew (Below.refl _ _))⟩)
          | (exact ⟨hb3, unhide Hld _ hb3⟩)
          | (exact ⟨hb2, unhide Hld _ hb2⟩))
        (first
          | (go_at_call_of 36 (Value.int .i64 (y : Int)); refine (unhide Hby _ (by first | exact hb2 | exact Below.drew (Below.refl _ _))).mono ?_; rintro e w10 ⟨rfl, hb⟩; have hb3 := btrans (by first | exact hb2 | exact Below.drew (Below.refl _ _)) hb)
          | (go_at_call_of 36 (Value.int .i64 (z : Int)); refine (unhide Hbz _ (by first | exact hb3 | exact Below.drew (Below.refl _ _))).mono ?_; rintro e w11 ⟨rfl, hb⟩; have hb2 := btrans (by first | exact hb3 | exact Below.drew (Below.refl _ _)) hb))
      have S5 := hide (btrans (unhide Hb) hb2)
      have hlt := unhide Hlt
      clear hb hb2 hb3 Hby Hbz Hld
      have eq1 : ∀ a : Bool, (a == a) = true := fun a => by cases a <;> rfl
      have go1 : a = c → eqN (fun x => f (y * w + x)) (fun x => f (z * w + x)) (x + 1) = true := fun e => by rw [unhide Hs, e]; exact eq1 c
      have Hgo := hide go1
      clear go1 eq1 Hs
      cases a <;> cases c
      · go_wp2
        go_roundw
        case rel => exact ⟨x + 1, by omega, by go_num, unhide Hgo rfl, unhide S5⟩
        case measure => simp [intOf]; omega
      · have Sf := hide (btrans (unhide B0) (unhide S5))
        go_wp2
        go_ret
        exact ⟨ret_bool (unhide Hf rfl).symm, unhide Sf⟩
      · have Sf := hide (btrans (unhide B0) (unhide S5))
        go_wp2
        go_ret
        exact ⟨ret_bool (unhide Hf rfl).symm, unhide Sf⟩
      · go_wp2
        go_roundw
        case rel => exact ⟨x + 1, by omega, by go_num, unhide Hgo rfl, unhide S5⟩
        case measure => simp [intOf]; omega
    · obtain rfl : x = w := by omega
      have cl : ¬ ((x : Int) < (x : Int)) := by omega
      have Sf := hide (btrans (unhide B0) hb)
      go_wp2
      go_ret
      exact ⟨ret_bool (unhide He).symm, unhide Sf⟩

set_option maxHeartbeats 1000000 in
theorem same_any (w h : Int) (p : Option Addr) (n cap : Nat) (f : Nat → Bool) (p2 : Option Addr) (cap2 : Nat) (g : Nat → Bool) (W : World) (hn : n ≤ 4096) (h1 : Bs W p n cap f) (h2 : Bs W p2 n cap2 g) (he : ∀ j, j < n → f j = g j) :
    Calls Try.prog 10 #[tr w h p n cap, tr w h p2 n cap2] W fun e w' => e = .returned (.bool true) ∧ Below W.heap.size W w' := by
  have B0 := bal (o := .cells #[.int .i64 w, .int .i64 h, .slice p2 n cap2] 24) (bal (o := .cells #[.int .i64 w, .int .i64 h, .slice p n cap] 24) (Below.refl W.heap.size W))
  have R1 := hide (h1.keep B0)
  have R2 := hide (h2.keep B0)
  have C1 := (OwnM.new W w h p n cap 24).alloc (.cells #[.int .i64 w, .int .i64 h, .slice p2 n cap2] 24)
  have C2 := OwnM.new (W.alloc (.cells #[.int .i64 w, .int .i64 h, .slice p n cap] 24)) w h p2 n cap2 24
  rw [World.size_alloc] at C2
  have HB := hide B0
  have He := hide he
  have hww : (w != w) = false := by simp
  have hhh : (h != h) = false := by simp
  have hnn : ((n : Int) != (n : Int)) = false := by simp
  clear h1 h2 B0 he
  go_enter Try.func10, Try.ntmps10
  go_wp2
  generalize (W.alloc (.cells #[.int .i64 w, .int .i64 h, .slice p n cap] 24)).alloc (.cells #[.int .i64 w, .int .i64 h, .slice p2 n cap2] 24) = w0 at *
  go_loopw [30] (fun i wr => ∃ k : Nat, k ≤ n ∧ i = .int .i64 k ∧ Below w0.heap.size w0 wr) (fun i _ => n - (intOf i).toNat)
  case atStart => exact ⟨0, Nat.zero_le _, rfl, Below.refl _ _⟩
  case round =>
    obtain ⟨k, hk, rfl, hbel⟩ := hrel
    by_cases hlt : k < n
    · have c1 := (C1.keep hbel).2.2.2
      have c2 := (C2.keep hbel).2.2.2
      obtain ⟨b1, o1, rfl, l1, k1⟩ : ∃ b o, p = some ⟨b, o, none⟩ ∧ b < wr.heap.size ∧ ∀ k, k < n → wr.cell? ⟨b, o + k, none⟩ = some (.bool (f k)) := by
        rcases ((unhide R1).keep hbel).2 with h0 | h1
        · omega
        · exact h1
      obtain ⟨b2, o2, rfl, l2, k2⟩ : ∃ b o, p2 = some ⟨b, o, none⟩ ∧ b < wr.heap.size ∧ ∀ k, k < n → wr.cell? ⟨b, o + k, none⟩ = some (.bool (g k)) := by
        rcases ((unhide R2).keep hbel).2 with h0 | h1
        · omega
        · exact h1
      have x1 := k1 k hlt
      have x2 := k2 k hlt
      rw [← unhide He k hlt] at x2
      have q1 : (k : Int) < (n : Int) := by omega
      have q2 : (0 : Int) ≤ (k : Int) := by omega
      generalize f k = c at *
      clear k1 k2
      cases c
      all_goals
        go_wp2_with fail
        go_quiet (fail)
        go_wp2
        go_roundw
        case rel => exact ⟨k + 1, by omega, by go_num, btrans hbel (Joins.below_draws _ _ _)⟩
        case measure => simp [intOf]; omega
    · have e : k = n := by omega
      subst e
      have cl : ¬ ((k : Int) < (k : Int)) := by omega
      go_wp2
      go_ret
      exact ⟨rfl, btrans (unhide HB) hbel⟩

theorem same_ok {W : World} {w h : Nat} {p : Option Addr} {n cap : Nat} {f : Nat → Bool} {p2 : Option Addr} {cap2 : Nat} {g : Nat → Bool} (r : Rt W w h p n cap f) (r2 : Rt W w h p2 n cap2 g) (he : ∀ j, j < n → f j = g j) :
    Calls Try.prog 10 #[tr w h p n cap, tr w h p2 n cap2] W fun e w' => e = .returned (.bool true) ∧ Below W.heap.size W w' :=
  same_any w h p n cap f p2 cap2 g W (by rw [r.2.2.1]; exact Nat.mul_le_mul r.1 r.2.1) r.2.2.2 r2.2.2.2 he
end Go.Proofs.Ytkjicpbnkehimaa
