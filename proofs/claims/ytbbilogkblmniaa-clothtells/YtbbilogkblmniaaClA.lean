/-
  What is wrong with a cloth; who lies above whom (crossings, and the functions that it makes).
-/
import Derived.Test.YtbbilogkblmniaaCb
import Derived.Laws.EntriesVeiled
import Derived.Test.YtbbilogkblmniaaClM
namespace Go.Proofs.Ytbbilogkblmniaa
open Go.RowKit

/-- what is wrong with a cloth -/
def cE (w h : Int) (n : Nat) : Int := if wE w h n = 0 then (if n = 0 then 5 else 0) else wE w h n

set_option maxHeartbeats 1000000 in
theorem cw_walk (w h : Int) (p : Option Addr) (n cap : Nat) (W : World) (er : Int) (HW : Hid (∀ V, WrongIs 28 w h p n cap V er)) (hr : (er ≠ 0) ∨ (er = 0 ∧ n = 0) ∨ (er = 0 ∧ n ≠ 0)) : WrongIs 17 w h p n cap W (if er = 0 then (if n = 0 then 5 else 0) else er) := by
  unfold WrongIs
  have hO := OwnM.new W w h p n cap 24
  have B0 := bal (o := .cells #[.int .i64 w, .int .i64 h, .slice p n cap] 24) (Below.refl W.heap.size W)
  have HO := hide hO
  have HB0 := hide B0
  clear hO B0
  rcases hr with hr | ⟨rfl, rfl⟩ | ⟨rfl, hn⟩
  · rw [if_neg hr]
    have hr' : (er != 0) = true := by simp [hr]
    clear hr
    go_enter Try.func17, Try.ntmps17
    go_wp2_with fail
    refine (unhide HW _).mono ?_
    rintro e w1 ⟨rfl, hb⟩
    have HB := hide (btrans (unhide HB0) hb)
    clear hb
    go_wp2
    go_ret
    exact ⟨rfl, unhide HB⟩
  · simp only [if_true]
    go_enter Try.func17, Try.ntmps17
    go_wp2_with fail
    refine (unhide HW _).mono ?_
    rintro e w1 ⟨rfl, hb⟩
    have HB := hide (btrans (unhide HB0) hb)
    obtain ⟨k1, k2, k3, k4⟩ := (unhide HO).keep hb
    clear hb
    go_wp2
    go_ret
    exact ⟨rfl, unhide HB⟩
  · rw [if_pos rfl, if_neg hn]
    have hn' : ((n : Int) == 0) = false := by simp; omega
    clear hn
    go_enter Try.func17, Try.ntmps17
    go_wp2_with fail
    refine (unhide HW _).mono ?_
    rintro e w1 ⟨rfl, hb⟩
    have HB := hide (btrans (unhide HB0) hb)
    obtain ⟨k1, k2, k3, k4⟩ := (unhide HO).keep hb
    clear hb
    go_wp2
    go_ret
    exact ⟨rfl, unhide HB⟩
theorem cwrong_any (w h : Int) (p : Option Addr) (n cap : Nat) (W : World) : WrongIs 17 w h p n cap W (cE w h n) :=
  cw_walk w h p n cap W (wE w h n) (hide fun V => wrong_any w h p n cap V) (by
    by_cases e : wE w h n = 0
    · by_cases e2 : n = 0
      · exact .inr (.inl ⟨e, e2⟩)
      · exact .inr (.inr ⟨e, e2⟩)
    · exact .inl e)

theorem cE_zero {w h : Int} {n : Nat} (he : cE w h n = 0) : ∃ w' h' : Nat, w = w' ∧ h = h' ∧ w' ≤ 64 ∧ h' ≤ 64 ∧ n = w' * h' ∧ 0 < n := by
  unfold cE at he
  split at he
  · rename_i e
    obtain ⟨w', h', e1, e2, e3, e4, e5⟩ := wE_zero w h n e
    exact ⟨w', h', e1, e2, e3, e4, e5, by
      split at he
      · omega
      · omega⟩
  · rename_i e
    exact absurd he e

/-- what crossings makes lies there -/
def Cr (V : World) (b1 b3 b4 w h : Nat) (p : Option Addr) (n cap : Nat) (f : Nat → Bool) : Prop :=
  Tb V b1 w h p n cap f ∧ (b3 < V.heap.size ∧ V.cell? ⟨b3, 0, none⟩ = some (.func (.func 29) #[] #[.pointer (some ⟨b1, 0, none⟩)])) ∧ (b4 < V.heap.size ∧ V.cell? ⟨b4, 0, none⟩ = some (.func (.func 30) #[] #[.pointer (some ⟨b1, 0, none⟩)]))
theorem Cr.keep {V V' : World} {b1 b3 b4 w h : Nat} {p : Option Addr} {n cap : Nat} {f : Nat → Bool} (c : Cr V b1 b3 b4 w h p n cap f) (hb : Below V.heap.size V V') : Cr V' b1 b3 b4 w h p n cap f :=
  ⟨c.1.keep hb, ⟨Nat.lt_of_lt_of_le c.2.1.1 hb.size, keepC hb c.2.1.1 c.2.1.2⟩, ⟨Nat.lt_of_lt_of_le c.2.2.1 hb.size, keepC hb c.2.2.1 c.2.2.2⟩⟩

set_option maxHeartbeats 1000000 in
theorem crossings_any {W : World} {w h : Nat} {p : Option Addr} {n cap : Nat} {f : Nat → Bool} (r : Rt W w h p n cap f) :
    Calls Try.prog 18 #[tr w h p n cap] W fun e V => ∃ b1 b3 b4, e = .returned (.func (.func 31) #[] #[.pointer (some ⟨b3, 0, none⟩), .pointer (some ⟨b4, 0, none⟩)]) ∧ Cr V b1 b3 b4 w h p n cap f ∧ Below W.heap.size W V := by
  have t := hide (Tb.new r)
  clear r
  go_enter Try.func18, Try.ntmps18
  go_wp2

  go_ret
  have B0 := bal (o := .cells #[.int .i64 w, .int .i64 h, .slice p n cap] 24) (Below.refl W.heap.size W)
  refine ⟨W.heap.size, W.heap.size + 1, W.heap.size + 2, rfl, ⟨(unhide t).keep ?_, ⟨by simp, by simp [go_sem]⟩, ⟨by simp, by simp [go_sem]⟩⟩, ?_⟩
  · exact bal (bal (Below.refl _ _))
  · exact bal (bal B0)

set_option maxHeartbeats 1000000 in
theorem isend_any {V : World} {b1 w h : Nat} {p : Option Addr} {n cap : Nat} {f : Nat → Bool} (t : Tb V b1 w h p n cap f) (a : Nat) :
    Calls Try.prog 29 #[.int .i64 a, .pointer (some ⟨b1, 0, none⟩)] V fun e V' => e = .returned (.bool (decide (a < w))) ∧ V' = V := by
  obtain ⟨k1, k2, k3, k4⟩ := t.1
  clear t
  go_enter Try.func29, Try.ntmps29
  go_wp2
  go_ret
  exact ⟨rfl, rfl⟩

theorem cross_nums (w h y a n : Nat) (hw : w ≤ 64) (hh : h ≤ 64) (ha : a < w) (hy : y < h) (hn : n = w * h) : ∃ (pz : Int) (yw k : Nat), pz = ((w + y : Nat) : Int) ∧ k = y * w + a ∧ pz - (w : Int) = (y : Int) ∧ wrap64 ((y : Int) * (w : Int)) = (yw : Int) ∧ (yw : Int) + (a : Int) = (k : Int) ∧ (0 : Int) ≤ (yw : Int) ∧ (yw : Int) ≤ 4096 ∧ (0 : Int) ≤ (k : Int) ∧ (k : Int) < (n : Int) ∧ k < n ∧ 0 ≤ pz ∧ pz ≤ 128 ∧ (a : Int) ≤ 64 := by
  have h1 : y * w ≤ 4096 := Nat.mul_le_mul (show y ≤ 64 by omega) hw
  have h2 : y * w + w ≤ w * h := by
    have := Nat.mul_le_mul_right w (show y + 1 ≤ h by omega)
    rw [mul_step, Nat.mul_comm h w] at this
    exact this
  refine ⟨((w + y : Nat) : Int), y * w, y * w + a, rfl, rfl, by omega, ?_, by omega, by omega, by omega, by omega, by omega, by omega, by omega, by omega, by omega⟩
  rw [← Int.natCast_mul]; exact Go.IntWalk.wrap64_in _ (by omega)

set_option maxHeartbeats 1000000 in
theorem endabove_any {V : World} {b1 w h : Nat} {p : Option Addr} {n cap : Nat} {f : Nat → Bool} (t : Tb V b1 w h p n cap f) (a y : Nat) (ha : a < w) (hy : y < h) :
    Calls Try.prog 30 #[.int .i64 a, .int .i64 ((w + y : Nat) : Int), .pointer (some ⟨b1, 0, none⟩)] V fun e V' => e = .returned (.bool (f (y * w + a))) ∧ V' = V := by
  obtain ⟨k1, k2, k3, k4⟩ := t.1
  obtain ⟨pz, yw, k, z1, z2, e1, e2, e3, q1, q2, q3, q4, q5, q6, q7, q8⟩ := cross_nums w h y a n t.2.1 t.2.2.1 ha hy t.2.2.2.1
  obtain ⟨b, o, rfl, hl, hc⟩ := bs_at t.2.2.2.2 q5
  rw [← z1, ← z2]
  clear z1 z2 t
  go_enter Try.func30, Try.ntmps30
  go_wp2
  go_ret
  exact ⟨rfl, rfl⟩

/-- one lies above the other: what the function that crossings makes answers -/
def AbIs (V : World) (b3 b4 : Nat) (a b : Nat) (v : Bool) : Prop := Calls Try.prog 31 #[.int .i64 a, .int .i64 b, .pointer (some ⟨b3, 0, none⟩), .pointer (some ⟨b4, 0, none⟩)] V fun e V' => e = .returned (.bool v) ∧ Below V.heap.size V V'

set_option maxHeartbeats 2000000 in
theorem above_same {V : World} {b1 b3 b4 w h : Nat} {p : Option Addr} {n cap : Nat} {f : Nat → Bool} (c : Cr V b1 b3 b4 w h p n cap f) (a b : Nat) (hs : decide (a < w) = decide (b < w)) : AbIs V b3 b4 a b false := by
  unfold AbIs
  have HI := hide (fun k x => isend_any (c.1.keep (Joins.below_draws _ V k)) x)
  have c3 := c.2.1.2
  clear c
  go_enter Try.func31, Try.ntmps31
  go_wp2_with fail
  go_quiet (first | (go_at_call 29; exact Calls.quiet_of_same (unhide HI _ _)))
  go_wp2
  go_ret
  exact ⟨rfl, Joins.below_draws _ _ _⟩
set_option maxHeartbeats 2000000 in
theorem above_end {V : World} {b1 b3 b4 w h : Nat} {p : Option Addr} {n cap : Nat} {f : Nat → Bool} (c : Cr V b1 b3 b4 w h p n cap f) (a y : Nat) (ha : a < w) (hy : y < h) : AbIs V b3 b4 a (w + y) (f (y * w + a)) := by
  unfold AbIs
  have h1 : decide (a < w) = true := by simpa using ha
  have h2 : decide (w + y < w) = false := by simp
  have HI := hide (fun k => by have := isend_any (c.1.keep (Joins.below_draws _ V k)) a; rw [h1] at this; exact this)
  have HJ := hide (fun k => by have := isend_any (c.1.keep (Joins.below_draws _ V k)) (w + y); rw [h2] at this; exact this)
  have HE := hide (fun k => endabove_any (c.1.keep (Joins.below_draws _ V k)) a y ha hy)
  have c3 := c.2.1.2
  have c4 := c.2.2.2
  generalize f (y * w + a) = v at *
  generalize ((w + y : Nat) : Int) = z at *
  clear c h1 h2 ha hy
  go_enter Try.func31, Try.ntmps31
  go_wp2_with fail
  go_quiet (first | (go_at_call 29; first | exact Calls.quiet_of_same (unhide HI _) | exact Calls.quiet_of_same (unhide HJ _)))
  go_wp2_with (first
    | (go_at_call 29; refine (unhide HI _).mono ?_; rintro e w' ⟨rfl, rfl⟩)
    | (go_at_call 30; refine (unhide HE _).mono ?_; rintro e w' ⟨rfl, rfl⟩))
  go_ret
  exact ⟨rfl, Joins.below_draws _ _ _⟩
set_option maxHeartbeats 2000000 in
theorem above_pick {V : World} {b1 b3 b4 w h : Nat} {p : Option Addr} {n cap : Nat} {f : Nat → Bool} (c : Cr V b1 b3 b4 w h p n cap f) (a y : Nat) (ha : a < w) (hy : y < h) : AbIs V b3 b4 (w + y) a (!f (y * w + a)) := by
  unfold AbIs
  have h1 : decide (a < w) = true := by simpa using ha
  have h2 : decide (w + y < w) = false := by simp
  have HI := hide (fun k => by have := isend_any (c.1.keep (Joins.below_draws _ V k)) a; rw [h1] at this; exact this)
  have HJ := hide (fun k => by have := isend_any (c.1.keep (Joins.below_draws _ V k)) (w + y); rw [h2] at this; exact this)
  have HE := hide (fun k => endabove_any (c.1.keep (Joins.below_draws _ V k)) a y ha hy)
  have c3 := c.2.1.2
  have c4 := c.2.2.2
  generalize f (y * w + a) = v at *
  generalize ((w + y : Nat) : Int) = z at *
  clear c h1 h2 ha hy
  go_enter Try.func31, Try.ntmps31
  go_wp2_with fail
  go_quiet (first | (go_at_call 29; first | exact Calls.quiet_of_same (unhide HI _) | exact Calls.quiet_of_same (unhide HJ _)))
  go_wp2_with (first
    | (go_at_call 29; refine (unhide HJ _).mono ?_; rintro e w' ⟨rfl, rfl⟩)
    | (go_at_call 30; refine (unhide HE _).mono ?_; rintro e w' ⟨rfl, rfl⟩))
  go_ret
  exact ⟨rfl, Joins.below_draws _ _ _⟩
theorem above_any {V : World} {b1 b3 b4 w h : Nat} {p : Option Addr} {n cap : Nat} {f : Nat → Bool} (c : Cr V b1 b3 b4 w h p n cap f) (a b : Nat) (ha : a < w + h) (hb : b < w + h) : AbIs V b3 b4 a b (ab f w a b) := by
  unfold ab
  by_cases h1 : a < w
  · by_cases h2 : b < w
    · rw [if_pos h1, if_pos h2]; exact above_same c a b (by simp [h1, h2])
    · rw [if_pos h1, if_neg h2]
      obtain ⟨y, rfl⟩ : ∃ y, b = w + y := ⟨b - w, by omega⟩
      rw [Nat.add_sub_cancel_left]
      exact above_end c a y h1 (by omega)
  · by_cases h2 : b < w
    · rw [if_neg h1, if_pos h2]
      obtain ⟨y, rfl⟩ : ∃ y, a = w + y := ⟨a - w, by omega⟩
      rw [Nat.add_sub_cancel_left]
      exact above_pick c b y h2 (by omega)
    · rw [if_neg h1, if_neg h2]; exact above_same c a b (by simp [h1, h2])
end Go.Proofs.Ytbbilogkblmniaa
