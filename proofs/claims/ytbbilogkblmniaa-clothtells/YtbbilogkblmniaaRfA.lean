/-
  The document's cloth: Wrong, Bit, Above.
-/
import Derived.Test.YtbbilogkblmniaaClC
namespace Go.Proofs.Ytbbilogkblmniaa
open Go.RowKit

set_option maxHeartbeats 1000000 in
theorem rcw_walk (w h : Int) (p : Option Addr) (n cap : Nat) (W : World) (er : Int) (HW : Hid (∀ V, WrongIs 33 w h p n cap V er)) (hr : (er ≠ 0) ∨ (er = 0 ∧ n = 0) ∨ (er = 0 ∧ n ≠ 0)) : WrongIs 20 w h p n cap W (if er = 0 then (if n = 0 then 5 else 0) else er) := by
  unfold WrongIs
  have hO := OwnM.new W w h p n cap 24
  have B0 := bal (o := .cells #[.int .i64 w, .int .i64 h, .slice p n cap] 24) (Below.refl W.heap.size W)
  have HO := hide hO
  have HB0 := hide B0
  clear hO B0
  rcases hr with hr | ⟨rfl, rfl⟩ | ⟨rfl, hn⟩
  · rw [if_neg hr]
    have hr' : (er != 0) = true := by simp [hr]
    clear hr
    go_enter Try.func20, Try.ntmps20
    go_wp2_with fail
    refine (unhide HW _).mono ?_
    rintro e w1 ⟨rfl, hb⟩
    have HB := hide (btrans (unhide HB0) hb)
    clear hb
    go_wp2
    go_ret
    exact ⟨rfl, unhide HB⟩
  · simp only [if_true]
    go_enter Try.func20, Try.ntmps20
    go_wp2_with fail
    refine (unhide HW _).mono ?_
    rintro e w1 ⟨rfl, hb⟩
    have HB := hide (btrans (unhide HB0) hb)
    obtain ⟨k1, k2, k3, k4⟩ := (unhide HO).keep hb
    clear hb
    go_wp2
    go_ret
    exact ⟨rfl, unhide HB⟩
  · rw [if_pos rfl, if_neg hn]
    have hn' : ((n : Int) == 0) = false := by simp; omega
    clear hn
    go_enter Try.func20, Try.ntmps20
    go_wp2_with fail
    refine (unhide HW _).mono ?_
    rintro e w1 ⟨rfl, hb⟩
    have HB := hide (btrans (unhide HB0) hb)
    obtain ⟨k1, k2, k3, k4⟩ := (unhide HO).keep hb
    clear hb
    go_wp2
    go_ret
    exact ⟨rfl, unhide HB⟩
theorem rcwrong_any (w h : Int) (p : Option Addr) (n cap : Nat) (W : World) : WrongIs 20 w h p n cap W (cE w h n) :=
  rcw_walk w h p n cap W (wE w h n) (hide fun V => rwrong_any w h p n cap V) (by
    by_cases e : wE w h n = 0
    · by_cases e2 : n = 0
      · exact .inr (.inl ⟨e, e2⟩)
      · exact .inr (.inr ⟨e, e2⟩)
    · exact .inl e)

set_option maxHeartbeats 1000000 in
theorem bit_ok {W : World} {w h : Nat} {p : Option Addr} {n cap : Nat} {f : Nat → Bool} (r : Rt W w h p n cap f) (a y : Nat) (ha : a < w) (hy : y < h) :
    Calls Try.prog 41 #[tr w h p n cap, .int .i64 y, .int .i64 a] W fun e w' => e = .returned (.bool (f (y * w + a))) ∧ Below W.heap.size W w' := by
  obtain ⟨pz, yw, k, z1, z2, e1, e2, e3, q1, q2, q3, q4, q5, q6, q7, q8⟩ := cross_nums w h y a n r.1 r.2.1 ha hy r.2.2.1
  have r' := r.2.2.2.keep (bal (o := .cells #[.int .i64 w, .int .i64 h, .slice p n cap] 24) (Below.refl W.heap.size W))
  obtain ⟨b, o, rfl, hl, hc⟩ := bs_at r' q5
  rw [← z2]
  clear z1 z2 r r' e1
  go_enter Try.func41, Try.ntmps41
  go_wp2
  go_ret
  exact ⟨rfl, bal (Below.refl _ _)⟩

def RAbIs (W : World) (w h : Nat) (p : Option Addr) (n cap : Nat) (a b : Nat) (v : Bool) : Prop := Calls Try.prog 34 #[tr w h p n cap, .int .i64 a, .int .i64 b] W fun e V => e = .returned (.bool v) ∧ Below W.heap.size W V
set_option maxHeartbeats 1000000 in
theorem rab_end {W : World} {w h : Nat} {p : Option Addr} {n cap : Nat} {f : Nat → Bool} (r : Rt W w h p n cap f) (a y : Nat) (ha : a < w) (hy : y < h) : RAbIs W w h p n cap a (w + y) (f (y * w + a)) := by
  unfold RAbIs
  have B0 := hide (bal (o := .cells #[.int .i64 w, .int .i64 h, .slice p n cap] 24) (Below.refl W.heap.size W))
  have HC := hide (bit_ok (r.keep (unhide B0)) a y ha hy)
  have hw := r.1
  have hh := r.2.1
  obtain ⟨pz, z1⟩ : ∃ pz : Int, pz = ((w + y : Nat) : Int) := ⟨_, rfl⟩
  have e1 : pz - (w : Int) = (y : Int) := by omega
  have g1 : (a : Int) < (w : Int) := by omega
  have g2 : (w : Int) ≤ pz := by omega
  have g3 : pz ≤ 128 := by omega
  have g4 : (w : Int) ≤ 64 := by omega
  rw [← z1]
  generalize f (y * w + a) = v at *
  clear z1 r
  go_enter Try.func34, Try.ntmps34
  go_wp2_with fail
  refine (unhide HC).mono ?_
  rintro e w1 ⟨rfl, hb⟩
  have HB := hide (btrans (unhide B0) hb)
  clear hb
  go_wp2
  go_ret
  exact ⟨rfl, unhide HB⟩
set_option maxHeartbeats 1000000 in
theorem rab_pick {W : World} {w h : Nat} {p : Option Addr} {n cap : Nat} {f : Nat → Bool} (r : Rt W w h p n cap f) (a y : Nat) (ha : a < w) (hy : y < h) : RAbIs W w h p n cap (w + y) a (!f (y * w + a)) := by
  unfold RAbIs
  have B0 := hide (bal (o := .cells #[.int .i64 w, .int .i64 h, .slice p n cap] 24) (Below.refl W.heap.size W))
  have HC := hide (bit_ok (r.keep (unhide B0)) a y ha hy)
  have hw := r.1
  have hh := r.2.1
  obtain ⟨pz, z1⟩ : ∃ pz : Int, pz = ((w + y : Nat) : Int) := ⟨_, rfl⟩
  have e1 : pz - (w : Int) = (y : Int) := by omega
  have g1 : (a : Int) < (w : Int) := by omega
  have g2 : (w : Int) ≤ pz := by omega
  have g2' : ¬ (pz < (w : Int)) := by omega
  have g2'' : decide (pz < (w : Int)) = false := by simp; omega
  have g3 : pz ≤ 128 := by omega
  have g4 : (w : Int) ≤ 64 := by omega
  rw [← z1]
  generalize f (y * w + a) = v at *
  clear z1 r
  go_enter Try.func34, Try.ntmps34
  go_wp2_with fail
  refine (unhide HC).mono ?_
  rintro e w1 ⟨rfl, hb⟩
  have HB := hide (btrans (unhide B0) hb)
  clear hb
  go_wp2
  go_ret
  exact ⟨rfl, unhide HB⟩
set_option maxHeartbeats 1000000 in
theorem rab_none {W : World} {w h : Nat} {p : Option Addr} {n cap : Nat} {f : Nat → Bool} (r : Rt W w h p n cap f) (a b : Nat) (hs : (a < w ∧ b < w) ∨ (w ≤ a ∧ w ≤ b)) : RAbIs W w h p n cap a b false := by
  unfold RAbIs
  have hw := r.1
  have g5 : (w : Int) ≤ 64 := by omega
  clear r
  rcases hs with ⟨h1, h2⟩ | ⟨h1, h2⟩
  · have g1 : (a : Int) < (w : Int) := by omega
    have g2 : (b : Int) < (w : Int) := by omega
    have g3 : decide ((w : Int) ≤ (b : Int)) = false := by simp; omega
    have g4 : decide ((w : Int) ≤ (a : Int)) = false := by simp; omega
    have g3' : ¬ ((w : Int) ≤ (b : Int)) := by omega
    have g4' : ¬ ((w : Int) ≤ (a : Int)) := by omega
    go_enter Try.func34, Try.ntmps34
    go_wp2
    go_ret
    exact ⟨rfl, bal (Below.refl _ _)⟩
  · have g1 : ¬ ((a : Int) < (w : Int)) := by omega
    have g2 : ¬ ((b : Int) < (w : Int)) := by omega
    have g3 : decide ((a : Int) < (w : Int)) = false := by simp; omega
    have g4 : decide ((b : Int) < (w : Int)) = false := by simp; omega
    have g5 : (w : Int) ≤ (a : Int) := by omega
    go_enter Try.func34, Try.ntmps34
    go_wp2
    go_ret
    exact ⟨rfl, bal (Below.refl _ _)⟩
theorem rab_any {W : World} {w h : Nat} {p : Option Addr} {n cap : Nat} {f : Nat → Bool} (r : Rt W w h p n cap f) (a b : Nat) (ha : a < w + h) (hb : b < w + h) : RAbIs W w h p n cap a b (ab f w a b) := by
  unfold ab
  by_cases h1 : a < w
  · by_cases h2 : b < w
    · rw [if_pos h1, if_pos h2]; exact rab_none r a b (.inl ⟨h1, h2⟩)
    · rw [if_pos h1, if_neg h2]
      obtain ⟨y, rfl⟩ : ∃ y, b = w + y := ⟨b - w, by omega⟩
      rw [Nat.add_sub_cancel_left]
      exact rab_end r a y h1 (by omega)
  · by_cases h2 : b < w
    · rw [if_neg h1, if_pos h2]
      obtain ⟨y, rfl⟩ : ∃ y, a = w + y := ⟨a - w, by omega⟩
      rw [Nat.add_sub_cancel_left]
      exact rab_pick r b y h2 (by omega)
    · rw [if_neg h1, if_neg h2]; exact rab_none r a b (.inr ⟨by omega, by omega⟩)
end Go.Proofs.Ytbbilogkblmniaa
