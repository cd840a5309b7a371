/-
  The law's lies and free.
-/
import Derived.Test.YtbbilogkblmniaaClC
namespace Go.Proofs.Ytbbilogkblmniaa
open Go.RowKit

def LiesIs (W : World) (w h : Nat) (p : Option Addr) (n cap : Nat) (a b : Nat) (v : Bool) : Prop := Calls Try.prog 27 #[tr w h p n cap, .int .i64 a, .int .i64 b] W fun e V => e = .returned (.bool v) ∧ Below W.heap.size W V

set_option maxHeartbeats 1000000 in
theorem lies_end {W : World} {w h : Nat} {p : Option Addr} {n cap : Nat} {f : Nat → Bool} (r : Rt W w h p n cap f) (a y : Nat) (ha : a < w) (hy : y < h) : LiesIs W w h p n cap a (w + y) (f (y * w + a)) := by
  unfold LiesIs
  obtain ⟨pz, yw, k, z1, z2, e1, e2, e3, q1, q2, q3, q4, q5, q6, q7, q8⟩ := cross_nums w h y a n r.1 r.2.1 ha hy r.2.2.1
  have r' := r.2.2.2.keep (bal (o := .cells #[.int .i64 w, .int .i64 h, .slice p n cap] 24) (Below.refl W.heap.size W))
  obtain ⟨b, o, rfl, hl, hc⟩ := bs_at r' q5
  have hw := r.1
  have hh := r.2.1
  have g1 : (a : Int) < (w : Int) := by omega
  have g2 : (w : Int) ≤ pz := by omega
  have g3 : pz < (w : Int) + (h : Int) := by omega
  have g4 : (0 : Int) ≤ (a : Int) := by omega
  have g5 : (w : Int) ≤ 64 := by omega
  have g6 : (h : Int) ≤ 64 := by omega
  rw [← z1, ← z2]
  clear z1 z2 r r'
  go_enter Try.func27, Try.ntmps27
  go_wp2
  go_ret
  exact ⟨rfl, bal (Below.refl _ _)⟩
set_option maxHeartbeats 1000000 in
theorem lies_pick {W : World} {w h : Nat} {p : Option Addr} {n cap : Nat} {f : Nat → Bool} (r : Rt W w h p n cap f) (a y : Nat) (ha : a < w) (hy : y < h) : LiesIs W w h p n cap (w + y) a (!f (y * w + a)) := by
  unfold LiesIs
  obtain ⟨pz, yw, k, z1, z2, e1, e2, e3, q1, q2, q3, q4, q5, q6, q7, q8⟩ := cross_nums w h y a n r.1 r.2.1 ha hy r.2.2.1
  have r' := r.2.2.2.keep (bal (o := .cells #[.int .i64 w, .int .i64 h, .slice p n cap] 24) (Below.refl W.heap.size W))
  obtain ⟨b, o, rfl, hl, hc⟩ := bs_at r' q5
  have hw := r.1
  have hh := r.2.1
  have g0 : decide (pz < (w : Int)) = false := by simp; omega
  have g0' : ¬ (pz < (w : Int)) := by omega
  have g1 : (a : Int) < (w : Int) := by omega
  have g2 : (w : Int) ≤ pz := by omega
  have g3 : pz < (w : Int) + (h : Int) := by omega
  have g4 : (0 : Int) ≤ (a : Int) := by omega
  have g5 : (w : Int) ≤ 64 := by omega
  have g6 : (h : Int) ≤ 64 := by omega
  rw [← z1, ← z2]
  clear z1 z2 r r'
  go_enter Try.func27, Try.ntmps27
  go_wp2
  go_ret
  exact ⟨rfl, bal (Below.refl _ _)⟩
set_option maxHeartbeats 1000000 in
theorem lies_none {W : World} {w h : Nat} {p : Option Addr} {n cap : Nat} {f : Nat → Bool} (r : Rt W w h p n cap f) (a b : Nat) (hs : (a < w ∧ b < w) ∨ (w ≤ a ∧ w ≤ b)) : LiesIs W w h p n cap a b false := by
  unfold LiesIs
  have hw := r.1
  have hh := r.2.1
  have g5 : (w : Int) ≤ 64 := by omega
  have g6 : (h : Int) ≤ 64 := by omega
  clear r
  rcases hs with ⟨h1, h2⟩ | ⟨h1, h2⟩
  · have g1 : (a : Int) < (w : Int) := by omega
    have g2 : (b : Int) < (w : Int) := by omega
    have g3 : decide ((w : Int) ≤ (b : Int)) = false := by simp; omega
    have g4 : decide ((w : Int) ≤ (a : Int)) = false := by simp; omega
    have g3' : ¬ ((w : Int) ≤ (b : Int)) := by omega
    have g4' : ¬ ((w : Int) ≤ (a : Int)) := by omega
    go_enter Try.func27, Try.ntmps27
    go_wp2
    go_ret
    exact ⟨rfl, bal (Below.refl _ _)⟩
  · have g1 : ¬ ((a : Int) < (w : Int)) := by omega
    have g2 : ¬ ((b : Int) < (w : Int)) := by omega
    have g3 : decide ((a : Int) < (w : Int)) = false := by simp; omega
    have g4 : decide ((b : Int) < (w : Int)) = false := by simp; omega
    go_enter Try.func27, Try.ntmps27
    go_wp2
    go_ret
    exact ⟨rfl, bal (Below.refl _ _)⟩
theorem lies_any {W : World} {w h : Nat} {p : Option Addr} {n cap : Nat} {f : Nat → Bool} (r : Rt W w h p n cap f) (a b : Nat) (ha : a < w + h) (hb : b < w + h) : LiesIs W w h p n cap a b (ab f w a b) := by
  unfold ab
  by_cases h1 : a < w
  · by_cases h2 : b < w
    · rw [if_pos h1, if_pos h2]; exact lies_none r a b (.inl ⟨h1, h2⟩)
    · rw [if_pos h1, if_neg h2]
      obtain ⟨y, rfl⟩ : ∃ y, b = w + y := ⟨b - w, by omega⟩
      rw [Nat.add_sub_cancel_left]
      exact lies_end r a y h1 (by omega)
  · by_cases h2 : b < w
    · rw [if_neg h1, if_pos h2]
      obtain ⟨y, rfl⟩ : ∃ y, a = w + y := ⟨a - w, by omega⟩
      rw [Nat.add_sub_cancel_left]
      exact lies_pick r b y h2 (by omega)
    · rw [if_neg h1, if_neg h2]; exact lies_none r a b (.inr ⟨by omega, by omega⟩)

/-- what is free: numbers that are no strands are not -/
def okL (F : Nat → Int) (k N : Nat) : Bool := (List.range k).all fun j => decide (0 ≤ F j) && decide (F j < (N : Int))
/-- the marks of the first k numbers -/
def inF (F : Nat → Int) (k : Nat) (j : Nat) : Bool := (List.range k).any fun i => F i == (j : Int)
def freeB (f : Nat → Bool) (w h : Nat) (F : Nat → Int) (k : Nat) : Bool := okL F k (w + h) && frB f w h (inF F k)
theorem okL_bad {F : Nat → Int} {k N x : Nat} (hx : x < k) (h : ¬ (0 ≤ F x ∧ F x < (N : Int))) : okL F k N = false := by
  cases e : okL F k N with
  | false => rfl
  | true =>
    have := List.all_eq_true.1 e x (by simpa using hx)
    simp at this
    exact absurd this h
theorem okL_all {F : Nat → Int} {k N : Nat} (h : ∀ x, x < k → 0 ≤ F x ∧ F x < (N : Int)) : okL F k N = true :=
  List.all_eq_true.2 fun x hx => by have := h x (by simpa using hx); simp [this]
theorem inF_succ (F : Nat → Int) (k s : Nat) (h : F k = (s : Int)) : (fun i => if i = s then true else inF F k i) = inF F (k + 1) := by
  funext i
  unfold inF
  rw [List.range_succ, List.any_append]
  by_cases e : i = s
  · subst e; simp [h]
  · rw [if_neg e]
    have : (F k == (i : Int)) = false := by rw [h]; simp; omega
    simp [this]
theorem inF_zero (F : Nat → Int) : inF F 0 = fun _ => false := by funext j; rfl
/-- how many of the first a are in -/
def cnI (I : Nat → Bool) (a : Nat) : Nat := ((List.range a).filter I).length
theorem cnI_succ (I : Nat → Bool) (a : Nat) : cnI I (a + 1) = cnI I a + (if I a then 1 else 0) := by
  unfold cnI
  rw [List.range_succ, List.filter_append, List.length_append]
  cases h : I a <;> simp [h]
theorem cnI_le (I : Nat → Bool) (a : Nat) : cnI I a ≤ a := by
  have := List.length_filter_le I (List.range a)
  simpa [cnI] using this
theorem frB_bad {f : Nat → Bool} {w h : Nat} {I : Nat → Bool} {a b : Nat} (ha : a < w + h) (hb : b < w + h) (ia : I a = false) (ib : I b = true) (hr : ab f w a b = true) : frB f w h I = false := by
  cases e : frB f w h I with
  | false => rfl
  | true =>
    have := (frB_iff.1 e).1 a ha b hb ia ib
    rw [hr] at this; cases this
theorem frB_end {f : Nat → Bool} {w h : Nat} {I : Nat → Bool} (k : ∀ a, a < w + h → ∀ b, b < w + h → I a = false → I b = true → ab f w a b = false) : frB f w h I = (decide (0 < cnI I (w + h)) && decide (cnI I (w + h) < w + h)) := by
  unfold frB cnI
  rw [List.all_eq_true.2, Bool.true_and]
  intro a ha
  cases e : I a with
  | true => rfl
  | false =>
    rw [Bool.false_or, List.all_eq_true]
    intro b hb
    cases e2 : I b with
    | false => rfl
    | true => rw [k a (by simpa using ha) b (by simpa using hb) e e2]; rfl
end Go.Proofs.Ytbbilogkblmniaa
