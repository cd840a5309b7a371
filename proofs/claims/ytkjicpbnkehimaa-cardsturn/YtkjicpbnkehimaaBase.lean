/-
  First walks: what isSide, Wrong, row, rows, blank of package truth, and Wrong of the reference answer, at every input.
-/
import Derived.Test.YtkjicpbnkehimaaRows
import Derived.WalkKit
import Derived.WalkSpells
import Derived.WalkLawsBesides
import Derived.BigQuiet
import Derived.Deep.RegionHeld3
import Derived.Lib.SmallJoins
import Derived.Deep.QuietTactic
import Derived.Maps.AppendAt
namespace Go.Proofs.Ytkjicpbnkehimaa
open Go.RowKit

theorem hide {p : Prop} (h : p) : Hid p := h
theorem unhide {p : Prop} (h : Hid p) : p := h
theorem ret_bool {a b : Bool} (h : a = b) : Ending.returned (.bool a) = .returned (.bool b) := by rw [h]
theorem ret_int {a b : Int} (h : a = b) : Ending.returned (.int .i64 a) = .returned (.int .i64 b) := by rw [h]
theorem bal {W w1 : World} {o : Obj} (h : Below W.heap.size W w1) : Below W.heap.size W (w1.alloc o) := h.alloc h.size o
theorem bset {W w1 : World} {p : Addr} {u : Value} (h : Below W.heap.size W w1) (hp : W.heap.size ≤ p.block) : Below W.heap.size W (w1.setCell p u) := h.setCell hp u
theorem btrans {W w1 w2 : World} (h : Below W.heap.size W w1) (k : Below w1.heap.size w1 w2) : Below W.heap.size W w2 := h.trans (k.mono h.size)
theorem keepC {W w1 : World} {b o : Nat} {v : Value} (hb : Below W.heap.size W w1) (h : b < W.heap.size) (hc : W.cell? ⟨b, o, none⟩ = some v) : w1.cell? ⟨b, o, none⟩ = some v := by
  rw [hb.cell (p := ⟨b, o, none⟩) h]; exact hc
theorem keepF {W w1 : World} {b o : Nat} (hb : Below W.heap.size W w1) (h : b < W.heap.size) (hc : W.frozen? ⟨b, o, none⟩ = false) : w1.frozen? ⟨b, o, none⟩ = false := by
  rw [hb.frozen (p := ⟨b, o, none⟩) h]; exact hc
theorem gtrans {a b c : World} {row : Option Nat} (h : a.grownBy b row) (k : b.grownBy c row) : a.grownBy c row := World.grownBy.trans h k
theorem gbelow {a b : World} (row : Option Nat) (h : Below a.heap.size a b) : a.grownBy b row := ⟨h.os, h.tape, h.output, h.size, fun k hk _ => h.block k hk⟩
theorem gset {a b : World} {o : Nat} (h : a.grownBy b (some o)) (j : Nat) (v : Value) : a.grownBy (b.setCell ⟨o, j, none⟩ v) (some o) :=
  gtrans h ⟨rfl, rfl, rfl, by simp, fun k _ hne => by
    have hne' : ¬ o = k := fun e => hne (by rw [e])
    simp [World.setCell, Array.getElem?_modify, hne']⟩
theorem gcell {a b : World} {row : Option Nat} {p : Addr} {v : Value} (h : a.grownBy b row) (hl : p.block < a.heap.size) (hne : some p.block ≠ row) (hc : a.cell? p = some v) : b.cell? p = some v := by
  rw [World.cell?_of_block (h.block p.block hl hne)]; exact hc
theorem gfroz {a b : World} {row : Option Nat} {p : Addr} (h : a.grownBy b row) (hl : p.block < a.heap.size) (hne : some p.block ≠ row) (hc : a.frozen? p = false) : b.frozen? p = false := by
  rw [World.frozen?_of_block (h.block p.block hl hne)]; exact hc

/-- a side that may be -/
def sd (n : Int) : Bool := decide (0 ≤ n) && decide (n ≤ 64)
theorem sd_iff (n : Int) : sd n = true ↔ 0 ≤ n ∧ n ≤ 64 := by simp [sd]

set_option maxHeartbeats 400000 in
theorem side_any (n : Int) (w : World) : Calls Try.prog 31 #[.int .i64 n] w fun e w' => e = .returned (.bool (sd n)) ∧ w' = w := by
  by_cases h : 0 ≤ n
  · go_enter Try.func31, Try.ntmps31
    go_wp2
    go_ret
    exact ⟨by simp [sd, h], rfl⟩
  · have h' : decide (0 ≤ n) = false := by simp; omega
    go_enter Try.func31, Try.ntmps31
    go_wp2
    go_ret
    exact ⟨by simp [sd, h'], rfl⟩

/-- truths, as the calls take them -/
abbrev tr (w h : Int) (p : Option Addr) (n cap : Nat) : Value := .agg #[.int .i64 w, .int .i64 h, .slice p n cap]
/-- what is wrong with truths -/
def wE (w h : Int) (n : Nat) : Int := if sd w && sd h then (if (n : Int) = w * h then 0 else 8) else 3

def WrongIs (F : Nat) (w h : Int) (p : Option Addr) (n cap : Nat) (W : World) (er : Int) : Prop := Calls Try.prog F #[tr w h p n cap] W fun e w' => e = .returned (.int .i64 er) ∧ Below W.heap.size W w'

theorem area (w h : Int) (h1 : sd w = true) (h2 : sd h = true) : 0 ≤ w * h ∧ w * h ≤ 4096 := by
  have b1 := (sd_iff w).1 h1
  have b2 := (sd_iff h).1 h2
  have c1 := Int.mul_le_mul (a := w) (b := h) (c := 64) (d := 64) (by omega) (by omega) (by omega) (by omega)
  have c2 := Int.mul_nonneg (a := w) (b := h) (by omega) (by omega)
  omega

set_option maxHeartbeats 1000000 in
theorem wrong_side (w h : Int) (p : Option Addr) (n cap : Nat) (W : World) (hs : (sd w && sd h) = false) : WrongIs 12 w h p n cap W 3 := by
  unfold WrongIs
  cases h1 : sd w with
  | false =>
    go_enter Try.func12, Try.ntmps12
    go_wp2_with (go_at_call 31; refine (side_any _ _).mono ?_; rintro e w' ⟨rfl, rfl⟩)
    go_ret
    exact ⟨rfl, bal (Below.refl _ _)⟩
  | true =>
    have h2 : sd h = false := by simpa [h1] using hs
    clear hs
    go_enter Try.func12, Try.ntmps12
    go_wp2_with (go_at_call 31; refine (side_any _ _).mono ?_; rintro e w' ⟨rfl, rfl⟩)
    go_ret
    exact ⟨rfl, bal (Below.refl _ _)⟩

set_option maxHeartbeats 1000000 in
theorem wrong_fit (w h : Int) (p : Option Addr) (n cap : Nat) (W : World) (h1 : sd w = true) (h2 : sd h = true) (b : Bool) (hn : ((n : Int) != w * h) = b) (er : Int) (Her : Hid (er = if b then 8 else 0)) : WrongIs 12 w h p n cap W er := by
  unfold WrongIs
  have hm := area w h h1 h2
  cases b
  all_goals
    go_enter Try.func12, Try.ntmps12
    go_wp2_with (go_at_call 31; refine (side_any _ _).mono ?_; rintro e w' ⟨rfl, rfl⟩)
    go_ret
    exact ⟨ret_int (unhide Her).symm, bal (Below.refl _ _)⟩

theorem wrong_any (w h : Int) (p : Option Addr) (n cap : Nat) (W : World) : WrongIs 12 w h p n cap W (wE w h n) := by
  unfold wE
  cases s : sd w && sd h with
  | false => simpa using wrong_side w h p n cap W s
  | true =>
    simp at s
    refine wrong_fit w h p n cap W s.1 s.2 _ rfl _ (hide ?_)
    by_cases e : (n : Int) = w * h <;> simp [e]

set_option maxHeartbeats 1000000 in
theorem rwrong_side (w h : Int) (p : Option Addr) (n cap : Nat) (W : World) (hs : (sd w && sd h) = false) : WrongIs 21 w h p n cap W 3 := by
  unfold WrongIs
  have q : w < 0 ∨ (¬ w < 0 ∧ 64 < w) ∨ (¬ w < 0 ∧ ¬ 64 < w ∧ h < 0) ∨ (¬ w < 0 ∧ ¬ 64 < w ∧ ¬ h < 0 ∧ 64 < h) := by
    have : ¬ (sd w = true ∧ sd h = true) := by simp at hs; simpa using hs
    rw [sd_iff, sd_iff] at this
    omega
  clear hs
  rcases q with q | ⟨q1, q⟩ | ⟨q1, q2, q⟩ | ⟨q1, q2, q3, q⟩
  all_goals
    go_enter Try.func21, Try.ntmps21
    go_wp2
    go_ret
    exact ⟨rfl, bal (Below.refl _ _)⟩

set_option maxHeartbeats 1000000 in
theorem rwrong_fit (w h : Int) (p : Option Addr) (n cap : Nat) (W : World) (h1 : sd w = true) (h2 : sd h = true) (b : Bool) (hn : ((n : Int) != w * h) = b) (er : Int) (Her : Hid (er = if b then 8 else 0)) : WrongIs 21 w h p n cap W er := by
  unfold WrongIs
  have hm := area w h h1 h2
  have b1 := (sd_iff w).1 h1
  have b2 := (sd_iff h).1 h2
  have c1 : ¬ w < 0 := by omega
  have c2 : ¬ 64 < w := by omega
  have c3 : ¬ h < 0 := by omega
  have c4 : ¬ 64 < h := by omega
  cases b
  all_goals
    go_enter Try.func21, Try.ntmps21
    go_wp2
    go_ret
    exact ⟨ret_int (unhide Her).symm, bal (Below.refl _ _)⟩

theorem rwrong_any (w h : Int) (p : Option Addr) (n cap : Nat) (W : World) : WrongIs 21 w h p n cap W (wE w h n) := by
  unfold wE
  cases s : sd w && sd h with
  | false => simpa using rwrong_side w h p n cap W s
  | true =>
    simp at s
    refine rwrong_fit w h p n cap W s.1 s.2 _ rfl _ (hide ?_)
    by_cases e : (n : Int) = w * h <;> simp [e]

/-- where a row of a slice begins -/
def rp (p : Option Addr) (cap l : Nat) : Option Addr := if cap = l then p else p.map (·.add l)
/-- the row y of truths -/
abbrev rowV (p : Option Addr) (cap w y : Nat) : Value := .slice (rp p cap (y * w)) w (cap - y * w)

theorem mul_step (y n : Nat) : (y + 1) * n = y * n + n := by rw [Nat.add_mul, Nat.one_mul]

end Go.Proofs.Ytkjicpbnkehimaa
