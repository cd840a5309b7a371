/-
  What modulo and At of package chart, and Rest, Cell and At of the reference answer.
-/
import Derived.Test.YtpcajcgafmmlkaaDoorChBase
import Derived.BigQuiet
import Derived.Deep.RegionHeld3
import Derived.Lib.SmallJoins
import Derived.Deep.QuietTactic
namespace Go.Proofs.YtpcajcgafmmlkaaDoor.Ch
open Go.RowKit

theorem tmod_lt (n s : Int) (hs : 1 ≤ s) : -s < n.tmod s ∧ n.tmod s < s := by
  have h1 := Int.tmod_lt_of_pos n (b := s) (by omega)
  have h2 := Int.lt_tmod_of_pos n (b := s) (by omega)
  omega
theorem tmod_emod (n s k : Int) : (n.tmod s + s * k) % s = n % s := by
  have e : n.tmod s + s * k = n + s * (k - n.tdiv s) := by
    have := Int.tmod_def n s
    rw [this, Int.mul_sub]; omega
  rw [e, Int.add_mul_emod_self_left]
theorem tmod_twice (n s : Int) (hs : 1 ≤ s) : (n.tmod s + s).tmod s = n % s := by
  have h := tmod_lt n s hs
  have e := tmod_emod n s 1
  rw [Int.mul_one] at e
  rw [Int.tmod_eq_emod_of_nonneg (by omega), e]
theorem tmod_neg (n s : Int) (hs : 1 ≤ s) (h : n.tmod s < 0) : n.tmod s + s = n % s := by
  have k := tmod_lt n s hs
  have e := tmod_emod n s 1
  rw [Int.mul_one, Int.emod_eq_of_lt (by omega) (by omega)] at e
  exact e
theorem tmod_pos (n s : Int) (hs : 1 ≤ s) (h : 0 ≤ n.tmod s) : n.tmod s = n % s := by
  have k := tmod_lt n s hs
  have e := tmod_emod n s 0
  rw [Int.mul_zero, Int.add_zero, Int.emod_eq_of_lt (by omega) (by omega)] at e
  exact e

theorem rest_any (n s : Int) (w : World) (hs : 1 ≤ s ∧ s ≤ 64) : Calls Tryd.prog 55 #[.int .i64 n, .int .i64 s] w fun e w' => e = .returned (.int .i64 (n % s)) ∧ w' = w := by
  have h0 : s ≠ 0 := by omega
  have hl := tmod_lt n s hs.1
  have hw := hide (Go.IntWalk.wrap64_in (n.tmod s + s) (by omega))
  clear hl
  by_cases h : n.tmod s < 0
  · have ht := hide (tmod_neg n s hs.1 h)
    go_enter Tryd.func55, Tryd.ntmps55
    go_wp2
    go_ret
    exact ⟨ret_int (by rw [unhide hw, unhide ht]), rfl⟩
  · have ht := hide (tmod_pos n s hs.1 (by omega))
    have h' : decide (n.tmod s < 0) = false := by simp; omega
    go_enter Tryd.func55, Tryd.ntmps55
    go_wp2
    go_ret
    exact ⟨ret_int (by rw [unhide ht]), rfl⟩

/-- where a point's colour stands -/
theorem place (w h x y : Int) (n : Nat) (hw : 1 ≤ w ∧ w ≤ 64) (hh : 1 ≤ h ∧ h ≤ 64) (hn : (n : Int) = w * h) :
    ∃ k : Nat, k < n ∧ y % h * w + x % w = k ∧ (0 ≤ y % h * w ∧ y % h * w ≤ 4096) ∧ (0 ≤ x % w ∧ x % w ≤ 64) := by
  have a1 := Int.emod_nonneg y (b := h) (by omega)
  have a2 := Int.emod_lt_of_pos y (b := h) (by omega)
  have b1 := Int.emod_nonneg x (b := w) (by omega)
  have b2 := Int.emod_lt_of_pos x (b := w) (by omega)
  have c1 := Int.mul_nonneg a1 (b := w) (by omega)
  have c2 := Int.mul_le_mul_of_nonneg_right (a := y % h) (b := h - 1) (c := w) (by omega) (by omega)
  have e : (h - 1) * w = w * h - w := by rw [Int.sub_mul, Int.mul_comm h w]; omega
  have c3 := Int.mul_le_mul (a := w) (b := h) (c := 64) (d := 64) (by omega) (by omega) (by omega) (by omega)
  exact ⟨(y % h * w + x % w).toNat, by omega, by omega, by omega, by omega⟩

def atX (w h : Int) (px : Nat → Int) (x y : Int) : Int := px (y % h * w + x % w).toNat

/-- a chart in a box -/
def OwnC (W : World) (b : Nat) (g w h : Int) (p : Option Addr) (n cap : Nat) : Prop := b < W.heap.size ∧ W.cell? ⟨b, 0, none⟩ = some (.int .i64 g) ∧ W.cell? ⟨b, 1, none⟩ = some (.int .i64 w) ∧ W.cell? ⟨b, 2, none⟩ = some (.int .i64 h) ∧ W.cell? ⟨b, 3, none⟩ = some (.slice p n cap)
theorem OwnC.keep {W w1 : World} {b : Nat} {g w h : Int} {p : Option Addr} {n cap : Nat} (k : OwnC W b g w h p n cap) (hb : Below W.heap.size W w1) : OwnC w1 b g w h p n cap := by
  obtain ⟨h0, h1, h2, h3, h4⟩ := k
  refine ⟨by have := hb.size; omega, ?_, ?_, ?_, ?_⟩
  · rw [hb.cell (p := ⟨b, 0, none⟩) h0]; exact h1
  · rw [hb.cell (p := ⟨b, 1, none⟩) h0]; exact h2
  · rw [hb.cell (p := ⟨b, 2, none⟩) h0]; exact h3
  · rw [hb.cell (p := ⟨b, 3, none⟩) h0]; exact h4
theorem OwnC.alloc {W : World} {b : Nat} {g w h : Int} {p : Option Addr} {n cap : Nat} (k : OwnC W b g w h p n cap) (o : Obj) : OwnC (W.alloc o) b g w h p n cap := k.keep (bal (Below.refl _ _))
theorem OwnC.new (W : World) (g w h : Int) (p : Option Addr) (n cap : Nat) (t : TypeId) : OwnC (W.alloc (.cells #[.int .i64 g, .int .i64 w, .int .i64 h, .slice p n cap] t)) W.heap.size g w h p n cap :=
  ⟨by simp, by simp [go_sem], by simp [go_sem], by simp [go_sem], by simp [go_sem]⟩
/-- a point in a box -/
def Own (W : World) (b : Nat) (x y : Int) : Prop := b < W.heap.size ∧ (W.cell? ⟨b, 0, none⟩ = some (.int .i64 x) ∧ W.cell? ⟨b, 1, none⟩ = some (.int .i64 y))
theorem Own.keep {W w1 : World} {b : Nat} {x y : Int} (h : Own W b x y) (hb : Below W.heap.size W w1) : Own w1 b x y :=
  ⟨by have := hb.size; have := h.1; omega, by rw [hb.cell (p := ⟨b, 0, none⟩) h.1]; exact h.2.1, by rw [hb.cell (p := ⟨b, 1, none⟩) h.1]; exact h.2.2⟩
theorem Own.alloc {W : World} {b : Nat} {x y : Int} (h : Own W b x y) (o : Obj) : Own (W.alloc o) b x y := h.keep (bal (Below.refl _ _))
theorem Own.new (W : World) (x y : Int) (t : TypeId) : Own (W.alloc (.cells #[.int .i64 x, .int .i64 y] t)) W.heap.size x y :=
  ⟨by simp, by simp [go_sem], by simp [go_sem]⟩

def atV (g w h : Int) (n : Nat) (px : Nat → Int) (x y : Int) : Int := if wE g w h n px = 0 then atX w h px x y else 0
def AtIs (F : Nat) (g w h : Int) (p : Option Addr) (n cap : Nat) (x y : Int) (W : World) (v er : Int) : Prop := Calls Tryd.prog F #[ch g w h p n cap, .agg #[.int .i64 x, .int .i64 y]] W fun e w' => e = .returned (.tuple #[.int .i64 v, .int .i64 er]) ∧ Below W.heap.size W w'


end Go.Proofs.YtpcajcgafmmlkaaDoor.Ch
