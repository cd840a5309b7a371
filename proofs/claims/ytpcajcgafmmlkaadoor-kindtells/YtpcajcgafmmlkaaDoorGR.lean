/-
  What Moved of package group and Keeps of the reference answer.
-/
import Derived.Test.YtpcajcgafmmlkaaDoorGQ
namespace Go.Proofs.YtpcajcgafmmlkaaDoor
open Go.RowKit

/-- a chart's box that may be written, whatever it holds -/
abbrev R4 (V : World) (b : Nat) : Prop := C4 V b (hat V b 0) (hat V b 1) (hat V b 2) (hat V b 3) ∧ F4 V b
theorem R4.new (W : World) (t : TypeId) : R4 (W.alloc (.cells #[.int .i64 0, .int .i64 0, .int .i64 0, .slice none 0 0] t)) W.heap.size :=
  ⟨C4.hat (v0 := .int .i64 0) (v1 := .int .i64 0) (v2 := .int .i64 0) (v3 := .slice none 0 0) ⟨by simp [go_sem], by simp [go_sem], by simp [go_sem], by simp [go_sem]⟩, by simp [go_sem], by simp [go_sem], by simp [go_sem], by simp [go_sem]⟩
theorem R4.keep {W w1 : World} {b : Nat} (h : R4 W b) (hl : b < W.heap.size) (hb : Below W.heap.size W w1) : R4 w1 b := ⟨(h.1.keep hb hl).hat, h.2.keep hb hl⟩
theorem R4.set {W : World} {b : Nat} (h : R4 W b) (v0 v1 v2 v3 : Value) : R4 ((((W.setCell ⟨b, 0, none⟩ v0).setCell ⟨b, 1, none⟩ v1).setCell ⟨b, 2, none⟩ v2).setCell ⟨b, 3, none⟩ v3) b := by
  obtain ⟨⟨c0, c1, c2, c3⟩, d0, d1, d2, d3⟩ := h
  refine ⟨C4.hat (v0 := v0) (v1 := v1) (v2 := v2) (v3 := v3) ⟨?_, ?_, ?_, ?_⟩, ?_, ?_, ?_, ?_⟩
  all_goals simp [go_sem, c0, c1, c2, c3, d0, d1, d2, d3]
theorem gset4 {a b : World} {o : Nat} (h : a.grownBy b (some o)) (v0 v1 v2 v3 : Value) : a.grownBy ((((b.setCell ⟨o, 0, none⟩ v0).setCell ⟨o, 1, none⟩ v1).setCell ⟨o, 2, none⟩ v2).setCell ⟨o, 3, none⟩ v3) (some o) :=
  gset (gset (gset (gset h 0 v0) 1 v1) 2 v2) 3 v3

def MovedErr (F : Nat) (g w h : Int) (p : Option Addr) (n cap : Nat) (t : Int) (f : Bool) (x y : Int) (W : World) (er : Int) : Prop :=
  Calls Tryd.prog F #[Ch.ch g w h p n cap, .agg #[.int .i64 t, .bool f, .int .i64 x, .int .i64 y]] W fun e w' => e = .returned (.tuple #[Ch.ch 0 0 0 none 0 0, .int .i64 er]) ∧ Below W.heap.size W w'
/-- the chart that a move makes of a right one -/
def movP (w h N : Nat) (px : Nat → Int) (g : Int) (t : Nat) (f : Bool) (x y : Int) : Nat → Int := mcF (tgtF g t f (x % N) (y % N) N) (tcx w h N px) (N * N)
def MovedOk (F : Nat) (g w h : Int) (p : Option Addr) (n cap : Nat) (t : Int) (f : Bool) (x y : Int) (W : World) (N : Nat) (m : Nat → Int) : Prop :=
  Calls Tryd.prog F #[Ch.ch g w h p n cap, .agg #[.int .i64 t, .bool f, .int .i64 x, .int .i64 y]] W fun e w' => ∃ q, e = .returned (.tuple #[Ch.ch g N N (some ⟨q, 0, none⟩) (N * N) (N * N), .int .i64 0]) ∧ Ch.Row w' q 0 (N * N) m ∧ Below W.heap.size W w'

end Go.Proofs.YtpcajcgafmmlkaaDoor
