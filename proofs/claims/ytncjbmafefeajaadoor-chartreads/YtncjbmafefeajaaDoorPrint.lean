/-
  What Print of package chart answers.
-/
import Derived.Test.YtncjbmafefeajaaDoorSign
namespace Go.Proofs.YtncjbmafefeajaaDoor
open Go.RowKit

/-- the bytes of a colour's sign -/
def sb (c : Int) : List UInt8 := Lib.encodeRune (sg c)
/-- the first signs of a row that begins at a place -/
def rowT (px : Nat → Int) (lo : Nat) : Nat → List UInt8
  | 0 => []
  | k + 1 => rowT px lo k ++ sb (px (lo + k))
/-- the rows from the m-th down to the first -/
def rowsT (px : Nat → Int) (w : Nat) : Nat → List UInt8
  | 0 => []
  | m + 1 => rowT px (m * w) w ++ [10] ++ rowsT px w m
def gridT (g : Int) : List UInt8 := if g = 4 then [226, 150, 161] else [226, 150, 179]
def printT (g : Int) (px : Nat → Int) (w h : Nat) : List UInt8 := gridT g ++ [10] ++ rowsT px w h

theorem sb_le (c : Int) : (sb c).length ≤ 4 := by
  have := Lib.runeCells_le (sg c)
  rw [Lib.runeCells_length] at this
  exact this.2
theorem rowT_le (px : Nat → Int) (lo k : Nat) : (rowT px lo k).length ≤ 4 * k := by
  induction k with
  | zero => simp [rowT]
  | succ k ih => have := sb_le (px (lo + k)); simp [rowT]; omega
def yv : Nat → Int | 0 => -1 | m + 1 => m

def PrintIs (F : Nat) (g w h : Int) (p : Option Addr) (n cap : Nat) (W : World) (s : ByteArray) (er : Int) : Prop := Calls Tryd.prog F #[ch g w h p n cap] W fun e w' => e = .returned (.tuple #[.string s, .int .i64 er]) ∧ Below W.heap.size W w'

theorem byteCells_append (a b : List UInt8) : Lib.byteCells (a ++ b) = Lib.byteCells a ++ Lib.byteCells b := by simp [Lib.byteCells]

theorem own_keep {w w1 : World} {B : Nat} {e : TypeId} {size : Nat} {v : Value} {n : Nat} {xs : List Value} (h : w.ownsRow B e size v n xs) (hb : Below w.heap.size w w1) : w1.ownsRow B e size v n xs :=
  h.kept (row := none) ⟨hb.os, hb.tape, hb.output, hb.size, fun k hk _ => hb.block k hk⟩ (by cases v.ownBlock <;> simp)
theorem at_keep {w w1 : World} {B b : Nat} {p : Value} {bs : List Value} (h : Lib.BuilderAt 46 5 B b p bs w) (hb : Below w.heap.size w w1) : Lib.BuilderAt 46 5 B b p bs w1 := by
  have hl := h.lt
  obtain ⟨hB, v, hbk, hown, hne⟩ := h
  exact ⟨hB, v, by rw [hb.block b hl]; exact hbk, own_keep hown hb, hne⟩
theorem sg_i32 (c : Int) (hc : 0 ≤ c ∧ c ≤ 61) : -2147483648 ≤ sg c ∧ sg c ≤ 2147483647 := by
  unfold sg
  repeat' split
  all_goals omega

theorem gridT_len (g : Int) : (gridT g).length = 3 := by unfold gridT; split <;> rfl
theorem grid_cells (g : Int) (hg : g = 4 ∨ g = 6) : Lib.runeCells (if g = 4 then 9633 else 9651) = Lib.byteCells (gridT g) := by
  rw [← Lib.byteCells_encodeRune]
  rcases hg with rfl | rfl <;> exact congrArg Lib.byteCells (by decide)
theorem ten : [Value.int .u8 10] = Lib.byteCells [10] := rfl

end Go.Proofs.YtncjbmafefeajaaDoor
