/-
  What Moved of the reference answers.
-/
import Derived.Test.YtpcajcgafmmlkaaDoorGR
import Derived.Deep.OwnRows
namespace Go.Proofs.YtpcajcgafmmlkaaDoor
open Go.RowKit

/-- where the reference puts the i-th cell's colour, and which it is -/
def tgtR (g : Int) (t : Nat) (f : Bool) (u v : Int) (N i : Nat) : Nat := cby N (mv g t f u v ((i : Int) % N) ((i : Int) / N)).1 (mv g t f u v ((i : Int) % N) ((i : Int) / N)).2 0 0
def srcR (P : Int → Int → Int) (N i : Nat) : Int := P ((i : Int) % N) ((i : Int) / N)
theorem irow_new (w : World) (k : Nat) (tgt : Nat → Nat) (src : Nat → Int) (hk : k ≤ 9223372036854775807) : IRow (w.alloc (.cells (madeCells #[.int .i64 0] k) 3)) w.heap.size k (mcF tgt src 0) := by
  have h := World.ownsRow_lit (base := 0) (size := 1) w (madeCells #[.int .i64 0] k) (e := 3) k (Nat.zero_le _) (by unfold maxLen; exact hk) (by rw [size_madeCells, Nat.mul_one])
  exact irow_made tgt src h
theorem mcF_congr (tgt tgt' : Nat → Nat) (src src' : Nat → Int) (k : Nat) (h : ∀ i, i < k → tgt i = tgt' i ∧ src i = src' i) : mcF tgt src k = mcF tgt' src' k := by
  induction k with
  | zero => rfl
  | succ k ih =>
    unfold mcF
    rw [ih (fun i hi => h i (by omega)), (h k (by omega)).1, (h k (by omega)).2]

theorem r4_grown {a b : World} {o : Nat} {row : Option Nat} (h : R4 a o) (hl : o < a.heap.size) (hg : a.grownBy b row) (hne : some o ≠ row) : R4 b o := by
  obtain ⟨⟨c0, c1, c2, c3⟩, d0, d1, d2, d3⟩ := h
  refine ⟨C4.hat ⟨gcell hg hl hne c0, gcell hg hl hne c1, gcell hg hl hne c2, gcell hg hl hne c3⟩, ?_, ?_, ?_, ?_⟩
  · rw [World.frozen?_of_block (hg.block o hl hne)]; exact d0
  · rw [World.frozen?_of_block (hg.block o hl hne)]; exact d1
  · rw [World.frozen?_of_block (hg.block o hl hne)]; exact d2
  · rw [World.frozen?_of_block (hg.block o hl hne)]; exact d3

end Go.Proofs.YtpcajcgafmmlkaaDoor
