/-
  Plain facts: which grid sign a text begins with, as the reference looks for it and as the program does.
-/
import Derived.Test.YtncjbmafefeajaaDoorRefC
namespace Go.Proofs.YtncjbmafefeajaaDoor
open Go.RowKit

theorem st_grid (s : ByteArray) (g : Int) (hg : g = 4 ∨ g = 6) : st s 0 (gridT g) = true ↔ grid (Lib.decodeGo s).1 = g := by
  unfold st
  rw [List.isPrefixOf_iff_prefix, List.drop_zero]
  constructor
  · rintro ⟨r, h⟩
    exact (grid_complete s g hg r h.symm).1
  · intro h
    exact ⟨_, (grid_sound s g hg h).1.symm⟩
theorem st_not (s : ByteArray) (g : Int) (hg : g = 4 ∨ g = 6) (h : grid (Lib.decodeGo s).1 ≠ g) : st s 0 (gridT g) = false := by
  cases e : st s 0 (gridT g)
  · rfl
  · exact absurd ((st_grid s g hg).1 e) h
theorem gridT4 : gridT 4 = [226, 150, 161] := by decide
theorem gridT6 : gridT 6 = [226, 150, 179] := by decide

/-- a text with no grid sign, or with no line feed behind it -/
theorem rread_none (s : ByteArray) (W : World) (h : s.size ≤ 65536) (hg : grid (Lib.decodeGo s).1 = 0) : RFailIs s W 2 0 := by
  have h6 := st_not s 6 (Or.inr rfl) (by rw [hg]; decide)
  have h4 := st_not s 4 (Or.inl rfl) (by rw [hg]; decide)
  rw [gridT6] at h6
  rw [gridT4] at h4
  exact rread_sign s W h h6 h4
theorem rread_line (s : ByteArray) (W : World) (h : s.size ≤ 65536) (hg : grid (Lib.decodeGo s).1 = 4 ∨ grid (Lib.decodeGo s).1 = 6) (hl : lf s (Lib.decodeGo s).2 = false) : RFailIs s W 2 (Lib.decodeGo s).2 := by
  have h3 : (Lib.decodeGo s).2 = 3 := (grid_sound s _ hg rfl).2
  rw [h3] at hl ⊢
  rcases hg with hg | hg
  · have h6 := st_not s 6 (Or.inr rfl) (by rw [hg]; decide)
    have h4 := (st_grid s 4 (Or.inl rfl)).2 hg
    rw [gridT6] at h6
    rw [gridT4] at h4
    exact rread_line4 s W h h6 h4 hl
  · have h6 := (st_grid s 6 (Or.inr rfl)).2 hg
    rw [gridT6] at h6
    exact rread_line6 s W h h6 hl
end Go.Proofs.YtncjbmafefeajaaDoor
