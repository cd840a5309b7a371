/-
  Of every text: the program's Read and the reference's refuse it alike, or read the same chart out of it.
-/
import Derived.Test.YtncjbmafefeajaaDoorLawR
import Derived.Test.YtncjbmafefeajaaDoorRefG
import Derived.Test.YtncjbmafefeajaaDoorRefH
namespace Go.Proofs.YtncjbmafefeajaaDoor
open Go.RowKit

theorem rread_rows (s : ByteArray) (W : World) (h : s.size ≤ 65536) (hg : grid (Lib.decodeGo s).1 = 4 ∨ grid (Lib.decodeGo s).1 = 6) (hl : lf s 3 = true) : RReads s W (grid (Lib.decodeGo s).1) := by
  rcases hg with hg | hg
  · have h6 := st_not s 6 (Or.inr rfl) (by rw [hg]; decide)
    have h4 := (st_grid s 4 (Or.inl rfl)).2 hg
    rw [gridT6] at h6
    rw [gridT4] at h4
    rw [hg]
    exact rread_rows4 s W h h6 h4 hl
  · have h6 := (st_grid s 6 (Or.inr rfl)).2 hg
    rw [gridT6] at h6
    rw [hg]
    exact rread_rows6 s W h h6 hl

theorem pair_any (s : ByteArray) : Pair s := by
  by_cases h : 65536 < s.size
  · exact Or.inl ⟨4, 0, fun W _ => read_much s W h, fun W => rread_much s W h⟩
  · by_cases hg : grid (Lib.decodeGo s).1 = 0
    · exact Or.inl ⟨2, 0, fun W hT => read_grid s W (by omega) 0 (hide fun V hV => readGrid_none s V hV hg) hT, fun W => rread_none s W (by omega) hg⟩
    · have h46 : grid (Lib.decodeGo s).1 = 4 ∨ grid (Lib.decodeGo s).1 = 6 := by
        unfold grid at hg ⊢
        repeat' split
        all_goals simp_all
      cases hl : lf s (Lib.decodeGo s).2 with
      | false =>
        refine Or.inl ⟨2, (Lib.decodeGo s).2, fun W hT => read_grid s W (by omega) _ (hide fun V hV => ?_) hT, fun W => rread_line s W (by omega) h46 hl⟩
        have := readGrid_line s V hV _ _ rfl rfl h46 false hl
        simpa using this
      | true =>
        have hlt := lf_lt hl
        have h3 : (Lib.decodeGo s).2 = 3 := (grid_sound s _ h46 rfl).2
        have hl3 : lf s 3 = true := by rw [← h3]; exact hl
        rcases rows_total s ((Lib.decodeGo s).2 + 1) _ [] _ .nil (Nat.le_refl _) with ⟨R, hR⟩ | ⟨er, at', hF⟩
        · refine pair_ok (g := grid (Lib.decodeGo s).1) (rows := R) ⟨by omega, h46, rfl, hl, hR⟩ fun W => ?_
          rw [h3] at hR
          refine (rread_rows s W (by omega) h46 hl3).mono ?_
          rintro e w' ⟨⟨er, at', hF, -⟩ | ⟨rows, q, cap, hG, he, ho⟩, hb⟩
          · exact (good_fail hR hF).elim
          · obtain rfl := good_good hG hR
            exact ⟨q, cap, he, ho, hb⟩
        · refine Or.inl ⟨er, at', fun W hT => read_rows s W (by omega) (grid (Lib.decodeGo s).1) _ er at' hF.pos (hide fun V hV => ?_) (hide (rows_bad s _ er at' (by omega) (by omega) hF)) hT, fun W => ?_⟩
          · have := readGrid_line s V hV _ _ rfl rfl h46 true hl
            simpa using this
          · rw [h3] at hF
            refine (rread_rows s W (by omega) h46 hl3).mono ?_
            rintro e w' ⟨⟨er', at'', hF', he⟩ | ⟨rows, q, cap, hG, -, -⟩, hb⟩
            · obtain ⟨e1, e2⟩ := fail_fail hF' hF
              rw [he, e1, e2]
              exact ⟨rfl, hb⟩
            · exact (good_fail hG hF).elim
end Go.Proofs.YtncjbmafefeajaaDoor
