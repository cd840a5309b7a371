/-
  What alive of the laws answers; and what a told move, looked for, says.
-/
import Derived.Test.YtpcajcgafmmlkaaDoorGK
namespace Go.Proofs.YtpcajcgafmmlkaaDoor
open Go.RowKit

theorem one_keeps (px : Nat → Int) (g : Int) (t : Nat) (f : Bool) (j : Nat) : keepsK 1 1 1 px g t f j = true := by
  unfold keepsK
  refine (kpV_iff 1 1 1 px g t f _ _ (by omega)).2 ?_
  intro x y
  unfold pat
  simp
theorem one_row (K : Nat → Bool → Nat → Bool) (h : ∀ t f j, K t f j = true) (t : Nat) (f : Bool) : rowM K 1 t f 1 = [(t, f, 0, 0)] := by
  unfold rowM
  simp [List.range_succ, h]
theorem one_moves (px : Nat → Int) : (movesL 1 1 1 px 4).length = 8 := by
  unfold movesL allM turnsM
  have h := one_row (keepsK 1 1 1 px 4) (fun t f j => one_keeps px 4 t f j)
  simp [List.range_succ, h]
theorem one_right (W : World) (b : Nat) (hr : Ch.Row W b 0 1 (fun _ => 0)) : Right W 4 1 1 (some ⟨b, 0, none⟩) 1 (fun _ => 0) 1 1 1 b 0 := by
  have e : toE 4 1 1 1 (fun _ => 0) = 0 := by decide
  have e2 : toN 4 1 1 1 (fun _ => 0) = 1 := by decide
  exact ⟨Or.inl rfl, ⟨rfl, by omega, by omega⟩, ⟨rfl, by omega, by omega⟩, rfl, rfl, hr, e, e2, by omega, by omega⟩

theorem eqM_iff (t : Int) (f : Bool) (X Y : Int) (m : Mv) : eqM t f X Y m = true ↔ (m.1 : Int) = t ∧ m.2.1 = f ∧ (m.2.2.1 : Int) = X ∧ (m.2.2.2 : Int) = Y := by
  unfold eqM
  simp only [Bool.and_eq_true, beq_iff_eq]
/-- looked for among the told moves: it is there just if it keeps the pattern -/
theorem has_iff (w h N : Nat) (px : Nat → Int) (g : Int) (t : Nat) (f : Bool) (x y : Int) (hN : 1 ≤ N) (ht : (t : Int) < g) : hasB (movesL w h N px g) t f (x % N) (y % N) = true ↔ Kp (pat w h N px) g t f x y := by
  have hx := Int.emod_nonneg x (show (N : Int) ≠ 0 by omega)
  have hx2 := Int.emod_lt_of_pos x (show (0 : Int) < N by omega)
  have hy := Int.emod_nonneg y (show (N : Int) ≠ 0 by omega)
  have hy2 := Int.emod_lt_of_pos y (show (0 : Int) < N by omega)
  have ex : (x % N) % N = x % N := Int.emod_emod_of_dvd _ (Int.dvd_refl _)
  have ey : (y % N) % N = y % N := Int.emod_emod_of_dvd _ (Int.dvd_refl _)
  unfold hasB
  rw [List.any_eq_true]
  constructor
  · rintro ⟨⟨a, b, c, d⟩, hm, he⟩
    obtain ⟨h1, h2, h3, h4⟩ := (eqM_iff _ _ _ _ _).1 he
    simp only at h1 h2 h3 h4
    have hm' := ((mem_moves w h N px g a b c d hN).1 hm).2.2.2
    have e1 : a = t := by omega
    subst e1 h2
    rw [h3, h4] at hm'
    exact hm'.cong (pat_per w h N px) ex ey
  · intro hk
    refine ⟨(t, f, (x % N).toNat, (y % N).toNat), ?_, ?_⟩
    · rw [mem_moves w h N px g t f _ _ hN, Int.toNat_of_nonneg hx, Int.toNat_of_nonneg hy]
      exact ⟨by omega, by omega, by omega, hk.cong (pat_per w h N px) ex.symm ey.symm⟩
    · rw [eqM_iff]
      exact ⟨rfl, rfl, Int.toNat_of_nonneg hx, Int.toNat_of_nonneg hy⟩
end Go.Proofs.YtpcajcgafmmlkaaDoor
