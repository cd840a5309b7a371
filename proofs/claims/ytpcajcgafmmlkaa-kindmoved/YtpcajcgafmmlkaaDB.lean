/-
  Plain facts: the moves that keep a pattern are a group on the cells of its torus.
-/
import Derived.Test.YtpcajcgafmmlkaaDA
namespace Go.Proofs.Ytpcajcgafmmlkaa
open Go.RowKit

theorem div_mod_cell (N j : Nat) (hN : 1 ≤ N) (hj : j < N * N) : ((j : Int) / N) % N = (j : Int) / N := by
  have := cell_xy j N hN hj
  exact Int.emod_eq_of_lt this.2.1 this.2.2
theorem div_mod_img (g : Int) (N : Nat) (m : Mv) (j : Nat) (hN : 1 ≤ N) : (((imgC g N m j : Nat) : Int) / N) % N = ((imgC g N m j : Nat) : Int) / N := div_mod_cell N _ hN (imgC_lt g N m j hN)
theorem acts (w h N : Nat) (px : Nat → Int) (g : Int) (hg : g = 4 ∨ g = 6) (hN : 1 ≤ N) : Acts (imgC g N) (movesL w h N px g) (N * N) := by
  have hP := pat_per w h N px
  have mem : ∀ (T : Int) (F : Bool) (u v : Int), 0 ≤ T ∧ T < g → Kp (pat w h N px) g T.toNat F u v → (T.toNat, F, (u % N).toNat, (v % N).toNat) ∈ movesL w h N px g := by
    intro T F u v hT k
    have n1 := Int.emod_nonneg u (show (N : Int) ≠ 0 by omega)
    have n2 := Int.emod_nonneg v (show (N : Int) ≠ 0 by omega)
    have l1 := Int.emod_lt_of_pos u (show (0 : Int) < N by omega)
    have l2 := Int.emod_lt_of_pos v (show (0 : Int) < N by omega)
    refine (mem_moves w h N px g _ _ _ _ hN).2 ⟨by omega, by omega, by omega, ?_⟩
    rw [Int.toNat_of_nonneg n1, Int.toNat_of_nonneg n2]
    exact k.cong hP (mod_mod _ N).symm (mod_mod _ N).symm
  have nn : ∀ u : Int, (((u % N).toNat : Nat) : Int) = u % N := fun u => Int.toNat_of_nonneg (Int.emod_nonneg u (show (N : Int) ≠ 0 by omega))
  refine ⟨fun m _ j _ => imgC_lt g N m j hN, ?_, ?_, ?_⟩
  · refine ⟨(0, false, 0, 0), List.mem_of_getElem? (moves_head w h N px g hN hg), fun j hj => ?_⟩
    have e := imgC_xy g N (0, false, 0, 0) j hN
    simp only at e
    rw [show ((0 : Nat) : Int) = 0 from rfl, mv_id] at e
    exact cell_eq (e.1.trans (mod_mod _ N)) (e.2.trans (div_mod_cell N j hN hj))
  · rintro ⟨t, f, X, Y⟩ hm
    obtain ⟨ht, hX, hY, hk⟩ := (mem_moves w h N px g t f X Y hN).1 hm
    have ht1 : (0 : Int) ≤ (t : Int) ∧ (t : Int) < g := by omega
    have ki := Kp.inv (P := pat w h N px) hg ht1 (x := X) (y := Y) (by rw [Int.toNat_natCast]; exact hk)
    refine ⟨_, mem (bt g t f) f _ _ (bt_range g t f hg ht1) ki, fun j hj => ?_⟩
    have e := imgC_xy g N (t, f, X, Y) j hN
    simp only at e
    have e2 := imgC_of g N ((bt g t f).toNat, f, ((iP g t f X Y).1 % N).toNat, ((iP g t f X Y).2 % N).toNat) (bt g t f).toNat f (iP g t f X Y).1 (iP g t f X Y).2 hN rfl rfl (nn _) (nn _) (mv g t f X Y ((j : Int) % N) ((j : Int) / N)).1 (mv g t f X Y ((j : Int) % N) ((j : Int) / N)).2 (imgC g N (t, f, X, Y) j) e.1 (by rw [div_mod_img g N _ j hN]; exact e.2)
    have b := mv_fore g t f X Y ((j : Int) % N) ((j : Int) / N) hg ht1
    rw [Int.toNat_natCast] at b
    rw [b] at e2
    exact cell_eq (e2.1.trans (mod_mod _ N)) (e2.2.trans (div_mod_cell N j hN hj))
  · rintro ⟨t, f, X, Y⟩ hm ⟨t', f', X', Y'⟩ hm'
    obtain ⟨ht, hX, hY, hk⟩ := (mem_moves w h N px g t f X Y hN).1 hm
    obtain ⟨ht', hX', hY', hk'⟩ := (mem_moves w h N px g t' f' X' Y' hN).1 hm'
    have ht1 : (0 : Int) ≤ (t : Int) ∧ (t : Int) < g := by omega
    have ht2 : (0 : Int) ≤ (t' : Int) ∧ (t' : Int) < g := by omega
    have kc := Kp.comp (P := pat w h N px) hg ht1 ht2 (x := X) (y := Y) (x' := X') (y' := Y') (by rw [Int.toNat_natCast]; exact hk) (by rw [Int.toNat_natCast]; exact hk')
    refine ⟨_, mem (cT g t f t') (cF f f') _ _ (cT_range g t f t' hg) kc, fun j hj => ?_⟩
    have e := imgC_xy g N (t', f', X', Y') j hN
    simp only at e
    have hXe : (X : Int) = (X : Int) % N := (Int.emod_eq_of_lt (by omega) (by omega)).symm
    have hYe : (Y : Int) = (Y : Int) % N := (Int.emod_eq_of_lt (by omega) (by omega)).symm
    have e2 := imgC_of g N (t, f, X, Y) t f X Y hN rfl rfl hXe hYe (mv g t' f' X' Y' ((j : Int) % N) ((j : Int) / N)).1 (mv g t' f' X' Y' ((j : Int) % N) ((j : Int) / N)).2 (imgC g N (t', f', X', Y') j) e.1 (by rw [div_mod_img g N _ j hN]; exact e.2)
    have e3 := imgC_of g N ((cT g t f t').toNat, cF f f', ((mv g (t : Int).toNat f X Y X' Y').1 % N).toNat, ((mv g (t : Int).toNat f X Y X' Y').2 % N).toNat) (cT g t f t').toNat (cF f f') (mv g (t : Int).toNat f X Y X' Y').1 (mv g (t : Int).toNat f X Y X' Y').2 hN rfl rfl (nn _) (nn _) ((j : Int) % N) ((j : Int) / N) j (mod_mod _ N).symm rfl
    rw [mv_comp g t f X Y t' f' X' Y' _ _ hg ht1 ht2, Int.toNat_natCast, Int.toNat_natCast] at e3
    exact cell_eq (e3.1.trans e2.1.symm) (e3.2.trans e2.2.symm)
end Go.Proofs.Ytpcajcgafmmlkaa
