/-
  The walk of GroupComplete: it answers true.
-/
import Derived.Test.YtpcajcgafmmlkaaDoorGL
import Derived.Test.YtpcajcgafmmlkaaDoorRefA
namespace Go.Proofs.YtpcajcgafmmlkaaDoor
open Go.RowKit

/-- the colour at a point, of the chart and of its torus -/
theorem pat_at (w h N : Nat) (px : Nat → Int) (x y : Int) (hN : 1 ≤ N) (dw : w ∣ N) (dh : h ∣ N) : Ch.atX w h px x y = pat w h N px x y := by
  have a1 := Int.emod_nonneg x (show (N : Int) ≠ 0 by omega)
  have b1 := Int.emod_nonneg y (show (N : Int) ≠ 0 by omega)
  have a2 := Int.emod_lt_of_pos x (show (0 : Int) < N by omega)
  obtain ⟨X, hX⟩ := Int.eq_ofNat_of_zero_le a1
  obtain ⟨Y, hY⟩ := Int.eq_ofNat_of_zero_le b1
  have ex : x % w = ((X % w : Nat) : Int) := by rw [Int.natCast_emod, ← hX, Int.emod_emod_of_dvd _ (Int.natCast_dvd_natCast.2 dw)]
  have ey : y % h = ((Y % h : Nat) : Int) := by rw [Int.natCast_emod, ← hY, Int.emod_emod_of_dvd _ (Int.natCast_dvd_natCast.2 dh)]
  unfold Ch.atX pat
  rw [ex, ey, hX, hY, ← Int.natCast_mul, ← Int.natCast_add, Int.toNat_natCast, ← Int.natCast_mul, ← Int.natCast_add, Int.toNat_natCast, tcx_at w h N px X Y (by omega)]
theorem Right.div {W : World} {g w h : Int} {p : Option Addr} {n : Nat} {px : Nat → Int} {w' h' N b o : Nat} (r : Right W g w h p n px w' h' N b o) : w' ∣ N ∧ h' ∣ N := by
  have e : (N : Int) = lm w h := by rw [← r.hN]; unfold toN; rw [if_pos r.hE]
  rw [r.hw.1, r.hh.1] at e
  unfold lm at e
  rw [Int.toNat_natCast, Int.toNat_natCast] at e
  have e2 : N = Nat.lcm w' h' := by omega
  exact ⟨e2 ▸ Nat.dvd_lcm_left _ _, e2 ▸ Nat.dvd_lcm_right _ _⟩
theorem Right.atX {W : World} {g w h : Int} {p : Option Addr} {n : Nat} {px : Nat → Int} {w' h' N b o : Nat} (r : Right W g w h p n px w' h' N b o) (x y : Int) : Ch.atX w h px x y = pat w' h' N px x y := by
  rw [r.hw.1, r.hh.1]
  exact pat_at w' h' N px x y r.hN1.1 r.div.1 r.div.2
theorem Right.wrong {W : World} {g w h : Int} {p : Option Addr} {n : Nat} {px : Nat → Int} {w' h' N b o : Nat} (r : Right W g w h p n px w' h' N b o) : Ch.wE g w h n px = 0 := (toE_zero r.hE).1
/-- the first i points of the torus stand on their own colours -/
def abB (P : Int → Int → Int) (g : Int) (t : Nat) (f : Bool) (u v : Int) (N : Nat) : Nat → Bool
  | 0 => true
  | i + 1 => abB P g t f u v N i && (P ((i : Int) % N) ((i : Int) / N) == P (mv g t f u v ((i : Int) % N) ((i : Int) / N)).1 (mv g t f u v ((i : Int) % N) ((i : Int) / N)).2)
theorem abB_iff (P : Int → Int → Int) (g : Int) (t : Nat) (f : Bool) (u v : Int) (N k : Nat) : abB P g t f u v N k = true ↔ ∀ i : Nat, i < k → P ((i : Int) % N) ((i : Int) / N) = P (mv g t f u v ((i : Int) % N) ((i : Int) / N)).1 (mv g t f u v ((i : Int) % N) ((i : Int) / N)).2 := by
  induction k with
  | zero => simp [abB]
  | succ k ih =>
    simp only [abB, Bool.and_eq_true, ih, beq_iff_eq]
    constructor
    · intro ⟨h1, h2⟩ i hi
      by_cases e : i = k
      · subst e; exact h2
      · exact h1 i (by omega)
    · intro h
      exact ⟨fun i hi => h i (by omega), h k (by omega)⟩
theorem abB_succ (P : Int → Int → Int) (g : Int) (t : Nat) (f : Bool) (u v : Int) (N i : Nat) : abB P g t f u v N (i + 1) = (abB P g t f u v N i && (P ((i : Int) % N) ((i : Int) / N) == P (mv g t f u v ((i : Int) % N) ((i : Int) / N)).1 (mv g t f u v ((i : Int) % N) ((i : Int) / N)).2)) := rfl
theorem xy_of (N a b : Nat) (ha : a < N) : (((b * N + a : Nat) : Int) % (N : Int) = a) ∧ (((b * N + a : Nat) : Int) / (N : Int) = b) := by
  have e1 : (b * N + a) % N = a := by rw [Nat.mul_comm, Nat.mul_add_mod, Nat.mod_eq_of_lt ha]
  have e2 : (b * N + a) / N = b := by rw [Nat.mul_comm, Nat.mul_add_div (by omega), Nat.div_eq_of_lt ha, Nat.add_zero]
  exact ⟨by rw [← Int.natCast_emod, e1], by rw [← Int.natCast_ediv, e2]⟩
theorem abB_kp {P : Int → Int → Int} {N : Nat} (hN : 1 ≤ N) (hP : Per P N) (g : Int) (t : Nat) (f : Bool) (u v : Int) : abB P g t f u v N (N * N) = true ↔ Kp P g t f u v := by
  rw [abB_iff, kp_iff hN hP]
  constructor
  · intro hk x y hx0 hx1 hy0 hy1
    obtain ⟨a, rfl⟩ := Int.eq_ofNat_of_zero_le hx0
    obtain ⟨b, rfl⟩ := Int.eq_ofNat_of_zero_le hy0
    have hi : b * N + a < N * N := by
      have := Nat.mul_le_mul_right N (show b + 1 ≤ N by omega)
      rw [Nat.add_mul] at this
      omega
    have h1 := hk (b * N + a) hi
    rw [(xy_of N a b (by omega)).1, (xy_of N a b (by omega)).2] at h1
    exact h1
  · intro hk i hi
    obtain ⟨hx, hy⟩ := cell_xy i N hN hi
    exact hk _ _ hx.1 hx.2 hy.1 hy.2

end Go.Proofs.YtpcajcgafmmlkaaDoor
