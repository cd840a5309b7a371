/-
  TruthFloats: the mathematics.
-/
import Derived.Test.YtpefcpbkdofblaaFloatC
import Derived.Test.YtpefcpbkdofblaaLProd
namespace Go.Proofs.Ytpefcpbkdofblaa
open Go.RowKit Go.Shelf

theorem row_lt {w h x y : Nat} (hx : x < w) (hy : y < h) : y * w + x < w * h := by
  have := Nat.mul_le_mul_right w (show y + 1 ≤ h by omega)
  rw [mul_step, Nat.mul_comm h w] at this
  omega
theorem lgM_congr {f g : Nat → Bool} {u v : Bool} {w h : Nat} (hw : 0 < w) (e : ∀ j, j < w * h → (f j == u) = (g j == v)) : lgM f u w h = lgM g v w h :=
  mxN_congr fun _ hy => lgI_congr hw fun _ hx => e _ (row_lt hx hy)
/-- truths turned, and each one changed -/
def otF (f : Nat → Bool) (w h j : Nat) : Bool := !tuF f w h j
/-- truths begun elsewhere -/
def mvF (f : Nat → Bool) (w a j : Nat) : Bool := f (j / w * w + (j % w + a) % w)
theorem other_down (f : Nat → Bool) (w h : Nat) (hw : 0 < w) : lgM (tuF (otF f w h) h w) true w h = lgM f false w h := by
  refine lgM_congr hw fun j hj => ?_
  have := tu_tu f w h j hj
  have e : tuF (otF f w h) h w j = !tuF (tuF f w h) h w j := rfl
  rw [e, this]
  cases f j <;> rfl
theorem other_along (f : Nat → Bool) (w h : Nat) (hh : 0 < h) : lgM (otF f w h) false h w = lgM (tuF f w h) true h w := by
  refine lgM_congr hh fun j _ => ?_
  unfold otF
  cases tuF f w h j <;> rfl
theorem mv_at (f : Nat → Bool) (w a y x : Nat) (hx : x < w) : mvF f w a (y * w + x) = f (y * w + (x + a) % w) := by
  unfold mvF
  rw [dm_div _ _ _ hx, dm_mod _ _ _ hx]
theorem moved_along (f : Nat → Bool) (w h a : Nat) (hw : 0 < w) : lgM (mvF f w a) false w h = lgM f false w h := by
  refine mxN_congr fun y hy => ?_
  have e : lgI (soF (fun x => mvF f w a (y * w + x)) false) w = lgI (fun x => (soF (fun x => f (y * w + x)) false) ((x + a) % w)) w :=
    lgI_congr hw fun x hx => by
      show (mvF f w a (y * w + x) == false) = (f (y * w + (x + a) % w) == false)
      rw [mv_at f w a y x hx]
  rw [e, lgI_moved _ _ _ hw]
theorem tu_at_row (f : Nat → Bool) (w h x y : Nat) (hy : y < h) : tuF f w h (x * h + y) = f (y * w + x) := by
  unfold tuF
  rw [dm_div _ _ _ hy, dm_mod _ _ _ hy]
theorem moved_down (f : Nat → Bool) (w h a : Nat) (hw : 0 < w) (hh : 0 < h) : lgM (tuF (mvF f w a) w h) true h w = lgM (tuF f w h) true h w := by
  have row : ∀ x, x < w → lgI (soF (fun y => tuF (mvF f w a) w h (x * h + y)) true) h = lgI (soF (fun y => tuF f w h ((x + a) % w * h + y)) true) h := fun x hx => lgI_congr hh fun y hy => by
    show (tuF (mvF f w a) w h (x * h + y) == true) = (tuF f w h ((x + a) % w * h + y) == true)
    rw [tu_at_row _ _ _ _ _ hy, tu_at_row _ _ _ _ _ hy, mv_at f w a y x hx]
  refine mxN_perm (fun x => (x + a) % w) (fun x => (x + (w - a % w)) % w) (fun x hx => ⟨Nat.mod_lt _ hw, row x hx⟩) (fun x hx => ⟨Nat.mod_lt _ hw, ?_⟩)
  rw [row _ (Nat.mod_lt _ hw)]
  have hm := Nat.mod_lt a hw
  have hd := Nat.div_add_mod a w
  rw [show ((x + (w - a % w)) % w + a) % w = x by
    rw [Nat.add_mod, Nat.mod_mod, ← Nat.add_mod, show x + (w - a % w) + a = x + w * (a / w + 1) by rw [Nat.mul_add]; omega, Nat.add_mul_mod_self_left, Nat.mod_eq_of_lt hx]]
/-- the run that ends at a place of a row, from its beginning on -/
def tl0 (so : Nat → Bool) : Nat → Nat
  | 0 => 0
  | k + 1 => if so k then tl0 so k + 1 else 0
theorem tl0_run (so : Nat → Bool) (k : Nat) : tl0 so k ≤ k ∧ ∀ i, i < tl0 so k → so (k - tl0 so k + i) = true := by
  induction k with
  | zero => exact ⟨Nat.le_refl _, fun i hi => by simp [tl0] at hi⟩
  | succ k ih =>
    unfold tl0
    by_cases e : so k = true
    · rw [if_pos e]
      refine ⟨by omega, fun i hi => ?_⟩
      by_cases c : i = tl0 so k
      · rw [c, show k + 1 - (tl0 so k + 1) + tl0 so k = k by omega]; exact e
      · rw [show k + 1 - (tl0 so k + 1) + i = k - tl0 so k + i by omega]; exact ih.2 i (by omega)
    · rw [if_neg e]
      exact ⟨by omega, fun i hi => by omega⟩
theorem tl0_le (so : Nat → Bool) (n k : Nat) (hn : 0 < n) (hn2 : n ≤ 64) (hk : k ≤ n) : tl0 so k ≤ lgI so n := by
  have hr := tl0_run so k
  have hl := lgI_is so n hn
  cases e : allN so n with
  | true => rw [hl.1 e]; omega
  | false =>
    refine Nat.le_of_not_lt fun c => (hl.2 e).2 ?_
    refine Rn.less (L := tl0 so k) ⟨k - tl0 so k, fun i hi => ?_⟩ c
    rw [Nat.mod_eq_of_lt (by omega)]
    exact hr.2 i hi
theorem tl0_along (f : Nat → Bool) (w h y k : Nat) (hw : 0 < w) (hw2 : w ≤ 64) (hy : y < h) (hk : k ≤ w) : tl0 (soF (fun x => f (y * w + x)) false) k ≤ lgM f false w h :=
  Nat.le_trans (tl0_le _ _ _ hw hw2 hk) (mxN_le (fun y => lgI (soF (fun x => f (y * w + x)) false) w) h y hy)
theorem lgM_le (f : Nat → Bool) (v : Bool) (w h : Nat) (hw : w ≤ 64) : lgM f v w h ≤ 128 := mxN_bound _ _ _ fun _ _ => lgI_le _ _ hw
end Go.Proofs.Ytpefcpbkdofblaa
