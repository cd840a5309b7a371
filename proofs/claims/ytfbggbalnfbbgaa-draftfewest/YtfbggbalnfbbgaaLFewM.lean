/-
  DraftFewest: the mathematics.
-/
import Derived.Test.YtfbggbalnfbbgaaLWeave
namespace Go.Proofs.Ytfbggbalnfbbgaa
open Go.RowKit Go.Shelf

theorem frB_iff (t : Nat → Nat) (i k : Nat) : frB t i k = true ↔ ∀ j, j < k → t j ≠ t i := by simp [frB]
/-- the numbers of rows alike are as many as there are rows that come first -/
theorem used_nu (f : Nat → Bool) (w h : Nat) : usN (nuN f w) h = (unU f w h).length := by
  induction h with
  | zero => rfl
  | succ i ih =>
    rw [usN, unU_nu, ih]
    by_cases c : nuN f w i = (unU f w i).length
    · have : frB (nuN f w) i i = true := (frB_iff _ _ _).2 fun j hj => by have := (nu_get f w i j hj).1; omega
      rw [if_pos c, if_pos this]; simp
    · have : ¬ frB (nuN f w) i i = true := fun hf => by
        have ha : (unU f w i).any (fun u => rwE f w u i) = true := by
          cases e : (unU f w i).any (fun u => rwE f w u i) with
          | true => rfl
          | false => unfold nuN at c; rw [e] at c; simp at c
        obtain ⟨u, hu, hr⟩ := List.any_eq_true.1 ha
        have hlt := (un_inv f w i).2.2 u hu
        exact (frB_iff _ _ _).1 hf u hlt (nu_same f w i u hlt (rwE_symm hr)).1
      rw [if_neg c, if_neg this]
/-- what goes by numbers has no more unlike rows than numbers -/
theorem few_used (f : Nat → Bool) (w : Nat) (t : Nat → Nat) (n : Nat) (h : ∀ i j, i < n → j < n → t i = t j → rwE f w i j = true) : (unU f w n).length ≤ usN t n := by
  induction n with
  | zero => exact Nat.le_refl _
  | succ i ih =>
    have ih' := ih fun a b ha hb => h a b (by omega) (by omega)
    rw [usN, unU_succ]
    by_cases c : frB t i i = true
    · rw [if_pos c]
      split
      · omega
      · simp; omega
    · have : ∃ j, j < i ∧ t j = t i := by
        cases hd : decide (∃ j, j < i ∧ t j = t i) with
        | true => exact of_decide_eq_true hd
        | false => exact absurd ((frB_iff t i i).2 fun j hj e => of_decide_eq_false hd ⟨j, hj, e⟩) c
      obtain ⟨j, hj, e⟩ := this
      have ha := (nu_same f w i j hj (h i j (by omega) (by omega) e.symm)).2
      rw [if_neg c, if_pos ha]
      exact ih'
theorem dd_at (f : Nat → Bool) (w : Nat) (t1 t2 : Nat → Nat) (n1 y x : Nat) (hx : x < n1) : ddF f w t1 t2 n1 (y * n1 + x) = f (t2 y * w + t1 x) := mdF_at _ _ _ _ hx
theorem dd_rows (f : Nat → Bool) (w : Nat) (t1 t2 : Nat → Nat) (n1 n2 : Nat) : (unU (ddF f w t1 t2 n1) n1 n2).length ≤ usN t2 n2 :=
  few_used _ _ _ _ fun i j _ _ e => (eqN_iff _ _ _).2 fun x hx => by rw [dd_at _ _ _ _ _ _ _ hx, dd_at _ _ _ _ _ _ _ hx, e]
theorem dd_cols (f : Nat → Bool) (w : Nat) (t1 t2 : Nat → Nat) (n1 n2 : Nat) : (unU (tuF (ddF f w t1 t2 n1) n1 n2) n2 n1).length ≤ usN t1 n1 :=
  few_used _ _ _ _ fun i j hi hj e => (eqN_iff _ _ _).2 fun y hy => by rw [tu_at_row _ _ _ _ _ hy, tu_at_row _ _ _ _ _ hy, dd_at _ _ _ _ _ _ _ hi, dd_at _ _ _ _ _ _ _ hj, e]
/-- the draft with the fewest shafts and treadles weaves the cloth -/
theorem few_weaves_at (f : Nat → Bool) (w h y x : Nat) (hy : y < h) (hx : x < w) : ddF (fwF f w h (unU (tuF f w h) h w).length) (unU (tuF f w h) h w).length (nuN (tuF f w h) h) (nuN f w) w (y * w + x) = f (y * w + x) := by
  obtain ⟨c1, c2⟩ := nu_get (tuF f w h) h w x hx
  obtain ⟨d1, d2⟩ := nu_get f w h y hy
  rw [dd_at _ _ _ _ _ _ _ hx, fwF, mdF_at _ _ _ _ c1]
  have hv := un_get (tuF f w h) h w _ c1
  have e1 := (eqN_iff _ _ _).1 d2 _ hv
  have e2 := (eqN_iff _ _ _).1 c2 y hy
  rw [tu_at_row _ _ _ _ _ hy, tu_at_row _ _ _ _ _ hy] at e2
  exact e1.trans e2
theorem few_weaves (f : Nat → Bool) (w h j : Nat) (hj : j < w * h) : ddF (fwF f w h (unU (tuF f w h) h w).length) (unU (tuF f w h) h w).length (nuN (tuF f w h) h) (nuN f w) w j = f j := by
  have hn : 0 < w := by rcases Nat.eq_zero_or_pos w with e | e; (· rw [e, Nat.zero_mul] at hj; omega); exact e
  have hx := Nat.mod_lt j hn
  have hy : j / w < h := Nat.div_lt_of_lt_mul hj
  have e : j = j / w * w + j % w := by rw [Nat.mul_comm]; exact (Nat.div_add_mod j w).symm
  have := few_weaves_at f w h (j / w) (j % w) hy hx
  rw [← e] at this
  exact this
end Go.Proofs.Ytfbggbalnfbbgaa
