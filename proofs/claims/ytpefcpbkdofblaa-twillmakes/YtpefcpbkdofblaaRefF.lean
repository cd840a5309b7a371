/-
  The reference: Alike. First the mathematics.
-/
import Derived.Test.YtpefcpbkdofblaaRefE
namespace Go.Proofs.Ytpefcpbkdofblaa
open Go.RowKit Go.Shelf

theorem eqN_iff (f g : Nat → Bool) (n : Nat) : eqN f g n = true ↔ ∀ x, x < n → f x = g x := by simp [eqN]
theorem rwE_refl (f : Nat → Bool) (w y : Nat) : rwE f w y y = true := (eqN_iff _ _ _).2 fun _ _ => rfl
theorem rwE_symm {f : Nat → Bool} {w y z : Nat} (h : rwE f w y z = true) : rwE f w z y = true := (eqN_iff _ _ _).2 fun x hx => ((eqN_iff _ _ _).1 h x hx).symm
theorem rwE_trans {f : Nat → Bool} {w x y z : Nat} (h : rwE f w x y = true) (k : rwE f w y z = true) : rwE f w x z = true := (eqN_iff _ _ _).2 fun j hj => ((eqN_iff _ _ _).1 h j hj).trans ((eqN_iff _ _ _).1 k j hj)

/-- the rows ahead of y that are as none ahead of them -/
def unU (f : Nat → Bool) (w y : Nat) : List Nat := (alS f w (List.range y)).1
/-- the number of row y -/
def nuN (f : Nat → Bool) (w y : Nat) : Nat := if (unU f w y).any (fun u => rwE f w u y) then (unU f w y).findIdx (fun u => rwE f w u y) else (unU f w y).length
theorem al_next (f : Nat → Bool) (w y : Nat) : alS f w (List.range (y + 1)) = alStep f w (alS f w (List.range y)) y := by rw [List.range_succ, alS_snoc]
theorem unU_succ (f : Nat → Bool) (w y : Nat) : unU f w (y + 1) = if (unU f w y).any (fun u => rwE f w u y) then unU f w y else unU f w y ++ [y] := by
  unfold unU
  rw [al_next, alStep]
  split <;> rfl
theorem al_num (f : Nat → Bool) (w h z : Nat) (hz : z < h) : (alS f w (List.range h)).2 z = nuN f w z := by
  induction h with
  | zero => omega
  | succ h ih =>
    rw [al_next, alStep]
    by_cases e : z = h
    · subst e
      unfold nuN unU
      split <;> simp
    · have := ih (by omega)
      split <;> simp [e, this]
theorem un_inv (f : Nat → Bool) (w y : Nat) : (∀ z, z < y → ∃ u, (unU f w y)[nuN f w z]? = some u ∧ rwE f w u z = true) ∧ (∀ (i j : Nat) u v, (unU f w y)[i]? = some u → (unU f w y)[j]? = some v → rwE f w u v = true → i = j) ∧ (∀ u ∈ unU f w y, u < y) := by
  induction y with
  | zero =>
    refine ⟨fun z hz => by omega, fun i j u v h => ?_, fun u hu => ?_⟩
    · simp [unU, alS] at h
    · simp [unU, alS] at hu
  | succ y ih =>
    obtain ⟨h1, h2, h3⟩ := ih
    rw [unU_succ]
    by_cases c : (unU f w y).any (fun u => rwE f w u y) = true
    · rw [if_pos c]
      refine ⟨fun z hz => ?_, h2, fun u hu => by have := h3 u hu; omega⟩
      by_cases e : z = y
      · subst e
        have hl : (unU f w z).findIdx (fun u => rwE f w u z) < (unU f w z).length := List.findIdx_lt_length_of_exists (by
          obtain ⟨u, hu, hp⟩ := List.any_eq_true.1 c
          exact ⟨u, hu, hp⟩)
        refine ⟨(unU f w z)[(unU f w z).findIdx (fun u => rwE f w u z)], ?_, ?_⟩
        · unfold nuN; rw [if_pos c]; exact List.getElem?_eq_getElem hl
        · exact List.findIdx_getElem (w := hl)
      · exact h1 z (by omega)
    · rw [if_neg c]
      have hno : ∀ u ∈ unU f w y, rwE f w u y = true → False := fun u hu hp => c (List.any_eq_true.2 ⟨u, hu, hp⟩)
      have split : ∀ (i : Nat) u, (unU f w y ++ [y])[i]? = some u → (i < (unU f w y).length ∧ (unU f w y)[i]? = some u) ∨ (i = (unU f w y).length ∧ u = y) := fun i u h => by
        by_cases l : i < (unU f w y).length
        · rw [List.getElem?_append_left l] at h; exact .inl ⟨l, h⟩
        · rw [List.getElem?_append_right (by omega)] at h
          by_cases l2 : i - (unU f w y).length = 0
          · rw [l2] at h; simp at h; exact .inr ⟨by omega, h.symm⟩
          · obtain ⟨k, hk⟩ : ∃ k, i - (unU f w y).length = k + 1 := ⟨i - (unU f w y).length - 1, by omega⟩
            rw [hk] at h; simp at h
      refine ⟨fun z hz => ?_, fun i j u v hi hj hp => ?_, fun u hu => ?_⟩
      · by_cases e : z = y
        · subst e
          refine ⟨z, ?_, rwE_refl f w z⟩
          unfold nuN
          rw [if_neg c, List.getElem?_append_right (Nat.le_refl _), Nat.sub_self]; rfl
        · obtain ⟨u, hu, hp⟩ := h1 z (by omega)
          refine ⟨u, ?_, hp⟩
          rw [List.getElem?_append_left (List.getElem?_eq_some_iff.1 hu).1]; exact hu
      · rcases split i u hi with ⟨-, hi'⟩ | ⟨hi', rfl⟩
        · rcases split j v hj with ⟨-, hj'⟩ | ⟨-, rfl⟩
          · exact h2 i j u v hi' hj' hp
          · exact (hno u (List.mem_of_getElem? hi') hp).elim
        · rcases split j v hj with ⟨-, hj'⟩ | ⟨hj', -⟩
          · exact (hno v (List.mem_of_getElem? hj') (rwE_symm hp)).elim
          · omega
      · simp at hu
        rcases hu with hu | hu
        · have := h3 u hu; omega
        · omega
/-- a row ahead that is alike has the same number -/
theorem nu_same (f : Nat → Bool) (w y z : Nat) (hz : z < y) (h : rwE f w y z = true) : nuN f w z = nuN f w y ∧ (unU f w y).any (fun u => rwE f w u y) = true := by
  obtain ⟨h1, h2, -⟩ := un_inv f w y
  obtain ⟨u, hu, hp⟩ := h1 z hz
  have huy : rwE f w u y = true := rwE_trans hp (rwE_symm h)
  have c : (unU f w y).any (fun u => rwE f w u y) = true := List.any_eq_true.2 ⟨u, List.mem_of_getElem? hu, huy⟩
  refine ⟨?_, c⟩
  have hl : (unU f w y).findIdx (fun u => rwE f w u y) < (unU f w y).length := List.findIdx_lt_length_of_exists ⟨u, List.mem_of_getElem? hu, huy⟩
  have hv : rwE f w ((unU f w y)[(unU f w y).findIdx (fun u => rwE f w u y)]) y = true := List.findIdx_getElem (p := fun u => rwE f w u y) (w := hl)
  have := h2 _ _ _ _ hu (List.getElem?_eq_getElem hl) (rwE_trans huy (rwE_symm hv))
  unfold nuN at this ⊢
  rw [if_pos c]
  exact this
theorem nu_new (f : Nat → Bool) (w y : Nat) (h : ∀ z, z < y → rwE f w y z = false) : (unU f w y).any (fun u => rwE f w u y) = false := by
  cases c : (unU f w y).any (fun u => rwE f w u y) with
  | false => rfl
  | true =>
    obtain ⟨u, hu, hp⟩ := List.any_eq_true.1 c
    have := h u ((un_inv f w y).2.2 u hu)
    rw [rwE_symm hp] at this
    cases this
/-- the number as the document finds it: the last row ahead that is alike tells it -/
def kkN (f : Nat → Bool) (w y : Nat) : Nat → Nat
  | 0 => (unU f w y).length
  | z + 1 => if rwE f w y z then nuN f w z else kkN f w y z
theorem kk_nu (f : Nat → Bool) (w y z : Nat) (hz : z ≤ y) : (kkN f w y z = nuN f w y) ∨ (kkN f w y z = (unU f w y).length ∧ ∀ t, t < z → rwE f w y t = false) := by
  induction z with
  | zero => exact .inr ⟨rfl, fun t ht => by omega⟩
  | succ z ih =>
    unfold kkN
    cases c : rwE f w y z with
    | true => exact .inl (nu_same f w y z (by omega) c).1
    | false =>
      rw [if_neg Bool.false_ne_true]
      rcases ih (by omega) with h | ⟨h, k⟩
      · exact .inl h
      · refine .inr ⟨h, fun t ht => ?_⟩
        by_cases e : t = z
        · subst e; exact c
        · exact k t (by omega)
theorem kk_all (f : Nat → Bool) (w y : Nat) : kkN f w y y = nuN f w y := by
  rcases kk_nu f w y y (Nat.le_refl _) with h | ⟨h, k⟩
  · exact h
  · rw [h]
    unfold nuN
    rw [if_neg (by rw [nu_new f w y k]; exact Bool.false_ne_true)]
theorem nu_next (f : Nat → Bool) (w y : Nat) : (unU f w (y + 1)).length = if nuN f w y = (unU f w y).length then (unU f w y).length + 1 else (unU f w y).length := by
  rw [unU_succ]
  unfold nuN
  by_cases c : (unU f w y).any (fun u => rwE f w u y) = true
  · rw [if_pos c, if_pos c]
    have hl : (unU f w y).findIdx (fun u => rwE f w u y) < (unU f w y).length := List.findIdx_lt_length_of_exists (by
      obtain ⟨u, hu, hp⟩ := List.any_eq_true.1 c
      exact ⟨u, hu, hp⟩)
    rw [if_neg (by omega)]
  · rw [if_neg c, if_neg c, if_pos rfl]; simp
theorem un_len (f : Nat → Bool) (w y : Nat) : (unU f w y).length ≤ y := by
  have := alS_len f w (List.range y)
  rw [List.length_range] at this
  exact this
theorem nu_le (f : Nat → Bool) (w y : Nat) : nuN f w y ≤ y := by
  have h := un_len f w y
  unfold nuN
  split
  · have := List.findIdx_le_length (xs := unU f w y) (p := fun u => rwE f w u y); omega
  · exact h
def numsV (f : Nat → Nat) (m : Nat) : List Value := (List.range m).map fun j => Value.int .i64 ((f j : Nat) : Int)
theorem numsV_succ (f : Nat → Nat) (m : Nat) : numsV f (m + 1) = numsV f m ++ [.int .i64 ((f m : Nat) : Int)] := by simp [numsV, List.range_succ]
end Go.Proofs.Ytpefcpbkdofblaa
