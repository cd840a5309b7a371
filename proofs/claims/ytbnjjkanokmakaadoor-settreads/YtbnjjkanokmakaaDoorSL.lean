/-
  The mathematics of setts: stripes that come once, what is wrong with them, their threads, runs of threads, folding.
-/
import Derived.Test.YtbnjjkanokmakaaDoorBase
namespace Go.Proofs.YtbnjjkanokmakaaDoor
open Go.RowKit

/-- a stripe: its colour, its count -/
abbrev St := Int × Int
def ca (l : List St) (k : Nat) : Int := (l.getD k (0, 0)).1
def cb (l : List St) (k : Nat) : Int := (l.getD k (0, 0)).2
theorem cab (l : List St) (k : Nat) : (ca l k, cb l k) = l.getD k (0, 0) := rfl
theorem getD_lt {α : Type} (l : List α) (d : α) {k : Nat} (h : k < l.length) : l.getD k d = l[k] := by simp [h]
/-- beyond its bounds -/
def byd (x : St) : Bool := decide (x.1 < 0) || decide (61 < x.1) || decide (x.2 < 1) || decide (4096 < x.2)
theorem byd_no {x : St} (h : byd x = false) : (0 ≤ x.1 ∧ x.1 ≤ 61) ∧ 1 ≤ x.2 ∧ x.2 ≤ 4096 := by
  simp [byd] at h
  omega
/-- threads of stripes, in all -/
def sumC : List St → Int
  | [] => 0
  | x :: r => x.2 + sumC r
theorem sumC_app (l m : List St) : sumC (l ++ m) = sumC l + sumC m := by
  induction l with
  | nil => simp [sumC]
  | cons x r ih => simp [sumC, ih]; omega
theorem sumC_rev (l : List St) : sumC l.reverse = sumC l := by
  induction l with
  | nil => rfl
  | cons x r ih => rw [List.reverse_cons, sumC_app, ih]; simp [sumC]; omega
theorem take_succ {α : Type} (l : List α) (d : α) {k : Nat} (h : k < l.length) : l.take (k + 1) = l.take k ++ [l.getD k d] := by
  rw [getD_lt l d h]; simp
theorem sumC_take (l : List St) {k : Nat} (h : k < l.length) : sumC (l.take (k + 1)) = sumC (l.take k) + cb l k := by
  rw [take_succ l (0, 0) h, sumC_app]; simp [sumC, cb]
/-- the way back: from the last but one on, so many -/
def bkL (l : List St) (m : Nat) : List St := (List.range m).map fun j => l.getD (l.length - 2 - j) (0, 0)
theorem bkL_len (l : List St) (m : Nat) : (bkL l m).length = m := by simp [bkL]
theorem bkL_succ (l : List St) (m : Nat) : bkL l (m + 1) = bkL l m ++ [l.getD (l.length - 2 - m) (0, 0)] := by simp [bkL, List.range_succ]
/-- a sett that comes once -/
def onL (pv : Bool) (l : List St) : List St := if pv = true then l ++ bkL l (l.length - 2) else l
theorem onL_len (pv : Bool) (l : List St) : (onL pv l).length ≤ 2 * l.length := by
  unfold onL
  split
  · rw [List.length_append, bkL_len]; omega
  · omega
theorem onL_pos (pv : Bool) (l : List St) (h : 1 ≤ l.length) : 1 ≤ (onL pv l).length := by
  unfold onL
  split
  · rw [List.length_append]; omega
  · exact h
theorem bk_mid (l : List St) : bkL l (l.length - 2) = ((l.drop 1).dropLast).reverse := by
  apply List.ext_getElem
  · simp [bkL_len]; omega
  · intro i h1 h2
    simp [bkL] at h1 h2 ⊢
    rw [List.getElem?_eq_getElem (by omega)]
    simp
    congr 1
    omega
theorem mid_of (l : List St) (h : 2 ≤ l.length) : ∃ (x : St) (m : List St) (y : St), l = x :: (m ++ [y]) ∧ onL true l = x :: (m ++ y :: m.reverse) := by
  obtain ⟨x, r, rfl⟩ : ∃ x r, l = x :: r := by
    cases l with
    | nil => simp at h
    | cons x r => exact ⟨x, r, rfl⟩
  have hr : r ≠ [] := by rintro rfl; simp at h
  refine ⟨x, r.dropLast, r.getLast hr, by rw [List.dropLast_concat_getLast], ?_⟩
  unfold onL
  rw [if_pos rfl, bk_mid]
  show x :: (r ++ _) = _
  rw [show List.drop 1 (x :: r) = r from rfl]
  congr 1
  conv => lhs; rw [← List.dropLast_concat_getLast hr]
  simp
/-- as the document counts it: each, and those amid once more -/
def lgS (pv : Bool) (l : List St) : Nat → Int
  | 0 => 0
  | k + 1 => lgS pv l k + cb l k + (if pv = true ∧ 0 < k ∧ k + 1 < l.length then cb l k else 0)
theorem lg_no (l : List St) (k : Nat) (h : k ≤ l.length) : lgS false l k = sumC (l.take k) := by
  induction k with
  | zero => rfl
  | succ k ih => rw [lgS, ih (by omega), sumC_take l (by omega)]; simp
theorem lg_yes (l : List St) (k : Nat) (h : k + 1 ≤ l.length) : lgS true l k = sumC (l.take k) + sumC ((l.take k).drop 1) := by
  induction k with
  | zero => rfl
  | succ k ih =>
    rw [lgS, ih (by omega), sumC_take l (by omega)]
    by_cases hk : 0 < k
    · rw [if_pos ⟨rfl, hk, by omega⟩, take_succ l (0, 0) (by omega), List.drop_append_of_le_length (by simp; omega), sumC_app]
      simp [sumC, cb]
      omega
    · obtain rfl : k = 0 := by omega
      rw [if_neg (by omega)]
      simp [sumC]
theorem lg_eq (pv : Bool) (l : List St) : lgS pv l l.length = sumC (onL pv l) := by
  cases pv with
  | false => rw [lg_no l _ (Nat.le_refl _)]; simp [onL]
  | true =>
    rcases Nat.eq_zero_or_pos l.length with h | h
    · obtain rfl := List.eq_nil_of_length_eq_zero h
      rfl
    · obtain ⟨k, hk⟩ : ∃ k, l.length = k + 1 := ⟨l.length - 1, by omega⟩
      rw [hk, lgS, lg_yes l k (by omega), if_neg (by omega)]
      unfold onL
      rw [if_pos rfl, sumC_app, bk_mid, sumC_rev]
      have e1 := sumC_take l (k := k) (by omega)
      rw [← hk, List.take_length] at e1
      have e2 : (l.drop 1).dropLast = (l.take k).drop 1 := by
        rw [List.dropLast_eq_take, ← List.drop_take]
        simp [hk]
      rw [e2]
      omega

/-- what is wrong with a sett -/
def wE (pv : Bool) (l : List St) : Int := if l.length < 1 ∨ 256 < l.length ∨ (l.length = 1 ∧ pv = true) then 5 else if l.any byd = true then 3 else if 4096 < sumC (onL pv l) then 4 else 0
theorem wE_many {pv : Bool} {l : List St} (h : l.length < 1 ∨ 256 < l.length ∨ (l.length = 1 ∧ pv = true)) : wE pv l = 5 := by unfold wE; rw [if_pos h]
theorem wE_beyond {pv : Bool} {l : List St} (h0 : ¬ (l.length < 1 ∨ 256 < l.length ∨ (l.length = 1 ∧ pv = true))) (h : l.any byd = true) : wE pv l = 3 := by unfold wE; rw [if_neg h0, if_pos h]
theorem wE_much {pv : Bool} {l : List St} (h0 : ¬ (l.length < 1 ∨ 256 < l.length ∨ (l.length = 1 ∧ pv = true))) (h1 : l.any byd = false) (h : 4096 < sumC (onL pv l)) : wE pv l = 4 := by unfold wE; rw [if_neg h0, if_neg (by simp [h1]), if_pos h]
theorem wE_ok {pv : Bool} {l : List St} (h0 : ¬ (l.length < 1 ∨ 256 < l.length ∨ (l.length = 1 ∧ pv = true))) (h1 : l.any byd = false) (h : ¬ 4096 < sumC (onL pv l)) : wE pv l = 0 := by unfold wE; rw [if_neg h0, if_neg (by simp [h1]), if_neg h]
theorem wE_le (pv : Bool) (l : List St) : 0 ≤ wE pv l ∧ wE pv l ≤ 5 := by 
  unfold wE
  repeat' split
  all_goals decide
theorem any_at {l : List St} {k : Nat} (hk : k < l.length) (h : byd (ca l k, cb l k) = true) : l.any byd = true := by
  rw [List.any_eq_true]
  refine ⟨l[k], List.getElem_mem hk, ?_⟩
  rw [cab, getD_lt _ _ hk] at h
  exact h
theorem any_none {l : List St} (h : ∀ k, k < l.length → byd (ca l k, cb l k) = false) : l.any byd = false := by
  rw [Bool.eq_false_iff]
  intro e
  rw [List.any_eq_true] at e
  obtain ⟨x, hx, hb⟩ := e
  obtain ⟨k, hk, rfl⟩ := List.mem_iff_getElem.1 hx
  have := h k hk
  rw [cab, getD_lt _ _ hk, hb] at this
  cases this
theorem any_get {l : List St} (h : l.any byd = false) {k : Nat} (hk : k < l.length) : byd (ca l k, cb l k) = false := by
  rw [cab, getD_lt _ _ hk]
  cases e : byd l[k] with
  | false => rfl
  | true => rw [List.any_eq_true.2 ⟨l[k], List.getElem_mem hk, e⟩] at h; cases h
/-- a sett that may be -/
structure Ok (pv : Bool) (l : List St) : Prop where
  few : 1 ≤ l.length ∧ l.length ≤ 256
  two : pv = true → 2 ≤ l.length
  each : ∀ k, k < l.length → (0 ≤ ca l k ∧ ca l k ≤ 61) ∧ 1 ≤ cb l k ∧ cb l k ≤ 4096
  much : sumC (onL pv l) ≤ 4096
theorem ok_of {pv : Bool} {l : List St} (h : wE pv l = 0) : Ok pv l := by
  by_cases h0 : l.length < 1 ∨ 256 < l.length ∨ (l.length = 1 ∧ pv = true)
  · rw [wE_many h0] at h; cases h
  · cases h1 : l.any byd with
    | true => rw [wE_beyond h0 h1] at h; cases h
    | false =>
      by_cases h2 : 4096 < sumC (onL pv l)
      · rw [wE_much h0 h1 h2] at h; cases h
      · exact ⟨⟨Nat.le_of_not_lt fun q => h0 (.inl q), Nat.le_of_not_lt fun q => h0 (.inr (.inl q))⟩, fun hp => by have q1 : ¬ l.length < 1 := fun q => h0 (.inl q); have q2 : ¬ l.length = 1 := fun q => h0 (.inr (.inr ⟨q, hp⟩)); omega, fun k hk => byd_no (any_get h1 hk), by omega⟩
theorem Ok.wE {pv : Bool} {l : List St} (h : Ok pv l) : wE pv l = 0 := by
  refine wE_ok ?_ (any_none fun k hk => ?_) (by have := h.much; omega)
  · have := h.few
    have := h.two
    rintro (q | q | ⟨q, q2⟩)
    · omega
    · omega
    · have := this q2; omega
  · have := h.each k hk
    simp [byd]
    omega
theorem bkL_each {l : List St} {P : St → Prop} (h : ∀ k, k < l.length → P (l.getD k (0, 0))) (h1 : 2 ≤ l.length) : ∀ x ∈ bkL l (l.length - 2), P x := by
  intro x hx
  simp only [bkL, List.mem_map, List.mem_range] at hx
  obtain ⟨j, hj, rfl⟩ := hx
  exact h _ (by omega)
theorem onL_each {pv : Bool} {l : List St} {P : St → Prop} (h : ∀ k, k < l.length → P (l.getD k (0, 0))) : ∀ x ∈ onL pv l, P x := by
  have base : ∀ x ∈ l, P x := fun x hx => by
    obtain ⟨k, hk, rfl⟩ := List.mem_iff_getElem.1 hx
    have := h k hk
    rwa [getD_lt _ _ hk] at this
  intro x hx
  unfold onL at hx
  split at hx
  · rw [List.mem_append] at hx
    rcases hx with hx | hx
    · exact base x hx
    · by_cases h2 : 2 ≤ l.length
      · exact bkL_each h h2 x hx
      · rw [show l.length - 2 = 0 by omega] at hx
        simp [bkL] at hx
  · exact base x hx

/-- the threads of stripes -/
def thr (l : List St) : List Int := l.flatMap fun x => List.replicate x.2.toNat x.1
theorem thr_app (l m : List St) : thr (l ++ m) = thr l ++ thr m := by simp [thr]
theorem thr_take (l : List St) {k : Nat} (h : k < l.length) : thr (l.take (k + 1)) = thr (l.take k) ++ List.replicate (cb l k).toNat (ca l k) := by
  rw [take_succ l (0, 0) h, thr_app]; simp [thr, ca, cb]
theorem thr_rev (l : List St) : thr l.reverse = (thr l).reverse := by
  induction l with
  | nil => rfl
  | cons x r ih =>
    rw [List.reverse_cons, thr_app, ih, show x :: r = [x] ++ r from rfl, thr_app, List.reverse_append]
    simp [thr]
theorem thr_len (l : List St) (h : ∀ x ∈ l, 0 ≤ x.2) : ((thr l).length : Int) = sumC l := by
  induction l with
  | nil => rfl
  | cons x r ih =>
    rw [show x :: r = [x] ++ r from rfl, thr_app, sumC_app, List.length_append]
    have := ih (fun y hy => h y (by simp [hy]))
    have := h x (by simp)
    simp [thr, sumC] at *
    omega

/-- another thread -/
def addR (r : List St) (c : Int) : List St := if r.length ≠ 0 ∧ ca r (r.length - 1) = c then r.dropLast ++ [(c, cb r (r.length - 1) + 1)] else r ++ [(c, 1)]
theorem addR_pos (r : List St) (c : Int) : 1 ≤ (addR r c).length := by unfold addR; split <;> simp
theorem addR_ca (r : List St) (c : Int) : ca (addR r c) ((addR r c).length - 1) = c := by
  unfold addR
  split <;> simp [ca]
theorem addR_len (r : List St) (c : Int) : (addR r c).length ≤ r.length + 1 := by
  unfold addR
  split
  · simp
  · simp
theorem addR_thr (r : List St) (c : Int) (h : ∀ k, k < r.length → 1 ≤ cb r k) : thr (addR r c) = thr r ++ [c] := by
  unfold addR
  split
  · rename_i hh
    have hne : r ≠ [] := by rintro rfl; simp at hh
    have hg : r.getLast hne = (c, cb r (r.length - 1)) := by
      rw [List.getLast_eq_getElem, ← getD_lt r (0, 0) (show r.length - 1 < r.length by omega), ← cab, hh.2]
    have hc := h (r.length - 1) (by omega)
    conv => rhs; rw [← List.dropLast_concat_getLast hne, hg]
    rw [thr_app, thr_app, List.append_assoc]
    congr 1
    obtain ⟨m, hm⟩ : ∃ m : Nat, cb r (r.length - 1) = m := ⟨(cb r (r.length - 1)).toNat, by omega⟩
    rw [hm]
    have e : ((m : Int) + 1).toNat = m + 1 := by omega
    simp [thr, e, List.replicate_succ']
  · simp [thr]
theorem addR_each (r : List St) (c : Int) (b : Int) (h : ∀ k, k < r.length → 1 ≤ cb r k ∧ cb r k ≤ b) (hb : 0 ≤ b) : ∀ k, k < (addR r c).length → 1 ≤ cb (addR r c) k ∧ cb (addR r c) k ≤ b + 1 := by
  intro k hk
  unfold addR at hk ⊢
  split at hk
  · rename_i hh
    rw [if_pos hh]
    have h1 := h (r.length - 1) (by omega)
    simp at hk
    by_cases e : k = r.length - 1
    · subst e
      simp [cb] at h1 ⊢
      omega
    · have h2 := h k (by omega)
      have : cb (r.dropLast ++ [(c, cb r (r.length - 1) + 1)]) k = cb r k := by
        generalize cb r (r.length - 1) + 1 = z
        unfold cb
        rw [getD_lt _ _ (show k < (r.dropLast ++ [(c, z)]).length by simp; omega), getD_lt _ _ (show k < r.length by omega), List.getElem_append_left (by simp; omega)]
        simp
      rw [this]
      omega
  · rename_i hh
    rw [if_neg hh]
    simp at hk
    by_cases e : k = r.length
    · subst e
      simp [cb]; omega
    · have h2 := h k (by omega)
      have : cb (r ++ [(c, 1)]) k = cb r k := by
        unfold cb
        rw [getD_lt _ _ (show k < (r ++ [(c, 1)]).length by simp; omega), getD_lt _ _ (show k < r.length by omega), List.getElem_append_left (by omega)]
      rw [this]
      omega
/-- runs of threads -/
def rnL (l : List Int) : List St := l.foldl addR []
theorem rn_take (l : List Int) {k : Nat} (h : k < l.length) : rnL (l.take (k + 1)) = addR (rnL (l.take k)) (l.getD k 0) := by
  rw [take_succ l 0 h, rnL, List.foldl_append]; rfl
theorem rn_each (l : List Int) (k : Nat) (h : k ≤ l.length) : (∀ j, j < (rnL (l.take k)).length → 1 ≤ cb (rnL (l.take k)) j ∧ cb (rnL (l.take k)) j ≤ k) ∧ (rnL (l.take k)).length ≤ k ∧ thr (rnL (l.take k)) = l.take k := by
  induction k with
  | zero => exact ⟨fun j hj => by simp [rnL] at hj, by simp [rnL], by simp [rnL, thr]⟩
  | succ k ih =>
    obtain ⟨i1, i2, i3⟩ := ih (by omega)
    rw [rn_take l (by omega)]
    refine ⟨fun j hj => ?_, ?_, ?_⟩
    · have := addR_each _ _ (k : Int) i1 (by omega) j hj
      omega
    · have := addR_len (rnL (l.take k)) (l.getD k 0)
      omega
    · rw [addR_thr _ _ (fun j hj => (i1 j hj).1), i3, take_succ l 0 (by omega)]
theorem rn_last (l : List Int) (k : Nat) (hk : 0 < k) (h : k ≤ l.length) : 1 ≤ (rnL (l.take k)).length ∧ ca (rnL (l.take k)) ((rnL (l.take k)).length - 1) = l.getD (k - 1) 0 := by
  obtain ⟨j, rfl⟩ : ∃ j, k = j + 1 := ⟨k - 1, by omega⟩
  rw [rn_take l (by omega)]
  exact ⟨addR_pos _ _, addR_ca _ _⟩

/-- there and back -/
abbrev gbP (r : List St) : Prop := (r.length ≠ 0 ∧ r.length % 2 = 0) ∧ ∀ i, i < r.length → 1 ≤ i → r.getD i (0, 0) = r.getD (r.length - i) (0, 0)
def gb (r : List St) : Bool := decide (gbP r)
theorem gb_yes {r : List St} (h : gbP r) : gb r = true := decide_eq_true h
theorem gb_no {r : List St} (h : ¬ gbP r) : gb r = false := decide_eq_false h
/-- how many stripes are kept -/
def foN (r : List St) : Nat := if gb r = true then r.length / 2 + 1 else r.length
theorem foN_le (r : List St) : foN r ≤ r.length := by
  unfold foN
  split
  · rename_i h
    have := (of_decide_eq_true h).1
    omega
  · omega
theorem onL_fo (r : List St) : onL (gb r) (r.take (foN r)) = r := by
  unfold foN onL
  cases h : gb r with
  | false => simp
  | true =>
    obtain ⟨⟨h0, h1⟩, h2⟩ := of_decide_eq_true h
    obtain ⟨m, hm⟩ : ∃ m, r.length = 2 * m := ⟨r.length / 2, by omega⟩
    have hd : r.length / 2 = m := by omega
    rw [if_pos rfl, if_pos rfl, hd]
    apply List.ext_getElem
    · simp [bkL_len]; omega
    · intro i i1 i2
      by_cases hi : i < m + 1
      · rw [List.getElem_append_left (by simp; omega)]; simp
      · rw [List.getElem_append_right (by simp; omega)]
        have hl : (r.take (m + 1)).length = m + 1 := by simp; omega
        simp only [bkL, List.getElem_map, List.getElem_range, hl]
        have e := h2 i i2 (by omega)
        rw [getD_lt _ _ i2] at e
        rw [e, getD_lt _ _ (by simp; omega), getD_lt _ _ (by omega)]
        simp
        congr 1
        omega
/-- no colour among threads -/
def nocol (c : Int) : Bool := decide (c < 0) || decide (61 < c)
theorem pal_sym (pv : Bool) (l : List St) (h : Ok pv l) (hp : pv = true) (i : Nat) (hi : i < (thr (onL pv l)).length) :
    ∃ m : Nat, (cb l 0 - 1 - i + 2 * ((thr (onL pv l)).length : Int)).tmod ((thr (onL pv l)).length : Int) = m ∧ m < (thr (onL pv l)).length ∧ (thr (onL pv l)).getD i 0 = (thr (onL pv l)).getD m 0 := by
  subst hp
  obtain ⟨x, mi, y, rfl, ho⟩ := mid_of l (h.two rfl)
  have hc := (h.each 0 (by simp)).2
  have e0 : cb (x :: (mi ++ [y])) 0 = x.2 := rfl
  rw [e0] at hc ⊢
  rw [ho] at hi ⊢
  rw [show x :: (mi ++ y :: mi.reverse) = [x] ++ (mi ++ y :: mi.reverse) from rfl, thr_app] at hi ⊢
  have hT : (thr (mi ++ y :: mi.reverse)).reverse = thr (mi ++ y :: mi.reverse) := by
    rw [← thr_rev]; simp
  generalize thr (mi ++ y :: mi.reverse) = T at *
  obtain ⟨f, hf⟩ : ∃ f : Nat, x.2 = f := ⟨x.2.toNat, by omega⟩
  have hx : thr [x] = List.replicate f x.1 := by simp [thr, hf]
  rw [hx] at hi ⊢
  rw [hf] at hc ⊢
  clear hx hf h ho
  simp only [List.length_append, List.length_replicate] at hi ⊢
  by_cases c : i < f
  · refine ⟨f - 1 - i, ?_, by omega, ?_⟩
    · have e : (f : Int) - 1 - i + 2 * ((f + T.length : Nat) : Int) = ((f - 1 - i : Nat) : Int) + 2 * ((f + T.length : Nat) : Int) := by omega
      rw [e]
      rw [Int.tmod_eq_emod_of_nonneg (by omega), Int.add_mul_emod_self_right, Int.emod_eq_of_lt (by omega) (by omega)]
    · rw [getD_lt _ _ (by simp; omega), getD_lt _ _ (by simp; omega), List.getElem_append_left (by simp; omega), List.getElem_append_left (by simp; omega)]
      simp
  · refine ⟨f + T.length + f - 1 - i, ?_, by omega, ?_⟩
    · have e : (f : Int) - 1 - i + 2 * ((f + T.length : Nat) : Int) = ((f + T.length + f - 1 - i : Nat) : Int) + 1 * ((f + T.length : Nat) : Int) := by omega
      rw [e]
      rw [Int.tmod_eq_emod_of_nonneg (by omega), Int.add_mul_emod_self_right, Int.emod_eq_of_lt (by omega) (by omega)]
    · rw [getD_lt _ _ (by simp; omega), getD_lt _ _ (by simp; omega), List.getElem_append_right (by simp; omega), List.getElem_append_right (by simp; omega)]
      simp only [List.length_replicate]
      have e := congrArg (fun L : List Int => L.getD (i - f) 0) hT
      rw [getD_lt _ _ (by simp; omega), getD_lt _ _ (by omega), List.getElem_reverse] at e
      rw [← e]
      congr 1
      omega
end Go.Proofs.YtbnjjkanokmakaaDoor
