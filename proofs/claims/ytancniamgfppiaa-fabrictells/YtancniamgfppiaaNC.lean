/-
  The mathematics of FabricCounts: along each yarn there are as many loops as were laid.
-/
import Derived.Test.YtancniamgfppiaaNM
namespace Go.Proofs.Ytancniamgfppiaa

theorem cn_countP (p : Nat → Bool) (n : Nat) : cn p n = (List.range n).countP p := by
  induction n with
  | zero => rfl
  | succ n ih =>
    simp only [cn]
    rw [List.range_succ, List.countP_append, ih, List.countP_singleton]
theorem lsF_countP {q : Nat → Bool} {c : Nat → Int} {K : Nat} {k : Int} (hq : ∀ x, q x = decide (c x = k)) (n : Nat) : (lsF (eqB c K) n).countP q = if (K : Int) = k then cn (eqB c K) n else 0 := by
  by_cases e : (K : Int) = k
  · rw [if_pos e, ← lsF_len, List.countP_eq_length]
    intro x hx
    have := (lsF_mem hx).2
    rw [hq]
    simpa [eqB, e] using this
  · rw [if_neg e, List.countP_eq_zero]
    intro x hx
    have := (lsF_mem hx).2
    rw [hq]
    simp [eqB] at this
    simp
    omega
theorem ixL_countP {q : Nat → Bool} {c : Nat → Int} {k : Int} (hq : ∀ x, q x = decide (c x = k)) (n : Nat) (M : Nat) : (ixL c n M).countP q = if 0 ≤ k ∧ k < (M : Int) then cn q n else 0 := by
  induction M with
  | zero =>
    rw [if_neg (by omega)]
    rfl
  | succ M ih =>
    simp only [ixL]
    rw [List.countP_append, ih, lsF_countP hq]
    by_cases e : (M : Int) = k
    · rw [if_neg (by omega), if_pos e, if_pos (by omega), Nat.zero_add]
      exact cn_congr (fun j _ => by rw [hq, ← e]; rfl)
    · rw [if_neg e, Nat.add_zero]
      by_cases d : 0 ≤ k ∧ k < (M : Int)
      · rw [if_pos d, if_pos (by omega)]
      · rw [if_neg d, if_neg (by omega)]
/-- in the order of the yarns there are as many of each -/
theorem count_ix {c : Nat → Int} {n : Nat} (h : Cs c n) (k : Int) : cn (fun p => decide (c (ix c n p) = k)) n = cn (fun x => decide (c x = k)) n := by
  have e : ixL c n 8 = (List.range n).map (ix c n) := by
    apply List.ext_getElem?
    intro p
    rw [List.getElem?_map]
    rcases Nat.lt_or_ge p n with d | d
    · rw [ix_get h d, List.getElem?_range d]
      rfl
    · rw [List.getElem?_eq_none (by rw [ixL_all h]; exact d), List.getElem?_eq_none (by simpa using d)]
      rfl
  have e2 := ixL_countP (q := fun x => decide (c x = k)) (c := c) (k := k) (fun _ => rfl) n 8
  rw [e, List.countP_map] at e2
  rw [cn_countP]
  refine Eq.trans e2 ?_
  by_cases d : 0 ≤ k ∧ k < ((8 : Nat) : Int)
  · rw [if_pos d]
  · rw [if_neg d]
    refine (cn_none (fun j hj => ?_)).symm
    have := h j hj
    simp
    omega
/-- a greater carrier has greater numbers -/
theorem nm_car {c : Nat → Int} {n a b : Nat} (h : Cs c n) (ha : a < n) (hb : b < n) (hc : c b < c a) : nm c n b < nm c n a := by
  obtain ⟨A, hA⟩ : ∃ A : Nat, c a = A := ⟨(c a).toNat, by have := h a ha; omega⟩
  obtain ⟨D, hD⟩ : ∃ D : Nat, c b = D := ⟨(c b).toNat, by have := h b hb; omega⟩
  rw [nm_here hA, nm_here hD]
  obtain ⟨t, e⟩ := ixL_pre c n (show D + 1 ≤ A by omega)
  have e1 : (ixL c n A).length = (ixL c n D).length + cn (eqB c D) n + t.length := by
    rw [e]
    simp only [ixL, List.length_append, lsF_len]
  have e2 : cn (eqB c D) (b + 1) = cn (eqB c D) b + 1 := by
    simp only [cn]
    rw [if_pos (by simp [eqB, hD])]
  have e3 := cn_mono (eqB c D) (show b + 1 ≤ n by omega)
  omega
theorem ix_car {c : Nat → Int} {n p : Nat} (h : Cs c n) (hp : p + 1 < n) : c (ix c n p) ≤ c (ix c n (p + 1)) := by
  have h1 := nm_ix h (show p < n by omega)
  have h2 := nm_ix h hp
  rcases Int.lt_or_le (c (ix c n (p + 1))) (c (ix c n p)) with d | d
  · have := nm_car h h1.1 h2.1 d
    omega
  · exact d

theorem reN_len {k : Kn} (h : Cs (carF k.loops) k.loops.length) : (reN k).loops.length = k.loops.length := by
  show ((ixL (carF k.loops) k.loops.length 8).map _).length = _
  rw [List.length_map, ixL_all h]
theorem reN_car {k : Kn} (h : Cs (carF k.loops) k.loops.length) {p : Nat} (hp : p < k.loops.length) : carF (reN k).loops p = carF k.loops (ix (carF k.loops) k.loops.length p) := by
  show ((((ixL (carF k.loops) k.loops.length 8).map fun x => (carF k.loops x, (thrF k.loops x).map (nm (carF k.loops) k.loops.length)))).getD p (0, [])).1 = _
  rw [List.getD_eq_getElem?_getD, List.getElem?_map, ix_get h hp]
  rfl

/-- does a stitch lay a loop of this carrier? -/
def laB (x : Sx) (k : Int) : Bool := (x.dk == 1 || x.dk == 2) && x.car == k
theorem carF_app (l : List (Int × List Nat)) (e : Int × List Nat) {j : Nat} (h : j < l.length) : carF (l ++ [e]) j = carF l j := by
  unfold carF
  rw [List.getD_eq_getElem?_getD, List.getD_eq_getElem?_getD, List.getElem?_append_left h]
theorem carF_last (l : List (Int × List Nat)) (e : Int × List Nat) : carF (l ++ [e]) l.length = e.1 := by
  unfold carF
  rw [List.getD_eq_getElem?_getD, List.getElem?_append_right (Nat.le_refl _), Nat.sub_self]
  rfl
theorem laid_one (s : St) (x : Sx) (k : Int) : cn (fun j => decide (carF (doS s x).loops j = k)) (doS s x).loops.length = cn (fun j => decide (carF s.loops j = k)) s.loops.length + (if laB x k = true then 1 else 0) := by
  unfold doS cnt doX
  by_cases e1 : x.dk = 1
  · rw [if_pos e1]
    dsimp only
    rw [List.length_append]
    simp only [List.length_singleton, cn]
    rw [carF_last, cn_congr (fun j hj => by rw [carF_app _ _ hj])]
    have : laB x k = decide (x.car = k) := by unfold laB; rw [e1]; simp; rfl
    rw [this]
  rw [if_neg e1]
  by_cases e2 : x.dk = 2
  · rw [if_pos e2]
    dsimp only
    rw [List.length_append]
    simp only [List.length_singleton, cn]
    rw [carF_last, cn_congr (fun j hj => by rw [carF_app _ _ hj])]
    have : laB x k = decide (x.car = k) := by unfold laB; rw [e2]; simp; rfl
    rw [this]
  rw [if_neg e2]
  have : laB x k = false := by unfold laB; simp [e1, e2]
  rw [this]
  by_cases e4 : x.dk = 4
  · rw [if_pos e4]; rfl
  rw [if_neg e4]
  by_cases e5 : x.dk = 5
  · rw [if_pos e5]; rfl
  rw [if_neg e5]
  by_cases e6 : x.dk = 6
  · rw [if_pos e6]; rfl
  · rw [if_neg e6]; rfl
theorem knS_done {N : Nat} {f : Nat → Sx} {n : Nat} (h : erS N f n = 0) : knS N f (n + 1) = doS (knS N f n) (f n) := by
  have h0 : wrE N (knS N f n) (f n) = 0 := h
  simp only [knS]
  rw [if_pos h0]
theorem laid_all (N : Nat) (f : Nat → Sx) (k : Int) : ∀ n, (∀ i, i < n → erS N f i = 0) → cn (fun j => decide (carF (knS N f n).loops j = k)) (knS N f n).loops.length = cn (fun j => laB (f j) k) n := by
  intro n
  induction n with
  | zero => intro _; rfl
  | succ n ih =>
    intro h
    have h0 := h n (by omega)
    rw [knS_done h0, laid_one, ih (fun i hi => h i (by omega))]
    rfl
/-- what is counted twice -/
theorem counts_math {N : Nat} {f : Nat → Sx} {n : Nat} (h : ∀ i, i < n → erS N f i = 0) (k : Int) : cn (fun p => decide (carF (reN (tell N (knS N f n))).loops p = k)) (reN (tell N (knS N f n))).loops.length = cn (fun j => laB (f j) k) n ∧ (∀ p, p + 1 < (reN (tell N (knS N f n))).loops.length → carF (reN (tell N (knS N f n))).loops p ≤ carF (reN (tell N (knS N f n))).loops (p + 1)) ∧ (reN (tell N (knS N f n))).loops.length ≤ 4096 := by
  have hC : Cs (carF (tell N (knS N f n)).loops) (tell N (knS N f n)).loops.length := (Bd.kn N f n).cs
  rw [reN_len hC]
  refine ⟨?_, fun p hp => ?_, ?_⟩
  · rw [← laid_all N f k n h]
    rw [cn_congr (fun j hj => by rw [reN_car hC hj])]
    exact count_ix hC k
  · rw [reN_car hC (by omega), reN_car hC hp]
    exact ix_car hC hp
  · have := Iv.kn N f n
    show (knS N f n).loops.length ≤ 4096
    have h1 := this.1
    have h2 := this.2.1
    omega
/-- the first stitch that is refused -/
theorem first_bad (N : Nat) (f : Nat → Sx) : ∀ n, (∀ i, i < n → erS N f i = 0) ∨ ∃ k, k < n ∧ (∀ i, i < k → erS N f i = 0) ∧ erS N f k ≠ 0 := by
  intro n
  induction n with
  | zero => exact .inl (fun i hi => by omega)
  | succ n ih =>
    rcases ih with h | ⟨k, h1, h2, h3⟩
    · by_cases e : erS N f n = 0
      · refine .inl (fun i hi => ?_)
        by_cases d : i = n
        · rw [d]; exact e
        · exact h i (by omega)
      · exact .inr ⟨n, by omega, h, e⟩
    · exact .inr ⟨k, by omega, h2, h3⟩
end Go.Proofs.Ytancniamgfppiaa
