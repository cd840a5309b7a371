/-
  The mathematics of numbers along yarns.
-/
import Derived.Test.YtancniamgfppiaaRnA
namespace Go.Proofs.Ytancniamgfppiaa

/-- how many of the first are so; which ones -/
def cn (p : Nat → Bool) : Nat → Nat
  | 0 => 0
  | n + 1 => cn p n + (if p n = true then 1 else 0)
def lsF (p : Nat → Bool) : Nat → List Nat
  | 0 => []
  | n + 1 => lsF p n ++ (if p n = true then [n] else [])
theorem lsF_len (p : Nat → Bool) (n : Nat) : (lsF p n).length = cn p n := by
  induction n with
  | zero => rfl
  | succ n ih =>
    simp only [lsF, cn, List.length_append, ih]
    split <;> rfl
theorem cn_le (p : Nat → Bool) (n : Nat) : cn p n ≤ n := by
  induction n with
  | zero => exact Nat.le_refl _
  | succ n ih =>
    simp only [cn]
    split <;> omega
theorem cn_mono (p : Nat → Bool) {m n : Nat} (h : m ≤ n) : cn p m ≤ cn p n := by
  induction n with
  | zero => obtain rfl : m = 0 := by omega
            exact Nat.le_refl _
  | succ n ih =>
    rcases Nat.lt_or_ge m (n + 1) with c | c
    · have := ih (by omega)
      simp only [cn]
      omega
    · obtain rfl : m = n + 1 := by omega
      exact Nat.le_refl _
theorem cn_congr {p q : Nat → Bool} {n : Nat} (h : ∀ j, j < n → p j = q j) : cn p n = cn q n := by
  induction n with
  | zero => rfl
  | succ n ih =>
    simp only [cn]
    rw [ih (fun j hj => h j (by omega)), h n (by omega)]
theorem lsF_congr {p q : Nat → Bool} {n : Nat} (h : ∀ j, j < n → p j = q j) : lsF p n = lsF q n := by
  induction n with
  | zero => rfl
  | succ n ih =>
    simp only [lsF]
    rw [ih (fun j hj => h j (by omega)), h n (by omega)]
theorem cn_all {p : Nat → Bool} {n : Nat} (h : ∀ j, j < n → p j = true) : cn p n = n := by
  induction n with
  | zero => rfl
  | succ n ih =>
    simp only [cn]
    rw [ih (fun j hj => h j (by omega)), if_pos (h n (by omega))]
theorem cn_none {p : Nat → Bool} {n : Nat} (h : ∀ j, j < n → p j = false) : cn p n = 0 := by
  induction n with
  | zero => rfl
  | succ n ih =>
    simp only [cn]
    rw [ih (fun j hj => h j (by omega)), h n (by omega)]
    simp
theorem cn_two {p q r : Nat → Bool} {n : Nat} (h : ∀ j, j < n → (if p j = true then 1 else 0) = (if q j = true then 1 else 0) + (if r j = true then 1 else 0)) : cn p n = cn q n + cn r n := by
  induction n with
  | zero => rfl
  | succ n ih =>
    have := h n (by omega)
    simp only [cn]
    rw [ih (fun j hj => h j (by omega))]
    omega
theorem lsF_at {p : Nat → Bool} {n x : Nat} (hx : x < n) (hp : p x = true) : (lsF p n)[cn p x]? = some x := by
  induction n with
  | zero => omega
  | succ n ih =>
    simp only [lsF]
    rcases Nat.lt_or_ge x n with c | c
    · have e := ih c
      rw [List.getElem?_append_left]
      · exact e
      · rcases Nat.lt_or_ge (cn p x) (lsF p n).length with d | d
        · exact d
        · rw [List.getElem?_eq_none d] at e; cases e
    · obtain rfl : x = n := by omega
      rw [List.getElem?_append_right (by rw [lsF_len]; exact Nat.le_refl _), lsF_len, Nat.sub_self, if_pos hp]
      rfl
theorem lsF_back {p : Nat → Bool} {n r x : Nat} (h : (lsF p n)[r]? = some x) : x < n ∧ p x = true ∧ cn p x = r := by
  induction n with
  | zero => simp [lsF] at h
  | succ n ih =>
    simp only [lsF] at h
    rcases Nat.lt_or_ge r (lsF p n).length with c | c
    · rw [List.getElem?_append_left c] at h
      obtain ⟨a, b, d⟩ := ih h
      exact ⟨by omega, b, d⟩
    · rw [List.getElem?_append_right c] at h
      by_cases hp : p n = true
      · rw [if_pos hp] at h
        match hq : r - (lsF p n).length, h with
        | 0, h =>
          simp at h
          subst h
          exact ⟨by omega, hp, by rw [lsF_len] at hq c; omega⟩
        | k + 1, h => simp at h
      · rw [if_neg hp] at h
        simp at h
theorem lsF_mem {p : Nat → Bool} {n x : Nat} (h : x ∈ lsF p n) : x < n ∧ p x = true := by
  obtain ⟨r, hr⟩ := List.mem_iff_getElem?.1 h
  have := lsF_back hr
  exact ⟨this.1, this.2.1⟩

/-- is a loop of this carrier? -/
def eqB (c : Nat → Int) (K : Nat) : Nat → Bool := fun j => decide (c j = (K : Int))
/-- the loops, those of the least carrier first -/
def ixL (c : Nat → Int) (n : Nat) : Nat → List Nat
  | 0 => []
  | K + 1 => ixL c n K ++ lsF (eqB c K) n
/-- the number of a loop along the yarns -/
def nm (c : Nat → Int) (n x : Nat) : Nat := (ixL c n (c x).toNat).length + cn (eqB c (c x).toNat) x
/-- which loop has this number -/
def ix (c : Nat → Int) (n p : Nat) : Nat := (ixL c n 8).getD p 0
/-- carriers that there are -/
def Cs (c : Nat → Int) (n : Nat) : Prop := ∀ j, j < n → 0 ≤ c j ∧ c j < 8

theorem ixL_len {c : Nat → Int} {n : Nat} (h : Cs c n) (K : Nat) : (ixL c n K).length = cn (fun j => decide (c j < (K : Int))) n := by
  induction K with
  | zero => exact (cn_none (fun j hj => by have := h j hj; simp; omega)).symm
  | succ K ih =>
    simp only [ixL, List.length_append, ih, lsF_len]
    refine (cn_two (fun j hj => ?_)).symm
    have e1 : (decide (c j < ((K + 1 : Nat) : Int)) = true) ↔ c j < (K : Int) ∨ c j = (K : Int) := by simp; omega
    have e2 : (decide (c j < (K : Int)) = true) ↔ c j < (K : Int) := by simp
    have e3 : (eqB c K j = true) ↔ c j = (K : Int) := by simp [eqB]
    by_cases h1 : c j < (K : Int)
    · rw [if_pos (e1.2 (.inl h1)), if_pos (e2.2 h1), if_neg (fun q => by have := e3.1 q; omega)]
    · by_cases h2 : c j = (K : Int)
      · rw [if_pos (e1.2 (.inr h2)), if_neg (fun q => h1 (e2.1 q)), if_pos (e3.2 h2)]
      · rw [if_neg (fun q => (e1.1 q).elim h1 h2), if_neg (fun q => h1 (e2.1 q)), if_neg (fun q => h2 (e3.1 q))]
theorem ixL_all {c : Nat → Int} {n : Nat} (h : Cs c n) : (ixL c n 8).length = n := by
  rw [ixL_len h]
  exact cn_all (fun j hj => by have := h j hj; simp; omega)
theorem ixL_back {c : Nat → Int} {n : Nat} : ∀ (K p x : Nat), (ixL c n K)[p]? = some x → x < n ∧ nm c n x = p := by
  intro K
  induction K with
  | zero => intro p x h; simp [ixL] at h
  | succ K ih =>
    intro p x h
    simp only [ixL] at h
    rcases Nat.lt_or_ge p (ixL c n K).length with d | d
    · rw [List.getElem?_append_left d] at h
      exact ih p x h
    · rw [List.getElem?_append_right d] at h
      obtain ⟨a, b, e⟩ := lsF_back h
      have hk : c x = (K : Int) := by simpa [eqB] using b
      refine ⟨a, ?_⟩
      unfold nm
      rw [hk, show ((K : Nat) : Int).toNat = K by omega, e]
      omega
theorem ixL_pre (c : Nat → Int) (n : Nat) {K M : Nat} (h : K ≤ M) : ∃ t, ixL c n M = ixL c n K ++ t := by
  induction M with
  | zero => obtain rfl : K = 0 := by omega
            exact ⟨[], by simp⟩
  | succ M ih =>
    rcases Nat.lt_or_ge K (M + 1) with d | d
    · obtain ⟨t, e⟩ := ih (by omega)
      exact ⟨t ++ lsF (eqB c M) n, by simp only [ixL, e, List.append_assoc]⟩
    · obtain rfl : K = M + 1 := by omega
      exact ⟨[], by simp⟩
theorem ixL_at {c : Nat → Int} {n x : Nat} (h : Cs c n) (hx : x < n) : (ixL c n 8)[nm c n x]? = some x := by
  obtain ⟨c0, c8⟩ := h x hx
  obtain ⟨K, hK⟩ : ∃ K : Nat, c x = K := ⟨(c x).toNat, by omega⟩
  have hk8 : K + 1 ≤ 8 := by omega
  obtain ⟨t, e⟩ := ixL_pre c n hk8
  have hp : eqB c K x = true := by simp [eqB, hK]
  have h1 := lsF_at hx hp
  unfold nm
  rw [hK, show ((K : Nat) : Int).toNat = K by omega, e]
  simp only [ixL]
  rw [List.append_assoc, List.getElem?_append_right (by omega), show (ixL c n K).length + cn (eqB c K) x - (ixL c n K).length = cn (eqB c K) x by omega, List.getElem?_append_left]
  · exact h1
  · rcases Nat.lt_or_ge (cn (eqB c K) x) (lsF (eqB c K) n).length with d | d
    · exact d
    · rw [List.getElem?_eq_none d] at h1; cases h1
theorem nm_lt {c : Nat → Int} {n x : Nat} (h : Cs c n) (hx : x < n) : nm c n x < n := by
  have e := ixL_at h hx
  rcases Nat.lt_or_ge (nm c n x) (ixL c n 8).length with d | d
  · rw [ixL_all h] at d; exact d
  · rw [List.getElem?_eq_none d] at e; cases e
theorem ix_nm {c : Nat → Int} {n x : Nat} (h : Cs c n) (hx : x < n) : ix c n (nm c n x) = x := by
  unfold ix
  rw [List.getD_eq_getElem?_getD, ixL_at h hx]
  rfl
theorem ix_get {c : Nat → Int} {n p : Nat} (h : Cs c n) (hp : p < n) : (ixL c n 8)[p]? = some (ix c n p) := by
  unfold ix
  rw [List.getD_eq_getElem?_getD, List.getElem?_eq_getElem (by rw [ixL_all h]; exact hp)]
  rfl
theorem nm_ix {c : Nat → Int} {n p : Nat} (h : Cs c n) (hp : p < n) : ix c n p < n ∧ nm c n (ix c n p) = p := ixL_back 8 p _ (ix_get h hp)

/-- what a round of numbering finds -/
theorem nm_here {c : Nat → Int} {n x K : Nat} (hk : c x = (K : Int)) : nm c n x = (ixL c n K).length + cn (eqB c K) x := by
  unfold nm
  rw [hk, show ((K : Nat) : Int).toNat = K by omega]
/-- the document's way of counting -/
theorem nm_count {c : Nat → Int} {n x : Nat} (h : Cs c n) (hx : x < n) : cn (fun i => decide (c i < c x ∨ c i = c x ∧ i < x)) n = nm c n x := by
  obtain ⟨c0, c8⟩ := h x hx
  obtain ⟨K, hK⟩ : ∃ K : Nat, c x = K := ⟨(c x).toNat, by omega⟩
  rw [nm_here hK, ixL_len h, hK]
  have e : cn (eqB c K) x = cn (fun i => decide (c i = (K : Int) ∧ i < x)) n := by
    clear hK c0 c8
    induction n with
    | zero => omega
    | succ n ih =>
      simp only [cn]
      rcases Nat.lt_or_ge x n with d | d
      · rw [← ih (fun j hj => h j (by omega)) d, if_neg (by simp; omega)]
        rfl
      · obtain rfl : n = x := by omega
        rw [if_neg (by simp)]
        exact cn_congr (fun j hj => by simp [eqB, hj])
  rw [e]
  refine cn_two (fun j hj => ?_)
  by_cases h1 : c j < (K : Int)
  · rw [if_pos (by simp; exact .inl h1), if_pos (by simpa using h1), if_neg (by simp; omega)]
  · by_cases h2 : c j = (K : Int) ∧ j < x
    · rw [if_pos (by simp; exact .inr h2), if_neg (by simpa using h1), if_pos (by simpa using h2)]
    · rw [if_neg (by simp; omega), if_neg (by simpa using h1), if_neg (by simpa using h2)]

/-- a loop's carrier, and what it was pulled through -/
def carF (l : List (Int × List Nat)) (j : Nat) : Int := (l.getD j (0, [])).1
def thrF (l : List (Int × List Nat)) (j : Nat) : List Nat := (l.getD j (0, [])).2
/-- all numbers are those of loops, all carriers are there -/
structure Bd (s : St) : Prop where
  on : ∀ b n y, y ∈ s.on b n → y < s.loops.length
  thr : ∀ e, e ∈ s.loops → (∀ y, y ∈ e.2 → y < s.loops.length) ∧ 0 ≤ e.1 ∧ e.1 < 8
  loose : ∀ y, y ∈ s.loose → y < s.loops.length
theorem Bd.zero : Bd s0 := ⟨fun b n y h => by simp [s0] at h, fun e h => by simp [s0] at h, fun y h => by simp [s0] at h⟩
theorem upd_mem {f : Nat → Nat → List Nat} {b n b' n' y : Nat} {xs : List Nat} (h : y ∈ upd f b n xs b' n') : y ∈ xs ∨ y ∈ f b' n' := by
  unfold upd at h
  split at h
  · exact .inl h
  · exact .inr h
theorem Bd.next {N : Nat} {s : St} {x : Sx} (h : Bd s) (hw : wrE N s x = 0) : Bd (doS s x) := by
  obtain ⟨d1, d2, d3, d6, dn⟩ := wrE_zero hw
  unfold doS cnt doX
  by_cases e1 : x.dk = 1
  · obtain ⟨b, n, -, -, -, -, hc, -⟩ := dn (by omega)
    obtain ⟨k0, k8⟩ := hc (by rw [e1]; rfl)
    rw [if_pos e1]
    refine ⟨fun b' n' y hy => ?_, fun e he => ?_, fun y hy => ?_⟩
    · rw [List.length_append]
      rcases upd_mem hy with q | q
      · rw [List.mem_singleton.1 q]; simp
      · have := h.on _ _ y q; simp; omega
    · rcases List.mem_append.1 he with q | q
      · exact ⟨fun y hy => by have := (h.thr e q).1 y hy; simp; omega, (h.thr e q).2⟩
      · rw [List.mem_singleton.1 q]
        exact ⟨fun y hy => by have := h.on _ _ y hy; simp; omega, k0, k8⟩
    · have := h.loose y hy; simp; omega
  rw [if_neg e1]
  by_cases e2 : x.dk = 2
  · obtain ⟨b, n, -, -, -, -, hc, -⟩ := dn (by omega)
    obtain ⟨k0, k8⟩ := hc (by rw [e2]; rfl)
    rw [if_pos e2]
    refine ⟨fun b' n' y hy => ?_, fun e he => ?_, fun y hy => ?_⟩
    · rw [List.length_append]
      rcases upd_mem hy with q | q
      · rcases List.mem_append.1 q with r | r
        · have := h.on _ _ y r; simp; omega
        · rw [List.mem_singleton.1 r]; simp
      · have := h.on _ _ y q; simp; omega
    · rcases List.mem_append.1 he with q | q
      · exact ⟨fun y hy => by have := (h.thr e q).1 y hy; simp; omega, (h.thr e q).2⟩
      · rw [List.mem_singleton.1 q]
        exact ⟨fun y hy => by simp at hy, k0, k8⟩
    · have := h.loose y hy; simp; omega
  rw [if_neg e2]
  by_cases e4 : x.dk = 4
  · rw [if_pos e4]
    refine ⟨fun b' n' y hy => ?_, h.thr, h.loose⟩
    rcases upd_mem hy with q | q
    · rcases List.mem_append.1 q with r | r
      · exact h.on _ _ y r
      · exact h.on _ _ y r
    · rcases upd_mem q with r | r
      · simp at r
      · exact h.on _ _ y r
  rw [if_neg e4]
  by_cases e5 : x.dk = 5
  · rw [if_pos e5]
    refine ⟨fun b' n' y hy => ?_, h.thr, fun y hy => ?_⟩
    · rcases upd_mem hy with r | r
      · simp at r
      · exact h.on _ _ y r
    · rcases List.mem_append.1 hy with r | r
      · exact h.loose y r
      · exact h.on _ _ y r
  rw [if_neg e5]
  by_cases e6 : x.dk = 6
  · rw [if_pos e6]
    exact ⟨h.on, h.thr, h.loose⟩
  rw [if_neg e6]
  exact ⟨h.on, h.thr, h.loose⟩
theorem Bd.kn (N : Nat) (sc : Nat → Sx) (k : Nat) : Bd (knS N sc k) := by
  induction k with
  | zero => exact Bd.zero
  | succ k ih =>
    simp only [knS]
    split
    · rename_i h; exact ih.next h
    · exact ih
theorem Bd.cs {s : St} (h : Bd s) : Cs (carF s.loops) s.loops.length := by
  intro j hj
  have e : s.loops.getD j (0, []) ∈ s.loops := by
    rw [List.getD_eq_getElem?_getD, List.getElem?_eq_getElem hj]
    exact List.getElem_mem hj
  exact (h.thr _ e).2

/-- numbers in their order -/
def inS (x : Nat) : List Nat → List Nat
  | [] => [x]
  | y :: l => if x ≤ y then x :: y :: l else y :: inS x l
def soL : List Nat → List Nat
  | [] => []
  | x :: l => inS x (soL l)
theorem inS_perm (x : Nat) (l : List Nat) : (inS x l).Perm (x :: l) := by
  induction l with
  | nil => exact List.Perm.refl _
  | cons y l ih =>
    unfold inS
    split
    · exact List.Perm.refl _
    · exact (List.Perm.cons y ih).trans (List.Perm.swap x y l)
theorem soL_perm (l : List Nat) : (soL l).Perm l := by
  induction l with
  | nil => exact List.Perm.refl _
  | cons x l ih => exact (inS_perm x _).trans (List.Perm.cons x ih)
theorem inS_sorted (x : Nat) {l : List Nat} (h : l.Pairwise (· ≤ ·)) : (inS x l).Pairwise (· ≤ ·) := by
  induction l with
  | nil => exact List.pairwise_singleton _ _
  | cons y l ih =>
    unfold inS
    rw [List.pairwise_cons] at h
    split
    · rename_i hx
      rw [List.pairwise_cons, List.pairwise_cons]
      refine ⟨fun z hz => ?_, h⟩
      rcases List.mem_cons.1 hz with q | q
      · omega
      · have := h.1 z q; omega
    · rename_i hx
      rw [List.pairwise_cons]
      refine ⟨fun z hz => ?_, ih h.2⟩
      rcases List.mem_cons.1 ((inS_perm x l).mem_iff.1 hz) with q | q
      · omega
      · exact h.1 z q
theorem soL_sorted (l : List Nat) : (soL l).Pairwise (· ≤ ·) := by
  induction l with
  | nil => exact List.Pairwise.nil
  | cons x l ih => exact inS_sorted x ih
/-- what is in order and has the same numbers is that list -/
theorem so_unique {l m : List Nat} (hp : l.Perm m) (hl : l.Pairwise (· ≤ ·)) (hm : m.Pairwise (· ≤ ·)) : l = m :=
  List.Perm.eq_of_pairwise (fun _ _ _ _ h1 h2 => Nat.le_antisymm h1 h2) hl hm hp
theorem so_eq {l m : List Nat} (hp : m.Perm l) (hm : m.Pairwise (· ≤ ·)) : m = soL l := so_unique (hp.trans (soL_perm l).symm) hm (soL_sorted l)
theorem so_perm {l m : List Nat} (hp : l.Perm m) : soL l = soL m := so_unique ((soL_perm l).trans (hp.trans (soL_perm m).symm)) (soL_sorted l) (soL_sorted m)

/-- what is told, numbered along the yarns -/
def reN (k : Kn) : Kn :=
  ⟨(ixL (carF k.loops) k.loops.length 8).map fun x => (carF k.loops x, (thrF k.loops x).map (nm (carF k.loops) k.loops.length)),
   k.front.map fun l => l.map (nm (carF k.loops) k.loops.length), k.back.map fun l => l.map (nm (carF k.loops) k.loops.length),
   soL (k.loose.map (nm (carF k.loops) k.loops.length)), k.rack⟩
end Go.Proofs.Ytancniamgfppiaa
