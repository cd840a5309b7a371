/-
  Plain facts: Burnside's counting. The moves are a group on the cells: the cells that stay, over all moves, are as many as the told cells times the moves.
-/
import Derived.Test.YtpcajcgafmmlkaaDB
import Derived.Test.YtpcajcgafmmlkaaMA
namespace Go.Proofs.Ytpcajcgafmmlkaa
open Go.RowKit

theorem sum_add {α : Type} (f h : α → Nat) (B : List α) : (B.map fun b => f b + h b).sum = (B.map f).sum + (B.map h).sum := by
  induction B with
  | nil => rfl
  | cons b B ih => simp only [List.map_cons, List.sum_cons, ih]; omega
theorem sum_if {α : Type} (p : α → Bool) (B : List α) : (B.map fun b => if p b = true then 1 else 0).sum = (B.filter p).length := by
  induction B with
  | nil => rfl
  | cons b B ih =>
    simp only [List.map_cons, List.sum_cons, ih]
    by_cases h : p b = true
    · rw [if_pos h, List.filter_cons_of_pos h, List.length_cons]; omega
    · rw [if_neg h, List.filter_cons_of_neg h]; omega
theorem sum_zero {α : Type} (B : List α) : (B.map fun _ => 0).sum = 0 := by
  induction B with
  | nil => rfl
  | cons b B ih => simp [ih]
/-- counted by rows or by columns -/
theorem swap {α β : Type} (p : α → β → Bool) (A : List α) (B : List β) : (A.map fun a => (B.filter (p a)).length).sum = (B.map fun b => (A.filter fun a => p a b).length).sum := by
  induction A with
  | nil => simp only [List.map_nil, List.sum_nil, List.filter_nil, List.length_nil]; exact (sum_zero B).symm
  | cons a A ih =>
    rw [List.map_cons, List.sum_cons, ih, ← sum_if (p a) B, ← sum_add]
    congr 1
    refine List.map_congr_left fun b _ => ?_
    by_cases h : p a b = true
    · simp [h]; omega
    · simp [h]
theorem sum_one {α : Type} (f : α → Nat) (d0 : α) : ∀ (D : List α), D.Nodup → d0 ∈ D → (∀ d ∈ D, d ≠ d0 → f d = 0) → (D.map f).sum = f d0 := by
  intro D
  induction D with
  | nil => intro _ h; cases h
  | cons d D ih =>
    intro hn hm hz
    have hn' := List.nodup_cons.1 hn
    rw [List.map_cons, List.sum_cons]
    have zero : d0 ∉ D → (D.map f).sum = 0 := by
      intro h0
      rw [List.map_congr_left (g := fun _ => 0) (fun e he => hz e (by simp [he]) (fun k => h0 (k ▸ he)))]
      exact sum_zero D
    rcases List.mem_cons.1 hm with e | e
    · subst e
      rw [zero hn'.1]; omega
    · rw [hz d (by simp) (fun k => hn'.1 (k ▸ e)), ih hn'.2 e (fun x hx => hz x (by simp [hx]))]; omega
theorem sum_const {α : Type} (f : α → Nat) (c : Nat) : ∀ (D : List α), (∀ d ∈ D, f d = c) → (D.map f).sum = D.length * c := by
  intro D
  induction D with
  | nil => intro _; simp
  | cons d D ih =>
    intro h
    rw [List.map_cons, List.sum_cons, ih (fun x hx => h x (by simp [hx])), h d (by simp), List.length_cons, Nat.add_mul]; omega

/-- moves on cells, with one behind another as a move, from which the first can be told -/
structure Acts2 (I : Mv → Nat → Nat) (L : List Mv) (M : Nat) (mul : Mv → Mv → Mv) : Prop where
  a : Acts I L M
  nd : L.Nodup
  mem : ∀ m ∈ L, ∀ m' ∈ L, mul m m' ∈ L
  act : ∀ m ∈ L, ∀ m' ∈ L, ∀ j, j < M → I (mul m m') j = I m (I m' j)
  can : ∀ m ∈ L, ∀ m' ∈ L, ∀ k ∈ L, mul m k = mul m' k → m = m'
/-- the moves from one cell to another one -/
def T (I : Mv → Nat → Nat) (L : List Mv) (a b : Nat) : List Mv := L.filter fun m => I m a == b
theorem T_le {I : Mv → Nat → Nat} {L : List Mv} {M : Nat} {mul : Mv → Mv → Mv} (h : Acts2 I L M mul) (a b c : Nat) (ha : a < M) (m0 : Mv) (hm : m0 ∈ L) (e : I m0 a = b) : (T I L b c).length ≤ (T I L a c).length := by
  refine inj_len (fun m => mul m m0) _ _ (h.nd.filter _) ?_ ?_
  · intro m hm'
    unfold T at hm' ⊢
    rw [List.mem_filter] at hm' ⊢
    refine ⟨h.mem m hm'.1 m0 hm, ?_⟩
    rw [h.act m hm'.1 m0 hm a ha, e]
    exact hm'.2
  · intro m hm1 m' hm2 k
    exact h.can m (List.mem_filter.1 hm1).1 m' (List.mem_filter.1 hm2).1 m0 hm k
/-- no move takes one told cell to another one -/
theorem told_apart {I : Mv → Nat → Nat} {L : List Mv} {M : Nat} (h : Acts I L M) (a b : Nat) (ha : a < M) (hda : domB I L a = true) (hdb : domB I L b = true) (m : Mv) (hm : m ∈ L) (e : I m a = b) : a = b := by
  obtain ⟨m', hm', k⟩ := h.inv m hm
  have k := k a ha
  rw [e] at k
  unfold domB at hda hdb
  rw [List.all_eq_true] at hda hdb
  have h1 := hda m hm
  have h2 := hdb m' hm'
  rw [decide_eq_true_eq] at h1 h2
  omega
/-- each cell is taken to a told one -/
theorem told_some {I : Mv → Nat → Nat} {L : List Mv} {M : Nat} (h : Acts I L M) (t : Nat) (ht : t < M) : ∃ s, s < M ∧ domB I L s = true ∧ ∃ m ∈ L, I m t = s := by
  obtain ⟨s, ⟨m, hm, e⟩, hl⟩ := least (fun s => ∃ m ∈ L, I m t = s) (by obtain ⟨m, hm, _⟩ := h.one; exact ⟨_, m, hm, rfl⟩)
  refine ⟨s, e ▸ h.lt m hm t ht, ?_, m, hm, e⟩
  unfold domB
  rw [List.all_eq_true]
  intro m' hm'
  rw [decide_eq_true_eq]
  obtain ⟨m'', hm'', k⟩ := h.comp m' hm' m hm
  have := k t ht
  rw [e] at this
  rcases Nat.lt_or_ge (I m' s) s with q | q
  · exact absurd ⟨m'', hm'', this⟩ (hl (I m' s) q)
  · exact q
theorem burnside {I : Mv → Nat → Nat} {L : List Mv} {M : Nat} {mul : Mv → Mv → Mv} (h : Acts2 I L M mul) :
    ((List.range M).filter (domB I L)).length * L.length = (L.map fun m => Cn (fun j => I m j == j) M).sum := by
  unfold Cn
  rw [swap (fun m j => I m j == j) L (List.range M)]
  have key : ∀ j ∈ List.range M, (L.filter fun m => I m j == j).length = (((List.range M).filter (domB I L)).map fun d => (T I L d j).length).sum := by
    intro j hj
    rw [List.mem_range] at hj
    obtain ⟨d, hd, hdd, m, hm, e⟩ := told_some h.a j hj
    obtain ⟨m', hm', k⟩ := h.a.inv m hm
    have k := k j hj
    rw [e] at k
    rw [sum_one (fun d => (T I L d j).length) d _ (List.nodup_range.filter _) (List.mem_filter.2 ⟨List.mem_range.2 hd, hdd⟩) ?_]
    · exact Nat.le_antisymm (T_le h d j j hd m' hm' k) (T_le h j d j hj m hm e)
    · intro d' hd' hne
      rw [List.mem_filter, List.mem_range] at hd'
      unfold T
      rw [List.length_eq_zero_iff, List.filter_eq_nil_iff]
      intro m2 hm2 k2
      have k2 : I m2 d' = j := by simpa using k2
      obtain ⟨m3, hm3, k3⟩ := h.a.comp m hm m2 hm2
      have k3 := k3 d' hd'.1
      rw [k2, e] at k3
      exact hne (told_apart h.a d' d hd'.1 hd'.2 hdd m3 hm3 k3)
  rw [List.map_congr_left key]
  have sw : ∀ (A B : List Nat) (f : Nat → Nat → Nat), (A.map fun a => (B.map fun b => f a b).sum).sum = (B.map fun b => (A.map fun a => f a b).sum).sum := by
    intro A B f
    induction A with
    | nil => simp only [List.map_nil, List.sum_nil]; exact (sum_zero B).symm
    | cons a A ih => rw [List.map_cons, List.sum_cons, ih, ← sum_add]; rfl
  rw [sw (List.range M) _ (fun j d => (T I L d j).length)]
  refine (sum_const _ L.length _ fun d hd => ?_).symm
  rw [List.mem_filter, List.mem_range] at hd
  unfold T
  rw [← swap (fun m j => I m d == j) L (List.range M)]
  rw [sum_const _ 1 _ (fun m hm => ?_), Nat.mul_one]
  have := Cn_one (I m d) M
  rw [if_pos (h.a.lt m hm d hd.1)] at this
  rw [← this]
  unfold Cn
  congr 2
  funext j
  rw [Bool.eq_iff_iff]
  simp only [beq_iff_eq]
  exact eq_comm

/-- one move behind another one, on the torus -/
def mulM (g : Int) (N : Nat) (m k : Mv) : Mv :=
  ((cT g m.1 m.2.1 k.1).toNat, cF m.2.1 k.2.1, ((mv g m.1 m.2.1 m.2.2.1 m.2.2.2 k.2.2.1 k.2.2.2).1 % N).toNat, ((mv g m.1 m.2.1 m.2.2.1 m.2.2.2 k.2.2.1 k.2.2.2).2 % N).toNat)
theorem acts2 (w h N : Nat) (px : Nat → Int) (g : Int) (hg : g = 4 ∨ g = 6) (hN : 1 ≤ N) : Acts2 (imgC g N) (movesL w h N px g) (N * N) (mulM g N) := by
  have hP := pat_per w h N px
  have nn : ∀ u : Int, (((u % N).toNat : Nat) : Int) = u % N := fun u => Int.toNat_of_nonneg (Int.emod_nonneg u (show (N : Int) ≠ 0 by omega))
  have ll : ∀ u : Int, (u % N).toNat < N := fun u => by
    have := Int.emod_lt_of_pos u (show (0 : Int) < N by omega)
    have := nn u
    omega
  refine ⟨acts w h N px g hg hN, moves_nodup w h N px g, ?_, ?_, ?_⟩
  · rintro ⟨t, f, X, Y⟩ hm ⟨t', f', X', Y'⟩ hm'
    obtain ⟨ht, hX, hY, hk⟩ := (mem_moves w h N px g t f X Y hN).1 hm
    obtain ⟨ht', hX', hY', hk'⟩ := (mem_moves w h N px g t' f' X' Y' hN).1 hm'
    have ht1 : (0 : Int) ≤ (t : Int) ∧ (t : Int) < g := by omega
    have ht2 : (0 : Int) ≤ (t' : Int) ∧ (t' : Int) < g := by omega
    have kc := Kp.comp (P := pat w h N px) hg ht1 ht2 (x := X) (y := Y) (x' := X') (y' := Y') (by rw [Int.toNat_natCast]; exact hk) (by rw [Int.toNat_natCast]; exact hk')
    rw [Int.toNat_natCast] at kc
    have hr := cT_range g t f t' hg
    refine (mem_moves w h N px g _ _ _ _ hN).2 ⟨by show (cT g t f t').toNat < g.toNat; omega, ll _, ll _, ?_⟩
    rw [nn, nn]
    exact kc.cong hP (mod_mod _ N).symm (mod_mod _ N).symm
  · rintro ⟨t, f, X, Y⟩ hm ⟨t', f', X', Y'⟩ hm' j hj
    obtain ⟨ht, hX, hY, hk⟩ := (mem_moves w h N px g t f X Y hN).1 hm
    obtain ⟨ht', hX', hY', hk'⟩ := (mem_moves w h N px g t' f' X' Y' hN).1 hm'
    have ht1 : (0 : Int) ≤ (t : Int) ∧ (t : Int) < g := by omega
    have ht2 : (0 : Int) ≤ (t' : Int) ∧ (t' : Int) < g := by omega
    have e := imgC_xy g N (t', f', X', Y') j hN
    simp only at e
    have hXe : (X : Int) = (X : Int) % N := (Int.emod_eq_of_lt (by omega) (by omega)).symm
    have hYe : (Y : Int) = (Y : Int) % N := (Int.emod_eq_of_lt (by omega) (by omega)).symm
    have e2 := imgC_of g N (t, f, X, Y) t f X Y hN rfl rfl hXe hYe (mv g t' f' X' Y' ((j : Int) % N) ((j : Int) / N)).1 (mv g t' f' X' Y' ((j : Int) % N) ((j : Int) / N)).2 (imgC g N (t', f', X', Y') j) e.1 (by rw [div_mod_img g N _ j hN]; exact e.2)
    have e3 := imgC_of g N (mulM g N (t, f, X, Y) (t', f', X', Y')) (cT g t f t').toNat (cF f f') (mv g t f X Y X' Y').1 (mv g t f X Y X' Y').2 hN rfl rfl (nn _) (nn _) ((j : Int) % N) ((j : Int) / N) j (mod_mod _ N).symm rfl
    have c := mv_comp g t f X Y t' f' X' Y' ((j : Int) % N) ((j : Int) / N) hg ht1 ht2
    rw [Int.toNat_natCast, Int.toNat_natCast] at c
    rw [c] at e3
    exact cell_eq (e3.1.trans e2.1.symm) (e3.2.trans e2.2.symm)
  · rintro ⟨t, f, X, Y⟩ hm ⟨t', f', X', Y'⟩ hm' ⟨k, e, U, V⟩ hk eq
    obtain ⟨ht, hX, hY, -⟩ := (mem_moves w h N px g t f X Y hN).1 hm
    obtain ⟨ht', hX', hY', -⟩ := (mem_moves w h N px g t' f' X' Y' hN).1 hm'
    obtain ⟨hkt, -, -, -⟩ := (mem_moves w h N px g k e U V hN).1 hk
    unfold mulM at eq
    simp only [Prod.mk.injEq] at eq
    obtain ⟨e1, e2, e3, e4⟩ := eq
    have ef : f = f' := by cases f <;> cases f' <;> cases e <;> simp_all [cF]
    subst ef
    have et : t = t' := by
      have r1 := cT_range g t f k hg
      have r2 := cT_range g t' f k hg
      have e1' : cT g t f k = cT g t' f k := by omega
      have i1 : (t : Int) < g := by omega
      have i2 : (t' : Int) < g := by omega
      clear r1 r2 e1 e3 e4 ht ht' hkt
      rcases hg with rfl | rfl <;> cases f <;> simp only [cT] at e1' <;> omega
    subst et
    have q3 := nn (mv g t f X Y U V).1
    have q3' := nn (mv g t f X' Y' U V).1
    have q4 := nn (mv g t f X Y U V).2
    have q4' := nn (mv g t f X' Y' U V).2
    rw [e3, q3'] at q3
    rw [e4, q4'] at q4
    rw [mv_li, mv_li] at q3 q4
    simp only at q3 q4
    rw [Int.emod_eq_emod_iff_emod_sub_eq_zero, show (li g t f U V).1 + (X' : Int) - ((li g t f U V).1 + X) = (X' : Int) - X by omega, ← Int.emod_eq_emod_iff_emod_sub_eq_zero] at q3
    rw [Int.emod_eq_emod_iff_emod_sub_eq_zero, show (li g t f U V).2 + (Y' : Int) - ((li g t f U V).2 + Y) = (Y' : Int) - Y by omega, ← Int.emod_eq_emod_iff_emod_sub_eq_zero] at q4
    rw [nat_mod q3 hX' hX, nat_mod q4 hY' hY]
end Go.Proofs.Ytpcajcgafmmlkaa
