/-
  SameMoves and SamePoints of the reference: two rows that hold the same.
-/
import Derived.Test.YtpcajcgafmmlkaaDoorGJ
import Derived.Test.YtpcajcgafmmlkaaDoorGS
import Derived.Test.YtpcajcgafmmlkaaDoorLAll
import Derived.Test.YtpcajcgafmmlkaaDoorMA
import Derived.Test.YtpcajcgafmmlkaaDoorKindC
namespace Go.Proofs.YtpcajcgafmmlkaaDoor
open Go.RowKit

/-- a row of points -/
def ZRow (W : World) (b : Nat) (L : List (Int × Int)) : Prop := b < W.heap.size ∧ ∀ j z, L[j]? = some z → W.cell? ⟨b, j * 2, none⟩ = some (.int .i64 z.1) ∧ W.cell? ⟨b, j * 2 + 1, none⟩ = some (.int .i64 z.2)
theorem ZRow.keep {W w1 : World} {b : Nat} {L : List (Int × Int)} (h : ZRow W b L) (hb : Below W.heap.size W w1) : ZRow w1 b L :=
  ⟨Nat.lt_of_lt_of_le h.1 hb.size, fun j z hz => ⟨keepC hb h.1 (h.2 j z hz).1, keepC hb h.1 (h.2 j z hz).2⟩⟩

end Go.Proofs.YtpcajcgafmmlkaaDoor

namespace Go.Proofs.YtpcajcgafmmlkaaDoor
open Go.RowKit

def zC (z : Int × Int) : List Value := [.int .i64 z.1, .int .i64 z.2]
def zsV (l : List (Int × Int)) : List Value := l.flatMap zC
theorem zsV_snoc (l : List (Int × Int)) (m : Int × Int) : zsV (l ++ [m]) = zsV l ++ zC m := by simp [zsV]
theorem zsV_get (L : List (Int × Int)) (j : Nat) (m : Int × Int) (h : L[j]? = some m) (o : Nat) (ho : o < 2) : (zsV L)[j * 2 + o]? = (zC m)[o]? := by
  induction L generalizing j with
  | nil => simp at h
  | cons a L ih =>
    have e : zsV (a :: L) = zC a ++ zsV L := by simp [zsV]
    have hl : (zC a).length = 2 := rfl
    cases j with
    | zero =>
      simp at h
      subst h
      rw [e, List.getElem?_append_left (by rw [hl]; omega), Nat.zero_mul, Nat.zero_add]
    | succ j =>
      simp at h
      rw [e, List.getElem?_append_right (by rw [hl]; omega), hl, show (j + 1) * 2 + o - 2 = j * 2 + o by omega]
      exact ih j h
theorem zrow_own {W : World} {B b cap : Nat} {L : List (Int × Int)} (h : W.ownsRow B 33 2 (.slice (some ⟨b, 0, none⟩) L.length cap) L.length (zsV L)) : ZRow W b L := by
  refine ⟨(h.lt b rfl).2, fun j m hj => ?_⟩
  have hl : j < L.length := (List.getElem?_eq_some_iff.1 hj).1
  refine ⟨?_, ?_⟩
  · rw [h.cellAt (j * 2) (by omega)]; exact zsV_get L j m hj 0 (by omega)
  · rw [h.cellAt (j * 2 + 1) (by omega)]; exact zsV_get L j m hj 1 (by omega)

/-- the cell to which a move takes a cell, on the torus -/
def imgC (g : Int) (N : Nat) (m : Mv) (j : Nat) : Nat := tgtR g m.1 m.2.1 m.2.2.1 m.2.2.2 N j
/-- the cells that no move takes to one ahead of them -/
def domB (I : Mv → Nat → Nat) (L : List Mv) (j : Nat) : Bool := L.all fun m => decide (j ≤ I m j)
def domL (I : Mv → Nat → Nat) (L : List Mv) (N M : Nat) : List (Int × Int) := ((List.range M).filter (domB I L)).map fun j => (((j % N : Nat) : Int), ((j / N : Nat) : Int))
theorem domL_succ (I : Mv → Nat → Nat) (L : List Mv) (N M : Nat) : domL I L N (M + 1) = domL I L N M ++ (if domB I L M = true then [(((M % N : Nat) : Int), ((M / N : Nat) : Int))] else []) := by
  unfold domL
  rw [List.range_succ, List.filter_append, List.map_append]
  congr 1
  by_cases h : domB I L M = true <;> simp [h]
theorem domL_len (I : Mv → Nat → Nat) (L : List Mv) (N M : Nat) : (domL I L N M).length ≤ M := by
  unfold domL
  rw [List.length_map]
  exact Nat.le_trans (List.length_filter_le _ _) (by simp)
theorem domB_take (I : Mv → Nat → Nat) (L : List Mv) (j k : Nat) (m : Mv) (h : L[k]? = some m) : domB I (L.take (k + 1)) j = (domB I (L.take k) j && decide (j ≤ I m j)) := by
  unfold domB
  rw [List.take_add_one, h]
  simp

end Go.Proofs.YtpcajcgafmmlkaaDoor

namespace Go.Proofs.YtpcajcgafmmlkaaDoor
open Go.RowKit

/-- which cells are reached when the first i cells have been looked at -/
def dR (I : Mv → Nat → Nat) (L : List Mv) : Nat → Nat → Bool
  | 0 => fun _ => false
  | i + 1 => fun j => if dR I L i i = true then dR I L i j else (dR I L i j || L.any fun m => I m i == j)
/-- moves on cells, as a group has them -/
structure Acts (I : Mv → Nat → Nat) (L : List Mv) (M : Nat) : Prop where
  lt : ∀ m ∈ L, ∀ j, j < M → I m j < M
  one : ∃ m ∈ L, ∀ j, j < M → I m j = j
  inv : ∀ m ∈ L, ∃ m' ∈ L, ∀ j, j < M → I m' (I m j) = j
  comp : ∀ m ∈ L, ∀ m' ∈ L, ∃ m'' ∈ L, ∀ j, j < M → I m'' j = I m (I m' j)
theorem dR_iff (I : Mv → Nat → Nat) (L : List Mv) (i j : Nat) : dR I L i j = true ↔ ∃ t, t < i ∧ dR I L t t = false ∧ ∃ m ∈ L, I m t = j := by
  induction i with
  | zero => simp [dR]
  | succ i ih =>
    simp only [dR]
    constructor
    · intro h
      split at h
      · obtain ⟨t, ht, k⟩ := ih.1 h
        exact ⟨t, by omega, k⟩
      · rename_i hn
        rw [Bool.or_eq_true] at h
        rcases h with h | h
        · obtain ⟨t, ht, k⟩ := ih.1 h
          exact ⟨t, by omega, k⟩
        · rw [List.any_eq_true] at h
          obtain ⟨m, hm, e⟩ := h
          exact ⟨i, by omega, bfalse hn, m, hm, by simpa using e⟩
    · rintro ⟨t, ht, hf, m, hm, e⟩
      rcases Nat.lt_or_ge t i with h | h
      · have := ih.2 ⟨t, h, hf, m, hm, e⟩
        rw [this]
        simp
      · have et : t = i := by omega
        subst et
        rw [if_neg (by rw [hf]; simp), Bool.or_eq_true]
        exact Or.inr (List.any_eq_true.2 ⟨m, hm, by simp [e]⟩)
theorem told_iff {I : Mv → Nat → Nat} {L : List Mv} {M : Nat} (h : Acts I L M) (t : Nat) (ht : t < M) : dR I L t t = false ↔ domB I L t = true := by
  have back : ∀ t, t < M → domB I L t = true → dR I L t t = false := by
    intro t ht hd
    refine bfalse (fun k => ?_)
    obtain ⟨s, hs, -, m, hm, e⟩ := (dR_iff I L t t).1 k
    obtain ⟨m', hm', e'⟩ := h.inv m hm
    have := e' s (by omega)
    rw [e] at this
    unfold domB at hd
    rw [List.all_eq_true] at hd
    have := hd m' hm'
    simp at this
    omega
  refine ⟨fun hf => ?_, back t ht⟩
  cases hd : domB I L t with
  | true => rfl
  | false =>
    exfalso
    obtain ⟨s, ⟨m, hm, e⟩, hl⟩ := least (fun s => ∃ m ∈ L, I m t = s) (by obtain ⟨m, hm, _⟩ := h.one; exact ⟨_, m, hm, rfl⟩)
    have hst : s < t := by
      unfold domB at hd
      rw [List.all_eq_false] at hd
      obtain ⟨m', hm', k⟩ := hd
      simp at k
      rcases Nat.lt_or_ge s t with q | q
      · exact q
      · exact absurd ⟨m', hm', rfl⟩ (hl (I m' t) (by omega))
    have hsd : domB I L s = true := by
      unfold domB
      rw [List.all_eq_true]
      intro m' hm'
      simp only [decide_eq_true_eq]
      obtain ⟨m'', hm'', k⟩ := h.comp m' hm' m hm
      have := k t ht
      rw [e] at this
      rcases Nat.lt_or_ge (I m' s) s with q | q
      · exact absurd ⟨m'', hm'', this⟩ (hl (I m' s) q)
      · exact q
    obtain ⟨m', hm', k⟩ := h.inv m hm
    have := k t ht
    rw [e] at this
    rw [(dR_iff I L t t).2 ⟨s, hst, back s (by omega) hsd, m', hm', this⟩] at hf
    cases hf

/-- the moves that keep a pattern act so -/
theorem imgC_lt (g : Int) (N : Nat) (m : Mv) (j : Nat) (hN : 1 ≤ N) : imgC g N m j < N * N := (cby_lt N _ _ 0 0 hN).1
theorem imgC_xy (g : Int) (N : Nat) (m : Mv) (j : Nat) (hN : 1 ≤ N) : ((imgC g N m j : Nat) : Int) % N = (mv g m.1 m.2.1 m.2.2.1 m.2.2.2 ((j : Int) % N) ((j : Int) / N)).1 % N ∧ ((imgC g N m j : Nat) : Int) / N = (mv g m.1 m.2.1 m.2.2.1 m.2.2.2 ((j : Int) % N) ((j : Int) / N)).2 % N :=
  cby_mod N _ _ hN
theorem cell_eq {N i j : Nat} (h1 : (i : Int) % N = (j : Int) % N) (h2 : (i : Int) / N = (j : Int) / N) : i = j := by
  have a := Int.emod_add_mul_ediv (i : Int) N
  have b := Int.emod_add_mul_ediv (j : Int) N
  rw [h1, h2] at a
  omega
/-- a move of the list by what it does on the torus -/
theorem imgC_of (g : Int) (N : Nat) (m : Mv) (T : Nat) (F : Bool) (u v : Int) (hN : 1 ≤ N) (h1 : m.1 = T) (h2 : m.2.1 = F) (h3 : (m.2.2.1 : Int) = u % N) (h4 : (m.2.2.2 : Int) = v % N) (x y : Int) (j : Nat) (hx : (j : Int) % N = x % N) (hy : ((j : Int) / N) % N = y % N) :
    ((imgC g N m j : Nat) : Int) % N = (mv g T F u v x y).1 % N ∧ ((imgC g N m j : Nat) : Int) / N = (mv g T F u v x y).2 % N := by
  have e := imgC_xy g N m j hN
  have c := mv_cong g T F N m.2.2.1 m.2.2.2 u v ((j : Int) % N) ((j : Int) / N) x y (by rw [mod_mod]; exact hx) hy (by rw [h3, mod_mod]) (by rw [h4, mod_mod])
  rw [h1, h2] at e
  exact ⟨e.1.trans c.1, e.2.trans c.2⟩
end Go.Proofs.YtpcajcgafmmlkaaDoor

namespace Go.Proofs.YtpcajcgafmmlkaaDoor
open Go.RowKit

theorem div_mod_cell (N j : Nat) (hN : 1 ≤ N) (hj : j < N * N) : ((j : Int) / N) % N = (j : Int) / N := by
  have := cell_xy j N hN hj
  exact Int.emod_eq_of_lt this.2.1 this.2.2
theorem div_mod_img (g : Int) (N : Nat) (m : Mv) (j : Nat) (hN : 1 ≤ N) : (((imgC g N m j : Nat) : Int) / N) % N = ((imgC g N m j : Nat) : Int) / N := div_mod_cell N _ hN (imgC_lt g N m j hN)
theorem acts (w h N : Nat) (px : Nat → Int) (g : Int) (hg : g = 4 ∨ g = 6) (hN : 1 ≤ N) : Acts (imgC g N) (movesL w h N px g) (N * N) := by
  have hP := pat_per w h N px
  have mem : ∀ (T : Int) (F : Bool) (u v : Int), 0 ≤ T ∧ T < g → Kp (pat w h N px) g T.toNat F u v → (T.toNat, F, (u % N).toNat, (v % N).toNat) ∈ movesL w h N px g := by
    intro T F u v hT k
    have n1 := Int.emod_nonneg u (show (N : Int) ≠ 0 by omega)
    have n2 := Int.emod_nonneg v (show (N : Int) ≠ 0 by omega)
    have l1 := Int.emod_lt_of_pos u (show (0 : Int) < N by omega)
    have l2 := Int.emod_lt_of_pos v (show (0 : Int) < N by omega)
    refine (mem_moves w h N px g _ _ _ _ hN).2 ⟨by omega, by omega, by omega, ?_⟩
    rw [Int.toNat_of_nonneg n1, Int.toNat_of_nonneg n2]
    exact k.cong hP (mod_mod _ N).symm (mod_mod _ N).symm
  have nn : ∀ u : Int, (((u % N).toNat : Nat) : Int) = u % N := fun u => Int.toNat_of_nonneg (Int.emod_nonneg u (show (N : Int) ≠ 0 by omega))
  refine ⟨fun m _ j _ => imgC_lt g N m j hN, ?_, ?_, ?_⟩
  · refine ⟨(0, false, 0, 0), List.mem_of_getElem? (moves_head w h N px g hN hg), fun j hj => ?_⟩
    have e := imgC_xy g N (0, false, 0, 0) j hN
    simp only at e
    rw [show ((0 : Nat) : Int) = 0 from rfl, mv_id] at e
    exact cell_eq (e.1.trans (mod_mod _ N)) (e.2.trans (div_mod_cell N j hN hj))
  · rintro ⟨t, f, X, Y⟩ hm
    obtain ⟨ht, hX, hY, hk⟩ := (mem_moves w h N px g t f X Y hN).1 hm
    have ht1 : (0 : Int) ≤ (t : Int) ∧ (t : Int) < g := by omega
    have ki := Kp.inv (P := pat w h N px) hg ht1 (x := X) (y := Y) (by rw [Int.toNat_natCast]; exact hk)
    refine ⟨_, mem (bt g t f) f _ _ (bt_range g t f hg ht1) ki, fun j hj => ?_⟩
    have e := imgC_xy g N (t, f, X, Y) j hN
    simp only at e
    have e2 := imgC_of g N ((bt g t f).toNat, f, ((iP g t f X Y).1 % N).toNat, ((iP g t f X Y).2 % N).toNat) (bt g t f).toNat f (iP g t f X Y).1 (iP g t f X Y).2 hN rfl rfl (nn _) (nn _) (mv g t f X Y ((j : Int) % N) ((j : Int) / N)).1 (mv g t f X Y ((j : Int) % N) ((j : Int) / N)).2 (imgC g N (t, f, X, Y) j) e.1 (by rw [div_mod_img g N _ j hN]; exact e.2)
    have b := mv_fore g t f X Y ((j : Int) % N) ((j : Int) / N) hg ht1
    rw [Int.toNat_natCast] at b
    rw [b] at e2
    exact cell_eq (e2.1.trans (mod_mod _ N)) (e2.2.trans (div_mod_cell N j hN hj))
  · rintro ⟨t, f, X, Y⟩ hm ⟨t', f', X', Y'⟩ hm'
    obtain ⟨ht, hX, hY, hk⟩ := (mem_moves w h N px g t f X Y hN).1 hm
    obtain ⟨ht', hX', hY', hk'⟩ := (mem_moves w h N px g t' f' X' Y' hN).1 hm'
    have ht1 : (0 : Int) ≤ (t : Int) ∧ (t : Int) < g := by omega
    have ht2 : (0 : Int) ≤ (t' : Int) ∧ (t' : Int) < g := by omega
    have kc := Kp.comp (P := pat w h N px) hg ht1 ht2 (x := X) (y := Y) (x' := X') (y' := Y') (by rw [Int.toNat_natCast]; exact hk) (by rw [Int.toNat_natCast]; exact hk')
    refine ⟨_, mem (cT g t f t') (cF f f') _ _ (cT_range g t f t' hg) kc, fun j hj => ?_⟩
    have e := imgC_xy g N (t', f', X', Y') j hN
    simp only at e
    have hXe : (X : Int) = (X : Int) % N := (Int.emod_eq_of_lt (by omega) (by omega)).symm
    have hYe : (Y : Int) = (Y : Int) % N := (Int.emod_eq_of_lt (by omega) (by omega)).symm
    have e2 := imgC_of g N (t, f, X, Y) t f X Y hN rfl rfl hXe hYe (mv g t' f' X' Y' ((j : Int) % N) ((j : Int) / N)).1 (mv g t' f' X' Y' ((j : Int) % N) ((j : Int) / N)).2 (imgC g N (t', f', X', Y') j) e.1 (by rw [div_mod_img g N _ j hN]; exact e.2)
    have e3 := imgC_of g N ((cT g t f t').toNat, cF f f', ((mv g (t : Int).toNat f X Y X' Y').1 % N).toNat, ((mv g (t : Int).toNat f X Y X' Y').2 % N).toNat) (cT g t f t').toNat (cF f f') (mv g (t : Int).toNat f X Y X' Y').1 (mv g (t : Int).toNat f X Y X' Y').2 hN rfl rfl (nn _) (nn _) ((j : Int) % N) ((j : Int) / N) j (mod_mod _ N).symm rfl
    rw [mv_comp g t f X Y t' f' X' Y' _ _ hg ht1 ht2, Int.toNat_natCast, Int.toNat_natCast] at e3
    exact cell_eq (e3.1.trans e2.1.symm) (e3.2.trans e2.2.symm)
end Go.Proofs.YtpcajcgafmmlkaaDoor

namespace Go.Proofs.YtpcajcgafmmlkaaDoor
open Go.RowKit

theorem sum_add {α : Type} (f h : α → Nat) (B : List α) : (B.map fun b => f b + h b).sum = (B.map f).sum + (B.map h).sum := by
  induction B with
  | nil => rfl
  | cons b B ih => simp only [List.map_cons, List.sum_cons, ih]; omega
theorem sum_if {α : Type} (p : α → Bool) (B : List α) : (B.map fun b => if p b = true then 1 else 0).sum = (B.filter p).length := by
  induction B with
  | nil => rfl
  | cons b B ih =>
    simp only [List.map_cons, List.sum_cons, ih]
    by_cases h : p b = true
    · rw [if_pos h, List.filter_cons_of_pos h, List.length_cons]; omega
    · rw [if_neg h, List.filter_cons_of_neg h]; omega
theorem sum_zero {α : Type} (B : List α) : (B.map fun _ => 0).sum = 0 := by
  induction B with
  | nil => rfl
  | cons b B ih => simp [ih]
/-- counted by rows or by columns -/
theorem swap {α β : Type} (p : α → β → Bool) (A : List α) (B : List β) : (A.map fun a => (B.filter (p a)).length).sum = (B.map fun b => (A.filter fun a => p a b).length).sum := by
  induction A with
  | nil => simp only [List.map_nil, List.sum_nil, List.filter_nil, List.length_nil]; exact (sum_zero B).symm
  | cons a A ih =>
    rw [List.map_cons, List.sum_cons, ih, ← sum_if (p a) B, ← sum_add]
    congr 1
    refine List.map_congr_left fun b _ => ?_
    by_cases h : p a b = true
    · simp [h]; omega
    · simp [h]
theorem sum_one {α : Type} (f : α → Nat) (d0 : α) : ∀ (D : List α), D.Nodup → d0 ∈ D → (∀ d ∈ D, d ≠ d0 → f d = 0) → (D.map f).sum = f d0 := by
  intro D
  induction D with
  | nil => intro _ h; cases h
  | cons d D ih =>
    intro hn hm hz
    have hn' := List.nodup_cons.1 hn
    rw [List.map_cons, List.sum_cons]
    have zero : d0 ∉ D → (D.map f).sum = 0 := by
      intro h0
      rw [List.map_congr_left (g := fun _ => 0) (fun e he => hz e (by simp [he]) (fun k => h0 (k ▸ he)))]
      exact sum_zero D
    rcases List.mem_cons.1 hm with e | e
    · subst e
      rw [zero hn'.1]; omega
    · rw [hz d (by simp) (fun k => hn'.1 (k ▸ e)), ih hn'.2 e (fun x hx => hz x (by simp [hx]))]; omega
theorem sum_const {α : Type} (f : α → Nat) (c : Nat) : ∀ (D : List α), (∀ d ∈ D, f d = c) → (D.map f).sum = D.length * c := by
  intro D
  induction D with
  | nil => intro _; simp
  | cons d D ih =>
    intro h
    rw [List.map_cons, List.sum_cons, ih (fun x hx => h x (by simp [hx])), h d (by simp), List.length_cons, Nat.add_mul]; omega

/-- moves on cells, with one behind another as a move, from which the first can be told -/
structure Acts2 (I : Mv → Nat → Nat) (L : List Mv) (M : Nat) (mul : Mv → Mv → Mv) : Prop where
  a : Acts I L M
  nd : L.Nodup
  mem : ∀ m ∈ L, ∀ m' ∈ L, mul m m' ∈ L
  act : ∀ m ∈ L, ∀ m' ∈ L, ∀ j, j < M → I (mul m m') j = I m (I m' j)
  can : ∀ m ∈ L, ∀ m' ∈ L, ∀ k ∈ L, mul m k = mul m' k → m = m'
/-- the moves from one cell to another one -/
def T (I : Mv → Nat → Nat) (L : List Mv) (a b : Nat) : List Mv := L.filter fun m => I m a == b
theorem T_le {I : Mv → Nat → Nat} {L : List Mv} {M : Nat} {mul : Mv → Mv → Mv} (h : Acts2 I L M mul) (a b c : Nat) (ha : a < M) (m0 : Mv) (hm : m0 ∈ L) (e : I m0 a = b) : (T I L b c).length ≤ (T I L a c).length := by
  refine inj_len (fun m => mul m m0) _ _ (h.nd.filter _) ?_ ?_
  · intro m hm'
    unfold T at hm' ⊢
    rw [List.mem_filter] at hm' ⊢
    refine ⟨h.mem m hm'.1 m0 hm, ?_⟩
    rw [h.act m hm'.1 m0 hm a ha, e]
    exact hm'.2
  · intro m hm1 m' hm2 k
    exact h.can m (List.mem_filter.1 hm1).1 m' (List.mem_filter.1 hm2).1 m0 hm k
/-- no move takes one told cell to another one -/
theorem told_apart {I : Mv → Nat → Nat} {L : List Mv} {M : Nat} (h : Acts I L M) (a b : Nat) (ha : a < M) (hda : domB I L a = true) (hdb : domB I L b = true) (m : Mv) (hm : m ∈ L) (e : I m a = b) : a = b := by
  obtain ⟨m', hm', k⟩ := h.inv m hm
  have k := k a ha
  rw [e] at k
  unfold domB at hda hdb
  rw [List.all_eq_true] at hda hdb
  have h1 := hda m hm
  have h2 := hdb m' hm'
  rw [decide_eq_true_eq] at h1 h2
  omega
/-- each cell is taken to a told one -/
theorem told_some {I : Mv → Nat → Nat} {L : List Mv} {M : Nat} (h : Acts I L M) (t : Nat) (ht : t < M) : ∃ s, s < M ∧ domB I L s = true ∧ ∃ m ∈ L, I m t = s := by
  obtain ⟨s, ⟨m, hm, e⟩, hl⟩ := least (fun s => ∃ m ∈ L, I m t = s) (by obtain ⟨m, hm, _⟩ := h.one; exact ⟨_, m, hm, rfl⟩)
  refine ⟨s, e ▸ h.lt m hm t ht, ?_, m, hm, e⟩
  unfold domB
  rw [List.all_eq_true]
  intro m' hm'
  rw [decide_eq_true_eq]
  obtain ⟨m'', hm'', k⟩ := h.comp m' hm' m hm
  have := k t ht
  rw [e] at this
  rcases Nat.lt_or_ge (I m' s) s with q | q
  · exact absurd ⟨m'', hm'', this⟩ (hl (I m' s) q)
  · exact q
theorem burnside {I : Mv → Nat → Nat} {L : List Mv} {M : Nat} {mul : Mv → Mv → Mv} (h : Acts2 I L M mul) :
    ((List.range M).filter (domB I L)).length * L.length = (L.map fun m => Cn (fun j => I m j == j) M).sum := by
  unfold Cn
  rw [swap (fun m j => I m j == j) L (List.range M)]
  have key : ∀ j ∈ List.range M, (L.filter fun m => I m j == j).length = (((List.range M).filter (domB I L)).map fun d => (T I L d j).length).sum := by
    intro j hj
    rw [List.mem_range] at hj
    obtain ⟨d, hd, hdd, m, hm, e⟩ := told_some h.a j hj
    obtain ⟨m', hm', k⟩ := h.a.inv m hm
    have k := k j hj
    rw [e] at k
    rw [sum_one (fun d => (T I L d j).length) d _ (List.nodup_range.filter _) (List.mem_filter.2 ⟨List.mem_range.2 hd, hdd⟩) ?_]
    · exact Nat.le_antisymm (T_le h d j j hd m' hm' k) (T_le h j d j hj m hm e)
    · intro d' hd' hne
      rw [List.mem_filter, List.mem_range] at hd'
      unfold T
      rw [List.length_eq_zero_iff, List.filter_eq_nil_iff]
      intro m2 hm2 k2
      have k2 : I m2 d' = j := by simpa using k2
      obtain ⟨m3, hm3, k3⟩ := h.a.comp m hm m2 hm2
      have k3 := k3 d' hd'.1
      rw [k2, e] at k3
      exact hne (told_apart h.a d' d hd'.1 hd'.2 hdd m3 hm3 k3)
  rw [List.map_congr_left key]
  have sw : ∀ (A B : List Nat) (f : Nat → Nat → Nat), (A.map fun a => (B.map fun b => f a b).sum).sum = (B.map fun b => (A.map fun a => f a b).sum).sum := by
    intro A B f
    induction A with
    | nil => simp only [List.map_nil, List.sum_nil]; exact (sum_zero B).symm
    | cons a A ih => rw [List.map_cons, List.sum_cons, ih, ← sum_add]; rfl
  rw [sw (List.range M) _ (fun j d => (T I L d j).length)]
  refine (sum_const _ L.length _ fun d hd => ?_).symm
  rw [List.mem_filter, List.mem_range] at hd
  unfold T
  rw [← swap (fun m j => I m d == j) L (List.range M)]
  rw [sum_const _ 1 _ (fun m hm => ?_), Nat.mul_one]
  have := Cn_one (I m d) M
  rw [if_pos (h.a.lt m hm d hd.1)] at this
  rw [← this]
  unfold Cn
  congr 2
  funext j
  rw [Bool.eq_iff_iff]
  simp only [beq_iff_eq]
  exact eq_comm

/-- one move behind another one, on the torus -/
def mulM (g : Int) (N : Nat) (m k : Mv) : Mv :=
  ((cT g m.1 m.2.1 k.1).toNat, cF m.2.1 k.2.1, ((mv g m.1 m.2.1 m.2.2.1 m.2.2.2 k.2.2.1 k.2.2.2).1 % N).toNat, ((mv g m.1 m.2.1 m.2.2.1 m.2.2.2 k.2.2.1 k.2.2.2).2 % N).toNat)
theorem acts2 (w h N : Nat) (px : Nat → Int) (g : Int) (hg : g = 4 ∨ g = 6) (hN : 1 ≤ N) : Acts2 (imgC g N) (movesL w h N px g) (N * N) (mulM g N) := by
  have hP := pat_per w h N px
  have nn : ∀ u : Int, (((u % N).toNat : Nat) : Int) = u % N := fun u => Int.toNat_of_nonneg (Int.emod_nonneg u (show (N : Int) ≠ 0 by omega))
  have ll : ∀ u : Int, (u % N).toNat < N := fun u => by
    have := Int.emod_lt_of_pos u (show (0 : Int) < N by omega)
    have := nn u
    omega
  refine ⟨acts w h N px g hg hN, moves_nodup w h N px g, ?_, ?_, ?_⟩
  · rintro ⟨t, f, X, Y⟩ hm ⟨t', f', X', Y'⟩ hm'
    obtain ⟨ht, hX, hY, hk⟩ := (mem_moves w h N px g t f X Y hN).1 hm
    obtain ⟨ht', hX', hY', hk'⟩ := (mem_moves w h N px g t' f' X' Y' hN).1 hm'
    have ht1 : (0 : Int) ≤ (t : Int) ∧ (t : Int) < g := by omega
    have ht2 : (0 : Int) ≤ (t' : Int) ∧ (t' : Int) < g := by omega
    have kc := Kp.comp (P := pat w h N px) hg ht1 ht2 (x := X) (y := Y) (x' := X') (y' := Y') (by rw [Int.toNat_natCast]; exact hk) (by rw [Int.toNat_natCast]; exact hk')
    rw [Int.toNat_natCast] at kc
    have hr := cT_range g t f t' hg
    refine (mem_moves w h N px g _ _ _ _ hN).2 ⟨by show (cT g t f t').toNat < g.toNat; omega, ll _, ll _, ?_⟩
    rw [nn, nn]
    exact kc.cong hP (mod_mod _ N).symm (mod_mod _ N).symm
  · rintro ⟨t, f, X, Y⟩ hm ⟨t', f', X', Y'⟩ hm' j hj
    obtain ⟨ht, hX, hY, hk⟩ := (mem_moves w h N px g t f X Y hN).1 hm
    obtain ⟨ht', hX', hY', hk'⟩ := (mem_moves w h N px g t' f' X' Y' hN).1 hm'
    have ht1 : (0 : Int) ≤ (t : Int) ∧ (t : Int) < g := by omega
    have ht2 : (0 : Int) ≤ (t' : Int) ∧ (t' : Int) < g := by omega
    have e := imgC_xy g N (t', f', X', Y') j hN
    simp only at e
    have hXe : (X : Int) = (X : Int) % N := (Int.emod_eq_of_lt (by omega) (by omega)).symm
    have hYe : (Y : Int) = (Y : Int) % N := (Int.emod_eq_of_lt (by omega) (by omega)).symm
    have e2 := imgC_of g N (t, f, X, Y) t f X Y hN rfl rfl hXe hYe (mv g t' f' X' Y' ((j : Int) % N) ((j : Int) / N)).1 (mv g t' f' X' Y' ((j : Int) % N) ((j : Int) / N)).2 (imgC g N (t', f', X', Y') j) e.1 (by rw [div_mod_img g N _ j hN]; exact e.2)
    have e3 := imgC_of g N (mulM g N (t, f, X, Y) (t', f', X', Y')) (cT g t f t').toNat (cF f f') (mv g t f X Y X' Y').1 (mv g t f X Y X' Y').2 hN rfl rfl (nn _) (nn _) ((j : Int) % N) ((j : Int) / N) j (mod_mod _ N).symm rfl
    have c := mv_comp g t f X Y t' f' X' Y' ((j : Int) % N) ((j : Int) / N) hg ht1 ht2
    rw [Int.toNat_natCast, Int.toNat_natCast] at c
    rw [c] at e3
    exact cell_eq (e3.1.trans e2.1.symm) (e3.2.trans e2.2.symm)
  · rintro ⟨t, f, X, Y⟩ hm ⟨t', f', X', Y'⟩ hm' ⟨k, e, U, V⟩ hk eq
    obtain ⟨ht, hX, hY, -⟩ := (mem_moves w h N px g t f X Y hN).1 hm
    obtain ⟨ht', hX', hY', -⟩ := (mem_moves w h N px g t' f' X' Y' hN).1 hm'
    obtain ⟨hkt, -, -, -⟩ := (mem_moves w h N px g k e U V hN).1 hk
    unfold mulM at eq
    simp only [Prod.mk.injEq] at eq
    obtain ⟨e1, e2, e3, e4⟩ := eq
    have ef : f = f' := by cases f <;> cases f' <;> cases e <;> simp_all [cF]
    subst ef
    have et : t = t' := by
      have r1 := cT_range g t f k hg
      have r2 := cT_range g t' f k hg
      have e1' : cT g t f k = cT g t' f k := by omega
      have i1 : (t : Int) < g := by omega
      have i2 : (t' : Int) < g := by omega
      clear r1 r2 e1 e3 e4 ht ht' hkt
      rcases hg with rfl | rfl <;> cases f <;> simp only [cT] at e1' <;> omega
    subst et
    have q3 := nn (mv g t f X Y U V).1
    have q3' := nn (mv g t f X' Y' U V).1
    have q4 := nn (mv g t f X Y U V).2
    have q4' := nn (mv g t f X' Y' U V).2
    rw [e3, q3'] at q3
    rw [e4, q4'] at q4
    rw [mv_li, mv_li] at q3 q4
    simp only at q3 q4
    rw [Int.emod_eq_emod_iff_emod_sub_eq_zero, show (li g t f U V).1 + (X' : Int) - ((li g t f U V).1 + X) = (X' : Int) - X by omega, ← Int.emod_eq_emod_iff_emod_sub_eq_zero] at q3
    rw [Int.emod_eq_emod_iff_emod_sub_eq_zero, show (li g t f U V).2 + (Y' : Int) - ((li g t f U V).2 + Y) = (Y' : Int) - Y by omega, ← Int.emod_eq_emod_iff_emod_sub_eq_zero] at q4
    rw [nat_mod q3 hX' hX, nat_mod q4 hY' hY]
end Go.Proofs.YtpcajcgafmmlkaaDoor

namespace Go.Proofs.YtpcajcgafmmlkaaDoor
open Go.RowKit Go.Maps

theorem rot6 : ∀ r1 r2 r3 r4 r5 : Bool, (!(r1 && r1) || r2) = true → (!(r1 && r2) || r3) = true → (!(r1 && r3) || r4) = true → (!(r1 && r4) || r5) = true → (!(r2 && r2) || r4) = true → (!(r2 && r3) || r5) = true → (!(r2 && r5) || r1) = true → (!(r3 && r4) || r1) = true → (!(r3 && r5) || r2) = true → (!(r4 && r4) || r2) = true → (!(r4 && r5) || r3) = true → (!(r5 && r5) || r4) = true →
    (1 + r1.toNat + r2.toNat + r3.toNat + r4.toNat + r5.toNat = 1 ∨ 1 + r1.toNat + r2.toNat + r3.toNat + r4.toNat + r5.toNat = 2 ∨ 1 + r1.toNat + r2.toNat + r3.toNat + r4.toNat + r5.toNat = 3 ∨ 1 + r1.toNat + r2.toNat + r3.toNat + r4.toNat + r5.toNat = 6) ∧ (1 + r1.toNat + r2.toNat + r3.toNat + r4.toNat + r5.toNat = 3 → r2 = true) := by
  intro r1 r2 r3 r4 r5
  cases r1 <;> cases r2 <;> cases r3 <;> cases r4 <;> cases r5 <;> decide
theorem rot4 : ∀ r1 r2 r3 : Bool, (!(r1 && r1) || r2) = true → (!(r1 && r2) || r3) = true → (!(r2 && r3) || r1) = true → (!(r3 && r3) || r2) = true →
    (1 + r1.toNat + r2.toNat + r3.toNat = 1 ∨ 1 + r1.toNat + r2.toNat + r3.toNat = 2 ∨ 1 + r1.toNat + r2.toNat + r3.toNat = 4) := by
  intro r1 r2 r3
  cases r1 <;> cases r2 <;> cases r3 <;> decide
theorem Cn4 (r : Nat → Bool) : Cn r 4 = (r 0).toNat + (r 1).toNat + (r 2).toNat + (r 3).toNat := by
  rw [Cn_succ, Cn_succ, Cn_succ, Cn_succ]
  have : Cn r 0 = 0 := rfl
  rw [this]
  cases r 0 <;> cases r 1 <;> cases r 2 <;> cases r 3 <;> rfl
theorem Cn6 (r : Nat → Bool) : Cn r 6 = (r 0).toNat + (r 1).toNat + (r 2).toNat + (r 3).toNat + (r 4).toNat + (r 5).toNat := by
  rw [Cn_succ, Cn_succ, Cn4]
  cases r 4 <;> cases r 5 <;> rfl
/-- the turns without a flip, and the flips, of a group -/
structure Grp (G : Nat) (r f : Nat → Bool) : Prop where
  hG : G = 4 ∨ G = 6
  one : r 0 = true
  rr : ∀ a b, a < G → b < G → r a = true → r b = true → r ((a + b) % G) = true
  fr : ∀ a b, a < G → b < G → f a = true → r b = true → f ((a + (G - b)) % G) = true
  ff : ∀ a b, a < G → b < G → f a = true → f b = true → r ((a + (G - b)) % G) = true
theorem bimp {a b c : Bool} (h : a = true → b = true → c = true) : (!(a && b) || c) = true := by cases a <;> cases b <;> simp_all
theorem Grp.count {G : Nat} {r f : Nat → Bool} (h : Grp G r f) : (Cn r G = 1 ∨ Cn r G = 2 ∨ Cn r G = 3 ∧ G = 6 ∨ Cn r G = 4 ∧ G = 4 ∨ Cn r G = 6 ∧ G = 6) ∧ (Cn r G = 3 → r 2 = true) := by
  rcases h.hG with rfl | rfl
  · have k := rot4 (r 1) (r 2) (r 3) (bimp (h.rr 1 1 (by omega) (by omega))) (bimp (h.rr 1 2 (by omega) (by omega))) (bimp (h.rr 2 3 (by omega) (by omega))) (bimp (h.rr 3 3 (by omega) (by omega)))
    rw [Cn4, h.one]
    simp only [Bool.toNat_true]
    generalize (r 1).toNat = x1 at *
    generalize (r 2).toNat = x2 at *
    generalize (r 3).toNat = x3 at *
    refine ⟨?_, fun e => by omega⟩
    rcases k with k | k | k
    · exact Or.inl k
    · exact Or.inr (Or.inl k)
    · exact Or.inr (Or.inr (Or.inr (Or.inl ⟨k, trivial⟩)))
  · have k := rot6 (r 1) (r 2) (r 3) (r 4) (r 5) (bimp (h.rr 1 1 (by omega) (by omega))) (bimp (h.rr 1 2 (by omega) (by omega))) (bimp (h.rr 1 3 (by omega) (by omega))) (bimp (h.rr 1 4 (by omega) (by omega))) (bimp (h.rr 2 2 (by omega) (by omega))) (bimp (h.rr 2 3 (by omega) (by omega))) (bimp (h.rr 2 5 (by omega) (by omega))) (bimp (h.rr 3 4 (by omega) (by omega))) (bimp (h.rr 3 5 (by omega) (by omega))) (bimp (h.rr 4 4 (by omega) (by omega))) (bimp (h.rr 4 5 (by omega) (by omega))) (bimp (h.rr 5 5 (by omega) (by omega)))
    rw [Cn6, h.one]
    simp only [Bool.toNat_true]
    refine ⟨?_, k.2⟩
    rcases k.1 with k | k | k | k
    · exact Or.inl k
    · exact Or.inr (Or.inl k)
    · exact Or.inr (Or.inr (Or.inl ⟨k, trivial⟩))
    · exact Or.inr (Or.inr (Or.inr (Or.inr ⟨k, trivial⟩)))
theorem Grp.flips {G : Nat} {r f : Nat → Bool} (h : Grp G r f) : Cn f G = 0 ∨ Cn f G = Cn r G := by
  by_cases hz : ∃ t, t < G ∧ f t = true
  · right
    obtain ⟨t0, ht0, hf0⟩ := hz
    have key : ∀ i, i < G → f i = r ((t0 + (G - i)) % G) := by
      intro i hi
      rw [Bool.eq_iff_iff]
      constructor
      · exact fun k => h.ff t0 i ht0 hi hf0 k
      · intro k
        have hlt : (t0 + (G - i)) % G < G := Nat.mod_lt _ (by omega)
        have := h.fr t0 _ ht0 hlt hf0 k
        have e : (t0 + (G - (t0 + (G - i)) % G)) % G = i := by
          rcases h.hG with rfl | rfl <;> omega
        rw [e] at this
        exact this
    rcases h.hG with rfl | rfl
    · rw [Cn4, Cn4, key 0 (by omega), key 1 (by omega), key 2 (by omega), key 3 (by omega)]
      rcases (show t0 = 0 ∨ t0 = 1 ∨ t0 = 2 ∨ t0 = 3 by omega) with rfl | rfl | rfl | rfl <;> simp only [Nat.reduceAdd, Nat.reduceSub, Nat.reduceMod] <;> omega
    · rw [Cn6, Cn6, key 0 (by omega), key 1 (by omega), key 2 (by omega), key 3 (by omega), key 4 (by omega), key 5 (by omega)]
      rcases (show t0 = 0 ∨ t0 = 1 ∨ t0 = 2 ∨ t0 = 3 ∨ t0 = 4 ∨ t0 = 5 by omega) with rfl | rfl | rfl | rfl | rfl | rfl <;> simp only [Nat.reduceAdd, Nat.reduceSub, Nat.reduceMod] <;> omega
  · left
    rw [Cn_congr f (fun _ => false) G (fun i hi => bfalse (fun k => hz ⟨i, hi, k⟩)), Cn_none]
/-- .. and of a pattern's moves -/
theorem fi_some {L : List Mv} {t : Nat} {f : Bool} : (fi L t f).isSome = true ↔ ∃ X Y, (t, f, X, Y) ∈ L := by
  unfold fi
  rw [List.find?_isSome]
  constructor
  · rintro ⟨⟨a, b, X, Y⟩, hm, k⟩
    simp at k
    obtain ⟨rfl, rfl⟩ := k
    exact ⟨X, Y, hm⟩
  · rintro ⟨X, Y, hm⟩
    exact ⟨_, hm, by simp⟩
theorem moves_grp (w h N : Nat) (px : Nat → Int) (g : Int) (hg : g = 4 ∨ g = 6) (hN : 1 ≤ N) : Grp g.toNat (fun t => (fi (movesL w h N px g) t false).isSome) (fun t => (fi (movesL w h N px g) t true).isSome) := by
  have hA := acts2 w h N px g hg hN
  refine ⟨by omega, fi_some.2 ⟨0, 0, List.mem_of_getElem? (moves_head w h N px g hN hg)⟩, ?_, ?_, ?_⟩
  · intro a b ha hb h1 h2
    obtain ⟨X, Y, m1⟩ := fi_some.1 h1
    obtain ⟨X', Y', m2⟩ := fi_some.1 h2
    have := hA.mem _ m1 _ m2
    unfold mulM at this
    simp only [cT, cF] at this
    rw [show ((((a : Int) + (b : Int)) % g).toNat) = (a + b) % g.toNat by
      rcases hg with rfl | rfl
      · show _ = (a + b) % 4
        omega
      · show _ = (a + b) % 6
        omega] at this
    exact fi_some.2 ⟨_, _, this⟩
  · intro a b ha hb h1 h2
    obtain ⟨X, Y, m1⟩ := fi_some.1 h1
    obtain ⟨X', Y', m2⟩ := fi_some.1 h2
    have := hA.mem _ m1 _ m2
    unfold mulM at this
    simp only [cT, cF] at this
    rw [show ((((a : Int) + (g - (b : Int))) % g).toNat) = (a + (g.toNat - b)) % g.toNat by
      rcases hg with rfl | rfl
      · show _ = (a + (4 - b)) % 4
        have : b < 4 := hb
        omega
      · show _ = (a + (6 - b)) % 6
        have : b < 6 := hb
        omega] at this
    exact fi_some.2 ⟨_, _, this⟩
  · intro a b ha hb h1 h2
    obtain ⟨X, Y, m1⟩ := fi_some.1 h1
    obtain ⟨X', Y', m2⟩ := fi_some.1 h2
    have := hA.mem _ m1 _ m2
    unfold mulM at this
    simp only [cT, cF, Bool.not_true] at this
    rw [show ((((a : Int) + (g - (b : Int))) % g).toNat) = (a + (g.toNat - b)) % g.toNat by
      rcases hg with rfl | rfl
      · show _ = (a + (4 - b)) % 4
        have : b < 4 := hb
        omega
      · show _ = (a + (6 - b)) % 6
        have : b < 6 := hb
        omega] at this
    exact fi_some.2 ⟨_, _, this⟩
end Go.Proofs.YtpcajcgafmmlkaaDoor

namespace Go.Proofs.YtpcajcgafmmlkaaDoor
open Go.RowKit Go.Maps

def KindIs (g w h : Int) (p : Option Addr) (n cap : Nat) (W : World) (kd er : Int) : Prop :=
  Calls Tryd.prog 4 #[Ch.ch g w h p n cap] W fun e w' => e = .returned (.tuple #[.int .i64 kd, .int .i64 er]) ∧ Below W.heap.size W w'
/-- the steps, and the flips, that keep a pattern -/
def stB (w h N : Nat) (px : Nat → Int) (g : Int) (x y : Int) : Bool := kpV w h N px g 0 false (x % N) (y % N)
def flB (w h N : Nat) (px : Nat → Int) (g : Int) (t : Nat) (x y : Int) : Bool := kpV w h N px g t true (x % N) (y % N)
/-- the kind of a pattern -/
def kindO (w h N : Nat) (px : Nat → Int) (g : Int) (s u v : Nat) : Int :=
  kdO (Cn (fun t => (fi (movesL w h N px g) t false).isSome) g.toNat) g.toNat (flF (stB w h N px g) g (movesL w h N px g) s u v) (thB (flB w h N px g) g g.toNat (movesL w h N px g) s u v)

theorem Kind_bad (g w h : Int) (p : Option Addr) (n cap : Nat) (px : Nat → Int) (W : World) (hc : Ch.Cells W p n px) (er : Int) (her : toE g w h n px = er) (hp : 1 ≤ er) : KindIs g w h p n cap W 0 er :=
  Kind_err g w h p n cap W er hp (fun V => Ch.Cells V p n px) (fun _ _ k hb => k.keep hb)
    (fun V k => patternOf_err g w h p n cap V er hp (fun V => Ch.Cells V p n px) (fun _ _ k hb => k.keep hb) (fun V k => moves_err g w h p n cap px V k er her hp) k) hc

theorem Kind_right (g w h : Int) (p : Option Addr) (n cap : Nat) (px : Nat → Int) (w' h' N b o : Nat) (s u v : Nat) (W : World) (r : Right W g w h p n px w' h' N b o) (hs : SideIs (stepK w' h' N px g) N s) (hu : UpIs (stepK w' h' N px g) N s u v) :
    KindIs g w h p n cap W (kindO w' h' N px g s u v) 0 := by
  have hN1 := r.hN1
  have hg := r.hg
  have hf := fine_of w' h' N px g s u v hN1.1 hs hu
  have hs1 := hf.hs
  have hv1 := hf.hv
  have hu1 := hf.hu
  have hG : g = (g.toNat : Int) := by omega
  have hlen := moves_len w' h' N px g hN1.2 hg
  have hLb : ∀ m ∈ movesL w' h' N px g, m.2.2.1 ≤ 24 ∧ m.2.2.2 ≤ 24 := by
    rintro ⟨a, f, X, Y⟩ hm
    obtain ⟨-, hX, hY, -⟩ := (mem_moves w' h' N px g a f X Y hN1.1).1 hm
    exact ⟨by simp only; omega, by simp only; omega⟩
  have h0 : stB w' h' N px g 0 0 = true := by
    unfold stB
    rw [Int.zero_emod]
    exact (kpV_iff w' h' N px g 0 false 0 0 hN1.1).2 (kp_id _ g)
  have hgrp := moves_grp w' h' N px g hg hN1.1
  have kst : ∀ V, Right V g w h p n px w' h' N b o → ∀ x y : Int, -10000 ≤ x ∧ x ≤ 10000 → -10000 ≤ y ∧ y ≤ 10000 → KeepsIs 74 g w h p n cap 0 false x y V (stB w' h' N px g x y) 0 := fun V k x y hx hy =>
    keeps_ok g w h p n cap px w' h' N b o 0 false x y V k (wE_of hg ⟨by omega, by omega⟩ (sm2_of (by omega) (by omega)))
  have kfl : ∀ V, Right V g w h p n px w' h' N b o → ∀ t : Nat, t < g.toNat → ∀ x y : Int, -10000 ≤ x ∧ x ≤ 10000 → -10000 ≤ y ∧ y ≤ 10000 → KeepsIs 74 g w h p n cap t true x y V (flB w' h' N px g t x y) 0 := fun V k t ht x y hx hy =>
    keeps_ok g w h p n cap px w' h' N b o t true x y V k (wE_of hg ⟨by omega, by omega⟩ (sm2_of (by omega) (by omega)))
  refine Kind_ok g w h p n cap (movesL w' h' N px g) s u v _ W (fun V => Right V g w h p n px w' h' N b o) (fun V V' k hb => k.keep hb) (fun V k => ?_) (fun V q cp k hm => ?_) r
  · refine patternOf_ok g w h p n cap (movesL w' h' N px g) s u v ⟨_, moves_head w' h' N px g hN1.1 hg⟩ V (fun V => Right V g w h p n px w' h' N b o) (fun V V' k hb => k.keep hb) (fun V k => ?_) (fun V k => ?_) k
    · refine (moves_ok g w h p n cap px w' h' N b o V k).mono ?_
      rintro e V' ⟨q, cp, rfl, hm, hb⟩
      exact ⟨q, cp, rfl, hm.1, hb⟩
    · refine (finest_ok g w h p n cap px w' h' N b o V k).mono ?_
      rintro e V' ⟨s', u', v', rfl, ⟨hs', hu'⟩, hb⟩
      obtain rfl := side_one hs' hs
      obtain ⟨rfl, rfl⟩ := up_one hu' hu
      exact ⟨rfl, hb⟩
  · have hTle := Cn_le (fun t => (fi (movesL w' h' N px g) t false).isSome) g.toNat
    refine kind_plain g w h p n cap q (movesL w' h' N px g).length cp s u v _ g.toNat _ _ (fun V => Right V g w h p n px w' h' N b o ∧ MRow V q (movesL w' h' N px g)) V (by omega) (fun V V' k hb => ⟨k.1.keep hb, k.2.keep hb⟩)
      (fun V k => turns_any g w h p n cap q cp s u v (movesL w' h' N px g) g.toNat V hG (by omega) hlen k.2)
      (fun V k => flips_any g w h p n cap q cp s u v (movesL w' h' N px g) g.toNat (stB w' h' N px g) (fun V => Right V g w h p n px w' h' N b o) V hg hG (by omega) (by omega) (by omega) h0 hlen hLb (fun V V' k hb => k.keep hb) kst k.2 k.1)
      (fun h3 V k => ?_) ⟨k, hm⟩
    have h2 := (hgrp.count).2 h3
    obtain ⟨⟨a, f, X, Y⟩, hfi⟩ := Option.isSome_iff_exists.1 h2
    have hmem := List.mem_of_find?_eq_some hfi
    have hab : a = 2 ∧ f = false := by have := List.find?_some hfi; simp at this; exact this
    obtain ⟨rfl, rfl⟩ := hab
    have hb2 := hLb _ hmem
    have := thirds_any g w h p n cap q cp s u v (movesL w' h' N px g) X Y g.toNat (flB w' h' N px g) (fun V => Right V g w h p n px w' h' N b o) V hg hG (by omega) (by omega) (by omega) hlen hfi hb2.1 hb2.2 (fun V V' k hb => k.keep hb) kfl k.2 k.1
    unfold thB
    rw [hfi]
    exact this
end Go.Proofs.YtpcajcgafmmlkaaDoor

namespace Go.Proofs.YtpcajcgafmmlkaaDoor
open Go.RowKit Go.Maps

theorem hex_right (W : World) (b : Nat) (hr : Ch.Row W b 0 1 (fun _ => 0)) : Right W 6 1 1 (some ⟨b, 0, none⟩) 1 (fun _ => 0) 1 1 1 b 0 := by
  have e : toE 6 1 1 1 (fun _ => 0) = 0 := by decide
  have e2 : toN 6 1 1 1 (fun _ => 0) = 1 := by decide
  exact ⟨Or.inr rfl, ⟨rfl, by omega, by omega⟩, ⟨rfl, by omega, by omega⟩, rfl, rfl, hr, e, e2, by omega, by omega⟩
theorem hex_moves : movesL 1 1 1 (fun _ => 0) 6 = [(0, false, 0, 0), (1, false, 0, 0), (2, false, 0, 0), (3, false, 0, 0), (4, false, 0, 0), (5, false, 0, 0), (0, true, 0, 0), (1, true, 0, 0), (2, true, 0, 0), (3, true, 0, 0), (4, true, 0, 0), (5, true, 0, 0)] := by decide
theorem hex_kind (s u v : Nat) : kindO 1 1 1 (fun _ => 0) 6 s u v = 17 := by
  unfold kindO
  rw [show (6 : Int).toNat = 6 from rfl, hex_moves]
  have hT : Cn (fun t => (fi [(0, false, 0, 0), (1, false, 0, 0), (2, false, 0, 0), (3, false, 0, 0), (4, false, 0, 0), (5, false, 0, 0), (0, true, 0, 0), (1, true, 0, 0), (2, true, 0, 0), (3, true, 0, 0), (4, true, 0, 0), (5, true, 0, 0)] t false).isSome) 6 = 6 := by decide
  rw [hT]
  have hF : ¬ Cn (fun t => (flF (stB 1 1 1 (fun _ => 0) 6) 6 [(0, false, 0, 0), (1, false, 0, 0), (2, false, 0, 0), (3, false, 0, 0), (4, false, 0, 0), (5, false, 0, 0), (0, true, 0, 0), (1, true, 0, 0), (2, true, 0, 0), (3, true, 0, 0), (4, true, 0, 0), (5, true, 0, 0)] s u v t).isSome) 6 = 0 := by
    simp only [flF, Option.isSome_map]
    decide
  unfold kdO
  rw [if_neg hF]
  rfl

/-- turns and flips of a kind -/
def tuO (k : Nat) : Nat := ([0, 1, 2, 1, 1, 1, 2, 2, 2, 2, 4, 4, 4, 3, 3, 3, 6, 6] : List Nat).getD k 0
def tuF (k : Nat) : Nat := if k = 1 ∨ k = 2 ∨ k = 10 ∨ k = 13 ∨ k = 16 then 0 else tuO k
/-! ### the kind says how many turns and flips there are -/
theorem Cn_two {p : Nat → Bool} {M i j : Nat} (h : Cn p M = 1) (hi : i < M) (hj : j < M) (pi : p i = true) (pj : p j = true) : i = j := by
  rcases Nat.decEq i j with ne | e
  · exfalso
    have := inj_len (fun x : Nat => x) [i, j] ((List.range M).filter p) (by simp [ne]) (by intro a ha; simp at ha; rcases ha with rfl | rfl <;> simp [*]) (by intro a _ b _ e; exact e)
    unfold Cn at h
    rw [h] at this
    simp at this
  · exact e
theorem cho_one {G : Nat} {F : Nat → Option (Bool × Bool)} (h : Cn (fun t => (F t).isSome) G = 1) (hF : ∀ t c, F t = some c → c ≠ (false, false)) : chO G F 3 4 5 0 = 3 ∨ chO G F 3 4 5 0 = 4 ∨ chO G F 3 4 5 0 = 5 := by
  obtain ⟨t0, ht0, hs0⟩ : ∃ t, t < G ∧ (F t).isSome = true := by
    unfold Cn at h
    obtain ⟨t, ht⟩ := List.exists_mem_of_ne_nil ((List.range G).filter (fun t => (F t).isSome)) (fun e => by rw [e] at h; cases h)
    have := List.mem_filter.1 ht
    exact ⟨t, List.mem_range.1 this.1, this.2⟩
  obtain ⟨c, hc⟩ := Option.isSome_iff_exists.1 hs0
  have key : ∀ d, c = d → allW G F (fun h => h == d) = true := by
    intro d e
    rw [allW_iff]
    intro t h' ht hh
    have := Cn_two h ht ht0 (by rw [hh]; rfl) hs0
    subst this
    rw [hc] at hh
    cases hh
    simp [e]
  unfold chO
  by_cases h1 : allW G F (fun h => h == (true, false)) = true
  · rw [if_pos h1]; exact Or.inl rfl
  · rw [if_neg h1]
    by_cases h2 : allW G F (fun h => h == (false, true)) = true
    · rw [if_pos h2]; exact Or.inr (Or.inl rfl)
    · rw [if_neg h2]
      by_cases h3 : allW G F (fun h => h == (true, true)) = true
      · rw [if_pos h3]; exact Or.inr (Or.inr rfl)
      · exfalso
        have n0 := hF t0 c hc
        rcases c with ⟨a, b⟩
        cases a <;> cases b
        · exact n0 rfl
        · exact h2 (key _ rfl)
        · exact h1 (key _ rfl)
        · exact h3 (key _ rfl)
theorem cho_any (G : Nat) (F : Nat → Option (Bool × Bool)) (a b c d : Int) : chO G F a b c d = a ∨ chO G F a b c d = b ∨ chO G F a b c d = c ∨ chO G F a b c d = d := by
  unfold chO
  split
  · exact Or.inl rfl
  · split
    · exact Or.inr (Or.inl rfl)
    · split
      · exact Or.inr (Or.inr (Or.inl rfl))
      · exact Or.inr (Or.inr (Or.inr rfl))
theorem flF_some {K : Int → Int → Bool} {g : Int} {L : List Mv} {s u v t : Nat} {c : Bool × Bool} (h : flF K g L s u v t = some c) : c ≠ (false, false) := by
  unfold flF at h
  rw [Option.map_eq_some_iff] at h
  obtain ⟨m, -, rfl⟩ := h
  intro e
  rw [Prod.mk.injEq, List.any_eq_false, List.any_eq_false] at e
  have hmem : bMv t true m.2.2.1 m.2.2.2 s u v 0 0 ∈ bAll t true m.2.2.1 m.2.2.2 s u v 2 2 := by
    unfold bAll bRow
    rw [List.mem_flatMap]
    exact ⟨0, by simp, List.mem_map.2 ⟨0, by simp, rfl⟩⟩
  have a := e.1 _ hmem
  have b := e.2 _ hmem
  simp only [Bool.not_eq_true', Bool.not_eq_true] at a b
  exact a b
theorem kd_turns {T G : Nat} {F : Nat → Option (Bool × Bool)} {th : Bool} {FT : Nat} (hFT : FT = Cn (fun t => (F t).isSome) G) (hT : T = 1 ∨ T = 2 ∨ T = 3 ∧ G = 6 ∨ T = 4 ∧ G = 4 ∨ T = 6 ∧ G = 6) (hfl : FT = 0 ∨ FT = T) (hF : ∀ t c, F t = some c → c ≠ (false, false)) :
    ∃ k : Nat, kdO T G F th = k ∧ (1 ≤ k ∧ k ≤ 17) ∧ tuO k = T ∧ tuF k = FT := by
  unfold kdO
  rw [← hFT]
  by_cases hz : FT = 0
  · rw [if_pos hz, hz]
    rcases hT with rfl | rfl | ⟨rfl, -⟩ | ⟨rfl, -⟩ | ⟨rfl, -⟩
    · exact ⟨1, rfl, by omega, rfl, rfl⟩
    · exact ⟨2, rfl, by omega, rfl, rfl⟩
    · exact ⟨13, rfl, by omega, rfl, rfl⟩
    · exact ⟨10, rfl, by omega, rfl, rfl⟩
    · exact ⟨16, rfl, by omega, rfl, rfl⟩
  · rw [if_neg hz]
    have e : FT = T := hfl.resolve_left hz
    rw [e]
    rcases hT with rfl | rfl | ⟨rfl, -⟩ | ⟨rfl, -⟩ | ⟨rfl, -⟩
    · rw [if_pos rfl]
      rcases cho_one (by rw [← hFT, e]) hF with k | k | k
      · exact ⟨3, k, by omega, rfl, rfl⟩
      · exact ⟨4, k, by omega, rfl, rfl⟩
      · exact ⟨5, k, by omega, rfl, rfl⟩
    · rw [if_neg (by omega), if_pos rfl]
      rcases cho_any G F 6 8 9 7 with k | k | k | k
      · exact ⟨6, k, by omega, rfl, rfl⟩
      · exact ⟨8, k, by omega, rfl, rfl⟩
      · exact ⟨9, k, by omega, rfl, rfl⟩
      · exact ⟨7, k, by omega, rfl, rfl⟩
    · rw [if_neg (by omega), if_neg (by omega), if_pos rfl]
      cases th
      · exact ⟨15, rfl, by omega, rfl, rfl⟩
      · exact ⟨14, rfl, by omega, rfl, rfl⟩
    · rw [if_neg (by omega), if_neg (by omega), if_neg (by omega), if_pos rfl]
      cases allW G F (fun h => h.1)
      · exact ⟨12, rfl, by omega, rfl, rfl⟩
      · exact ⟨11, rfl, by omega, rfl, rfl⟩
    · rw [if_neg (by omega), if_neg (by omega), if_neg (by omega), if_neg (by omega)]
      exact ⟨17, rfl, by omega, rfl, rfl⟩
end Go.Proofs.YtpcajcgafmmlkaaDoor

namespace Go.Proofs.YtpcajcgafmmlkaaDoor
open Go.RowKit Go.Maps

def cntL (f : Bool) (L : List Mv) : Nat := (L.filter fun m => m.2.1 == f).length
theorem cntL_append (f : Bool) (A B : List Mv) : cntL f (A ++ B) = cntL f A + cntL f B := by unfold cntL; rw [List.filter_append, List.length_append]
theorem rowM_mem {K : Nat → Bool → Nat → Bool} {N t M : Nat} {f : Bool} {m : Mv} (h : m ∈ rowM K N t f M) : m.1 = t ∧ m.2.1 = f := by
  unfold rowM at h
  rw [List.mem_map] at h
  obtain ⟨j, _, rfl⟩ := h
  exact ⟨rfl, rfl⟩
theorem rowM_cn (K : Nat → Bool → Nat → Bool) (N t M : Nat) (f : Bool) : (rowM K N t f M).length = Cn (K t f) M := by
  unfold rowM Cn
  rw [List.length_map]
theorem cntL_row (K : Nat → Bool → Nat → Bool) (N t M : Nat) (f f' : Bool) : cntL f (rowM K N t f' M) = if f' = f then Cn (K t f') M else 0 := by
  unfold cntL
  by_cases e : f' = f
  · subst e
    rw [if_pos rfl, List.filter_eq_self.2 (fun m hm => by simp [(rowM_mem hm).2]), rowM_cn]
  · rw [if_neg e, List.filter_eq_nil_iff.2 (fun m hm => by simp [(rowM_mem hm).2, e])]
    rfl
/-- all rows of a flip together -/
theorem cntL_turns (K : Nat → Bool → Nat → Bool) (N M : Nat) (f : Bool) (c0 : Nat) (r : Nat → Bool) : ∀ G : Nat, (∀ t, t < G → Cn (K t f) M = if r t = true then c0 else 0) → cntL f ((List.range G).flatMap fun t => rowM K N t f M) = Cn r G * c0 := by
  intro G
  induction G with
  | zero => intro _; simp [cntL, Cn]
  | succ G ih =>
    intro h
    rw [List.range_succ, List.flatMap_append, cntL_append, ih (fun t ht => h t (by omega)), Cn_succ]
    simp only [List.flatMap_cons, List.flatMap_nil, List.append_nil]
    rw [cntL_row, if_pos rfl, h G (by omega), Nat.add_mul]
    congr 1
    by_cases e : r G = true <;> simp [e]
theorem cntL_other (K : Nat → Bool → Nat → Bool) (N M : Nat) (f f' : Bool) (hne : f' ≠ f) : ∀ G : Nat, cntL f ((List.range G).flatMap fun t => rowM K N t f' M) = 0 := by
  intro G
  induction G with
  | zero => simp [cntL]
  | succ G ih =>
    rw [List.range_succ, List.flatMap_append, cntL_append, ih]
    simp only [List.flatMap_cons, List.flatMap_nil, List.append_nil]
    rw [cntL_row, if_neg hne]
theorem moves_two (w h N : Nat) (px : Nat → Int) (g : Int) : movesL w h N px g = ((List.range g.toNat).flatMap fun t => rowM (keepsK w h N px g) N t false (N * N)) ++ ((List.range g.toNat).flatMap fun t => rowM (keepsK w h N px g) N t true (N * N)) := by
  unfold movesL allM turnsM
  simp [List.range_succ, flipOf]
theorem row_some (w h N : Nat) (px : Nat → Int) (g : Int) (t : Nat) (f : Bool) (hg : g = 4 ∨ g = 6) (hN : 1 ≤ N) (ht : t < g.toNat) : Cn (keepsK w h N px g t f) (N * N) = if (fi (movesL w h N px g) t f).isSome = true then Cn (keepsK w h N px g 0 false) (N * N) else 0 := by
  by_cases hs : (fi (movesL w h N px g) t f).isSome = true
  · rw [if_pos hs]
    refine (coset w h N px g t f hg (by omega) hN).resolve_left (fun e => ?_)
    obtain ⟨X, Y, hm⟩ := fi_some.1 hs
    obtain ⟨-, hX, hY, hk⟩ := (mem_moves w h N px g t f X Y hN).1 hm
    have hlt : Y * N + X < N * N := by
      have := Nat.mul_le_mul_right N (show Y + 1 ≤ N by omega)
      rw [Nat.add_mul] at this
      omega
    have : Y * N + X ∈ (List.range (N * N)).filter (keepsK w h N px g t f) := by
      rw [List.mem_filter, List.mem_range]
      refine ⟨hlt, (keepsK_iff w h N px g t f _ hN).2 ?_⟩
      rw [Nat.mul_comm Y N, Nat.mul_add_mod, Nat.mod_eq_of_lt hX, Nat.mul_add_div (by omega), Nat.div_eq_of_lt hX, Nat.add_zero]
      exact hk
    unfold Cn at e
    rw [List.length_eq_zero_iff] at e
    rw [e] at this
    cases this
  · rw [if_neg hs]
    unfold Cn
    rw [List.length_eq_zero_iff, List.filter_eq_nil_iff]
    intro j hj hk
    rw [List.mem_range] at hj
    refine hs (fi_some.2 ⟨j % N, j / N, (mem_moves w h N px g t f _ _ hN).2 ⟨ht, Nat.mod_lt _ (by omega), (Nat.div_lt_iff_lt_mul (by omega)).2 hj, (keepsK_iff w h N px g t f j hN).1 hk⟩⟩)
theorem cnt_moves (w h N : Nat) (px : Nat → Int) (g : Int) (hg : g = 4 ∨ g = 6) (hN : 1 ≤ N) (f : Bool) : cntL f (movesL w h N px g) = Cn (fun t => (fi (movesL w h N px g) t f).isSome) g.toNat * Cn (keepsK w h N px g 0 false) (N * N) := by
  have hr := cntL_turns (keepsK w h N px g) N (N * N) f (Cn (keepsK w h N px g 0 false) (N * N)) (fun t => (fi (movesL w h N px g) t f).isSome) g.toNat (fun t ht => row_some w h N px g t f hg hN ht)
  rw [← hr]
  conv => lhs; rw [moves_two]
  rw [cntL_append]
  cases f
  · rw [cntL_other _ _ _ false true (by simp)]; omega
  · rw [cntL_other _ _ _ true false (by simp)]; omega
/-- the first k moves -/
theorem cntL_take (f : Bool) (L : List Mv) (k : Nat) (m : Mv) (h : L[k]? = some m) : cntL f (L.take (k + 1)) = cntL f (L.take k) + (if m.2.1 = f then 1 else 0) := by
  rw [List.take_add_one, h, cntL_append]
  congr 1
  unfold cntL
  by_cases e : m.2.1 = f <;> simp [e]
theorem cntL_le (f : Bool) (L : List Mv) (k : Nat) : cntL f (L.take k) ≤ k := by
  unfold cntL
  exact Nat.le_trans (List.length_filter_le _ _) (by rw [List.length_take]; exact Nat.min_le_left _ _)
end Go.Proofs.YtpcajcgafmmlkaaDoor

namespace Go.Proofs.YtpcajcgafmmlkaaDoor
open Go.RowKit Go.Maps

end Go.Proofs.YtpcajcgafmmlkaaDoor

namespace Go.Proofs.YtpcajcgafmmlkaaDoor
open Go.RowKit Go.Maps

/-- the kind of a pattern, and how many turns and flips it has -/
theorem kind_turns (w h N : Nat) (px : Nat → Int) (g : Int) (s u v : Nat) (hg : g = 4 ∨ g = 6) (hN : 1 ≤ N) :
    ∃ k : Nat, kindO w h N px g s u v = k ∧ (1 ≤ k ∧ k ≤ 17) ∧ tuO k = Cn (fun t => (fi (movesL w h N px g) t false).isSome) g.toNat ∧ tuF k = Cn (fun t => (fi (movesL w h N px g) t true).isSome) g.toNat := by
  have hgr := moves_grp w h N px g hg hN
  unfold kindO
  refine kd_turns ?_ hgr.count.1 hgr.flips (fun t c hc => flF_some hc)
  refine Cn_congr _ _ _ (fun t _ => ?_)
  unfold flF
  rw [Option.isSome_map]

end Go.Proofs.YtpcajcgafmmlkaaDoor
