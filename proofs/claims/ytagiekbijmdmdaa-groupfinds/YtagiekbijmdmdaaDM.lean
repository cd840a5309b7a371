/-
  Plain facts: a sweep over the cells of a torus that marks all that the moves reach tells just the cells that no move takes to one ahead of them.
-/
import Derived.Test.YtagiekbijmdmdaaFE
import Derived.Test.YtagiekbijmdmdaaLB
import Derived.Test.YtagiekbijmdmdaaLD
import Derived.Test.YtagiekbijmdmdaaGQ
namespace Go.Proofs.Ytagiekbijmdmdaa
open Go.RowKit

/-- which cells are reached when the first i cells have been looked at -/
def dR (I : Mv → Nat → Nat) (L : List Mv) : Nat → Nat → Bool
  | 0 => fun _ => false
  | i + 1 => fun j => if dR I L i i = true then dR I L i j else (dR I L i j || L.any fun m => I m i == j)
/-- moves on cells, as a group has them -/
structure Acts (I : Mv → Nat → Nat) (L : List Mv) (M : Nat) : Prop where
  lt : ∀ m ∈ L, ∀ j, j < M → I m j < M
  one : ∃ m ∈ L, ∀ j, j < M → I m j = j
  inv : ∀ m ∈ L, ∃ m' ∈ L, ∀ j, j < M → I m' (I m j) = j
  comp : ∀ m ∈ L, ∀ m' ∈ L, ∃ m'' ∈ L, ∀ j, j < M → I m'' j = I m (I m' j)
theorem dR_iff (I : Mv → Nat → Nat) (L : List Mv) (i j : Nat) : dR I L i j = true ↔ ∃ t, t < i ∧ dR I L t t = false ∧ ∃ m ∈ L, I m t = j := by
  induction i with
  | zero => simp [dR]
  | succ i ih =>
    simp only [dR]
    constructor
    · intro h
      split at h
      · obtain ⟨t, ht, k⟩ := ih.1 h
        exact ⟨t, by omega, k⟩
      · rename_i hn
        rw [Bool.or_eq_true] at h
        rcases h with h | h
        · obtain ⟨t, ht, k⟩ := ih.1 h
          exact ⟨t, by omega, k⟩
        · rw [List.any_eq_true] at h
          obtain ⟨m, hm, e⟩ := h
          exact ⟨i, by omega, bfalse hn, m, hm, by simpa using e⟩
    · rintro ⟨t, ht, hf, m, hm, e⟩
      rcases Nat.lt_or_ge t i with h | h
      · have := ih.2 ⟨t, h, hf, m, hm, e⟩
        rw [this]
        simp
      · have et : t = i := by omega
        subst et
        rw [if_neg (by rw [hf]; simp), Bool.or_eq_true]
        exact Or.inr (List.any_eq_true.2 ⟨m, hm, by simp [e]⟩)
theorem told_iff {I : Mv → Nat → Nat} {L : List Mv} {M : Nat} (h : Acts I L M) (t : Nat) (ht : t < M) : dR I L t t = false ↔ domB I L t = true := by
  have back : ∀ t, t < M → domB I L t = true → dR I L t t = false := by
    intro t ht hd
    refine bfalse (fun k => ?_)
    obtain ⟨s, hs, -, m, hm, e⟩ := (dR_iff I L t t).1 k
    obtain ⟨m', hm', e'⟩ := h.inv m hm
    have := e' s (by omega)
    rw [e] at this
    unfold domB at hd
    rw [List.all_eq_true] at hd
    have := hd m' hm'
    simp at this
    omega
  refine ⟨fun hf => ?_, back t ht⟩
  cases hd : domB I L t with
  | true => rfl
  | false =>
    exfalso
    obtain ⟨s, ⟨m, hm, e⟩, hl⟩ := least (fun s => ∃ m ∈ L, I m t = s) (by obtain ⟨m, hm, _⟩ := h.one; exact ⟨_, m, hm, rfl⟩)
    have hst : s < t := by
      unfold domB at hd
      rw [List.all_eq_false] at hd
      obtain ⟨m', hm', k⟩ := hd
      simp at k
      rcases Nat.lt_or_ge s t with q | q
      · exact q
      · exact absurd ⟨m', hm', rfl⟩ (hl (I m' t) (by omega))
    have hsd : domB I L s = true := by
      unfold domB
      rw [List.all_eq_true]
      intro m' hm'
      simp only [decide_eq_true_eq]
      obtain ⟨m'', hm'', k⟩ := h.comp m' hm' m hm
      have := k t ht
      rw [e] at this
      rcases Nat.lt_or_ge (I m' s) s with q | q
      · exact absurd ⟨m'', hm'', this⟩ (hl (I m' s) q)
      · exact q
    obtain ⟨m', hm', k⟩ := h.inv m hm
    have := k t ht
    rw [e] at this
    rw [(dR_iff I L t t).2 ⟨s, hst, back s (by omega) hsd, m', hm', this⟩] at hf
    cases hf

/-- the moves that keep a pattern act so -/
theorem imgC_lt (g : Int) (N : Nat) (m : Mv) (j : Nat) (hN : 1 ≤ N) : imgC g N m j < N * N := (cby_lt N _ _ 0 0 hN).1
theorem imgC_xy (g : Int) (N : Nat) (m : Mv) (j : Nat) (hN : 1 ≤ N) : ((imgC g N m j : Nat) : Int) % N = (mv g m.1 m.2.1 m.2.2.1 m.2.2.2 ((j : Int) % N) ((j : Int) / N)).1 % N ∧ ((imgC g N m j : Nat) : Int) / N = (mv g m.1 m.2.1 m.2.2.1 m.2.2.2 ((j : Int) % N) ((j : Int) / N)).2 % N :=
  cby_mod N _ _ hN
theorem cell_eq {N i j : Nat} (h1 : (i : Int) % N = (j : Int) % N) (h2 : (i : Int) / N = (j : Int) / N) : i = j := by
  have a := Int.emod_add_mul_ediv (i : Int) N
  have b := Int.emod_add_mul_ediv (j : Int) N
  rw [h1, h2] at a
  omega
/-- a move of the list by what it does on the torus -/
theorem imgC_of (g : Int) (N : Nat) (m : Mv) (T : Nat) (F : Bool) (u v : Int) (hN : 1 ≤ N) (h1 : m.1 = T) (h2 : m.2.1 = F) (h3 : (m.2.2.1 : Int) = u % N) (h4 : (m.2.2.2 : Int) = v % N) (x y : Int) (j : Nat) (hx : (j : Int) % N = x % N) (hy : ((j : Int) / N) % N = y % N) :
    ((imgC g N m j : Nat) : Int) % N = (mv g T F u v x y).1 % N ∧ ((imgC g N m j : Nat) : Int) / N = (mv g T F u v x y).2 % N := by
  have e := imgC_xy g N m j hN
  have c := mv_cong g T F N m.2.2.1 m.2.2.2 u v ((j : Int) % N) ((j : Int) / N) x y (by rw [mod_mod]; exact hx) hy (by rw [h3, mod_mod]) (by rw [h4, mod_mod])
  rw [h1, h2] at e
  exact ⟨e.1.trans c.1, e.2.trans c.2⟩
end Go.Proofs.Ytagiekbijmdmdaa

namespace Go.Proofs.Ytagiekbijmdmdaa
open Go.RowKit

theorem div_mod_cell (N j : Nat) (hN : 1 ≤ N) (hj : j < N * N) : ((j : Int) / N) % N = (j : Int) / N := by
  have := cell_xy j N hN hj
  exact Int.emod_eq_of_lt this.2.1 this.2.2
theorem div_mod_img (g : Int) (N : Nat) (m : Mv) (j : Nat) (hN : 1 ≤ N) : (((imgC g N m j : Nat) : Int) / N) % N = ((imgC g N m j : Nat) : Int) / N := div_mod_cell N _ hN (imgC_lt g N m j hN)
theorem acts (w h N : Nat) (px : Nat → Int) (g : Int) (hg : g = 4 ∨ g = 6) (hN : 1 ≤ N) : Acts (imgC g N) (movesL w h N px g) (N * N) := by
  have hP := pat_per w h N px
  have mem : ∀ (T : Int) (F : Bool) (u v : Int), 0 ≤ T ∧ T < g → Kp (pat w h N px) g T.toNat F u v → (T.toNat, F, (u % N).toNat, (v % N).toNat) ∈ movesL w h N px g := by
    intro T F u v hT k
    have n1 := Int.emod_nonneg u (show (N : Int) ≠ 0 by omega)
    have n2 := Int.emod_nonneg v (show (N : Int) ≠ 0 by omega)
    have l1 := Int.emod_lt_of_pos u (show (0 : Int) < N by omega)
    have l2 := Int.emod_lt_of_pos v (show (0 : Int) < N by omega)
    refine (mem_moves w h N px g _ _ _ _ hN).2 ⟨by omega, by omega, by omega, ?_⟩
    rw [Int.toNat_of_nonneg n1, Int.toNat_of_nonneg n2]
    exact k.cong hP (mod_mod _ N).symm (mod_mod _ N).symm
  have nn : ∀ u : Int, (((u % N).toNat : Nat) : Int) = u % N := fun u => Int.toNat_of_nonneg (Int.emod_nonneg u (show (N : Int) ≠ 0 by omega))
  refine ⟨fun m _ j _ => imgC_lt g N m j hN, ?_, ?_, ?_⟩
  · refine ⟨(0, false, 0, 0), List.mem_of_getElem? (moves_head w h N px g hN hg), fun j hj => ?_⟩
    have e := imgC_xy g N (0, false, 0, 0) j hN
    simp only at e
    rw [show ((0 : Nat) : Int) = 0 from rfl, mv_id] at e
    exact cell_eq (e.1.trans (mod_mod _ N)) (e.2.trans (div_mod_cell N j hN hj))
  · rintro ⟨t, f, X, Y⟩ hm
    obtain ⟨ht, hX, hY, hk⟩ := (mem_moves w h N px g t f X Y hN).1 hm
    have ht1 : (0 : Int) ≤ (t : Int) ∧ (t : Int) < g := by omega
    have ki := Kp.inv (P := pat w h N px) hg ht1 (x := X) (y := Y) (by rw [Int.toNat_natCast]; exact hk)
    refine ⟨_, mem (bt g t f) f _ _ (bt_range g t f hg ht1) ki, fun j hj => ?_⟩
    have e := imgC_xy g N (t, f, X, Y) j hN
    simp only at e
    have e2 := imgC_of g N ((bt g t f).toNat, f, ((iP g t f X Y).1 % N).toNat, ((iP g t f X Y).2 % N).toNat) (bt g t f).toNat f (iP g t f X Y).1 (iP g t f X Y).2 hN rfl rfl (nn _) (nn _) (mv g t f X Y ((j : Int) % N) ((j : Int) / N)).1 (mv g t f X Y ((j : Int) % N) ((j : Int) / N)).2 (imgC g N (t, f, X, Y) j) e.1 (by rw [div_mod_img g N _ j hN]; exact e.2)
    have b := mv_fore g t f X Y ((j : Int) % N) ((j : Int) / N) hg ht1
    rw [Int.toNat_natCast] at b
    rw [b] at e2
    exact cell_eq (e2.1.trans (mod_mod _ N)) (e2.2.trans (div_mod_cell N j hN hj))
  · rintro ⟨t, f, X, Y⟩ hm ⟨t', f', X', Y'⟩ hm'
    obtain ⟨ht, hX, hY, hk⟩ := (mem_moves w h N px g t f X Y hN).1 hm
    obtain ⟨ht', hX', hY', hk'⟩ := (mem_moves w h N px g t' f' X' Y' hN).1 hm'
    have ht1 : (0 : Int) ≤ (t : Int) ∧ (t : Int) < g := by omega
    have ht2 : (0 : Int) ≤ (t' : Int) ∧ (t' : Int) < g := by omega
    have kc := Kp.comp (P := pat w h N px) hg ht1 ht2 (x := X) (y := Y) (x' := X') (y' := Y') (by rw [Int.toNat_natCast]; exact hk) (by rw [Int.toNat_natCast]; exact hk')
    refine ⟨_, mem (cT g t f t') (cF f f') _ _ (cT_range g t f t' hg) kc, fun j hj => ?_⟩
    have e := imgC_xy g N (t', f', X', Y') j hN
    simp only at e
    have hXe : (X : Int) = (X : Int) % N := (Int.emod_eq_of_lt (by omega) (by omega)).symm
    have hYe : (Y : Int) = (Y : Int) % N := (Int.emod_eq_of_lt (by omega) (by omega)).symm
    have e2 := imgC_of g N (t, f, X, Y) t f X Y hN rfl rfl hXe hYe (mv g t' f' X' Y' ((j : Int) % N) ((j : Int) / N)).1 (mv g t' f' X' Y' ((j : Int) % N) ((j : Int) / N)).2 (imgC g N (t', f', X', Y') j) e.1 (by rw [div_mod_img g N _ j hN]; exact e.2)
    have e3 := imgC_of g N ((cT g t f t').toNat, cF f f', ((mv g (t : Int).toNat f X Y X' Y').1 % N).toNat, ((mv g (t : Int).toNat f X Y X' Y').2 % N).toNat) (cT g t f t').toNat (cF f f') (mv g (t : Int).toNat f X Y X' Y').1 (mv g (t : Int).toNat f X Y X' Y').2 hN rfl rfl (nn _) (nn _) ((j : Int) % N) ((j : Int) / N) j (mod_mod _ N).symm rfl
    rw [mv_comp g t f X Y t' f' X' Y' _ _ hg ht1 ht2, Int.toNat_natCast, Int.toNat_natCast] at e3
    exact cell_eq (e3.1.trans e2.1.symm) (e3.2.trans e2.2.symm)
end Go.Proofs.Ytagiekbijmdmdaa

namespace Go.Proofs.Ytagiekbijmdmdaa
open Go.RowKit

theorem info4 : (Try.prog.info? 4).map (fun i => (i.zero, i.size, i.bytes)) = some (some (.bool false), 1, 1) := by kernel_rfl
/-- a row of marks that may be written -/
def BRow (W : World) (b k : Nat) (f : Nat → Bool) : Prop := b < W.heap.size ∧ ∀ j, j < k → W.cell? ⟨b, j, none⟩ = some (.bool (f j)) ∧ W.frozen? ⟨b, j, none⟩ = false
theorem BRow.keep {W w1 : World} {b k : Nat} {f : Nat → Bool} (h : BRow W b k f) (hb : Below W.heap.size W w1) : BRow w1 b k f :=
  ⟨Nat.lt_of_lt_of_le h.1 hb.size, fun j hj => ⟨keepC hb h.1 (h.2 j hj).1, keepF hb h.1 (h.2 j hj).2⟩⟩
theorem BRow.set {W : World} {b k : Nat} {f : Nat → Bool} (h : BRow W b k f) (j : Nat) : BRow (W.setCell ⟨b, j, none⟩ (.bool true)) b k (fun i => f i || j == i) := by
  refine ⟨by simpa using h.1, fun i hi => ?_⟩
  obtain ⟨h1, h2⟩ := h.2 i hi
  refine ⟨?_, by simpa [go_sem] using h2⟩
  by_cases e : j = i
  · subst e
    simp [go_sem, h1]
  · simp [go_sem, h1, e]
theorem brow_made {w : World} {B b k : Nat} (h : w.ownsRow B 4 1 (.slice (some ⟨b, 0, none⟩) k k) k (madeCells #[.bool false] k).toList) : BRow w b k (fun _ => false) :=
  ⟨(h.lt b rfl).2, fun j hj => ⟨by rw [h.cellAt j (by omega), toList_madeCells_one, List.getElem?_replicate, if_pos (by omega)], h.frozenAt j⟩⟩

/-- the cells that the sweep tells, as points -/
def dO (I : Mv → Nat → Nat) (L : List Mv) (N M : Nat) : List (Int × Int) := ((List.range M).filter fun t => !dR I L t t).map fun j => (((j % N : Nat) : Int), ((j / N : Nat) : Int))
theorem dO_domL {I : Mv → Nat → Nat} {L : List Mv} {N M : Nat} (h : Acts I L M) : dO I L N M = domL I L N M := by
  unfold dO domL
  congr 1
  refine List.filter_congr (fun t ht => ?_)
  have := told_iff h t (List.mem_range.1 ht)
  rw [Bool.eq_iff_iff, ← this]
  simp
theorem dO_succ (I : Mv → Nat → Nat) (L : List Mv) (N M : Nat) : dO I L N (M + 1) = dO I L N M ++ (if dR I L M M = true then [] else [(((M % N : Nat) : Int), ((M / N : Nat) : Int))]) := by
  unfold dO
  rw [List.range_succ, List.filter_append, List.map_append]
  congr 1
  by_cases h : dR I L M M = true <;> simp [h]
end Go.Proofs.Ytagiekbijmdmdaa
