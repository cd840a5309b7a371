/-
  Plain facts: a sweep over the cells of a torus that marks all that the moves reach tells just the cells that no move takes to one ahead of them.
-/
import Derived.Test.YtpcajcgafmmlkaaFE
import Derived.Test.YtpcajcgafmmlkaaLB
import Derived.Test.YtpcajcgafmmlkaaLD
namespace Go.Proofs.Ytpcajcgafmmlkaa
open Go.RowKit

/-- which cells are reached when the first i cells have been looked at -/
def dR (I : Mv → Nat → Nat) (L : List Mv) : Nat → Nat → Bool
  | 0 => fun _ => false
  | i + 1 => fun j => if dR I L i i = true then dR I L i j else (dR I L i j || L.any fun m => I m i == j)
/-- moves on cells, as a group has them -/
structure Acts (I : Mv → Nat → Nat) (L : List Mv) (M : Nat) : Prop where
  lt : ∀ m ∈ L, ∀ j, j < M → I m j < M
  one : ∃ m ∈ L, ∀ j, j < M → I m j = j
  inv : ∀ m ∈ L, ∃ m' ∈ L, ∀ j, j < M → I m' (I m j) = j
  comp : ∀ m ∈ L, ∀ m' ∈ L, ∃ m'' ∈ L, ∀ j, j < M → I m'' j = I m (I m' j)
theorem dR_iff (I : Mv → Nat → Nat) (L : List Mv) (i j : Nat) : dR I L i j = true ↔ ∃ t, t < i ∧ dR I L t t = false ∧ ∃ m ∈ L, I m t = j := by
  induction i with
  | zero => simp [dR]
  | succ i ih =>
    simp only [dR]
    constructor
    · intro h
      split at h
      · obtain ⟨t, ht, k⟩ := ih.1 h
        exact ⟨t, by omega, k⟩
      · rename_i hn
        rw [Bool.or_eq_true] at h
        rcases h with h | h
        · obtain ⟨t, ht, k⟩ := ih.1 h
          exact ⟨t, by omega, k⟩
        · rw [List.any_eq_true] at h
          obtain ⟨m, hm, e⟩ := h
          exact ⟨i, by omega, bfalse hn, m, hm, by simpa using e⟩
    · rintro ⟨t, ht, hf, m, hm, e⟩
      rcases Nat.lt_or_ge t i with h | h
      · have := ih.2 ⟨t, h, hf, m, hm, e⟩
        rw [this]
        simp
      · have et : t = i := by omega
        subst et
        rw [if_neg (by rw [hf]; simp), Bool.or_eq_true]
        exact Or.inr (List.any_eq_true.2 ⟨m, hm, by simp [e]⟩)
theorem told_iff {I : Mv → Nat → Nat} {L : List Mv} {M : Nat} (h : Acts I L M) (t : Nat) (ht : t < M) : dR I L t t = false ↔ domB I L t = true := by
  have back : ∀ t, t < M → domB I L t = true → dR I L t t = false := by
    intro t ht hd
    refine bfalse (fun k => ?_)
    obtain ⟨s, hs, -, m, hm, e⟩ := (dR_iff I L t t).1 k
    obtain ⟨m', hm', e'⟩ := h.inv m hm
    have := e' s (by omega)
    rw [e] at this
    unfold domB at hd
    rw [List.all_eq_true] at hd
    have := hd m' hm'
    simp at this
    omega
  refine ⟨fun hf => ?_, back t ht⟩
  cases hd : domB I L t with
  | true => rfl
  | false =>
    exfalso
    obtain ⟨s, ⟨m, hm, e⟩, hl⟩ := least (fun s => ∃ m ∈ L, I m t = s) (by obtain ⟨m, hm, _⟩ := h.one; exact ⟨_, m, hm, rfl⟩)
    have hst : s < t := by
      unfold domB at hd
      rw [List.all_eq_false] at hd
      obtain ⟨m', hm', k⟩ := hd
      simp at k
      rcases Nat.lt_or_ge s t with q | q
      · exact q
      · exact absurd ⟨m', hm', rfl⟩ (hl (I m' t) (by omega))
    have hsd : domB I L s = true := by
      unfold domB
      rw [List.all_eq_true]
      intro m' hm'
      simp only [decide_eq_true_eq]
      obtain ⟨m'', hm'', k⟩ := h.comp m' hm' m hm
      have := k t ht
      rw [e] at this
      rcases Nat.lt_or_ge (I m' s) s with q | q
      · exact absurd ⟨m'', hm'', this⟩ (hl (I m' s) q)
      · exact q
    obtain ⟨m', hm', k⟩ := h.inv m hm
    have := k t ht
    rw [e] at this
    rw [(dR_iff I L t t).2 ⟨s, hst, back s (by omega) hsd, m', hm', this⟩] at hf
    cases hf

/-- the moves that keep a pattern act so -/
theorem imgC_lt (g : Int) (N : Nat) (m : Mv) (j : Nat) (hN : 1 ≤ N) : imgC g N m j < N * N := (cby_lt N _ _ 0 0 hN).1
theorem imgC_xy (g : Int) (N : Nat) (m : Mv) (j : Nat) (hN : 1 ≤ N) : ((imgC g N m j : Nat) : Int) % N = (mv g m.1 m.2.1 m.2.2.1 m.2.2.2 ((j : Int) % N) ((j : Int) / N)).1 % N ∧ ((imgC g N m j : Nat) : Int) / N = (mv g m.1 m.2.1 m.2.2.1 m.2.2.2 ((j : Int) % N) ((j : Int) / N)).2 % N :=
  cby_mod N _ _ hN
theorem cell_eq {N i j : Nat} (h1 : (i : Int) % N = (j : Int) % N) (h2 : (i : Int) / N = (j : Int) / N) : i = j := by
  have a := Int.emod_add_mul_ediv (i : Int) N
  have b := Int.emod_add_mul_ediv (j : Int) N
  rw [h1, h2] at a
  omega
/-- a move of the list by what it does on the torus -/
theorem imgC_of (g : Int) (N : Nat) (m : Mv) (T : Nat) (F : Bool) (u v : Int) (hN : 1 ≤ N) (h1 : m.1 = T) (h2 : m.2.1 = F) (h3 : (m.2.2.1 : Int) = u % N) (h4 : (m.2.2.2 : Int) = v % N) (x y : Int) (j : Nat) (hx : (j : Int) % N = x % N) (hy : ((j : Int) / N) % N = y % N) :
    ((imgC g N m j : Nat) : Int) % N = (mv g T F u v x y).1 % N ∧ ((imgC g N m j : Nat) : Int) / N = (mv g T F u v x y).2 % N := by
  have e := imgC_xy g N m j hN
  have c := mv_cong g T F N m.2.2.1 m.2.2.2 u v ((j : Int) % N) ((j : Int) / N) x y (by rw [mod_mod]; exact hx) hy (by rw [h3, mod_mod]) (by rw [h4, mod_mod])
  rw [h1, h2] at e
  exact ⟨e.1.trans c.1, e.2.trans c.2⟩
end Go.Proofs.Ytpcajcgafmmlkaa
