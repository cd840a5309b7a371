/-
  The search from the end on: what is known of it at each step, and at its end.
-/
import Derived.Test.YtpdknodnlamphaaPM
namespace Go.Proofs.Ytpdknodnlamphaa

theorem inj_len {α β : Type} [DecidableEq β] (φ : α → β) : ∀ (L : List α) (M : List β), L.Nodup → (∀ a ∈ L, φ a ∈ M) → (∀ a ∈ L, ∀ b ∈ L, φ a = φ b → a = b) → L.length ≤ M.length := by
  intro L
  induction L with
  | nil => intro M _ _ _; simp
  | cons a L ih =>
    intro M hd hm hi
    have hd' := List.nodup_cons.1 hd
    have ha := hm a (by simp)
    have := ih (M.erase (φ a)) hd'.2 (fun b hb => (List.mem_erase_of_ne (fun e => hd'.1 (by rw [← hi b (by simp [hb]) a (by simp) e]; exact hb))).2 (hm b (by simp [hb]))) (fun b hb c hc => hi b (by simp [hb]) c (by simp [hc]))
    rw [List.length_erase_of_mem ha] at this
    have := List.length_pos_of_mem ha
    simp
    omega
theorem okS_bound {z : Pz} {l : List Int} (h : OkS z l) (i : Nat) : 0 ≤ gt l i ∧ gt l i ≤ 11 := by
  by_cases hi : i < z.n
  · exact (h.2 i hi).1
  · rw [gt_out (by have := h.1; omega)]; omega
def code (l : List Int) : Nat := (gt l 0).toNat + 12 * ((gt l 1).toNat + 12 * ((gt l 2).toNat + 12 * ((gt l 3).toNat + 12 * (gt l 4).toNat)))
theorem digit {a b X Y : Nat} (ha : a ≤ 11) (hb : b ≤ 11) (h : a + 12 * X = b + 12 * Y) : a = b ∧ X = Y := by omega
theorem code_inj {z : Pz} (hn : z.n < 6) {l m : List Int} (hl : OkS z l) (hm : OkS z m) (h : code l = code m) : l = m := by
  have bd : ∀ {x : List Int} (i : Nat), OkS z x → (gt x i).toNat ≤ 11 ∧ ((gt x i).toNat : Int) = gt x i := fun i hx => by have := okS_bound hx i; omega
  obtain ⟨e0, h⟩ := digit (bd 0 hl).1 (bd 0 hm).1 h
  obtain ⟨e1, h⟩ := digit (bd 1 hl).1 (bd 1 hm).1 h
  obtain ⟨e2, h⟩ := digit (bd 2 hl).1 (bd 2 hm).1 h
  obtain ⟨e3, e4⟩ := digit (bd 3 hl).1 (bd 3 hm).1 h
  have go : ∀ i, (gt l i).toNat = (gt m i).toNat → gt l i = gt m i := fun i e => by rw [← (bd i hl).2, ← (bd i hm).2, e]
  refine list_ext (hl.1.trans hm.1.symm) fun i hi => ?_
  have hi : i < 5 := by have := hl.1; omega
  rcases i with _ | _ | _ | _ | _ | i
  · exact go 0 e0
  · exact go 1 e1
  · exact go 2 e2
  · exact go 3 e3
  · exact go 4 e4
  · omega
theorem few_of {z : Pz} (hn : z.n < 6) {G : List (List Int)} (hd : G.Nodup) (ho : ∀ l ∈ G, OkS z l) : G.length ≤ 248832 := by
  have := inj_len code G (List.range 248832) hd (fun l hl => List.mem_range.2 (by
    have h := ho l hl
    have a0 := okS_bound h 0; have a1 := okS_bound h 1; have a2 := okS_bound h 2; have a3 := okS_bound h 3; have a4 := okS_bound h 4
    unfold code
    omega)) (fun a ha b hb e => code_inj hn (ho a ha) (ho b hb) e)
  simpa using this

abbrev Gd := List (List Int × Nat)
/-- it is known how far it is from there -/
def Kn (G : Gd) (x : List Int) : Prop := ∃ k, (x, k) ∈ G
theorem Kn.app {G H : Gd} {x : List Int} (h : Kn G x) : Kn (G ++ H) x := by
  obtain ⟨k, h⟩ := h
  exact ⟨k, List.mem_append.2 (.inl h)⟩
/-- what is known where the ways to stand ahead of place i have been gone from -/
structure Bf (z : Pz) (G : Gd) (i : Nat) : Prop where
  nd : (G.map (·.1)).Nodup
  head : G[0]? = some (z.E, 0)
  ok : ∀ g ∈ G, dst z g.2 g.1
  up : G.Pairwise fun a b => a.2 ≤ b.2
  top : ∀ g ∈ G, ∀ h, G[i]? = some h → g.2 ≤ h.2 + 1
  ex : ∀ j g, j < i → G[j]? = some g → ∀ p, okP z.n p → OkS z (bh g.1 p) → Kn G (bh g.1 p)
theorem Bf.first (z : Pz) : Bf z [(z.E, 0)] 0 where
  nd := by simp
  head := rfl
  ok g hg := by
    obtain rfl : g = (z.E, 0) := by simpa using hg
    exact ⟨rfl, fun j hj => by omega⟩
  up := by simp
  top g hg h hh := by
    obtain rfl : g = (z.E, 0) := by simpa using hg
    exact Nat.zero_le _
  ex j g hj := by omega
theorem Bf.sts {z : Pz} {G : Gd} {i : Nat} (h : Bf z G i) (hE : OkS z z.E) : ∀ g ∈ G, OkS z g.1 := fun g hg => rc_ok hE (h.ok g hg).1
theorem Bf.few {z : Pz} {G : Gd} {i : Nat} (h : Bf z G i) (hE : OkS z z.E) (hn : z.n < 6) : G.length ≤ 248832 := by
  have := few_of hn h.nd (fun l hl => by obtain ⟨g, hg, rfl⟩ := List.mem_map.1 hl; exact h.sts hE g hg)
  simpa using this
/-- all that is no farther is known -/
theorem Bf.full {z : Pz} {G : Gd} {i : Nat} (h : Bf z G i) {m : List Int} {k : Nat} (hi : G[i]? = some (m, k)) : ∀ {j : Nat} {x : List Int}, j ≤ k → rc z j x → Kn G x
  | 0, x, _, hx => by rw [show x = z.E from hx]; exact ⟨0, List.mem_of_getElem? h.head⟩
  | j + 1, x, hj, hx => by
    obtain ⟨y, p, hy, hp, rfl, hs⟩ := hx
    obtain ⟨k', hk'⟩ := h.full hi (j := j) (by omega) hy
    have hd := h.ok _ hk'
    have hle : k' ≤ j := by
      rcases Nat.lt_or_ge j k' with q | q
      · exact absurd hy (hd.2 _ q)
      · exact q
    obtain ⟨j0, hj0⟩ := List.mem_iff_getElem?.1 hk'
    have hlt : j0 < i := by
      rcases Nat.lt_or_ge j0 i with q | q
      · exact q
      · rcases Nat.lt_or_eq_of_le q with q | q
        · obtain ⟨l1, e1⟩ := List.getElem?_eq_some_iff.1 hi
          obtain ⟨l2, e2⟩ := List.getElem?_eq_some_iff.1 hj0
          have := List.pairwise_iff_getElem.1 h.up i j0 l1 l2 q
          rw [e1, e2] at this
          dsimp only at this
          omega
        · subst q
          rw [hi] at hj0
          simp at hj0
          omega
    exact h.ex j0 _ hlt hj0 p hp hs
theorem Bf.add {z : Pz} {G : Gd} {i : Nat} (h : Bf z G i) {m : List Int} {k : Nat} (hi : G[i]? = some (m, k)) {p : Ps} (hp : okP z.n p) (hs : OkS z (bh m p)) (hno : ¬ Kn G (bh m p)) : Bf z (G ++ [(bh m p, k + 1)]) i := by
  have hil := (List.getElem?_eq_some_iff.1 hi).1
  have hnew : dst z (k + 1) (bh m p) := ⟨rc_next (h.ok _ (List.mem_of_getElem? hi)).1 hp hs, fun j hj hr => hno (h.full hi (by omega) hr)⟩
  refine ⟨?_, ?_, ?_, ?_, ?_, ?_⟩
  · rw [List.map_append, List.nodup_append]
    refine ⟨h.nd, by simp, ?_⟩
    intro a ha b hb e
    obtain ⟨g, hg, rfl⟩ := List.mem_map.1 ha
    obtain rfl : b = bh m p := by simpa using hb
    exact hno ⟨g.2, by rw [← e]; exact hg⟩
  · rw [List.getElem?_append_left (by omega)]; exact h.head
  · intro g hg
    rcases List.mem_append.1 hg with hg | hg
    · exact h.ok g hg
    · obtain rfl : g = (bh m p, k + 1) := by simpa using hg
      exact hnew
  · rw [List.pairwise_append]
    refine ⟨h.up, by simp, fun a ha b hb => ?_⟩
    obtain rfl : b = (bh m p, k + 1) := by simpa using hb
    exact h.top a ha _ hi
  · intro g hg q hq
    rw [List.getElem?_append_left hil, hi] at hq
    cases hq
    rcases List.mem_append.1 hg with hg | hg
    · exact h.top g hg _ hi
    · obtain rfl : g = (bh m p, k + 1) := by simpa using hg
      exact Nat.le_refl _
  · intro j g hj hg q hq hs'
    rw [List.getElem?_append_left (by omega)] at hg
    exact (h.ex j g hj hg q hq hs').app
theorem Bf.next {z : Pz} {G : Gd} {i : Nat} (h : Bf z G i) {m : List Int} {k : Nat} (hi : G[i]? = some (m, k)) (hall : ∀ p, okP z.n p → OkS z (bh m p) → Kn G (bh m p)) : Bf z G (i + 1) where
  nd := h.nd
  head := h.head
  ok := h.ok
  up := h.up
  top g hg q hq := by
    have h1 := h.top g hg _ hi
    obtain ⟨l1, e1⟩ := List.getElem?_eq_some_iff.1 hi
    obtain ⟨l2, e2⟩ := List.getElem?_eq_some_iff.1 hq
    have := List.pairwise_iff_getElem.1 h.up i (i + 1) l1 l2 (by omega)
    rw [e1, e2] at this
    dsimp only at this h1
    omega
  ex j g hj hg p hp hs := by
    rcases Nat.lt_or_eq_of_le (Nat.le_of_lt_succ hj) with q | q
    · exact h.ex j g q hg p hp hs
    · subst q
      rw [hi] at hg
      cases hg
      exact hall p hp hs
theorem Bf.whole {z : Pz} {G : Gd} {i : Nat} (h : Bf z G i) (hi : G.length ≤ i) : ∀ {j : Nat} {x : List Int}, rc z j x → Kn G x
  | 0, x, hx => by rw [show x = z.E from hx]; exact ⟨0, List.mem_of_getElem? h.head⟩
  | j + 1, x, hx => by
    obtain ⟨y, p, hy, hp, rfl, hs⟩ := hx
    obtain ⟨k', hk'⟩ := h.whole hi (j := j) hy
    obtain ⟨j0, hj0⟩ := List.mem_iff_getElem?.1 hk'
    exact h.ex j0 _ (by have := (List.getElem?_eq_some_iff.1 hj0).1; omega) hj0 p hp hs
/-- how far it is, of all that is nearer than s, and of s -/
structure Far (z : Pz) (G : Gd) (s : List Int) : Prop where
  nd : (G.map (·.1)).Nodup
  ok : ∀ g ∈ G, dst z g.2 g.1
  all : ∀ d, dst z d s → ∀ j x, j ≤ d → rc z j x → Kn G x
theorem Bf.far_at {z : Pz} {G : Gd} {i : Nat} (h : Bf z G i) {s : List Int} {k : Nat} (hi : G[i]? = some (s, k)) : Far z G s :=
  ⟨h.nd, h.ok, fun d hd j x hj hx => h.full hi (by have e : k = d := dst_unique (h.ok _ (List.mem_of_getElem? hi)) hd; omega) hx⟩
theorem Bf.far_end {z : Pz} {G : Gd} {i : Nat} (h : Bf z G i) (hi : G.length ≤ i) (s : List Int) : Far z G s :=
  ⟨h.nd, h.ok, fun _ _ _ _ _ hx => h.whole hi hx⟩
theorem key_unique {G : Gd} (h : (G.map (·.1)).Nodup) {x : List Int} {j k : Nat} (hj : (x, j) ∈ G) (hk : (x, k) ∈ G) : j = k := by
  induction G with
  | nil => cases hj
  | cons g G ih =>
    rw [List.map_cons, List.nodup_cons] at h
    rcases List.mem_cons.1 hj with e1 | e1 <;> rcases List.mem_cons.1 hk with e2 | e2
    · exact (Prod.mk.inj (e1.trans e2.symm)).2
    · exact absurd (List.mem_map.2 ⟨_, e2, by rw [← e1]⟩) h.1
    · exact absurd (List.mem_map.2 ⟨_, e1, by rw [← e2]⟩) h.1
    · exact ih h.2 e1 e2
end Go.Proofs.Ytpdknodnlamphaa
