/-
  GroupLattice: it answers true, whatever the chart and the point.
-/
import Derived.Test.YtpcajcgafmmlkaaLC
namespace Go.Proofs.Ytpcajcgafmmlkaa
open Go.RowKit

theorem least (p : Nat → Prop) (h : ∃ n, p n) : ∃ n, p n ∧ ∀ m, m < n → ¬ p m := by
  obtain ⟨n, hn⟩ := h
  induction n using Nat.strongRecOn with
  | ind n ih =>
    by_cases hh : ∃ m, m < n ∧ p m
    · obtain ⟨m, hm, pm⟩ := hh
      exact ih m hm pm
    · exact ⟨n, hn, fun m hm pm => hh ⟨m, hm, pm⟩⟩
theorem bfalse {b : Bool} (h : ¬ b = true) : b = false := by cases b <;> simp_all
theorem side_ex (K : Nat → Nat → Bool) (N : Nat) (hN : 1 ≤ N) : ∃ s, SideIs K N s := by
  obtain ⟨s, hs, hl⟩ := least (fun s => 1 ≤ s ∧ (s = N ∨ K s 0 = true)) ⟨N, hN, Or.inl rfl⟩
  have h2 : s ≤ N := by
    rcases Nat.lt_or_ge N s with h | h
    · exact absurd ⟨hN, Or.inl rfl⟩ (hl N h)
    · exact h
  exact ⟨s, ⟨hs.1, h2⟩, fun x hx hxs => bfalse (fun k => hl x hxs ⟨hx, Or.inr k⟩), hs.2⟩
theorem up_ex (K : Nat → Nat → Bool) (N s : Nat) (hN : 1 ≤ N) (hs : 1 ≤ s) : ∃ u v, UpIs K N s u v := by
  obtain ⟨v, hv, hl⟩ := least (fun v => 1 ≤ v ∧ (v = N ∨ ∃ x, x < s ∧ K x v = true)) ⟨N, hN, Or.inl rfl⟩
  have h2 : v ≤ N := by
    rcases Nat.lt_or_ge N v with h | h
    · exact absurd ⟨hN, Or.inl rfl⟩ (hl N h)
    · exact h
  have no : ∀ y, 1 ≤ y → y < v → ∀ x, x < s → K x y = false := fun y hy hyv x hx => bfalse (fun k => hl y hyv ⟨hy, Or.inr ⟨x, hx, k⟩⟩)
  by_cases hvN : v < N
  · obtain ⟨u, hu, hul⟩ := least (fun x => x < s ∧ K x v = true) (by
      rcases hv.2 with e | e
      · omega
      · exact e)
    exact ⟨u, v, ⟨hv.1, h2, hu.1⟩, no, fun _ x hx => bfalse (fun k => hul x hx ⟨by have := hu.1; omega, k⟩), Or.inl ⟨hvN, hu.2⟩⟩
  · exact ⟨0, v, ⟨hv.1, h2, hs⟩, no, fun h => absurd h hvN, Or.inr ⟨by omega, rfl⟩⟩
theorem side_one {K : Nat → Nat → Bool} {N s s' : Nat} (h : SideIs K N s) (k : SideIs K N s') : s = s' := by
  have key : ∀ {s s' : Nat}, SideIs K N s → SideIs K N s' → ¬ s < s' := by
    intro s s' h k hlt
    rcases h.2.2 with e | e
    · have := k.1.2; omega
    · rw [k.2.1 s h.1.1 hlt] at e; cases e
  have := key h k
  have := key k h
  omega
theorem up_one {K : Nat → Nat → Bool} {N s u v u' v' : Nat} (h : UpIs K N s u v) (k : UpIs K N s u' v') : u = u' ∧ v = v' := by
  have key : ∀ {u v u' v' : Nat}, UpIs K N s u v → UpIs K N s u' v' → ¬ v < v' := by
    intro u v u' v' h k hlt
    rcases h.2.2.2 with ⟨e, e2⟩ | ⟨e, -⟩
    · rw [k.2.1 v h.1.1 hlt u h.1.2.2] at e2; cases e2
    · have := k.1.2.1; omega
  have e1 := key h k
  have e2 := key k h
  have ev : v = v' := by omega
  subst ev
  refine ⟨?_, rfl⟩
  have key2 : ∀ {u u' : Nat}, UpIs K N s u v → UpIs K N s u' v → ¬ u < u' := by
    intro u u' h k hlt
    rcases h.2.2.2 with ⟨e, e2⟩ | ⟨e, e2⟩
    · rw [k.2.2.1 e u hlt] at e2; cases e2
    · rcases k.2.2.2 with ⟨e3, -⟩ | ⟨-, e3⟩ <;> omega
  have := key2 h k
  have := key2 k h
  omega

end Go.Proofs.Ytpcajcgafmmlkaa
