/-
  The reference's Lay: again and again the highest piece that is left.
-/
import Derived.Test.YtkhmdgppkjafoaaPE
namespace Go.Proofs.Ytkhmdgppkjafoaa
open Go.RowKit

/-- which pieces are laid when so many are -/
def dn (g : Nat → Nat) : Nat → Nat → Bool
  | 0, _ => false
  | k + 1, j => if j = g k then true else dn g k j
theorem dn_iff {g : Nat → Nat} {j : Nat} : ∀ k, dn g k j = true ↔ ∃ l, l < k ∧ g l = j
  | 0 => by simp [dn]
  | k + 1 => by
    unfold dn
    by_cases e : j = g k
    · rw [if_pos e]; exact ⟨fun _ => ⟨k, by omega, e.symm⟩, fun _ => rfl⟩
    · rw [if_neg e, dn_iff k]
      constructor
      · rintro ⟨l, h1, h2⟩; exact ⟨l, by omega, h2⟩
      · rintro ⟨l, h1, h2⟩
        by_cases e2 : l = k
        · subst e2; exact absurd h2.symm e
        · exact ⟨l, by omega, h2⟩
/-- the best of the first i that are left: none, or the first of the highest -/
def IsB (g h : Nat → Nat) (k i : Nat) (b : Int) : Prop := (b = -1 ∧ ∀ j, j < i → dn g k j = true) ∨ ∃ m : Nat, b = (m : Int) ∧ m < i ∧ dn g k m = false ∧ ∀ j, j < i → dn g k j = false → h j < h m ∨ (h j = h m ∧ m ≤ j)
theorem IsB.start (g h : Nat → Nat) (k : Nat) : IsB g h k 0 (-1) := .inl ⟨rfl, fun j hj => by omega⟩
theorem IsB.done {g h : Nat → Nat} {k i : Nat} {b : Int} (H : IsB g h k i b) (hd : dn g k i = true) : IsB g h k (i + 1) b := by
  rcases H with ⟨e, H⟩ | ⟨m, e, h1, h2, H⟩
  · refine .inl ⟨e, fun j hj => ?_⟩
    by_cases c : j = i
    · rw [c]; exact hd
    · exact H j (by omega)
  · refine .inr ⟨m, e, by omega, h2, fun j hj hf => ?_⟩
    by_cases c : j = i
    · rw [c, hd] at hf; cases hf
    · exact H j (by omega) hf
theorem IsB.first {g h : Nat → Nat} {k i : Nat} (H : IsB g h k i (-1)) (hd : dn g k i = false) : IsB g h k (i + 1) (i : Int) := by
  rcases H with ⟨-, H⟩ | ⟨m, e, -⟩
  · refine .inr ⟨i, rfl, by omega, hd, fun j hj hf => ?_⟩
    by_cases c : j = i
    · subst c; exact .inr ⟨rfl, Nat.le_refl _⟩
    · rw [H j (by omega)] at hf; cases hf
  · omega
theorem IsB.more {g h : Nat → Nat} {k i m : Nat} (H : IsB g h k i (m : Int)) (hd : dn g k i = false) (hm : h m < h i) : IsB g h k (i + 1) (i : Int) := by
  rcases H with ⟨e, -⟩ | ⟨m', e, h1, h2, H⟩
  · omega
  · obtain rfl : m = m' := by omega
    refine .inr ⟨i, rfl, by omega, hd, fun j hj hf => ?_⟩
    by_cases c : j = i
    · subst c; exact .inr ⟨rfl, Nat.le_refl _⟩
    · have := H j (by omega) hf; omega
theorem IsB.less {g h : Nat → Nat} {k i m : Nat} (H : IsB g h k i (m : Int)) (hm : ¬ h m < h i) : IsB g h k (i + 1) (m : Int) := by
  rcases H with ⟨e, -⟩ | ⟨m', e, h1, h2, H⟩
  · omega
  · obtain rfl : m = m' := by omega
    refine .inr ⟨m, rfl, by omega, h2, fun j hj hf => ?_⟩
    by_cases c : j = i
    · subst c; omega
    · exact H j (by omega) hf
theorem IsB.kind {g h : Nat → Nat} {k i : Nat} {b : Int} (H : IsB g h k i b) : b = -1 ∨ ∃ m : Nat, b = (m : Int) ∧ m < i := by
  rcases H with ⟨e, -⟩ | ⟨m, e, h1, -⟩
  · exact .inl e
  · exact .inr ⟨m, e, h1⟩
/-- the best of all that are left is the next one of the order -/
theorem IsB.next {n : Nat} {g h : Nat → Nat} {k : Nat} {b : Int} (s : Srt n h g) (hk : k < n) (H : IsB g h k n b) : b = (g k : Int) := by
  have hg : dn g k (g k) = false := by
    cases e : dn g k (g k) with
    | false => rfl
    | true =>
      obtain ⟨l, h1, h2⟩ := (dn_iff k).1 e
      have := s.inj (show l < n by omega) hk h2
      omega
  rcases H with ⟨-, H⟩ | ⟨m, e, h1, h2, H⟩
  · rw [H (g k) (s.lt k hk)] at hg; cases hg
  · obtain ⟨l, hl, rfl⟩ := s.onto h1
    have hlk : k ≤ l := by
      rcases Nat.lt_or_ge l k with c | c
      · rw [(dn_iff k).2 ⟨l, c, rfl⟩] at h2; cases h2
      · exact c
    have h3 := H (g k) (s.lt k hk) hg
    rcases Nat.eq_or_lt_of_le hlk with c | c
    · rw [e, c]
    · have := s.up k l c hl
      omega
/-- the document's shelves: x, y and how high the last one is -/
def RS (W : Nat) (w h g : Nat → Nat) (k x y s : Nat) : Prop := (k = 0 ∧ x = 0 ∧ y = 0 ∧ s = 0) ∨ (0 < k ∧ x = (shs W w h g k).x ∧ y = (shs W w h g k).f ∧ y + s = (shs W w h g k).t ∧ 1 ≤ s)
theorem RS.top {W : Nat} {w h g : Nat → Nat} {k x y s : Nat} (H : RS W w h g k x y s) : y + s = (shs W w h g k).t := by
  rcases H with ⟨rfl, rfl, rfl, rfl⟩ | ⟨-, -, -, e, -⟩
  · rfl
  · exact e
theorem RS.bound {W n : Nat} {w h g : Nat → Nat} {k x y s : Nat} (r : Rg W n w h) (so : Srt n h g) (hk : k ≤ n) (H : RS W w h g k x y s) : x ≤ W ∧ y + s ≤ 268435456 := by
  have G := gd_any r so k hk
  have h2 := G.high.2
  have h3 := r.many
  rw [H.top]
  rcases H with ⟨rfl, rfl, -⟩ | ⟨-, e, -⟩
  · exact ⟨Nat.zero_le _, by omega⟩
  · rw [e]; exact ⟨G.x, by omega⟩
/-- no room: a new shelf -/
theorem RS.begin {W n : Nat} {w h g : Nat → Nat} {k x y s : Nat} (r : Rg W n w h) (so : Srt n h g) (hk : k < n) (H : RS W w h g k x y s) (hc : W < x + w (g k)) : RS W w h g (k + 1) (w (g k)) (y + s) (h (g k)) ∧ 0 = (shs W w h g (k + 1)).x - w (g k) ∧ y + s = (shs W w h g (k + 1)).f := by
  have hp := r.each (g k) (so.lt k hk)
  rcases H with ⟨rfl, rfl, rfl, rfl⟩ | ⟨h0, e1, e2, e3, h1⟩
  · omega
  · have e : shs W w h g (k + 1) = ⟨w (g k), (shs W w h g k).t, (shs W w h g k).t + h (g k)⟩ := by rw [shs, Sh.lay, if_pos (by rw [← e1]; exact hc)]
    rw [e, ← e3]
    exact ⟨.inr ⟨by omega, by rw [e], by rw [e]; exact e3, by rw [e, ← e3], hp.2.2.1⟩, by simp, rfl⟩
/-- the first piece -/
theorem RS.one {W n : Nat} {w h g : Nat → Nat} {k x y : Nat} (r : Rg W n w h) (so : Srt n h g) (hk : k < n) (H : RS W w h g k x y 0) : RS W w h g (k + 1) (x + w (g k)) y (h (g k)) ∧ x = (shs W w h g (k + 1)).x - w (g k) ∧ y = (shs W w h g (k + 1)).f := by
  have hp := r.each (g k) (so.lt k hk)
  rcases H with ⟨rfl, rfl, rfl, -⟩ | ⟨h0, e1, e2, e3, h1⟩
  · have e : shs W w h g (0 + 1) = ⟨w (g 0), 0, 0 + h (g 0)⟩ := by
      rw [show shs W w h g (0 + 1) = Sh.lay W (w (g 0)) (h (g 0)) ⟨W, 0, 0⟩ from rfl, Sh.lay, if_pos (show W < W + w (g 0) by omega)]
    exact ⟨.inr ⟨by omega, by rw [e, Nat.zero_add], by rw [e], by rw [e], hp.2.2.1⟩, by rw [e]; simp, by rw [e]⟩
  · omega
/-- behind the one ahead -/
theorem RS.room {W : Nat} {w h g : Nat → Nat} {k x y s : Nat} (H : RS W w h g k x y s) (hs : s ≠ 0) (hc : ¬ W < x + w (g k)) : RS W w h g (k + 1) (x + w (g k)) y s ∧ x = (shs W w h g (k + 1)).x - w (g k) ∧ y = (shs W w h g (k + 1)).f := by
  rcases H with ⟨-, -, -, rfl⟩ | ⟨h0, e1, e2, e3, h1⟩
  · omega
  · have e : shs W w h g (k + 1) = ⟨(shs W w h g k).x + w (g k), (shs W w h g k).f, (shs W w h g k).t⟩ := by rw [shs, Sh.lay, if_neg (by rw [← e1]; exact hc)]
    exact ⟨.inr ⟨by omega, by rw [e, e1], by rw [e]; exact e2, by rw [e]; exact e3, h1⟩, by rw [e]; simp [e1], by rw [e]; exact e2⟩
end Go.Proofs.Ytkhmdgppkjafoaa
