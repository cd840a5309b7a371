/-
  A cloth seen from below: the mathematics.
-/
import Derived.Test.YtbbilogkblmniaaLyD
namespace Go.Proofs.Ytbbilogkblmniaa

/-- what holds and what doesn't, changed -/
def nt (f : Nat → Bool) (j : Nat) : Bool := !f j
theorem nt_nt (f : Nat → Bool) : nt (nt f) = f := by funext j; simp [nt]
theorem ab_nt (f : Nat → Bool) (w a b : Nat) : ab (nt f) w a b = ab f w b a := by
  unfold ab nt
  by_cases h1 : a < w <;> by_cases h2 : b < w <;> simp [h1, h2]
theorem ov_nt1 {f : Nat → Bool} {w h a b : Nat} (k : ov (nt f) w h a b = true) : ov f w h b a = true :=
  ov_min (f := nt f) (w := w) (h := h) (fun x => ov f w h b x = true) (fun x y hx hy s r => by
    rw [ab_nt] at r
    exact ov_trans hy s (ov_of_ab hy hx r)) k (ov_refl _ _ _ _)
theorem ov_nt (f : Nat → Bool) (w h a b : Nat) : ov (nt f) w h a b = ov f w h b a := by
  rw [Bool.eq_iff_iff]
  refine ⟨ov_nt1, fun k => ?_⟩
  have := ov_nt1 (f := nt f) (w := w) (h := h) (a := b) (b := a) (by rw [nt_nt]; exact k)
  exact this
theorem shL_nt (f : Nat → Bool) (w h s : Nat) : shL (nt f) w h s = shL f w h s := by
  refine order_ext (r := fun x y : Nat => x < y) (fun x y p q => by omega) _ _ (shL_sorted _ w h s) (shL_sorted _ w h s) fun x => ?_
  rw [mem_shL, mem_shL, ov_nt, ov_nt]
  exact ⟨fun ⟨a, b, c⟩ => ⟨a, c, b⟩, fun ⟨a, b, c⟩ => ⟨a, c, b⟩⟩
theorem fsL_nt (f : Nat → Bool) (w h : Nat) : fsL (nt f) w h = fsL f w h := by
  unfold fsL fsB
  simp only [shL_nt]
theorem ly_nt (f : Nat → Bool) (w h : Nat) : (lyL (nt f) w h).length = (lyL f w h).length := by
  unfold lyL
  rw [List.length_map, List.length_map, lyF_len, lyF_len, fsL_nt]
theorem hg_iff (f : Nat → Bool) (w h : Nat) : hgB f w h = true ↔ ∀ s, s < w + h → ∀ a, a < w + h → ov f w h a s = true := by
  unfold hgB
  rw [beq_iff_eq, List.length_eq_zero_iff, lfL_nil, lfO_none]
theorem hg_nt (f : Nat → Bool) (w h : Nat) : hgB (nt f) w h = hgB f w h := by
  rw [Bool.eq_iff_iff, hg_iff, hg_iff]
  constructor
  · intro k s hs a ha; have := k a ha s hs; rw [ov_nt] at this; exact this
  · intro k s hs a ha; rw [ov_nt]; exact k a ha s hs
/-- bits, as a row has them -/
def bitsV (f : Nat → Bool) (m : Nat) : List Value := (List.range m).map fun j => Value.bool (f j)
theorem bitsV_succ (f : Nat → Bool) (m : Nat) : bitsV f (m + 1) = bitsV f m ++ [.bool (f m)] := by simp [bitsV, List.range_succ]
theorem own_bs {W : World} {B m cap : Nat} {q : Option Addr} {f : Nat → Bool} (h : W.ownsRow B 4 1 (.slice q m cap) m (bitsV f m)) : Bs W q m cap f := by
  rcases h.2 with ⟨hv, h0⟩ | ⟨g, c, cur, hv, _, _, hc, _⟩
  · cases hv; exact ⟨by omega, .inl h0⟩
  · cases hv
    refine ⟨hc, .inr ⟨g, 0, rfl, (h.lt g rfl).2, fun k hk => ?_⟩⟩
    rw [Nat.zero_add, h.cellAt k (by omega)]
    simp [bitsV, hk]
end Go.Proofs.Ytbbilogkblmniaa
