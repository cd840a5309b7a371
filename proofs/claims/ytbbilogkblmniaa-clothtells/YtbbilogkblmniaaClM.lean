/-
  The mathematics of cloth: who lies above whom, who is over whom, what can be lifted off, sheets.
-/
import Derived.Test.YtbbilogkblmniaaRows
namespace Go.Proofs.Ytbbilogkblmniaa

/-- a lies above b, where they cross -/
def ab (f : Nat → Bool) (w a b : Nat) : Bool := if a < w then (if b < w then false else f ((b - w) * w + a)) else (if b < w then !f ((a - w) * w + b) else false)
/-- over, by way of strands below k -/
def wt (r : Nat → Nat → Bool) : Nat → Nat → Nat → Bool
  | 0, a, b => a == b || r a b
  | k + 1, a, b => wt r k a b || (wt r k a k && wt r k k b)

theorem wt_up (r : Nat → Nat → Bool) (k : Nat) : ∀ m a b, wt r k a b = true → wt r (k + m) a b = true := by
  intro m
  induction m with
  | zero => intro a b h; exact h
  | succ m ih => intro a b h; show (wt r (k + m) a b || _) = true; rw [ih a b h]; rfl
theorem wt_refl (r : Nat → Nat → Bool) (k a : Nat) : wt r k a a = true := by
  have := wt_up r 0 k a a (by simp [wt])
  rwa [Nat.zero_add] at this
theorem wt_base (r : Nat → Nat → Bool) (k a b : Nat) (h : r a b = true) : wt r k a b = true := by
  have := wt_up r 0 k a b (by simp [wt, h])
  rwa [Nat.zero_add] at this
theorem wt_self1 (r : Nat → Nat → Bool) (k a : Nat) : wt r (k + 1) a k = wt r k a k := by
  show (wt r k a k || (wt r k a k && wt r k k k)) = _
  cases wt r k a k <;> simp
theorem wt_self2 (r : Nat → Nat → Bool) (k b : Nat) : wt r (k + 1) k b = wt r k k b := by
  show (wt r k k b || (wt r k k k && wt r k k b)) = _
  cases wt r k k b <;> simp
theorem wt_trans (r : Nat → Nat → Bool) : ∀ k a b c, c < k → wt r k a c = true → wt r k c b = true → wt r k a b = true := by
  intro k
  induction k with
  | zero => intro a b c h; omega
  | succ k ih =>
    intro a b c hc h1 h2
    have goal : wt r k a b = true ∨ (wt r k a k = true ∧ wt r k k b = true) → wt r (k + 1) a b = true := by
      intro h
      show (wt r k a b || (wt r k a k && wt r k k b)) = true
      rcases h with h | ⟨h, h'⟩
      · simp [h]
      · simp [h, h']
    by_cases e : c = k
    · subst e
      rw [wt_self1] at h1
      rw [wt_self2] at h2
      exact goal (.inr ⟨h1, h2⟩)
    · have hc' : c < k := by omega
      have h1' : wt r k a c = true ∨ (wt r k a k = true ∧ wt r k k c = true) := by
        have : (wt r k a c || (wt r k a k && wt r k k c)) = true := h1
        simpa using this
      have h2' : wt r k c b = true ∨ (wt r k c k = true ∧ wt r k k b = true) := by
        have : (wt r k c b || (wt r k c k && wt r k k b)) = true := h2
        simpa using this
      rcases h1' with h1 | ⟨h1, h1'⟩
      · rcases h2' with h2 | ⟨h2, h2'⟩
        · exact goal (.inl (ih a b c hc' h1 h2))
        · exact goal (.inr ⟨ih a k c hc' h1 h2, h2'⟩)
      · rcases h2' with h2 | ⟨h2, h2'⟩
        · exact goal (.inr ⟨h1, ih k b c hc' h1' h2⟩)
        · exact goal (.inr ⟨h1, h2'⟩)
theorem wt_min (r : Nat → Nat → Bool) (S : Nat → Prop) (hS : ∀ x y, S y → r x y = true → S x) : ∀ k a b, wt r k a b = true → S b → S a := by
  intro k
  induction k with
  | zero =>
    intro a b h hb
    have : a = b ∨ r a b = true := by simpa [wt] using h
    rcases this with rfl | h
    · exact hb
    · exact hS a b hb h
  | succ k ih =>
    intro a b h hb
    have : wt r k a b = true ∨ (wt r k a k = true ∧ wt r k k b = true) := by simpa [wt] using h
    rcases this with h | ⟨h1, h2⟩
    · exact ih a b h hb
    · exact ih a k h1 (ih k b h2 hb)

/-- who lies above whom among n strands -/
def rl (f : Nat → Bool) (w h : Nat) (a b : Nat) : Bool := decide (a < w + h) && (decide (b < w + h) && ab f w a b)
/-- a is over s -/
def ov (f : Nat → Bool) (w h : Nat) (a s : Nat) : Bool := wt (rl f w h) (w + h) a s
theorem ov_refl (f : Nat → Bool) (w h a : Nat) : ov f w h a a = true := wt_refl _ _ _
theorem ov_trans {f : Nat → Bool} {w h a b c : Nat} (hc : c < w + h) (h1 : ov f w h a c = true) (h2 : ov f w h c b = true) : ov f w h a b = true := wt_trans _ _ a b c hc h1 h2
theorem ov_of_ab {f : Nat → Bool} {w h a b : Nat} (ha : a < w + h) (hb : b < w + h) (h1 : ab f w a b = true) : ov f w h a b = true := wt_base _ _ _ _ (by simp [rl, ha, hb, h1])
theorem ov_step {f : Nat → Bool} {w h a b s : Nat} (ha : a < w + h) (hb : b < w + h) (h1 : ab f w a b = true) (h2 : ov f w h b s = true) : ov f w h a s = true := ov_trans hb (ov_of_ab ha hb h1) h2
theorem ov_min {f : Nat → Bool} {w h : Nat} (S : Nat → Prop) (hS : ∀ x y, x < w + h → y < w + h → S y → ab f w x y = true → S x) {a s : Nat} (h1 : ov f w h a s = true) (hs : S s) : S a :=
  wt_min (rl f w h) S (fun x y hy hr => by
    simp [rl] at hr
    exact hS x y hr.1 hr.2.1 hy hr.2.2) _ a s h1 hs

/-- the strands over s, rising -/
def ovL (f : Nat → Bool) (w h s : Nat) : List Nat := (List.range (w + h)).filter fun a => ov f w h a s
theorem mem_ovL {f : Nat → Bool} {w h s a : Nat} : a ∈ ovL f w h s ↔ a < w + h ∧ ov f w h a s = true := by simp [ovL]
theorem ovL_nodup (f : Nat → Bool) (w h s : Nat) : (ovL f w h s).Nodup := List.nodup_range.filter _
theorem ovL_sorted (f : Nat → Bool) (w h s : Nat) : (ovL f w h s).Pairwise (· < ·) := List.Pairwise.filter _ List.pairwise_lt_range
theorem ovL_len (f : Nat → Bool) (w h s : Nat) : (ovL f w h s).length ≤ w + h := by
  have := List.length_filter_le (fun a => ov f w h a s) (List.range (w + h))
  simpa [ovL] using this
theorem ovL_pos {f : Nat → Bool} {w h s : Nat} (hs : s < w + h) : 0 < (ovL f w h s).length := List.length_pos_of_mem (mem_ovL.2 ⟨hs, ov_refl f w h s⟩)
theorem filter_full {n : Nat} {p : Nat → Bool} : ((List.range n).filter p).length = n ↔ ∀ a, a < n → p a = true := by
  constructor
  · intro h a ha
    have := (List.length_filter_eq_length_iff (l := List.range n) (p := p)).1 (by simpa using h)
    exact this a (by simpa using ha)
  · intro h
    have := (List.length_filter_eq_length_iff (l := List.range n) (p := p)).2 (fun a ha => h a (by simpa using ha))
    simpa using this
theorem ovL_full {f : Nat → Bool} {w h s : Nat} : (ovL f w h s).length = w + h ↔ ∀ a, a < w + h → ov f w h a s = true := filter_full

/-- the first strand over which not all are -/
def lfO (f : Nat → Bool) (w h : Nat) : Option Nat := (List.range (w + h)).find? fun s => decide ((ovL f w h s).length < w + h)
/-- what is lifted off -/
def lfL (f : Nat → Bool) (w h : Nat) : List Nat := match lfO f w h with
  | none => []
  | some s => ovL f w h s
theorem lfO_none {f : Nat → Bool} {w h : Nat} : lfO f w h = none ↔ ∀ s, s < w + h → ∀ a, a < w + h → ov f w h a s = true := by
  unfold lfO
  rw [List.find?_eq_none]
  constructor
  · intro k s hs
    have := k s (by simpa using hs)
    have h2 := ovL_len f w h s
    exact ovL_full.1 (by simp at this; omega)
  · intro k s hs
    have := ovL_full.2 (k s (by simpa using hs))
    simp; omega
theorem lfO_some {f : Nat → Bool} {w h s : Nat} (e : lfO f w h = some s) : s < w + h ∧ (ovL f w h s).length < w + h := by
  unfold lfO at e
  have h1 := List.find?_some e
  have h2 := List.mem_of_find?_eq_some e
  exact ⟨by simpa using h2, by simpa using h1⟩
theorem lfL_nil {f : Nat → Bool} {w h : Nat} : lfL f w h = [] ↔ lfO f w h = none := by
  unfold lfL
  cases e : lfO f w h with
  | none => simp
  | some s =>
    have := ovL_pos (f := f) (lfO_some e).1
    constructor
    · intro k; simp only at k; rw [k] at this; simp at this
    · intro k; cases k
/-- find, step by step -/
theorem find_step {n x : Nat} {p : Nat → Bool} (hx : x < n) (h : ∀ j, j < x → p j = false) (hp : p x = true) : (List.range n).find? p = some x := by
  rw [List.find?_eq_some_iff_getElem]
  refine ⟨hp, x, by simpa using hx, by simp, fun j hj => ?_⟩
  simp [h j hj]
theorem find_none {n : Nat} {p : Nat → Bool} (h : ∀ j, j < n → p j = false) : (List.range n).find? p = none := by
  rw [List.find?_eq_none]
  intro x hx
  simp [h x (by simpa using hx)]

/-- strands that can be lifted off: some, not all, none of the others above one of them -/
def frB (f : Nat → Bool) (w h : Nat) (I : Nat → Bool) : Bool :=
  (List.range (w + h)).all (fun a => I a || (List.range (w + h)).all fun b => !(I b && ab f w a b)) && (decide (0 < ((List.range (w + h)).filter I).length) && decide (((List.range (w + h)).filter I).length < w + h))
theorem frB_iff {f : Nat → Bool} {w h : Nat} {I : Nat → Bool} : frB f w h I = true ↔ (∀ a, a < w + h → ∀ b, b < w + h → I a = false → I b = true → ab f w a b = false) ∧ (∃ b, b < w + h ∧ I b = true) ∧ (∃ a, a < w + h ∧ I a = false) := by
  have e1 : (0 < ((List.range (w + h)).filter I).length) ↔ ∃ b, b < w + h ∧ I b = true := by
    rw [List.length_pos_iff_exists_mem]
    simp
  have e2 : (((List.range (w + h)).filter I).length < w + h) ↔ ∃ a, a < w + h ∧ I a = false := by
    have hl := List.length_filter_le I (List.range (w + h))
    rw [List.length_range] at hl
    constructor
    · intro k
      refine Classical.byContradiction fun hc => ?_
      have := filter_full.2 (fun a (ha : a < w + h) => show I a = true from by
        cases e : I a with
        | true => rfl
        | false => exact absurd ⟨a, ha, e⟩ hc)
      omega
    · rintro ⟨a, ha, hf⟩
      refine Nat.lt_of_le_of_ne hl fun hc => ?_
      have := filter_full.1 hc a ha
      rw [hf] at this; cases this
  unfold frB
  rw [Bool.and_eq_true, Bool.and_eq_true, decide_eq_true_eq, decide_eq_true_eq, e1, e2, List.all_eq_true]
  refine and_congr ?_ Iff.rfl
  constructor
  · intro k a ha b hb ia ib
    have := k a (by simpa using ha)
    rw [ia, Bool.false_or, List.all_eq_true] at this
    have := this b (by simpa using hb)
    rw [ib] at this
    simpa using this
  · intro k a ha
    cases e : I a with
    | true => rfl
    | false =>
      rw [Bool.false_or, List.all_eq_true]
      intro b hb
      cases e2 : I b with
      | false => rfl
      | true => rw [k a (by simpa using ha) b (by simpa using hb) e e2]; rfl
/-- what is told to come off does -/
theorem fr_lift {f : Nat → Bool} {w h s : Nat} (hs : s < w + h) (hl : (ovL f w h s).length < w + h) : frB f w h (fun a => ov f w h a s) = true := by
  rw [frB_iff]
  refine ⟨fun a ha b hb ia ib => ?_, ⟨s, hs, ov_refl f w h s⟩, ?_⟩
  · cases e : ab f w a b with
    | false => rfl
    | true =>
      have := ov_step ha hb e ib
      rw [ia] at this; cases this
  · refine Classical.byContradiction fun hc => ?_
    have := ovL_full.2 (fun a (ha : a < w + h) => show ov f w h a s = true from by
      cases e : ov f w h a s with
      | true => rfl
      | false => exact absurd ⟨a, ha, e⟩ hc)
    omega
/-- where all are over all, nothing can be lifted off -/
theorem fr_hangs {f : Nat → Bool} {w h : Nat} (ha : ∀ s, s < w + h → ∀ a, a < w + h → ov f w h a s = true) (I : Nat → Bool) : frB f w h I = false := by
  cases e : frB f w h I with
  | false => rfl
  | true =>
    obtain ⟨k, ⟨b, hb, ib⟩, ⟨a, ha', ia⟩⟩ := frB_iff.1 e
    have := ov_min (f := f) (w := w) (h := h) (fun x => I x = true) (fun x y hx hy iy hr => by
      cases e2 : I x with
      | true => rfl
      | false => rw [k x hx y hy e2 iy] at hr; cases hr) (ha b hb a ha') ib
    rw [ia] at this; cases this
end Go.Proofs.Ytbbilogkblmniaa
