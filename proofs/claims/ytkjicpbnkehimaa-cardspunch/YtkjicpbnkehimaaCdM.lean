/-
  Cards, the mathematics: holes, cards, decks; what is read out of bytes; that both go together.
-/
import Derived.WalkKit
namespace Go.Proofs.Ytkjicpbnkehimaa

/-- two rows are alike -/
def eqN (f g : Nat → Bool) (n : Nat) : Bool := (List.range n).all fun x => f x == g x
theorem eqN_succ (f g : Nat → Bool) (n : Nat) : eqN f g (n + 1) = (eqN f g n && f n == g n) := by simp [eqN, List.range_succ]
theorem eqN_false (f g : Nat → Bool) (n x : Nat) (h : x < n) (e : (f x == g x) = false) : eqN f g n = false := by
  unfold eqN
  rw [List.all_eq_false]
  exact ⟨x, by simpa using h, by simp [e]⟩
theorem eqN_iff (f g : Nat → Bool) (n : Nat) : eqN f g n = true ↔ ∀ x, x < n → f x = g x := by
  unfold eqN
  rw [List.all_eq_true]
  simp
theorem eqN_congr (f g f' g' : Nat → Bool) (n : Nat) (h1 : ∀ x, x < n → f x = f' x) (h2 : ∀ x, x < n → g x = g' x) : eqN f g n = eqN f' g' n := by
  rw [Bool.eq_iff_iff, eqN_iff, eqN_iff]
  constructor
  · intro h x hx; rw [← h1 x hx, ← h2 x hx]; exact h x hx
  · intro h x hx; rw [h1 x hx, h2 x hx]; exact h x hx

/-- what so many bits are worth, the first one the most -/
def hv (p : Nat → Bool) : Nat → Nat
  | 0 => 0
  | k + 1 => 2 * hv p k + (p k).toNat
theorem hv_lt (p : Nat → Bool) (k : Nat) : hv p k < 2 ^ k := by
  induction k with
  | zero => simp [hv]
  | succ k ih =>
    have : (p k).toNat ≤ 1 := Bool.toNat_le _
    rw [hv, Nat.pow_succ]; omega
theorem hv_congr (p q : Nat → Bool) (k : Nat) (h : ∀ j, j < k → p j = q j) : hv p k = hv q k := by
  induction k with
  | zero => rfl
  | succ k ih => rw [hv, hv, ih (fun j hj => h j (by omega)), h k (by omega)]
/-- the place k of the byte i of a row so wide -/
def bt (r : Nat → Bool) (w i k : Nat) : Bool := decide (8 * i + k < w) && r (8 * i + k)
/-- the byte i -/
def hb (r : Nat → Bool) (w i : Nat) : Nat := hv (bt r w i) 8
theorem hb_lt (r : Nat → Bool) (w i : Nat) : hb r w i < 256 := hv_lt _ 8
/-- how many bytes -/
def nb (w : Nat) : Nat := (w + 7) / 8
/-- the holes of a row -/
def holes (r : Nat → Bool) (w : Nat) : List UInt8 := (List.range (nb w)).map fun i => UInt8.ofNat (hb r w i)
theorem holes_len (r : Nat → Bool) (w : Nat) : (holes r w).length = nb w := by simp [holes]
theorem holes_get (r : Nat → Bool) (w i : Nat) (h : i < nb w) : (holes r w).getD i 0 = UInt8.ofNat (hb r w i) := by
  rw [List.getD_eq_getElem?_getD, List.getElem?_eq_getElem (by rw [holes_len]; exact h)]
  simp [holes]
theorem bt_congr (r s : Nat → Bool) (w i k : Nat) (h : ∀ x, x < w → r x = s x) : bt r w i k = bt s w i k := by
  unfold bt
  by_cases c : 8 * i + k < w
  · rw [h _ c]
  · simp [c]
theorem holes_congr (r s : Nat → Bool) (w : Nat) (h : ∀ x, x < w → r x = s x) : holes r w = holes s w := by
  unfold holes
  refine List.map_congr_left fun i _ => ?_
  unfold hb
  rw [hv_congr _ _ 8 (fun j _ => bt_congr r s w i j h)]
/-- the place k of a byte -/
def tb (c k : Nat) : Bool := c / 2 ^ (7 - k) % 2 == 1
theorem tb_all : ∀ b0 b1 b2 b3 b4 b5 b6 b7 : Bool, ∀ k, k < 8 →
    tb (2 * (2 * (2 * (2 * (2 * (2 * (2 * (2 * 0 + b0.toNat) + b1.toNat) + b2.toNat) + b3.toNat) + b4.toNat) + b5.toNat) + b6.toNat) + b7.toNat) k = ([b0, b1, b2, b3, b4, b5, b6, b7] : List Bool).getD k false := by decide +kernel
theorem tb_hv (p : Nat → Bool) (k : Nat) (hk : k < 8) : tb (hv p 8) k = p k := by
  have := tb_all (p 0) (p 1) (p 2) (p 3) (p 4) (p 5) (p 6) (p 7) k hk
  refine Eq.trans this ?_
  match k, hk with
  | 0, _ => rfl
  | 1, _ => rfl
  | 2, _ => rfl
  | 3, _ => rfl
  | 4, _ => rfl
  | 5, _ => rfl
  | 6, _ => rfl
  | 7, _ => rfl
theorem tb_hb (r : Nat → Bool) (w x : Nat) (h : x < w) : tb (hb r w (x / 8)) (x % 8) = r x := by
  unfold hb
  rw [tb_hv _ _ (by omega)]
  unfold bt
  have e : 8 * (x / 8) + x % 8 = x := by omega
  rw [e]; simp [h]

/-- a byte of bytes -/
def bya (l : List UInt8) (k : Nat) : Nat := (l.getD k 0).toNat
theorem bya_lt (l : List UInt8) (k : Nat) : bya l k < 256 := UInt8.toNat_lt _
/-- the row that bytes from a place on are -/
def rr (l : List UInt8) (a : Nat) : Nat → Bool := fun x => tb (bya l (a + x / 8)) (x % 8)

/-- the row y -/
def row (f : Nat → Bool) (w y : Nat) : Nat → Bool := fun x => f (y * w + x)
/-- a row is as the one ahead of it -/
def ah (f : Nat → Bool) (w y : Nat) : Bool := decide (0 < y) && eqN (row f w y) (row f w (y - 1)) w
/-- how often, from z on -/
def rn (a : Nat → Bool) : Nat → Nat → Nat
  | 0, _ => 0
  | k + 1, z => if a z then rn a k (z + 1) + 1 else 0
theorem rn_spec (a : Nat → Bool) (k z : Nat) : rn a k z ≤ k ∧ (∀ i, i < rn a k z → a (z + i) = true) ∧ (rn a k z < k → a (z + rn a k z) = false) := by
  induction k generalizing z with
  | zero => simp [rn]
  | succ k ih =>
    rw [rn]
    by_cases c : a z = true
    · rw [if_pos c]
      obtain ⟨h1, h2, h3⟩ := ih (z + 1)
      refine ⟨by omega, fun i hi => ?_, fun h => ?_⟩
      · rcases i with _ | i
        · exact c
        · have := h2 i (by omega); rw [← this]; congr 1; omega
      · have := h3 (by omega); rw [← this]; congr 1; omega
    · rw [if_neg c]
      exact ⟨by omega, fun i hi => by omega, fun _ => by simpa using c⟩
theorem rn_eq (a : Nat → Bool) (k z m : Nat) (h1 : m ≤ k) (h2 : ∀ i, i < m → a (z + i) = true) (h3 : m < k → a (z + m) = false) : rn a k z = m := by
  obtain ⟨g1, g2, g3⟩ := rn_spec a k z
  rcases Nat.lt_trichotomy (rn a k z) m with h | h | h
  · have e1 := h2 _ h; have e2 := g3 (by omega); rw [e1] at e2; cases e2
  · exact h
  · have e1 := g2 _ h; have e2 := h3 (by omega); rw [e1] at e2; cases e2
/-- how many rows, from y on, are as it -/
def ru (f : Nat → Bool) (w h y : Nat) : Nat := rn (ah f w) (h - y - 1) (y + 1) + 1
/-- the cards of the rows from y on -/
def cf (f : Nat → Bool) (w h : Nat) : Nat → Nat → List UInt8
  | 0, _ => []
  | k + 1, y => (if ah f w y then [] else UInt8.ofNat (ru f w h y) :: holes (row f w y) w) ++ cf f w h k (y + 1)
theorem cf_len (f : Nat → Bool) (w h k y : Nat) : (cf f w h k y).length ≤ k * (1 + nb w) := by
  induction k generalizing y with
  | zero => simp [cf]
  | succ k ih =>
    have := ih (y + 1)
    rw [cf, List.length_append, Nat.add_mul, Nat.one_mul]
    split
    · simp; omega
    · simp [holes_len]; omega
theorem cf_skip (f : Nat → Bool) (w h n k y : Nat) (hn : n ≤ k) (ha : ∀ i, i < n → ah f w (y + i) = true) : cf f w h k y = cf f w h (k - n) (y + n) := by
  induction n generalizing k y with
  | zero => rfl
  | succ n ih =>
    obtain ⟨k, rfl⟩ : ∃ j, k = j + 1 := ⟨k - 1, by omega⟩
    rw [cf, if_pos (by simpa using ha 0 (by omega)), List.nil_append, ih k (y + 1) (by omega) (fun i hi => by have := ha (i + 1) (by omega); rw [← this]; congr 1; omega)]
    congr 1 <;> omega
theorem ru_spec (f : Nat → Bool) (w h y : Nat) (hy : y < h) : 1 ≤ ru f w h y ∧ ru f w h y ≤ h - y ∧ (∀ i, i + 1 < ru f w h y → ah f w (y + 1 + i) = true) ∧ (ru f w h y < h - y → ah f w (y + ru f w h y) = false) := by
  obtain ⟨h1, h2, h3⟩ := rn_spec (ah f w) (h - y - 1) (y + 1)
  unfold ru
  refine ⟨by omega, by omega, fun i hi => h2 i (by omega), fun hl => ?_⟩
  have := h3 (by omega)
  rw [← this]; congr 1; omega
theorem cf_card (f : Nat → Bool) (w h y : Nat) (hy : y < h) (ha : ah f w y = false) : cf f w h (h - y) y = UInt8.ofNat (ru f w h y) :: holes (row f w y) w ++ cf f w h (h - (y + ru f w h y)) (y + ru f w h y) := by
  obtain ⟨h1, h2, h3, -⟩ := ru_spec f w h y hy
  obtain ⟨k, hk⟩ : ∃ k, h - y = k + 1 := ⟨h - y - 1, by omega⟩
  rw [hk, cf, if_neg (by simp [ha])]
  congr 1
  rw [cf_skip f w h (ru f w h y - 1) k (y + 1) (by omega) (fun i hi => h3 i (by omega))]
  congr 1 <;> omega
theorem row_get (f : Nat → Bool) (w y x : Nat) : row f w y x = f (y * w + x) := rfl
theorem ah_row (f : Nat → Bool) (w y : Nat) (h : ah f w (y + 1) = true) : ∀ x, x < w → row f w (y + 1) x = row f w y x := by
  unfold ah at h
  simp at h
  exact (eqN_iff _ _ _).1 h
theorem rows_alike (f : Nat → Bool) (w y m : Nat) (h : ∀ i, i + 1 < m → ah f w (y + 1 + i) = true) : ∀ i, i < m → ∀ x, x < w → row f w (y + i) x = row f w y x := by
  intro i
  induction i with
  | zero => intro _ x _; rfl
  | succ i ih =>
    intro hi x hx
    have := h i (by omega)
    rw [show y + 1 + i = (y + i) + 1 by omega] at this
    rw [← ih (by omega) x hx, ← ah_row f w (y + i) this x hx]; rfl

/-- what all bytes are together -/
def su : List UInt8 → Nat
  | [] => 0
  | c :: l => c.toNat + su l
theorem su_append (a b : List UInt8) : su (a ++ b) = su a + su b := by
  induction a with
  | nil => simp [su]
  | cons c a ih => simp [su, ih]; omega
theorem su_le (l : List UInt8) : su l ≤ 255 * l.length := by
  induction l with
  | nil => simp [su]
  | cons c a ih => have := c.toNat_lt; simp [su]; omega
/-- the byte with which they are a multiple of 256 -/
def bl (l : List UInt8) : Nat := (256 - su l % 256) % 256
theorem bl_lt (l : List UInt8) : bl l < 256 := Nat.mod_lt _ (by omega)
/-- a deck but for its last byte; a deck -/
def body (f : Nat → Bool) (w h : Nat) : List UInt8 := [74, 81, 49, UInt8.ofNat w, UInt8.ofNat h] ++ cf f w h h 0
def pk (f : Nat → Bool) (w h : Nat) : List UInt8 := body f w h ++ [UInt8.ofNat (bl (body f w h))]
theorem body_len (f : Nat → Bool) (w h : Nat) (hw : w ≤ 64) (hh : h ≤ 64) : (body f w h).length ≤ 581 := by
  have h1 := cf_len f w h h 0
  have h2 : nb w ≤ 8 := by unfold nb; omega
  have h3 : h * (1 + nb w) ≤ 64 * 9 := Nat.mul_le_mul hh (by omega)
  simp [body]; omega
theorem toNat_ofNat (n : Nat) (h : n < 256) : (UInt8.ofNat n).toNat = n := by
  rw [UInt8.toNat_ofNat']; omega
theorem ofNat_toNat (c : UInt8) : UInt8.ofNat c.toNat = c := by
  apply UInt8.toNat_inj.1; rw [toNat_ofNat _ c.toNat_lt]
theorem su_pk (f : Nat → Bool) (w h : Nat) : su (pk f w h) % 256 = 0 := by
  unfold pk
  rw [su_append]
  have := toNat_ofNat _ (bl_lt (body f w h))
  simp only [su, this]
  unfold bl; omega

/-- what stands at the head of decks -/
def mk (i : Nat) : Nat := if i = 0 then 74 else if i = 1 then 81 else 49
def okc (l : List UInt8) (i : Nat) : Bool := decide (i < l.length) && (if i < 3 then bya l i == mk i else decide (bya l i ≤ 64))
def hd (l : List UInt8) : Option Nat := (List.range 5).find? fun i => !okc l i
theorem hd_none (l : List UInt8) : hd l = none ↔ ∀ i, i < 5 → okc l i = true := by
  unfold hd; rw [List.find?_eq_none]; simp
theorem hd_some (l : List UInt8) (i : Nat) (h5 : i < 5) (h : okc l i = false) (hj : ∀ j, j < i → okc l j = true) : hd l = some i := by
  unfold hd
  rw [List.find?_range_eq_some]
  exact ⟨by simp [h], by simpa using h5, fun j hjj => by simp [hj j hjj]⟩
/-- the bits with a card's rows behind them -/
def put (g : Nat → Bool) (w y : Nat) (r : Nat → Bool) : Nat → Bool := fun j => if j < y * w then g j else r ((j - y * w) % w)
/-- the row that is read is as the one ahead -/
def asA (l : List UInt8) (w y a : Nat) (g : Nat → Bool) : Bool := decide (0 < y) && eqN (rr l (a + 1)) (row g w (y - 1)) w
/-- what is wrong with the next card -/
def bad (l : List UInt8) (w h y a : Nat) (g : Nat → Bool) : Option Nat :=
  if l.length ≤ a then some a
  else if bya l a < 1 ∨ h - y < bya l a then some a
  else if l.length < a + 1 + nb w then some l.length
  else if holes (rr l (a + 1)) w ≠ (l.drop (a + 1)).take (nb w) then some a
  else if asA l w y a g = true then some a else none
/-- cards are read -/
def rdR (l : List UInt8) (w h : Nat) : Nat → Nat → Nat → (Nat → Bool) → Nat ⊕ (Nat × (Nat → Bool))
  | 0, _, a, g => .inr (a, g)
  | k + 1, y, a, g => if h ≤ y then .inr (a, g) else match bad l w h y a g with
    | some e => .inl e
    | none => rdR l w h k (y + bya l a) (a + 1 + nb w) (put g w y (rr l (a + 1)))
/-- the end is read -/
def fin (l : List UInt8) (a : Nat) (g : Nat → Bool) : Nat ⊕ (Nat × Nat × (Nat → Bool)) :=
  if l.length ≤ a then .inl a
  else if bya l a ≠ bl (l.take a) then .inl a
  else if a + 1 < l.length then .inl (a + 1) else .inr (bya l 3, bya l 4, g)
/-- what is behind the head is read -/
def tl (l : List UInt8) (r : Nat ⊕ (Nat × (Nat → Bool))) : Nat ⊕ (Nat × Nat × (Nat → Bool)) := match r with
  | .inl e => .inl e
  | .inr (a, g) => fin l a g
/-- a deck is read -/
def unp (l : List UInt8) : Nat ⊕ (Nat × Nat × (Nat → Bool)) := match hd l with
  | some e => .inl e
  | none => tl l (rdR l (bya l 3) (bya l 4) 64 0 5 fun _ => false)

theorem drop_get (l : List UInt8) (a : Nat) (h : a < l.length) : l.drop a = UInt8.ofNat (bya l a) :: l.drop (a + 1) := by
  rw [List.drop_eq_getElem_cons h]
  congr 1
  unfold bya
  rw [ofNat_toNat, List.getD_eq_getElem?_getD, List.getElem?_eq_getElem h]; rfl
theorem put_lo (g : Nat → Bool) (w y : Nat) (r : Nat → Bool) (j : Nat) (h : j < y * w) : put g w y r j = g j := by unfold put; rw [if_pos h]
theorem put_hi (g : Nat → Bool) (w y i x : Nat) (r : Nat → Bool) (h : x < w) : put g w y r ((y + i) * w + x) = r x := by
  unfold put
  have e : (y + i) * w = y * w + i * w := Nat.add_mul _ _ _
  rw [if_neg (by omega), show (y + i) * w + x - y * w = x + i * w by omega, Nat.add_mul_mod_self_right, Nat.mod_eq_of_lt h]
theorem bad_none (l : List UInt8) (w h y a : Nat) (g : Nat → Bool) (hb : bad l w h y a g = none) : a < l.length ∧ 1 ≤ bya l a ∧ bya l a ≤ h - y ∧ a + 1 + nb w ≤ l.length ∧ holes (rr l (a + 1)) w = (l.drop (a + 1)).take (nb w) ∧ asA l w y a g = false := by
  unfold bad at hb
  repeat' split at hb
  all_goals first | cases hb | skip
  rename_i h1 h2 h3 h4 h5
  exact ⟨by omega, by omega, by omega, by omega, by simpa using h4, by simpa using h5⟩
theorem rd_cards (l : List UInt8) (w h k : Nat) : ∀ (y a : Nat) (g : Nat → Bool) (a' : Nat) (g' : Nat → Bool), rdR l w h k y a g = .inr (a', g') → y ≤ h → h - y ≤ k → a ≤ l.length →
    a ≤ a' ∧ a' ≤ l.length ∧ (∀ j, j < y * w → g' j = g j) ∧ (y < h → ah g' w y = false) ∧ l.drop a = cf g' w h (h - y) y ++ l.drop a' := by
  induction k with
  | zero =>
    intro y a g a' g' e hy hk ha
    simp [rdR] at e
    obtain ⟨rfl, rfl⟩ := e
    have : h - y = 0 := by omega
    rw [this]
    exact ⟨Nat.le_refl _, ha, fun _ _ => rfl, fun _ => by omega, by simp [cf]⟩
  | succ k ih =>
    intro y a g a' g' e hy hk ha
    rw [rdR] at e
    by_cases c : h ≤ y
    · rw [if_pos c] at e
      simp at e
      obtain ⟨rfl, rfl⟩ := e
      have : h - y = 0 := by omega
      rw [this]
      exact ⟨Nat.le_refl _, ha, fun _ _ => rfl, fun _ => by omega, by simp [cf]⟩
    · rw [if_neg c] at e
      cases hb : bad l w h y a g with
      | some v => rw [hb] at e; cases e
      | none =>
        rw [hb] at e
        obtain ⟨b1, b2, b3, b4, b5, b6⟩ := bad_none l w h y a g hb
        obtain ⟨i0, i1, i2, i3, i4⟩ := ih _ _ _ a' g' e (by omega) (by omega) (by omega)
        generalize hn : bya l a = n at *
        have lo : ∀ j, j < y * w → g' j = g j := fun j hj => by
          rw [i2 j (by rw [Nat.add_mul]; omega), put_lo _ _ _ _ _ hj]
        have hi : ∀ i, i < n → ∀ x, x < w → row g' w (y + i) x = rr l (a + 1) x := fun i hi x hx => by
          rw [row_get, i2 _ (by
            have := Nat.mul_le_mul_right w (show y + i + 1 ≤ y + n by omega)
            rw [Nat.add_mul (y + i)] at this; omega), put_hi _ _ _ _ _ _ hx]
        have r0 : ∀ x, x < w → row g' w y x = rr l (a + 1) x := hi 0 (by omega)
        have a0 : ah g' w y = false := by
          unfold ah
          unfold asA at b6
          rw [← b6]
          by_cases hy0 : 0 < y
          · simp only [hy0, decide_true, Bool.true_and]
            refine eqN_congr _ _ _ _ _ r0 (fun x hx => ?_)
            rw [row_get, row_get, lo]
            have := Nat.mul_le_mul_right w (show y - 1 + 1 ≤ y by omega)
            rw [Nat.add_mul] at this; omega
          · simp [hy0]
        have a1 : ∀ i, i + 1 < n → ah g' w (y + 1 + i) = true := fun i hi' => by
          unfold ah
          simp only [show 0 < y + 1 + i by omega, decide_true, Bool.true_and]
          rw [eqN_iff]
          intro x hx
          rw [show y + 1 + i - 1 = y + i by omega, show y + 1 + i = y + (i + 1) by omega, hi _ (by omega) x hx, hi _ (by omega) x hx]
        have en : ru g' w h y = n := by
          unfold ru
          rw [rn_eq (ah g' w) _ _ (n - 1) (by omega) (fun i hi' => a1 i (by omega)) (fun hl => by have := i3 (by omega); rw [← this]; congr 1; omega)]
          omega
        refine ⟨by omega, i1, lo, fun _ => a0, ?_⟩
        rw [cf_card g' w h y (by omega) a0, en, drop_get l a b1, hn, holes_congr _ _ w r0, b5, List.cons_append, List.cons_append]
        congr 1
        rw [List.append_assoc, ← i4, show l.drop (a + 1 + nb w) = (l.drop (a + 1)).drop (nb w) from (List.drop_drop ..).symm, List.take_append_drop]
theorem rd_pack (f : Nat → Bool) (l t : List UInt8) (w h k : Nat) (hh : h ≤ 64) (ht : t ≠ []) : ∀ (y a : Nat) (g : Nat → Bool), h - y ≤ k → y ≤ h → (y < h → ah f w y = false) → (∀ j, j < y * w → g j = f j) → l.drop a = cf f w h (h - y) y ++ t →
    ∃ g', rdR l w h k y a g = .inr (l.length - t.length, g') ∧ ∀ j, j < h * w → g' j = f j := by
  have ht0 : 0 < t.length := by
    cases t with
    | nil => exact absurd rfl ht
    | cons c t => simp
  have fin0 : ∀ (y a : Nat) (g : Nat → Bool), h ≤ y → y ≤ h → (∀ j, j < y * w → g j = f j) → l.drop a = cf f w h (h - y) y ++ t → a = l.length - t.length ∧ ∀ j, j < h * w → g j = f j := by
    intro y a g hc hy hg hd
    obtain rfl : y = h := by omega
    rw [Nat.sub_self, cf, List.nil_append] at hd
    have := congrArg List.length hd
    simp at this
    exact ⟨by omega, hg⟩
  induction k with
  | zero =>
    intro y a g hk hy _ hg hd
    obtain ⟨e1, e2⟩ := fin0 y a g (by omega) hy hg hd
    exact ⟨g, by rw [rdR, e1], e2⟩
  | succ k ih =>
    intro y a g hk hy ha hg hd
    rw [rdR]
    by_cases c : h ≤ y
    · rw [if_pos c]
      obtain ⟨e1, e2⟩ := fin0 y a g c hy hg hd
      exact ⟨g, by rw [e1], e2⟩
    · rw [if_neg c]
      have a0 := ha (by omega)
      obtain ⟨n1, n2, n3, n4⟩ := ru_spec f w h y (by omega)
      rw [cf_card f w h y (by omega) a0] at hd
      generalize hn : ru f w h y = n at *
      have hlen := congrArg List.length hd
      simp [holes_len] at hlen
      have hal : a < l.length := by omega
      rw [drop_get l a hal, List.cons_append, List.cons_append] at hd
      obtain ⟨d1, d2⟩ := List.cons.inj hd
      have hby : bya l a = n := by
        have := congrArg UInt8.toNat d1
        rw [toNat_ofNat _ (bya_lt _ _), toNat_ofNat _ (by omega)] at this
        exact this
      have dt : (l.drop (a + 1)).take (nb w) = holes (row f w y) w := by
        rw [d2, List.append_assoc, List.take_left' (holes_len _ _)]
      have dd : l.drop (a + 1 + nb w) = cf f w h (h - (y + n)) (y + n) ++ t := by
        rw [← List.drop_drop, d2, List.append_assoc, List.drop_left' (holes_len _ _)]
      have rx : ∀ x, x < w → rr l (a + 1) x = row f w y x := fun x hx => by
        have hx8 : x / 8 < nb w := by unfold nb; omega
        have := congrArg (fun q : List UInt8 => q.getD (x / 8) 0) dt
        simp only [holes_get _ _ _ hx8] at this
        unfold rr bya
        have e : l.getD (a + 1 + x / 8) 0 = ((l.drop (a + 1)).take (nb w)).getD (x / 8) 0 := by
          rw [List.getD_eq_getElem?_getD, List.getD_eq_getElem?_getD, List.getElem?_take_of_lt hx8, List.getElem?_drop]
        rw [e, this, toNat_ofNat _ (hb_lt _ _ _), tb_hb _ _ _ hx]
      have hbad : bad l w h y a g = none := by
        unfold bad
        rw [if_neg (by omega), hby, if_neg (by omega), if_neg (by omega), if_neg (by rw [dt]; simp [holes_congr _ _ w rx]), if_neg]
        have : asA l w y a g = ah f w y := by
          unfold asA ah
          by_cases hy0 : 0 < y
          · simp only [hy0, decide_true, Bool.true_and]
            refine eqN_congr _ _ _ _ _ rx (fun x hx => ?_)
            rw [row_get, row_get, hg]
            have := Nat.mul_le_mul_right w (show y - 1 + 1 ≤ y by omega)
            rw [Nat.add_mul] at this; omega
          · simp [hy0]
        rw [this, a0]; simp
      rw [hbad]
      dsimp only
      rw [hby]
      refine ih (y + n) _ _ (by omega) (by omega) (fun hl => n4 (by omega)) (fun j hj => ?_) dd
      by_cases cj : j < y * w
      · rw [put_lo _ _ _ _ _ cj]; exact hg j cj
      · have hw : 0 < w := by
          rcases Nat.eq_zero_or_pos w with e | e
          · subst e; simp at hj
          · exact e
        obtain ⟨q, x, hx, hq⟩ : ∃ q x, x < w ∧ j = (y + q) * w + x := ⟨(j - y * w) / w, (j - y * w) % w, Nat.mod_lt _ hw, by
          have := Nat.div_add_mod (j - y * w) w
          rw [Nat.add_mul, Nat.mul_comm ((j - y * w) / w) w]; omega⟩
        subst hq
        have hqn : q < n := by
          refine Nat.lt_of_not_le fun hge => ?_
          have := Nat.mul_le_mul_right w (show y + n ≤ y + q by omega)
          omega
        rw [put_hi _ _ _ _ _ _ hx, rx x hx, ← rows_alike f w y n n3 q hqn x hx]; rfl

theorem bya_get (a b : List UInt8) (k : Nat) : bya (a ++ b) (a.length + k) = bya b k := by
  unfold bya
  rw [List.getD_eq_getElem?_getD, List.getD_eq_getElem?_getD, List.getElem?_append_right (by omega)]
  congr 3; omega
theorem take5 (l : List UInt8) (h : ∀ i, i < 5 → okc l i = true) : l.take 5 = [74, 81, 49, UInt8.ofNat (bya l 3), UInt8.ofNat (bya l 4)] ∧ 5 ≤ l.length ∧ bya l 3 ≤ 64 ∧ bya l 4 ≤ 64 := by
  have h0 := h 0 (by omega)
  have h1 := h 1 (by omega)
  have h2 := h 2 (by omega)
  have h3 := h 3 (by omega)
  have h4 := h 4 (by omega)
  simp [okc, mk] at h0 h1 h2 h3 h4
  refine ⟨?_, by omega, h3.2, h4.2⟩
  have e := drop_get l 0 (by omega)
  rw [List.drop_zero, drop_get l 1 (by omega), drop_get l 2 (by omega), drop_get l 3 (by omega), drop_get l 4 (by omega)] at e
  have e' := congrArg (List.take 5) e
  rw [h0.2, h1.2, h2.2] at e'
  exact e'
/-- what is read is punched as just these bytes -/
theorem unp_pk (l : List UInt8) (w h : Nat) (g : Nat → Bool) (e : unp l = .inr (w, h, g)) : w ≤ 64 ∧ h ≤ 64 ∧ pk g w h = l := by
  unfold unp at e
  cases hh : hd l with
  | some v => rw [hh] at e; cases e
  | none =>
    rw [hh] at e
    obtain ⟨t5, l5, b3, b4⟩ := take5 l ((hd_none l).1 hh)
    cases hr : rdR l (bya l 3) (bya l 4) 64 0 5 (fun _ => false) with
    | inl v => rw [hr] at e; cases e
    | inr v =>
      obtain ⟨a, g'⟩ := v
      rw [hr] at e
      simp only [tl, fin] at e
      obtain ⟨c0, c1, -, -, c4⟩ := rd_cards l _ _ 64 0 5 _ a g' hr (by omega) (by omega) l5
      repeat' split at e
      all_goals first | cases e | skip
      rename_i k1 k2 k3
      have k2' : bya l a = bl (l.take a) := by simpa using k2
      refine ⟨b3, b4, ?_⟩
      have ha : a + 1 = l.length := by omega
      have da : l.drop a = [UInt8.ofNat (bl (l.take a))] := by
        rw [drop_get l a (by omega), k2', ha, List.drop_length]
      have ta : l.take a = body g (bya l 3) (bya l 4) := by
        unfold body
        have e1 : l.take a = l.take 5 ++ (l.drop 5).take (a - 5) := by
          rw [show a = 5 + (a - 5) by omega, List.take_add]; simp
        rw [e1, t5, c4, List.take_left']
        · simp
        · have := congrArg List.length c4
          simp at this ⊢; omega
      unfold pk
      rw [← ta, ← da, List.take_append_drop]
/-- what is punched is read as it was -/
theorem pk_unp (f : Nat → Bool) (w h : Nat) (hw : w ≤ 64) (hh : h ≤ 64) : ∃ g, unp (pk f w h) = .inr (w, h, g) ∧ ∀ j, j < h * w → g j = f j := by
  have e5 : pk f w h = [74, 81, 49, UInt8.ofNat w, UInt8.ofNat h] ++ (cf f w h h 0 ++ [UInt8.ofNat (bl (body f w h))]) := by
    unfold pk; rw [body, List.append_assoc]
  have b3 : bya (pk f w h) 3 = w := by rw [e5]; exact toNat_ofNat w (by omega)
  have b4 : bya (pk f w h) 4 = h := by rw [e5]; exact toNat_ofNat h (by omega)
  have hhd : hd (pk f w h) = none := by
    rw [hd_none]
    intro i hi
    have hl : 5 ≤ (pk f w h).length := by rw [e5]; simp
    unfold okc
    rw [decide_eq_true (by omega), Bool.true_and]
    match i, hi with
    | 0, _ => rw [e5]; rfl
    | 1, _ => rw [e5]; rfl
    | 2, _ => rw [e5]; rfl
    | 3, _ => rw [if_neg (by omega), b3]; simpa using hw
    | 4, _ => rw [if_neg (by omega), b4]; simpa using hh
  obtain ⟨g, r1, r2⟩ := rd_pack f (pk f w h) [UInt8.ofNat (bl (body f w h))] w h 64 hh (by simp) 0 5 (fun _ => false) (by omega) (by omega) (fun _ => by simp [ah]) (fun j hj => by simp at hj) (by rw [e5]; rfl)
  refine ⟨g, ?_, r2⟩
  unfold unp
  rw [hhd]
  dsimp only
  rw [b3, b4, r1]
  have hl : (pk f w h).length = (body f w h).length + 1 := by unfold pk; simp
  have ea : (pk f w h).length - [UInt8.ofNat (bl (body f w h))].length = (body f w h).length := by rw [hl]; simp
  simp only [tl, fin]
  rw [ea, if_neg (by omega), if_neg, if_neg (by omega), b3, b4]
  have e1 : (pk f w h).take (body f w h).length = body f w h := by unfold pk; rw [List.take_left' rfl]
  have e2 : bya (pk f w h) (body f w h).length = bl (body f w h) := by
    unfold pk
    have := bya_get (body f w h) [UInt8.ofNat (bl (body f w h))] 0
    rw [Nat.add_zero] at this
    rw [this]; exact toNat_ofNat _ (bl_lt _)
  rw [e1, e2]; simp
theorem su_set (l : List UInt8) (i : Nat) (v : UInt8) (h : i < l.length) : su (l.set i v) + bya l i = su l + v.toNat := by
  induction l generalizing i with
  | nil => simp at h
  | cons c l ih =>
    rcases i with _ | i
    · simp [su, bya]; omega
    · have := ih i (by simpa using h)
      have e : bya (c :: l) (i + 1) = bya l i := rfl
      rw [e, List.set_cons_succ, su, su]; omega
/-- one byte wrong is seen -/
theorem one_wrong (f : Nat → Bool) (w h i by' : Nat) (v : UInt8) (hi : i < (pk f w h).length) (h1 : 1 ≤ by') (h2 : by' ≤ 255) (hv : v.toNat = (bya (pk f w h) i + by') % 256) : ∃ e, unp ((pk f w h).set i v) = .inl e := by
  cases hu : unp ((pk f w h).set i v) with
  | inl e => exact ⟨e, rfl⟩
  | inr q =>
    obtain ⟨w', h', g⟩ := q
    obtain ⟨-, -, e⟩ := unp_pk _ _ _ _ hu
    have s1 := su_pk g w' h'
    rw [e] at s1
    have s2 := su_pk f w h
    have s3 := su_set (pk f w h) i v hi
    omega
end Go.Proofs.Ytkjicpbnkehimaa
