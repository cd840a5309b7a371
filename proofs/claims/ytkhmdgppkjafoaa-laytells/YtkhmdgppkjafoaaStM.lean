/-
  The mathematics of the stable sort: what stands where, rising stretches, insertion, rotation, the symmetric merge, blocks.
-/
import Derived.Test.YtkhmdgppkjafoaaRows
namespace Go.Proofs.Ytkhmdgppkjafoaa

/-- ahead: a lesser key, or the same one and a lesser number -/
def lx (K : Nat → Nat) (x y : Nat) : Prop := K x < K y ∨ (K x = K y ∧ x < y)
theorem lx_trans {K : Nat → Nat} {x y z : Nat} (h1 : lx K x y) (h2 : lx K y z) : lx K x z := by unfold lx at *; omega
theorem lx_asym {K : Nat → Nat} {x y : Nat} (h1 : lx K x y) (h2 : lx K y x) : False := by unfold lx at *; omega
theorem lx_key {K : Nat → Nat} {x y : Nat} (h : K x < K y) : lx K x y := .inl h
theorem lx_not {K : Nat → Nat} {x y : Nat} (h : ¬ K y < K x) (hv : x < y) : lx K x y := by unfold lx; omega

/-- a stretch that rises -/
def Up (K : Nat → Nat) (a b : Nat) (g : Nat → Nat) : Prop := ∀ i j, a ≤ i → i < j → j < b → lx K (g i) (g j)
/-- what stands in a stretch stood in it; all else is as it was -/
def Of (a b : Nat) (g g' : Nat → Nat) : Prop := (∀ i, i < a ∨ b ≤ i → g' i = g i) ∧ ∀ i, a ≤ i → i < b → ∃ j, a ≤ j ∧ j < b ∧ g' i = g j
theorem Of.refl (a b : Nat) (g : Nat → Nat) : Of a b g g := ⟨fun _ _ => rfl, fun i h1 h2 => ⟨i, h1, h2, rfl⟩⟩
theorem Of.trans {a b : Nat} {g g' g'' : Nat → Nat} (h : Of a b g g') (k : Of a b g' g'') : Of a b g g'' :=
  ⟨fun i hi => (k.1 i hi).trans (h.1 i hi), fun i h1 h2 => by
    obtain ⟨j, j1, j2, e⟩ := k.2 i h1 h2
    obtain ⟨l, l1, l2, e2⟩ := h.2 j j1 j2
    exact ⟨l, l1, l2, e.trans e2⟩⟩
theorem Of.mono {a b a' b' : Nat} {g g' : Nat → Nat} (h : Of a' b' g g') (ha : a ≤ a') (hb : b' ≤ b) : Of a b g g' :=
  ⟨fun i hi => h.1 i (by omega), fun i h1 h2 => by
    by_cases e : a' ≤ i ∧ i < b'
    · obtain ⟨j, j1, j2, e2⟩ := h.2 i e.1 e.2
      exact ⟨j, by omega, by omega, e2⟩
    · exact ⟨i, h1, h2, h.1 i (by omega)⟩⟩
theorem Of.same {a b : Nat} {g g' : Nat → Nat} (h : Of a b g g') {i : Nat} (hi : i < a ∨ b ≤ i) : g' i = g i := h.1 i hi
theorem Up.congr {K : Nat → Nat} {a b : Nat} {g g' : Nat → Nat} (h : Up K a b g) (e : ∀ i, a ≤ i → i < b → g' i = g i) : Up K a b g' := fun i j h1 h2 h3 => by
  rw [e i h1 (by omega), e j (by omega) h3]; exact h i j h1 h2 h3
theorem Up.sub {K : Nat → Nat} {a b a' b' : Nat} {g : Nat → Nat} (h : Up K a b g) (ha : a ≤ a') (hb : b' ≤ b) : Up K a' b' g := fun i j h1 h2 h3 => h i j (by omega) h2 (by omega)
theorem Up.nil {K : Nat → Nat} {a b : Nat} {g : Nat → Nat} (h : b ≤ a + 1) : Up K a b g := fun i j h1 h2 h3 => by omega
theorem Up.join {K : Nat → Nat} {a m b : Nat} {g : Nat → Nat} (h1 : Up K a m g) (h2 : Up K m b g) (h3 : ∀ i j, a ≤ i → i < m → m ≤ j → j < b → lx K (g i) (g j)) : Up K a b g := fun i j q1 q2 q3 => by
  by_cases e1 : j < m
  · exact h1 i j q1 q2 e1
  · by_cases e2 : i < m
    · exact h3 i j q1 e2 (by omega) q3
    · exact h2 i j (by omega) q2 q3

/-- two places exchanged -/
def sw (g : Nat → Nat) (i j k : Nat) : Nat := if k = i then g j else if k = j then g i else g k
/-- the number at i, moved down to j -/
def inC (g : Nat → Nat) (i j k : Nat) : Nat := if k = j then g i else if j < k ∧ k ≤ i then g (k - 1) else g k
theorem inC_start (g : Nat → Nat) (i : Nat) : inC g i i = g := by
  funext k; unfold inC
  split
  · rename_i e; rw [e]
  · rw [if_neg (by omega)]
theorem inC_step (g : Nat → Nat) (i j : Nat) (h : 0 < j) (hj : j ≤ i) : sw (inC g i j) j (j - 1) = inC g i (j - 1) := by
  funext k
  unfold sw inC
  by_cases e1 : k = j
  · subst e1
    rw [if_pos rfl, if_neg (by omega), if_neg (by omega), if_neg (by omega), if_pos (by omega)]
  · rw [if_neg e1]
    by_cases e2 : k = j - 1
    · rw [if_pos e2, if_pos rfl, if_pos e2]
    · rw [if_neg e2, if_neg e1, if_neg e2]
      by_cases e3 : j < k ∧ k ≤ i
      · rw [if_pos e3, if_pos (by omega)]
      · rw [if_neg e3, if_neg (by omega)]
theorem inC_at (g : Nat → Nat) (i j : Nat) : inC g i j j = g i := by simp [inC]
theorem inC_lo (g : Nat → Nat) (i j k : Nat) (h : k < j) : inC g i j k = g k := by unfold inC; rw [if_neg (by omega), if_neg (by omega)]
theorem inC_of (g : Nat → Nat) (a i j : Nat) (h1 : a ≤ j) (h2 : j ≤ i) : Of a (i + 1) g (inC g i j) := ⟨fun k hk => by unfold inC; rw [if_neg (by omega), if_neg (by omega)], fun k k1 k2 => by
  unfold inC
  by_cases e : k = j
  · exact ⟨i, by omega, by omega, by rw [if_pos e]⟩
  · rw [if_neg e]
    by_cases e2 : j < k ∧ k ≤ i
    · exact ⟨k - 1, by omega, by omega, by rw [if_pos e2]⟩
    · exact ⟨k, k1, k2, by rw [if_neg e2]⟩⟩
theorem ins_up {K : Nat → Nat} {g : Nat → Nat} {a i j : Nat} (hU : Up K a i g) (ha : a ≤ j) (hj : j ≤ i) (h1 : ∀ k, j ≤ k → k < i → lx K (g i) (g k)) (h2 : j = a ∨ lx K (g (j - 1)) (g i)) : Up K a (i + 1) (inC g i j) := by
  intro p q q1 q2 q3
  by_cases e1 : q < j
  · rw [inC_lo g i j q e1, inC_lo g i j p (by omega)]; exact hU p q q1 q2 (by omega)
  · by_cases e2 : q = j
    · subst e2
      rw [inC_at, inC_lo g i q p q2]
      rcases h2 with h2 | h2
      · omega
      · by_cases e3 : p = q - 1
        · rw [e3]; exact h2
        · exact lx_trans (hU p (q - 1) q1 (by omega) (by omega)) h2
    · have eq : inC g i j q = g (q - 1) := by unfold inC; rw [if_neg e2, if_pos (by omega)]
      rw [eq]
      by_cases e3 : p < j
      · rw [inC_lo g i j p e3]; exact hU p (q - 1) q1 (by omega) (by omega)
      · by_cases e4 : p = j
        · subst e4; rw [inC_at]; exact h1 (q - 1) (by omega) (by omega)
        · have ep : inC g i j p = g (p - 1) := by unfold inC; rw [if_neg e4, if_pos (by omega)]
          rw [ep]; exact hU (p - 1) (q - 1) (by omega) (by omega) (by omega)

/-- the number at a, moved up to e -/
def upC (g : Nat → Nat) (a e t : Nat) : Nat := if t = e then g a else if a ≤ t ∧ t < e then g (t + 1) else g t
theorem upC_start (g : Nat → Nat) (a : Nat) : upC g a a = g := by
  funext k; unfold upC
  split
  · rename_i e; rw [e]
  · rw [if_neg (by omega)]
theorem upC_step (g : Nat → Nat) (a e : Nat) (h : a ≤ e) : sw (upC g a e) e (e + 1) = upC g a (e + 1) := by
  funext k
  unfold sw upC
  by_cases e1 : k = e
  · subst e1
    rw [if_pos rfl, if_neg (by omega), if_neg (by omega), if_neg (by omega), if_pos (by omega)]
  · rw [if_neg e1]
    by_cases e2 : k = e + 1
    · rw [if_pos e2, if_pos rfl, if_pos e2]
    · rw [if_neg e2, if_neg e1, if_neg e2]
      by_cases e3 : a ≤ k ∧ k < e
      · rw [if_pos e3, if_pos (by omega)]
      · rw [if_neg e3, if_neg (by omega)]
theorem upC_of (g : Nat → Nat) (a e b : Nat) (h1 : a ≤ e) (h2 : e < b) : Of a b g (upC g a e) := ⟨fun k hk => by unfold upC; rw [if_neg (by omega), if_neg (by omega)], fun k k1 k2 => by
  unfold upC
  by_cases e1 : k = e
  · exact ⟨a, by omega, by omega, by rw [if_pos e1]⟩
  · rw [if_neg e1]
    by_cases e2 : a ≤ k ∧ k < e
    · exact ⟨k + 1, by omega, by omega, by rw [if_pos e2]⟩
    · exact ⟨k, k1, k2, by rw [if_neg e2]⟩⟩
theorem up1 {K : Nat → Nat} {g : Nat → Nat} {a e b : Nat} (hU : Up K (a + 1) b g) (ha : a ≤ e) (he : e < b) (h1 : ∀ k, a < k → k ≤ e → lx K (g k) (g a)) (h2 : ∀ k, e < k → k < b → lx K (g a) (g k)) : Up K a b (upC g a e) := by
  intro p q q1 q2 q3
  have hi : ∀ t, e < t → upC g a e t = g t := fun t ht => by unfold upC; rw [if_neg (by omega), if_neg (by omega)]
  have lo : ∀ t, a ≤ t → t < e → upC g a e t = g (t + 1) := fun t t1 t2 => by unfold upC; rw [if_neg (by omega), if_pos ⟨t1, t2⟩]
  have at_ : upC g a e e = g a := by simp [upC]
  by_cases e1 : q < e
  · rw [lo p q1 (by omega), lo q (by omega) e1]; exact hU (p + 1) (q + 1) (by omega) (by omega) (by omega)
  · by_cases e2 : q = e
    · subst e2; rw [lo p q1 q2, at_]; exact h1 (p + 1) (by omega) (by omega)
    · rw [hi q (by omega)]
      by_cases e3 : p < e
      · rw [lo p q1 e3]; exact hU (p + 1) q (by omega) (by omega) q3
      · by_cases e4 : p = e
        · subst e4; rw [at_]; exact h2 q q2 q3
        · rw [hi p (by omega)]; exact hU p q (by omega) q2 q3

/-- two stretches of m places exchanged -/
def swR (g : Nat → Nat) (a c m k : Nat) : Nat := if a ≤ k ∧ k < a + m then g (k - a + c) else if c ≤ k ∧ k < c + m then g (k - c + a) else g k
theorem swR_zero (g : Nat → Nat) (a c : Nat) : swR g a c 0 = g := by
  funext k; unfold swR; rw [if_neg (by omega), if_neg (by omega)]
theorem swR_step (g : Nat → Nat) (a c i m : Nat) (h : a + m ≤ c) (hi : i < m) : sw (swR g a c i) (a + i) (c + i) = swR g a c (i + 1) := by
  funext k
  unfold sw swR
  by_cases e1 : k = a + i
  · subst e1
    rw [if_pos rfl, if_neg (by omega), if_neg (by omega), if_pos (by omega)]
    congr 1; omega
  · rw [if_neg e1]
    by_cases e2 : k = c + i
    · subst e2
      rw [if_pos rfl, if_neg (by omega), if_neg (by omega), if_neg (by omega), if_pos (by omega)]
      congr 1; omega
    · rw [if_neg e2]
      by_cases e3 : a ≤ k ∧ k < a + i
      · rw [if_pos e3, if_pos (by omega)]
      · rw [if_neg e3, if_neg (show ¬ (a ≤ k ∧ k < a + (i + 1)) by omega)]
        by_cases e4 : c ≤ k ∧ k < c + i
        · rw [if_pos e4, if_pos (by omega)]
        · rw [if_neg e4, if_neg (by omega)]
/-- a stretch turned so that what stood from m on stands first -/
def roR (g : Nat → Nat) (a m b k : Nat) : Nat := if a ≤ k ∧ k < a + (b - m) then g (k + (m - a)) else if a + (b - m) ≤ k ∧ k < b then g (k - (b - m)) else g k
theorem roR_more (g : Nat → Nat) (m i j : Nat) (h : j < i) (hi : i ≤ m) : roR (swR g (m - i) m j) (m - (i - j)) m (m + j) = roR g (m - i) m (m + j) := by
  funext k
  unfold roR
  by_cases e1 : m - i ≤ k ∧ k < m - i + (m + j - m)
  · rw [if_pos e1, if_neg (by omega), if_neg (by omega)]
    unfold swR
    rw [if_pos (by omega)]
    congr 1; omega
  · rw [if_neg e1]
    by_cases e2 : m - i + (m + j - m) ≤ k ∧ k < m + j
    · rw [if_pos e2]
      by_cases e3 : m - (i - j) ≤ k ∧ k < m - (i - j) + (m + j - m)
      · rw [if_pos e3]
        unfold swR
        rw [if_neg (by omega)]
        by_cases e4 : m ≤ k + (m - (m - (i - j)))
        · rw [if_pos (by omega)]; congr 1; omega
        · rw [if_neg (by omega)]; omega
      · rw [if_neg e3, if_pos (by omega)]
        unfold swR
        rw [if_neg (by omega), if_neg (by omega)]
    · rw [if_neg e2, if_neg (by omega), if_neg (by omega)]
      unfold swR
      rw [if_neg (by omega), if_neg (by omega)]
theorem roR_less (g : Nat → Nat) (m i j : Nat) (h : i < j) (hi : i ≤ m) : roR (swR g (m - i) (m + j - i) i) (m - i) m (m + (j - i)) = roR g (m - i) m (m + j) := by
  funext k
  unfold roR
  by_cases e1 : m - i ≤ k ∧ k < m - i + (m + j - m)
  · rw [if_pos e1]
    by_cases e3 : m - i ≤ k ∧ k < m - i + (m + (j - i) - m)
    · rw [if_pos e3]
      unfold swR
      rw [if_neg (by omega), if_neg (by omega)]
    · rw [if_neg e3, if_pos (by omega)]
      unfold swR
      rw [if_pos (by omega)]
      congr 1; omega
  · rw [if_neg e1]
    by_cases e2 : m - i + (m + j - m) ≤ k ∧ k < m + j
    · rw [if_pos e2, if_neg (by omega), if_neg (by omega)]
      unfold swR
      rw [if_neg (by omega), if_pos (by omega)]
      congr 1; omega
    · rw [if_neg e2, if_neg (by omega), if_neg (by omega)]
      unfold swR
      rw [if_neg (by omega), if_neg (by omega)]
theorem roR_end (g : Nat → Nat) (m i : Nat) (hi : i ≤ m) : swR g (m - i) m i = roR g (m - i) m (m + i) := by
  funext k
  by_cases e1 : m - i ≤ k ∧ k < m - i + i
  · rw [show swR g (m - i) m i k = g (k - (m - i) + m) by unfold swR; rw [if_pos e1], show roR g (m - i) m (m + i) k = g (k + (m - (m - i))) by unfold roR; rw [if_pos (by omega)]]
    congr 1; omega
  · by_cases e2 : m ≤ k ∧ k < m + i
    · rw [show swR g (m - i) m i k = g (k - m + (m - i)) by unfold swR; rw [if_neg e1, if_pos e2], show roR g (m - i) m (m + i) k = g (k - (m + i - m)) by unfold roR; rw [if_neg (by omega), if_pos (by omega)]]
      congr 1; omega
    · rw [show swR g (m - i) m i k = g k by unfold swR; rw [if_neg e1, if_neg e2], show roR g (m - i) m (m + i) k = g k by unfold roR; rw [if_neg (by omega), if_neg (by omega)]]
theorem roR_idle (g : Nat → Nat) (a m b : Nat) (h1 : a ≤ m) (h2 : m ≤ b) (h : a = m ∨ m = b) : roR g a m b = g := by
  funext k
  unfold roR
  rcases h with h | h
  · subst h
    by_cases e : a ≤ k ∧ k < a + (b - a)
    · rw [if_pos e]; congr 1; omega
    · rw [if_neg e, if_neg (by omega)]
  · subst h
    rw [if_neg (by omega)]
    by_cases e : a + (m - m) ≤ k ∧ k < m
    · rw [if_pos e]; congr 1; omega
    · rw [if_neg e]
theorem roR_of (g : Nat → Nat) (a m b : Nat) (h1 : a ≤ m) (h2 : m ≤ b) : Of a b g (roR g a m b) := ⟨fun k hk => by unfold roR; rw [if_neg (by omega), if_neg (by omega)], fun k k1 k2 => by
  unfold roR
  by_cases e : a ≤ k ∧ k < a + (b - m)
  · exact ⟨k + (m - a), by omega, by omega, by rw [if_pos e]⟩
  · exact ⟨k - (b - m), by omega, by omega, by rw [if_neg e, if_pos (by omega)]⟩⟩

/-- what the merge has ahead of its two halves -/
structure Half (K : Nat → Nat) (g g1 : Nat → Nat) (a st mid en b : Nat) : Prop where
  of : Of a b g g1
  u1 : Up K a st g1
  u2 : Up K st mid g1
  u3 : Up K mid en g1
  u4 : Up K en b g1
  v1 : ∀ i j, a ≤ i → i < st → st ≤ j → j < mid → g1 i < g1 j
  v2 : ∀ i j, mid ≤ i → i < en → en ≤ j → j < b → g1 i < g1 j
  cr : ∀ i j, a ≤ i → i < mid → mid ≤ j → j < b → lx K (g1 i) (g1 j)
theorem half_of {K : Nat → Nat} {g : Nat → Nat} {a m b st mid en : Nat} (hl : Up K a m g) (hr : Up K m b g) (hv : ∀ i j, a ≤ i → i < m → m ≤ j → j < b → g i < g j)
    (h1 : a ≤ st) (h2 : st ≤ m) (h3 : m ≤ en) (h4 : en ≤ b) (h5 : st + en = mid + m)
    (hL : ∀ i j, a ≤ i → i < st → en ≤ j → j < b → lx K (g i) (g j)) (hR : ∀ i j, st ≤ i → i < m → m ≤ j → j < en → lx K (g j) (g i)) : Half K g (roR g st m en) a st mid en b := by
  have f1 : ∀ k, k < st → roR g st m en k = g k := fun k hk => by unfold roR; rw [if_neg (by omega), if_neg (by omega)]
  have f2 : ∀ k, st ≤ k → k < mid → roR g st m en k = g (k + (m - st)) := fun k k1 k2 => by unfold roR; rw [if_pos (by omega)]
  have f3 : ∀ k, mid ≤ k → k < en → roR g st m en k = g (k - (en - m)) := fun k k1 k2 => by unfold roR; rw [if_neg (by omega), if_pos (by omega)]
  have f4 : ∀ k, en ≤ k → roR g st m en k = g k := fun k k1 => by unfold roR; rw [if_neg (by omega), if_neg (by omega)]
  refine ⟨(roR_of g st m en h2 h3).mono h1 h4, ?_, ?_, ?_, ?_, ?_, ?_, ?_⟩
  · intro i j q1 q2 q3; rw [f1 i (by omega), f1 j q3]; exact hl i j q1 q2 (by omega)
  · intro i j q1 q2 q3; rw [f2 i q1 (by omega), f2 j (by omega) q3]; exact hr _ _ (by omega) (by omega) (by omega)
  · intro i j q1 q2 q3; rw [f3 i q1 (by omega), f3 j (by omega) q3]; exact hl _ _ (by omega) (by omega) (by omega)
  · intro i j q1 q2 q3; rw [f4 i q1, f4 j (by omega)]; exact hr i j (by omega) q2 q3
  · intro i j q1 q2 q3 q4; rw [f1 i q2, f2 j q3 q4]; exact hv _ _ q1 (by omega) (by omega) (by omega)
  · intro i j q1 q2 q3 q4; rw [f3 i q1 q2, f4 j q3]; exact hv _ _ (by omega) (by omega) (by omega) q4
  · intro i j q1 q2 q3 q4
    by_cases e1 : i < st
    · rw [f1 i e1]
      by_cases e2 : j < en
      · rw [f3 j q3 e2]; exact hl _ _ q1 (by omega) (by omega)
      · rw [f4 j (by omega)]; exact hL i j q1 e1 (by omega) q4
    · rw [f2 i (by omega) q2]
      by_cases e2 : j < en
      · rw [f3 j q3 e2]; exact hR _ _ (by omega) (by omega) (by omega) (by omega)
      · rw [f4 j (by omega)]; exact hr _ _ (by omega) (by omega) q4
theorem half_join {K : Nat → Nat} {g g1 g2 g3 : Nat → Nat} {a st mid en b : Nat} (H : Half K g g1 a st mid en b) (h1 : a ≤ mid) (h2 : mid ≤ b) (o1 : Of a mid g1 g2) (p1 : Up K a mid g2) (o2 : Of mid b g2 g3) (p2 : Up K mid b g3) : Of a b g g3 ∧ Up K a b g3 := by
  refine ⟨(H.of.trans (o1.mono (Nat.le_refl _) h2)).trans (o2.mono h1 (Nat.le_refl _)), Up.join (p1.congr fun i _ hi => o2.1 i (.inl hi)) p2 ?_⟩
  intro i j q1 q2 q3 q4
  obtain ⟨i', i1, i2, ei⟩ := o1.2 i q1 q2
  obtain ⟨j', j1, j2, ej⟩ := o2.2 j q3 q4
  rw [o2.1 i (.inl q2), ei, ej, o1.1 j' (.inr j1)]
  exact H.cr i' j' i1 i2 j1 j2
/-- what the search tells -/
theorem search_end {K : Nat → Nat} {g : Nat → Nat} {a m b mid st lo hi : Nat} (hl : Up K a m g) (hr : Up K m b g) (hv : ∀ i j, a ≤ i → i < m → m ≤ j → j < b → g i < g j)
    (hlo : (lo = a ∧ hi = m ∧ m ≤ mid) ∨ (lo + b = mid + m ∧ hi = mid ∧ mid < m)) (hab : a ≤ lo) (hlb : lo ≤ st) (hst : st ≤ hi) (hmb : mid ≤ b) (ha : a < m) (hb : m < b) (h2m : 2 * mid ≤ a + b)
    (h1 : st = lo ∨ ¬ K (g (mid + m - st)) < K (g (st - 1))) (h2 : st = hi ∨ K (g (mid + m - 1 - st)) < K (g st)) :
    a ≤ st ∧ st ≤ m ∧ m ≤ mid + m - st ∧ mid + m - st ≤ b ∧ st + (mid + m - st) = mid + m ∧ (∀ i j, a ≤ i → i < st → mid + m - st ≤ j → j < b → lx K (g i) (g j)) ∧ (∀ i j, st ≤ i → i < m → m ≤ j → j < mid + m - st → lx K (g j) (g i)) := by
  refine ⟨by omega, by omega, by omega, by omega, by omega, ?_, ?_⟩
  · intro i j q1 q2 q3 q4
    rcases h1 with h1 | h1
    · omega
    · have e := lx_not h1 (hv (st - 1) (mid + m - st) (by omega) (by omega) (by omega) (by omega))
      have e1 : lx K (g i) (g (mid + m - st)) := by
        by_cases c : i = st - 1
        · rw [c]; exact e
        · exact lx_trans (hl i (st - 1) q1 (by omega) (by omega)) e
      by_cases c : j = mid + m - st
      · rw [c]; exact e1
      · exact lx_trans e1 (hr (mid + m - st) j (by omega) (by omega) q4)
  · intro i j q1 q2 q3 q4
    rcases h2 with h2 | h2
    · omega
    · have e := lx_key (K := K) h2
      have e1 : lx K (g j) (g st) := by
        by_cases c : j = mid + m - 1 - st
        · rw [c]; exact e
        · exact lx_trans (hr j (mid + m - 1 - st) q3 (by omega) (by omega)) e
      by_cases c : i = st
      · rw [c]; exact e1
      · exact lx_trans e1 (hl st i (by omega) (by omega) q2)

/-- a block that is done -/
def Bk (K g0 : Nat → Nat) (lo hi : Nat) (g : Nat → Nat) : Prop := Up K lo hi g ∧ ∀ i, lo ≤ i → i < hi → ∃ j, lo ≤ j ∧ j < hi ∧ g i = g0 j
theorem Bk.congr {K g0 : Nat → Nat} {lo hi : Nat} {g g' : Nat → Nat} (h : Bk K g0 lo hi g) (e : ∀ i, lo ≤ i → i < hi → g' i = g i) : Bk K g0 lo hi g' :=
  ⟨h.1.congr e, fun i h1 h2 => by rw [e i h1 h2]; exact h.2 i h1 h2⟩
theorem Bk.merge {K g0 : Nat → Nat} {lo m hi : Nat} {g g' : Nat → Nat} (h1 : Bk K g0 lo m g) (h2 : Bk K g0 m hi g) (hm : lo ≤ m) (hh : m ≤ hi) (o : Of lo hi g g') (u : Up K lo hi g') : Bk K g0 lo hi g' :=
  ⟨u, fun i q1 q2 => by
    obtain ⟨j, j1, j2, e⟩ := o.2 i q1 q2
    by_cases c : j < m
    · obtain ⟨l, l1, l2, e2⟩ := h1.2 j j1 c
      exact ⟨l, l1, by omega, e.trans e2⟩
    · obtain ⟨l, l1, l2, e2⟩ := h2.2 j (by omega) j2
      exact ⟨l, by omega, l2, e.trans e2⟩⟩
theorem Bk.cross {K g0 : Nat → Nat} {lo m hi n : Nat} {g : Nat → Nat} (hn : hi ≤ n) (h0 : ∀ i j, i < j → j < n → g0 i < g0 j) (h1 : Bk K g0 lo m g) (h2 : Bk K g0 m hi g) : ∀ i j, lo ≤ i → i < m → m ≤ j → j < hi → g i < g j := fun i j q1 q2 q3 q4 => by
  obtain ⟨i', i1, i2, ei⟩ := h1.2 i q1 q2
  obtain ⟨j', j1, j2, ej⟩ := h2.2 j q3 q4
  rw [ei, ej]; exact h0 i' j' (by omega) (by omega)
theorem Bk.ins {K g0 : Nat → Nat} {lo hi : Nat} {g g' : Nat → Nat} (e : ∀ i, lo ≤ i → i < hi → g i = g0 i) (o : Of lo hi g g') (u : Up K lo hi g') : Bk K g0 lo hi g' :=
  ⟨u, fun i q1 q2 => by
    obtain ⟨j, j1, j2, e2⟩ := o.2 i q1 q2
    exact ⟨j, j1, j2, e2.trans (e j j1 j2)⟩⟩

/-- the first t blocks are done, the rest is as it was -/
def Fi (K g0 : Nat → Nat) (n bs t : Nat) (g : Nat → Nat) : Prop := (∀ s, s < t → Bk K g0 (s * bs) (s * bs + bs) g) ∧ (∀ i, t * bs ≤ i → g i = g0 i) ∧ t * bs ≤ n
/-- all blocks are done -/
def Lv (K g0 : Nat → Nat) (n bs : Nat) (g : Nat → Nat) : Prop := ∃ T, T * bs ≤ n ∧ n < T * bs + bs ∧ (∀ s, s < T → Bk K g0 (s * bs) (s * bs + bs) g) ∧ Bk K g0 (T * bs) n g
/-- the first u pairs of blocks are merged -/
def Md (K g0 : Nat → Nat) (n bs u : Nat) (g : Nat → Nat) : Prop := u * (2 * bs) ≤ n ∧ (∀ s, s < u → Bk K g0 (s * (2 * bs)) (s * (2 * bs) + 2 * bs) g) ∧ ∃ T, 2 * u ≤ T ∧ T * bs ≤ n ∧ n < T * bs + bs ∧ (∀ s, 2 * u ≤ s → s < T → Bk K g0 (s * bs) (s * bs + bs) g) ∧ Bk K g0 (T * bs) n g
theorem mstep (t c : Nat) : (t + 1) * c = t * c + c := by rw [Nat.add_mul, Nat.one_mul]
theorem mle {s t c : Nat} (h : s < t) : s * c + c ≤ t * c := by rw [← mstep]; exact Nat.mul_le_mul_right c h
theorem mtwo (u c : Nat) : 2 * u * c = u * (2 * c) := by rw [Nat.mul_comm 2 u, Nat.mul_assoc]
theorem Fi.start (K g0 : Nat → Nat) (n bs : Nat) : Fi K g0 n bs 0 g0 := ⟨fun s hs => by omega, fun _ _ => rfl, by simp⟩
theorem Fi.next {K g0 : Nat → Nat} {n bs t : Nat} {g g' : Nat → Nat} (h : Fi K g0 n bs t g) (hn : t * bs + bs ≤ n) (o : Of (t * bs) (t * bs + bs) g g') (u : Up K (t * bs) (t * bs + bs) g') : Fi K g0 n bs (t + 1) g' := by
  refine ⟨fun s hs => ?_, fun i hi => ?_, by rw [mstep]; exact hn⟩
  · by_cases e : s = t
    · subst e; exact Bk.ins (fun i q1 _ => h.2.1 i q1) o u
    · have := mle (c := bs) (show s < t by omega)
      exact (h.1 s (by omega)).congr fun i _ q2 => o.1 i (.inl (by omega))
  · rw [mstep] at hi
    rw [o.1 i (.inr hi)]; exact h.2.1 i (by omega)
theorem Fi.last {K g0 : Nat → Nat} {n bs t : Nat} {g g' : Nat → Nat} (h : Fi K g0 n bs t g) (hn : n < t * bs + bs) (o : Of (t * bs) n g g') (u : Up K (t * bs) n g') : Lv K g0 n bs g' := by
  refine ⟨t, h.2.2, hn, fun s hs => ?_, Bk.ins (fun i q1 _ => h.2.1 i q1) o u⟩
  have := mle (c := bs) hs
  exact (h.1 s hs).congr fun i _ q2 => o.1 i (.inl (by omega))
theorem Md.start {K g0 : Nat → Nat} {n bs : Nat} {g : Nat → Nat} (h : Lv K g0 n bs g) : Md K g0 n bs 0 g := by
  obtain ⟨T, h1, h2, h3, h4⟩ := h
  exact ⟨by simp, fun s hs => by omega, T, by omega, h1, h2, fun s _ hs => h3 s hs, h4⟩
theorem Md.pre {K g0 : Nat → Nat} {n bs u : Nat} {g : Nat → Nat} (h : Md K g0 n bs u g) (hn : u * (2 * bs) + 2 * bs ≤ n) : Bk K g0 (u * (2 * bs)) (u * (2 * bs) + bs) g ∧ Bk K g0 (u * (2 * bs) + bs) (u * (2 * bs) + 2 * bs) g := by
  obtain ⟨_, _, T, t1, t2, t3, t4, t5⟩ := h
  have e := mtwo u bs
  have e2 := mstep (2 * u) bs
  have hT : 2 * u + 1 < T := by
    refine Classical.byContradiction fun c => ?_
    have := Nat.mul_le_mul_right bs (show T ≤ 2 * u + 1 by omega)
    omega
  have b1 := t4 (2 * u) (Nat.le_refl _) (by omega)
  have b2 := t4 (2 * u + 1) (by omega) hT
  rw [e] at b1
  rw [e2, e] at b2
  rw [show u * (2 * bs) + 2 * bs = u * (2 * bs) + bs + bs by omega]
  exact ⟨b1, b2⟩
theorem Md.next {K g0 : Nat → Nat} {n bs u : Nat} {g g' : Nat → Nat} (h : Md K g0 n bs u g) (hn : u * (2 * bs) + 2 * bs ≤ n) (o : Of (u * (2 * bs)) (u * (2 * bs) + 2 * bs) g g') (up : Up K (u * (2 * bs)) (u * (2 * bs) + 2 * bs) g') : Md K g0 n bs (u + 1) g' := by
  have pre := h.pre hn
  obtain ⟨h1, h2, T, t1, t2, t3, t4, t5⟩ := h
  have e := mtwo u bs
  have e2 := mstep (2 * u) bs
  have e3 := mstep (2 * u + 1) bs
  have hT : 2 * u + 2 ≤ T := by
    refine Classical.byContradiction fun c => ?_
    have := Nat.mul_le_mul_right bs (show T ≤ 2 * u + 1 by omega)
    omega
  refine ⟨by rw [mstep]; exact hn, fun s hs => ?_, T, by omega, t2, t3, fun s s1 s2 => ?_, ?_⟩
  · by_cases c : s = u
    · subst c; exact Bk.merge pre.1 pre.2 (by omega) (by omega) o up
    · have := mle (c := 2 * bs) (show s < u by omega)
      exact (h2 s (by omega)).congr fun i _ q2 => o.1 i (.inl (by omega))
  · have := Nat.mul_le_mul_right bs (show 2 * u + 1 + 1 ≤ s by omega)
    exact (t4 s (by omega) s2).congr fun i q1 _ => o.1 i (.inr (by omega))
  · have := Nat.mul_le_mul_right bs (show 2 * u + 1 + 1 ≤ T by omega)
    exact t5.congr fun i q1 _ => o.1 i (.inr (by omega))
theorem Md.tail {K g0 : Nat → Nat} {n bs u : Nat} {g : Nat → Nat} (h : Md K g0 n bs u g) (hn : n < u * (2 * bs) + 2 * bs) (hm : u * (2 * bs) + bs < n) : Bk K g0 (u * (2 * bs)) (u * (2 * bs) + bs) g ∧ Bk K g0 (u * (2 * bs) + bs) n g := by
  obtain ⟨_, _, T, t1, t2, t3, t4, t5⟩ := h
  have e := mtwo u bs
  have e2 := mstep (2 * u) bs
  have e3 := mstep (2 * u + 1) bs
  have hT : T = 2 * u + 1 := by
    have c1 : 2 * u < T := by
      refine Classical.byContradiction fun c => ?_
      have := Nat.mul_le_mul_right bs (show T ≤ 2 * u by omega)
      omega
    have c2 : T < 2 * u + 2 := by
      refine Classical.byContradiction fun c => ?_
      have := Nat.mul_le_mul_right bs (show 2 * u + 1 + 1 ≤ T by omega)
      omega
    omega
  subst hT
  have b1 := t4 (2 * u) (Nat.le_refl _) (by omega)
  rw [e] at b1
  rw [e2, e] at t5
  exact ⟨b1, t5⟩
theorem Md.done {K g0 : Nat → Nat} {n bs u : Nat} {g g' : Nat → Nat} (h : Md K g0 n bs u g) (hn : n < u * (2 * bs) + 2 * bs) (o : Of (u * (2 * bs)) n g g') (b : Bk K g0 (u * (2 * bs)) n g') : Lv K g0 n (2 * bs) g' := by
  obtain ⟨h1, h2, _⟩ := h
  refine ⟨u, h1, hn, fun s hs => ?_, b⟩
  have := mle (c := 2 * bs) hs
  exact (h2 s hs).congr fun i _ q2 => o.1 i (.inl (by omega))
theorem Md.idle {K g0 : Nat → Nat} {n bs u : Nat} {g : Nat → Nat} (h : Md K g0 n bs u g) (hn : n < u * (2 * bs) + 2 * bs) (hm : n ≤ u * (2 * bs) + bs) : Lv K g0 n (2 * bs) g := by
  have h' := h
  obtain ⟨h1, _, T, t1, t2, t3, t4, t5⟩ := h
  refine h'.done hn (Of.refl _ _ _) ?_
  have e := mtwo u bs
  have e2 := mstep (2 * u) bs
  by_cases c : T = 2 * u
  · subst c; rw [e] at t5; exact t5
  · have := Nat.mul_le_mul_right bs (show 2 * u + 1 ≤ T by omega)
    have b1 := t4 (2 * u) (Nat.le_refl _) (by omega)
    rw [e] at b1
    have : n = u * (2 * bs) + bs := by omega
    rw [this]; exact b1
theorem Lv.all {K g0 : Nat → Nat} {n bs : Nat} {g : Nat → Nat} (h : Lv K g0 n bs g) (hn : n ≤ bs) : Bk K g0 0 n g := by
  obtain ⟨T, t1, t2, t3, t4⟩ := h
  by_cases c : T = 0
  · subst c; simpa using t4
  · have := Nat.mul_le_mul_right bs (show 1 ≤ T by omega)
    have b := t3 0 (by omega)
    simp at b
    have : n = bs := by omega
    rw [this]; exact b
end Go.Proofs.Ytkhmdgppkjafoaa
