/-
  The mathematics of sheets.
-/
import Derived.Test.YtbbilogkblmniaaClB0
import Derived.Test.YtbbilogkblmniaaStM
namespace Go.Proofs.Ytbbilogkblmniaa

/-- a strand's sheet -/
def shL (f : Nat → Bool) (w h s : Nat) : List Nat := (ovL f w h s).filter fun a => ov f w h s a
theorem mem_shL {f : Nat → Bool} {w h s a : Nat} : a ∈ shL f w h s ↔ a < w + h ∧ ov f w h a s = true ∧ ov f w h s a = true := by
  unfold shL
  rw [List.mem_filter, mem_ovL, and_assoc]
theorem shL_sorted (f : Nat → Bool) (w h s : Nat) : (shL f w h s).Pairwise (· < ·) := (ovL_sorted f w h s).filter _
theorem shL_me {f : Nat → Bool} {w h s : Nat} (hs : s < w + h) : s ∈ shL f w h s := mem_shL.2 ⟨hs, ov_refl _ _ _ _, ov_refl _ _ _ _⟩
theorem shL_pos {f : Nat → Bool} {w h s : Nat} (hs : s < w + h) : 0 < (shL f w h s).length := List.length_pos_of_mem (shL_me hs)
theorem shL_len (f : Nat → Bool) (w h s : Nat) : (shL f w h s).length ≤ w + h := Nat.le_trans (List.length_filter_le _ _) (ovL_len f w h s)
theorem shL_eq {f : Nat → Bool} {w h s a : Nat} (hs : s < w + h) (ha : a ∈ shL f w h s) : shL f w h a = shL f w h s := by
  obtain ⟨h1, h2, h3⟩ := mem_shL.1 ha
  refine order_ext (r := fun x y : Nat => x < y) (fun x y p q => by omega) _ _ (shL_sorted f w h a) (shL_sorted f w h s) fun x => ?_
  rw [mem_shL, mem_shL]
  constructor
  · rintro ⟨q1, q2, q3⟩; exact ⟨q1, ov_trans h1 q2 h2, ov_trans h1 h3 q3⟩
  · rintro ⟨q1, q2, q3⟩; exact ⟨q1, ov_trans hs q2 h3, ov_trans hs h2 q3⟩
/-- the first of a sorted list is the least -/
theorem head_le {l : List Nat} (h : l.Pairwise (· < ·)) {a : Nat} (ha : a ∈ l) : l.getD 0 0 ≤ a := by
  cases l with
  | nil => cases ha
  | cons x t =>
    rw [List.pairwise_cons] at h
    rw [List.mem_cons] at ha
    simp
    rcases ha with rfl | ha
    · exact Nat.le_refl _
    · exact Nat.le_of_lt (h.1 a ha)
/-- a strand that is the first of its sheet -/
def fsB (f : Nat → Bool) (w h s : Nat) : Bool := (shL f w h s).getD 0 0 == s
theorem fsB_iff {f : Nat → Bool} {w h s : Nat} (hs : s < w + h) : fsB f w h s = true ↔ ∀ a, a ∈ shL f w h s → s ≤ a := by
  unfold fsB
  rw [beq_iff_eq]
  constructor
  · intro e a ha; have := head_le (shL_sorted f w h s) ha; omega
  · intro k
    have h1 := head_le (shL_sorted f w h s) (shL_me hs)
    have h2 := k _ (getD_mem (shL_pos hs))
    omega
/-- all first strands -/
def fsL (f : Nat → Bool) (w h : Nat) : List Nat := (List.range (w + h)).filter fun s => fsB f w h s
theorem mem_fsL {f : Nat → Bool} {w h s : Nat} : s ∈ fsL f w h ↔ s < w + h ∧ fsB f w h s = true := by simp [fsL]
theorem fsL_sorted (f : Nat → Bool) (w h : Nat) : (fsL f w h).Pairwise (· < ·) := List.Pairwise.filter _ List.pairwise_lt_range
theorem fsL_nodup (f : Nat → Bool) (w h : Nat) : (fsL f w h).Nodup := List.nodup_range.filter _
theorem fsL_len (f : Nat → Bool) (w h : Nat) : (fsL f w h).length ≤ w + h := by
  have := List.length_filter_le (fun s => fsB f w h s) (List.range (w + h))
  simpa [fsL] using this
/-- each strand is in the sheet of a first one -/
theorem fs_of {f : Nat → Bool} {w h t : Nat} (ht : t < w + h) : (shL f w h t).getD 0 0 ∈ fsL f w h ∧ t ∈ shL f w h ((shL f w h t).getD 0 0) := by
  have hm := getD_mem (shL_pos (f := f) ht)
  have hu := (mem_shL.1 hm).1
  have e := shL_eq ht hm
  refine ⟨mem_fsL.2 ⟨hu, (fsB_iff hu).2 fun a ha => ?_⟩, by rw [e]; exact shL_me ht⟩
  rw [e] at ha
  exact head_le (shL_sorted f w h t) ha
/-- two first strands of which one is in the other's sheet are one -/
theorem fs_one {f : Nat → Bool} {w h s u : Nat} (hs : s ∈ fsL f w h) (hu : u ∈ fsL f w h) (h1 : u ∈ shL f w h s) : u = s := by
  obtain ⟨s1, s2⟩ := mem_fsL.1 hs
  obtain ⟨u1, u2⟩ := mem_fsL.1 hu
  have e := shL_eq s1 h1
  have a1 := (fsB_iff s1).1 s2 u h1
  have a2 := (fsB_iff u1).1 u2 s (by rw [e]; exact shL_me s1)
  omega
/-- how many are over a strand -/
def kyN (f : Nat → Bool) (w h s : Nat) : Nat := (ovL f w h s).length
theorem kyN_pos {f : Nat → Bool} {w h s : Nat} (hs : s < w + h) : 1 ≤ kyN f w h s := ovL_pos hs
theorem kyN_le (f : Nat → Bool) (w h s : Nat) : kyN f w h s ≤ w + h := ovL_len f w h s
/-- the first strands in the order of the sheets -/
def lyF (f : Nat → Bool) (w h : Nat) : List Nat := (List.range (w + h)).flatMap fun c => (fsL f w h).filter fun s => kyN f w h s == c + 1
theorem mem_lyF {f : Nat → Bool} {w h s : Nat} : s ∈ lyF f w h ↔ s ∈ fsL f w h := by
  unfold lyF
  rw [List.mem_flatMap]
  constructor
  · rintro ⟨c, _, hs⟩; exact (List.mem_filter.1 hs).1
  · intro hs
    have h1 := kyN_pos (f := f) (mem_fsL.1 hs).1
    have h2 := kyN_le f w h s
    exact ⟨kyN f w h s - 1, by simp; omega, List.mem_filter.2 ⟨hs, by simp; omega⟩⟩
theorem lyF_sorted (f : Nat → Bool) (w h : Nat) : (lyF f w h).Pairwise (lx (kyN f w h)) := by
  unfold lyF
  rw [List.pairwise_flatMap]
  refine ⟨fun c _ => ?_, List.pairwise_lt_range.imp ?_⟩
  · refine List.Pairwise.imp_of_mem ?_ ((fsL_sorted f w h).filter _)
    intro a b ha hb hab
    have e1 := (List.mem_filter.1 ha).2
    have e2 := (List.mem_filter.1 hb).2
    simp at e1 e2
    exact .inr ⟨by omega, hab⟩
  · intro c d hcd x hx y hy
    have e1 := (List.mem_filter.1 hx).2
    have e2 := (List.mem_filter.1 hy).2
    simp at e1 e2
    exact .inl (by omega)
theorem nodup_of_lx {K : Nat → Nat} {l : List Nat} (h : l.Pairwise (lx K)) : l.Nodup := h.imp (by intro a b k e; subst e; exact lx_asym k k)
theorem same_of_sub {l1 l2 : List Nat} (n1 : l1.Nodup) (hs : ∀ a, a ∈ l1 → a ∈ l2) (hl : l2.length ≤ l1.length) : ∀ a, a ∈ l1 ↔ a ∈ l2 := by
  intro a
  refine ⟨hs a, fun ha => Classical.byContradiction fun hn => ?_⟩
  have : (a :: l1).Nodup := List.nodup_cons.2 ⟨hn, n1⟩
  have := this.length_le_of_subset (l₂ := l2) (fun x hx => by
    rw [List.mem_cons] at hx
    rcases hx with rfl | hx
    · exact ha
    · exact hs x hx)
  simp at this
  omega
theorem lyF_len (f : Nat → Bool) (w h : Nat) : (lyF f w h).length = (fsL f w h).length := by
  have n1 := nodup_of_lx (lyF_sorted f w h)
  have n2 := fsL_nodup f w h
  have a1 := n1.length_le_of_subset (l₂ := fsL f w h) (fun a ha => mem_lyF.1 ha)
  have a2 := n2.length_le_of_subset (l₂ := lyF f w h) (fun a ha => mem_lyF.2 ha)
  omega
/-- what is sorted is the order of the sheets -/
theorem sorted_ly {f : Nat → Bool} {w h n : Nat} {g : Nat → Nat} (hn : n = (fsL f w h).length) (hB : Bk (kyN f w h) (fun k => (fsL f w h).getD k 0) 0 n g) : (List.range n).map g = lyF f w h := by
  have hp : ((List.range n).map g).Pairwise (lx (kyN f w h)) := by
    rw [List.pairwise_map]
    refine List.Pairwise.imp_of_mem ?_ List.pairwise_lt_range
    intro a b _ hb hab
    exact hB.1 a b (Nat.zero_le _) hab (by simpa using hb)
  have hm : ∀ a, a ∈ (List.range n).map g ↔ a ∈ fsL f w h := same_of_sub (nodup_of_lx hp) (fun a ha => by
    obtain ⟨k, hk, rfl⟩ := List.mem_map.1 ha
    obtain ⟨j, _, j2, e⟩ := hB.2 k (Nat.zero_le _) (by simpa using hk)
    rw [e]; exact getD_mem (by omega)) (by simp [hn])
  refine order_ext (fun a b => lx_asym) _ _ hp (lyF_sorted f w h) fun a => ?_
  rw [hm, mem_lyF]
theorem fsL_up {f : Nat → Bool} {w h : Nat} : ∀ i j, i < j → j < (fsL f w h).length → (fsL f w h).getD i 0 < (fsL f w h).getD j 0 := by
  intro i j h1 h2
  have := List.pairwise_iff_getElem.1 (fsL_sorted f w h) i j (by omega) h2 h1
  simpa [List.getD, List.getElem?_eq_getElem h2, List.getElem?_eq_getElem (show i < (fsL f w h).length by omega)] using this
/-- the sheets -/
def lyL (f : Nat → Bool) (w h : Nat) : List (List Nat) := (lyF f w h).map fun s => shL f w h s
/-- the first strands below x -/
def fsP (f : Nat → Bool) (w h x : Nat) : List Nat := (List.range x).filter fun s => fsB f w h s
theorem fsP_succ (f : Nat → Bool) (w h x : Nat) : fsP f w h (x + 1) = if fsB f w h x then fsP f w h x ++ [x] else fsP f w h x := by
  unfold fsP
  rw [List.range_succ, List.filter_append]
  cases e : fsB f w h x <;> simp [e]
theorem fsP_len (f : Nat → Bool) (w h x : Nat) : (fsP f w h x).length ≤ x := by
  have := List.length_filter_le (fun s => fsB f w h s) (List.range x)
  simpa [fsP] using this
theorem mem_fsP {f : Nat → Bool} {w h x s : Nat} : s ∈ fsP f w h x ↔ s < x ∧ fsB f w h s = true := by simp [fsP]
/-- the sheet of s among the first k that are over s -/
def shP (f : Nat → Bool) (w h s k : Nat) : List Nat := ((ovL f w h s).take k).filter fun a => ov f w h s a
theorem shP_zero (f : Nat → Bool) (w h s : Nat) : shP f w h s 0 = [] := rfl
theorem shP_all (f : Nat → Bool) (w h s k : Nat) (hk : k = (ovL f w h s).length) : shP f w h s k = shL f w h s := by
  unfold shP shL; rw [hk, List.take_length]
theorem shP_succ (f : Nat → Bool) (w h s k : Nat) (hk : k < (ovL f w h s).length) : shP f w h s (k + 1) = if ov f w h s ((ovL f w h s).getD k 0) then shP f w h s k ++ [(ovL f w h s).getD k 0] else shP f w h s k := by
  unfold shP
  rw [List.take_succ_eq_append_getElem hk, List.filter_append]
  have : (ovL f w h s).getD k 0 = (ovL f w h s)[k] := by simp [List.getD, List.getElem?_eq_getElem hk]
  rw [this]
  cases e : ov f w h s (ovL f w h s)[k] <;> simp [e]
theorem shP_len (f : Nat → Bool) (w h s k : Nat) : (shP f w h s k).length ≤ k := Nat.le_trans (List.length_filter_le _ _) (List.length_take_le _ _)
end Go.Proofs.Ytbbilogkblmniaa
