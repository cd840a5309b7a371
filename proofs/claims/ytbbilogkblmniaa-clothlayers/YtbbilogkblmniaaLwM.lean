/-
  Sheets: each strand is in one, the first ones can be lifted off, none is torn: the mathematics.
-/
import Derived.Test.YtbbilogkblmniaaLyD
import Derived.Test.YtbbilogkblmniaaClF
namespace Go.Proofs.Ytbbilogkblmniaa

theorem lyF_one {f : Nat → Bool} {w h s u x : Nat} (hs : s ∈ lyF f w h) (hu : u ∈ lyF f w h) (h1 : x ∈ shL f w h s) (h2 : x ∈ shL f w h u) : s = u := by
  have s1 := mem_fsL.1 (mem_lyF.1 hs)
  have u1 := mem_fsL.1 (mem_lyF.1 hu)
  have e : shL f w h s = shL f w h u := (shL_eq s1.1 h1).symm.trans (shL_eq u1.1 h2)
  exact fs_one (mem_lyF.1 hu) (mem_lyF.1 hs) (by rw [← e]; exact shL_me s1.1)
/-- the strands of the first i sheets -/
def flN (f : Nat → Bool) (w h i : Nat) : List Nat := ((lyL f w h).take i).flatten
theorem flN_zero (f : Nat → Bool) (w h : Nat) : flN f w h 0 = [] := rfl
theorem flN_succ {f : Nat → Bool} {w h i : Nat} (hi : i < (lyL f w h).length) : flN f w h (i + 1) = flN f w h i ++ (lyL f w h).getD i [] := by
  unfold flN
  rw [List.take_succ_eq_append_getElem hi, List.flatten_append]
  simp [List.getD, List.getElem?_eq_getElem hi]
theorem ly_nodup (f : Nat → Bool) (w h : Nat) : (lyL f w h).flatten.Nodup := by
  unfold lyL List.Nodup
  rw [List.pairwise_flatten]
  refine ⟨fun l hl => ?_, ?_⟩
  · obtain ⟨s, _, rfl⟩ := List.mem_map.1 hl
    exact (shL_sorted f w h s).imp (by intro a b k; omega)
  · rw [List.pairwise_map]
    refine List.Pairwise.imp_of_mem ?_ (lyF_sorted f w h)
    intro s u hs hu k x hx y hy e
    subst e
    have := lyF_one hs hu hx hy
    subst this
    exact lx_asym k k
theorem flN_nodup (f : Nat → Bool) (w h i : Nat) : (flN f w h i).Nodup := by
  have := ly_nodup f w h
  rw [← List.take_append_drop i (lyL f w h), List.flatten_append, List.nodup_append] at this
  exact this.1
theorem mem_flN {f : Nat → Bool} {w h i x : Nat} : x ∈ flN f w h i ↔ ∃ k, k < i ∧ k < (lyF f w h).length ∧ x ∈ shL f w h ((lyF f w h).getD k 0) := by
  unfold flN lyL
  rw [List.mem_flatten]
  constructor
  · rintro ⟨l, hl, hx⟩
    obtain ⟨k, hk, e⟩ := List.getElem_of_mem hl
    have hk2 : k < i ∧ k < (lyF f w h).length := by simp at hk; omega
    refine ⟨k, hk2.1, hk2.2, ?_⟩
    rw [← e] at hx
    simpa [List.getD, List.getElem?_eq_getElem hk2.2] using hx
  · rintro ⟨k, h1, h2, hx⟩
    refine ⟨shL f w h ((lyF f w h).getD k 0), ?_, hx⟩
    rw [List.mem_iff_getElem]
    exact ⟨k, by simp; omega, by simp [List.getD, List.getElem?_eq_getElem h2]⟩
theorem ly_at {f : Nat → Bool} {w h i : Nat} (hi : i < (lyL f w h).length) : (lyL f w h).getD i [] = shL f w h ((lyF f w h).getD i 0) ∧ (lyF f w h).getD i 0 ∈ fsL f w h := by
  have hi2 : i < (lyF f w h).length := by simpa [lyL] using hi
  exact ⟨by simp [lyL, List.getD, List.getElem?_eq_getElem hi2], mem_lyF.1 (getD_mem hi2)⟩
theorem fl_lt {f : Nat → Bool} {w h i x : Nat} (hx : x ∈ flN f w h i) : x < w + h := by
  obtain ⟨k, _, _, hk⟩ := mem_flN.1 hx
  exact (mem_shL.1 hk).1
/-- each strand is in a sheet -/
theorem fl_all {f : Nat → Bool} {w h t : Nat} (ht : t < w + h) : ∃ k, k < (lyF f w h).length ∧ t ∈ shL f w h ((lyF f w h).getD k 0) := by
  obtain ⟨h1, h2⟩ := fs_of (f := f) ht
  obtain ⟨k, hk, e⟩ := List.getElem_of_mem (mem_lyF.2 h1)
  exact ⟨k, hk, by rw [show (lyF f w h).getD k 0 = (shL f w h t).getD 0 0 by simp only [List.getD, List.getElem?_eq_getElem hk, Option.getD_some, e]]; exact h2⟩
theorem fl_end {f : Nat → Bool} {w h t : Nat} (ht : t < w + h) : t ∈ flN f w h (lyL f w h).length := by
  obtain ⟨k, h1, h2⟩ := fl_all (f := f) ht
  exact mem_flN.2 ⟨k, by simpa [lyL] using h1, h1, h2⟩
theorem ly_pos {f : Nat → Bool} {w h i : Nat} (hi : i < (lyL f w h).length) : 0 < ((lyL f w h).getD i []).length := by
  obtain ⟨e, h1⟩ := ly_at hi
  rw [e]; exact shL_pos (mem_fsL.1 h1).1
/-- what is over a strand of the first sheets is in them -/
theorem fl_closed {f : Nat → Bool} {w h i a b : Nat} (ha : a < w + h) (hb : b ∈ flN f w h i) (ho : ov f w h a b = true) : a ∈ flN f w h i := by
  obtain ⟨k, k1, k2, kb⟩ := mem_flN.1 hb
  obtain ⟨j, j1, ja⟩ := fl_all (f := f) ha
  by_cases c : j < i
  · exact mem_flN.2 ⟨j, c, j1, ja⟩
  · exfalso
    have hlx : lx (kyN f w h) ((lyF f w h).getD k 0) ((lyF f w h).getD j 0) := by
      have := List.pairwise_iff_getElem.1 (lyF_sorted f w h) k j k2 j1 (by omega)
      simpa [List.getD, List.getElem?_eq_getElem k2, List.getElem?_eq_getElem j1] using this
    have hs := mem_lyF.1 (getD_mem k2)
    have hu := mem_lyF.1 (getD_mem j1)
    generalize (lyF f w h).getD k 0 = s at *
    generalize (lyF f w h).getD j 0 = u at *
    have s1 := (mem_fsL.1 hs).1
    have u1 := (mem_fsL.1 hu).1
    obtain ⟨b1, b2, b3⟩ := mem_shL.1 kb
    obtain ⟨a1, a2, a3⟩ := mem_shL.1 ja
    have hus : ov f w h u s = true := ov_trans a1 a3 (ov_trans b1 ho b2)
    have hsub : ∀ x, x ∈ ovL f w h u → x ∈ ovL f w h s := fun x hx => by
      obtain ⟨x1, x2⟩ := mem_ovL.1 hx
      exact mem_ovL.2 ⟨x1, ov_trans u1 x2 hus⟩
    have hle : kyN f w h u ≤ kyN f w h s := (ovL_nodup f w h u).length_le_of_subset hsub
    have heq : kyN f w h s ≤ kyN f w h u := by unfold lx at hlx; omega
    have hsu : s ∈ ovL f w h u := (same_of_sub (ovL_nodup f w h u) hsub heq s).2 (mem_ovL.2 ⟨s1, ov_refl _ _ _ _⟩)
    have : u = s := fs_one hs hu (mem_shL.2 ⟨u1, hus, (mem_ovL.1 hsu).2⟩)
    subst this
    exact lx_asym hlx hlx
/-- the first sheets can be lifted off -/
theorem fl_free {f : Nat → Bool} {w h i : Nat} (hi : i + 1 < (lyL f w h).length) : freeB f w h (gtF (flN f w h (i + 1))) (flN f w h (i + 1)).length = true := by
  rw [free_list (fun a ha => fl_lt ha), frB_iff]
  refine ⟨fun a ha b _ ia ib => ?_, ?_, ?_⟩
  · cases e : ab f w a b with
    | false => rfl
    | true =>
      have hb := of_decide_eq_true ib
      have := fl_closed ha hb (ov_of_ab ha (fl_lt hb) e)
      simp [this] at ia
  · have h1 := getD_mem (ly_pos (f := f) (w := w) (h := h) (i := i) (by omega))
    have h2 : ((lyL f w h).getD i []).getD 0 0 ∈ flN f w h (i + 1) := by rw [flN_succ (by omega)]; exact List.mem_append_right _ h1
    exact ⟨_, fl_lt h2, by simpa using h2⟩
  · have h1 := getD_mem (ly_pos (f := f) (w := w) (h := h) hi)
    have hn := flN_nodup f w h (i + 1 + 1)
    rw [flN_succ hi, List.nodup_append] at hn
    have h3 : ((lyL f w h).getD (i + 1) []).getD 0 0 ∈ flN f w h (i + 1 + 1) := by rw [flN_succ hi]; exact List.mem_append_right _ h1
    refine ⟨_, fl_lt h3, decide_eq_false fun h2 => hn.2.2 _ h2 _ h1 rfl⟩
/-- a strand of a sheet has not been seen -/
theorem not_seen {A B : List Nat} (h : (A ++ B).Nodup) {j : Nat} (hj : j < B.length) : ¬ B.getD j 0 ∈ A ++ B.take j := by
  have e : B.getD j 0 = B[j] := by simp [List.getD, List.getElem?_eq_getElem hj]
  rw [e]
  rw [← List.take_append_drop j B, ← List.append_assoc, List.drop_eq_getElem_cons hj, List.nodup_append] at h
  intro k
  exact h.2.2 _ k _ List.mem_cons_self rfl
theorem take_more {A B : List Nat} {j : Nat} (hj : j < B.length) : A ++ B.take (j + 1) = (A ++ B.take j) ++ [B.getD j 0] := by
  rw [List.take_succ_eq_append_getElem hj]
  simp [List.getD, List.getElem?_eq_getElem hj]
/-- there is one sheet just if the cloth hangs together -/
theorem hg_one {f : Nat → Bool} {w h : Nat} (h0 : 0 < w + h) : hgB f w h = ((lyL f w h).length == 1) := by
  have hl : (lyL f w h).length = (fsL f w h).length := by simp [lyL, lyF_len]
  rw [Bool.eq_iff_iff, hl, beq_iff_eq]
  unfold hgB
  rw [beq_iff_eq, List.length_eq_zero_iff, lfL_nil, lfO_none]
  have hf := fs_of (f := f) (w := w) (h := h) (t := 0) h0
  constructor
  · intro k
    have h1 : 0 < (fsL f w h).length := List.length_pos_of_mem hf.1
    refine Classical.byContradiction fun c => ?_
    have h2 : 1 < (fsL f w h).length := by omega
    have m0 := getD_mem h1
    have m1 := getD_mem h2
    have lt := fsL_up (f := f) (w := w) (h := h) 0 1 (by omega) h2
    have a0 := (mem_fsL.1 m0).1
    have a1 := (mem_fsL.1 m1).1
    have := fs_one m0 m1 (mem_shL.2 ⟨a1, k _ a0 _ a1, k _ a1 _ a0⟩)
    omega
  · intro k
    obtain ⟨u, hu⟩ := List.length_eq_one_iff.1 k
    have key : ∀ t, t < w + h → t ∈ shL f w h u := fun t ht => by
      have := fs_of (f := f) ht
      rw [hu] at this
      simp at this
      have e := this.1
      have q := this.2
      rw [e] at q
      exact q
    intro s hs a ha
    have ku : u < w + h := (mem_fsL.1 (show u ∈ fsL f w h by rw [hu]; simp)).1
    exact ov_trans ku (mem_shL.1 (key a ha)).2.1 (mem_shL.1 (key s hs)).2.2
/-- the strands of a sheet that are told, and those that are not -/
def tnB (f : Nat → Bool) (w : Nat) (I O : List Nat) : Bool := (decide (0 < I.length) && decide (0 < O.length)) && O.all fun a => I.all fun b => !ab f w a b
theorem no_torn {f : Nat → Bool} {w h s : Nat} (hs : s < w + h) (t : Nat → Bool) : tnB f w ((shL f w h s).filter t) ((shL f w h s).filter fun x => !t x) = false := by
  cases e : tnB f w ((shL f w h s).filter t) ((shL f w h s).filter fun x => !t x) with
  | false => rfl
  | true =>
    exfalso
    unfold tnB at e
    rw [Bool.and_eq_true, Bool.and_eq_true, decide_eq_true_eq, decide_eq_true_eq] at e
    obtain ⟨⟨e1, e2⟩, e3⟩ := e
    obtain ⟨b, hb⟩ := List.length_pos_iff_exists_mem.1 e1
    obtain ⟨a, ha⟩ := List.length_pos_iff_exists_mem.1 e2
    obtain ⟨hb1, hb2⟩ := List.mem_filter.1 hb
    obtain ⟨ha1, ha2⟩ := List.mem_filter.1 ha
    have b1 := mem_shL.1 hb1
    have a1 := mem_shL.1 ha1
    have hab : ov f w h a b = true := ov_trans hs a1.2.1 b1.2.2
    have key := ov_min (f := f) (w := w) (h := h) (fun x => ov f w h x b = true ∧ ¬ (x ∈ shL f w h s ∧ t x = false)) (fun x y hx hy sy hr => by
      have hxb := ov_step hx hy hr sy.1
      refine ⟨hxb, fun ⟨q1, q2⟩ => ?_⟩
      have x1 := mem_shL.1 q1
      have hby : ov f w h b y = true := ov_trans hs b1.2.1 (ov_trans hx x1.2.2 (ov_of_ab hx hy hr))
      have hys : y ∈ shL f w h s := mem_shL.2 ⟨hy, ov_trans b1.1 sy.1 b1.2.1, ov_trans b1.1 b1.2.2 hby⟩
      have hty : t y = true := by
        cases c : t y with
        | true => rfl
        | false => exact absurd ⟨hys, c⟩ sy.2
      rw [List.all_eq_true] at e3
      have k1 := e3 x (List.mem_filter.2 ⟨q1, by simp [q2]⟩)
      rw [List.all_eq_true] at k1
      have k2 := k1 y (List.mem_filter.2 ⟨hys, hty⟩)
      rw [hr] at k2
      cases k2) hab ⟨ov_refl _ _ _ _, fun k => by rw [hb2] at k; exact absurd k.2 (by simp)⟩
    exact key.2 ⟨ha1, by simpa using ha2⟩
end Go.Proofs.Ytbbilogkblmniaa
