/-
  The mathematics of Tidy: what is left out was not needed.
-/
import Derived.Test.YtancniamgfppiaaNC
import Derived.Test.YtancniamgfppiaaLwA
namespace Go.Proofs.Ytancniamgfppiaa

/-- a list given by places -/
def lsG (g : Nat → Sx) (n : Nat) : List Sx := (List.range n).map g
theorem lsG_len (g : Nat → Sx) (n : Nat) : (lsG g n).length = n := by simp [lsG]
theorem lsG_succ (g : Nat → Sx) (n : Nat) : lsG g (n + 1) = lsG g n ++ [g n] := by simp [lsG, List.range_succ]
theorem lsG_get {g : Nat → Sx} {n j : Nat} (h : j < n) : (lsG g n).getD j x0 = g j := by
  unfold lsG
  rw [List.getD_eq_getElem?_getD, List.getElem?_map, List.getElem?_range h]
  rfl
theorem lsG_drop {g : Nat → Sx} {n i : Nat} (h : i < n) : (lsG g n).drop i = g i :: (lsG g n).drop (i + 1) := by
  have hl : i < (lsG g n).length := by rw [lsG_len]; exact h
  rw [List.drop_eq_getElem_cons hl]
  have : (lsG g n)[i] = g i := by simp [lsG]
  rw [this]
theorem lsG_list (l : List Sx) : lsG (fun j => l.getD j x0) l.length = l := by
  apply List.ext_getElem?
  intro i
  unfold lsG
  rw [List.getElem?_map]
  rcases Nat.lt_or_ge i l.length with d | d
  · rw [List.getElem?_range d, List.getElem?_eq_getElem d]
    simp [d]
  · rw [List.getElem?_eq_none (by simpa using d), List.getElem?_eq_none d]
    rfl

/-- is it a rack? -/
def rkB (x : Sx) : Bool := x.dk == 6
/-- does a list begin with a rack? -/
def hdB : List Sx → Bool
  | [] => false
  | x :: _ => rkB x
/-- without misses; without racks ahead of racks; without racks to the rack that there is -/
def wmL : List Sx → List Sx
  | [] => []
  | x :: l => if (x.dk != 3) = true then x :: wmL l else wmL l
def wpL : List Sx → List Sx
  | [] => []
  | x :: l => if (rkB x && hdB l) = true then wpL l else x :: wpL l
def wiL : Int → List Sx → List Sx
  | _, [] => []
  | r, x :: l => if rkB x = true then (if x.tt = r then wiL r l else x :: wiL x.tt l) else x :: wiL r l
def tidyL (l : List Sx) : List Sx := wiL 0 (wpL (wmL l))

theorem wm_le (l : List Sx) : (wmL l).length ≤ l.length := by
  induction l with
  | nil => exact Nat.le_refl _
  | cons x l ih =>
    unfold wmL
    split <;> simp <;> omega
theorem wp_le (l : List Sx) : (wpL l).length ≤ l.length := by
  induction l with
  | nil => exact Nat.le_refl _
  | cons x l ih =>
    unfold wpL
    split <;> simp <;> omega
theorem wi_le (l : List Sx) : ∀ r, (wiL r l).length ≤ l.length := by
  induction l with
  | nil => intro r; exact Nat.le_refl _
  | cons x l ih =>
    intro r
    have h1 := ih r
    have h2 := ih x.tt
    unfold wiL
    split
    · split <;> simp <;> omega
    · simp; omega
theorem tidy_le (l : List Sx) : (tidyL l).length ≤ l.length := Nat.le_trans (wi_le _ _) (Nat.le_trans (wp_le _) (wm_le _))

/-- no misses; no rack just ahead of a rack -/
def noM : List Sx → Prop
  | [] => True
  | x :: l => x.dk ≠ 3 ∧ noM l
def noP : List Sx → Prop
  | [] => True
  | x :: l => (rkB x && hdB l) = false ∧ noP l
theorem wm_no (l : List Sx) : noM (wmL l) := by
  induction l with
  | nil => exact trivial
  | cons x l ih =>
    unfold wmL
    split
    · rename_i h; exact ⟨by simpa using h, ih⟩
    · exact ih
theorem wm_id {l : List Sx} (h : noM l) : wmL l = l := by
  induction l with
  | nil => rfl
  | cons x l ih =>
    unfold wmL
    rw [if_pos (by simpa using h.1), ih h.2]
theorem wp_noM {l : List Sx} (h : noM l) : noM (wpL l) := by
  induction l with
  | nil => exact trivial
  | cons x l ih =>
    unfold wpL
    split
    · exact ih h.2
    · exact ⟨h.1, ih h.2⟩
theorem wi_noM {l : List Sx} : ∀ r, noM l → noM (wiL r l) := by
  induction l with
  | nil => intro r h; exact trivial
  | cons x l ih =>
    intro r h
    unfold wiL
    split
    · split
      · exact ih r h.2
      · exact ⟨h.1, ih _ h.2⟩
    · exact ⟨h.1, ih _ h.2⟩
theorem wp_hd (l : List Sx) : hdB (wpL l) = hdB l := by
  induction l with
  | nil => rfl
  | cons x l ih =>
    unfold wpL
    split
    · rename_i h
      simp at h
      rw [ih, h.2]
      exact h.1.symm
    · rfl
theorem wp_no (l : List Sx) : noP (wpL l) := by
  induction l with
  | nil => exact trivial
  | cons x l ih =>
    unfold wpL
    split
    · exact ih
    · rename_i h
      refine ⟨?_, ih⟩
      rw [wp_hd]
      simpa using h
theorem wp_id {l : List Sx} (h : noP l) : wpL l = l := by
  induction l with
  | nil => rfl
  | cons x l ih =>
    unfold wpL
    rw [if_neg (by rw [h.1]; decide), ih h.2]
theorem wi_hd {l : List Sx} (r : Int) (h : hdB l = false) : hdB (wiL r l) = false := by
  cases l with
  | nil => rfl
  | cons x l =>
    have hx : rkB x = false := h
    unfold wiL
    rw [if_neg (by rw [hx]; decide)]
    exact hx
theorem wi_noP {l : List Sx} : ∀ r, noP l → noP (wiL r l) := by
  induction l with
  | nil => intro r h; exact trivial
  | cons x l ih =>
    intro r h
    unfold wiL
    split
    · rename_i hx
      have hl : hdB l = false := by have := h.1; rw [hx] at this; simpa using this
      split
      · exact ih r h.2
      · exact ⟨by rw [wi_hd _ hl]; simp, ih _ h.2⟩
    · rename_i hx
      exact ⟨by have : rkB x = false := by simpa using hx
                rw [this]; rfl, ih _ h.2⟩
theorem wi_wi {l : List Sx} : ∀ r, wiL r (wiL r l) = wiL r l := by
  induction l with
  | nil => intro r; rfl
  | cons x l ih =>
    intro r
    by_cases hx : rkB x = true
    · by_cases ht : x.tt = r
      · have e : wiL r (x :: l) = wiL r l := by rw [wiL, if_pos hx, if_pos ht]
        rw [e]; exact ih r
      · have e : wiL r (x :: l) = x :: wiL x.tt l := by rw [wiL, if_pos hx, if_neg ht]
        rw [e, wiL, if_pos hx, if_neg ht, ih]
    · have e : wiL r (x :: l) = x :: wiL r l := by rw [wiL, if_neg hx]
      rw [e, wiL, if_neg hx, ih]
/-- nothing more can be left out -/
theorem tidy_tidy (l : List Sx) : tidyL (tidyL l) = tidyL l := by
  unfold tidyL
  rw [wm_id (wi_noM _ (wp_noM (wm_no l))), wp_id (wi_noP _ (wp_no _)), wi_wi]

/-- all is done; the machine behind it -/
def okR (N : Nat) : St → List Sx → Prop
  | _, [] => True
  | s, x :: l => wrE N s x = 0 ∧ okR N (doS s x) l
def enR : St → List Sx → St
  | s, [] => s
  | s, x :: l => enR (doS s x) l
theorem okR_app (N : Nat) (l : List Sx) (x : Sx) : ∀ s, okR N s (l ++ [x]) ↔ okR N s l ∧ wrE N (enR s l) x = 0 := by
  induction l with
  | nil => intro s; simp [okR, enR]
  | cons y l ih =>
    intro s
    simp only [List.cons_append, okR, enR, ih, and_assoc]
theorem enR_app (l : List Sx) (x : Sx) : ∀ s, enR s (l ++ [x]) = doS (enR s l) x := by
  induction l with
  | nil => intro s; rfl
  | cons y l ih =>
    intro s
    simp only [List.cons_append, enR, ih]
theorem kn_list (N : Nat) (f : Nat → Sx) : ∀ n, ((∀ i, i < n → erS N f i = 0) ↔ okR N s0 (lsG f n)) ∧ ((∀ i, i < n → erS N f i = 0) → knS N f n = enR s0 (lsG f n)) := by
  intro n
  induction n with
  | zero => exact ⟨⟨fun _ => trivial, fun _ i hi => by omega⟩, fun _ => rfl⟩
  | succ n ih =>
    have key : (∀ i, i < n + 1 → erS N f i = 0) ↔ (∀ i, i < n → erS N f i = 0) ∧ erS N f n = 0 := ⟨fun h => ⟨fun i hi => h i (by omega), h n (by omega)⟩, fun h i hi => by
      by_cases d : i = n
      · rw [d]; exact h.2
      · exact h.1 i (by omega)⟩
    rw [lsG_succ, okR_app, enR_app, key]
    refine ⟨⟨fun h => ⟨ih.1.1 h.1, ?_⟩, fun h => ⟨ih.1.2 h.1, ?_⟩⟩, fun h => ?_⟩
    · rw [← ih.2 h.1]; exact h.2
    · have := h.2
      rw [← ih.2 (ih.1.2 h.1)] at this
      exact this
    · rw [knS_done h.2, ih.2 h.1]

/-- the same machine, with no more counted -/
structure Lk (s s' : St) : Prop where
  on : s'.on = s.on
  lps : s'.loops = s.loops
  lse : s'.loose = s.loose
  dn : s'.done ≤ s.done
theorem wrE_eq {N : Nat} {s s' : St} {x : Sx} (h : Lk s s') (hr : s'.rack = s.rack ∨ x.dk = 6) (hw : wrE N s x = 0) : wrE N s' x = 0 := by
  have hd := (wrE_zero hw).2.2.1
  obtain ⟨on, rack, loops, loose, done⟩ := s
  obtain ⟨on', rack', loops', loose', done'⟩ := s'
  obtain ⟨h1, h2, h3, h4⟩ := h
  dsimp only at h1 h2 h3 h4 hd hr
  subst h1 h2 h3
  unfold wrE at hw ⊢
  dsimp only at hw ⊢
  rw [if_neg (show ¬ 4096 ≤ done by omega)] at hw
  rw [if_neg (show ¬ 4096 ≤ done' by omega)]
  rcases hr with hr | hr
  · subst hr
    exact hw
  · rw [if_pos hr] at hw ⊢
    exact hw
theorem Lk.do {s s' : St} (h : Lk s s') (x : Sx) (hr : s'.rack = s.rack ∨ x.dk = 6) : Lk (doS s x) (doS s' x) ∧ (doS s' x).rack = (doS s x).rack := by
  obtain ⟨on, rack, loops, loose, done⟩ := s
  obtain ⟨on', rack', loops', loose', done'⟩ := s'
  obtain ⟨h1, h2, h3, h4⟩ := h
  dsimp only at h1 h2 h3 h4 hr
  subst h1 h2 h3
  rcases hr with hr | hr
  · subst hr
    unfold doS cnt doX
    dsimp only
    by_cases e1 : x.dk = 1
    · rw [if_pos e1, if_pos e1]; exact ⟨⟨rfl, rfl, rfl, by dsimp only; omega⟩, rfl⟩
    rw [if_neg e1, if_neg e1]
    by_cases e2 : x.dk = 2
    · rw [if_pos e2, if_pos e2]; exact ⟨⟨rfl, rfl, rfl, by dsimp only; omega⟩, rfl⟩
    rw [if_neg e2, if_neg e2]
    by_cases e4 : x.dk = 4
    · rw [if_pos e4, if_pos e4]; exact ⟨⟨rfl, rfl, rfl, by dsimp only; omega⟩, rfl⟩
    rw [if_neg e4, if_neg e4]
    by_cases e5 : x.dk = 5
    · rw [if_pos e5, if_pos e5]; exact ⟨⟨rfl, rfl, rfl, by dsimp only; omega⟩, rfl⟩
    rw [if_neg e5, if_neg e5]
    by_cases e6 : x.dk = 6
    · rw [if_pos e6, if_pos e6]; exact ⟨⟨rfl, rfl, rfl, by dsimp only; omega⟩, rfl⟩
    · rw [if_neg e6, if_neg e6]; exact ⟨⟨rfl, rfl, rfl, by dsimp only; omega⟩, rfl⟩
  · unfold doS cnt doX
    dsimp only
    rw [hr]
    exact ⟨⟨rfl, rfl, rfl, Nat.succ_le_succ h4⟩, rfl⟩
theorem Lk.skip {s s' : St} (h : Lk s s') {x : Sx} (hx : x.dk = 3 ∨ x.dk = 6) : Lk (doS s x) s' := by
  obtain ⟨h1, h2, h3, h4⟩ := h
  unfold doS cnt doX
  rcases hx with hx | hx
  · rw [if_neg (by omega), if_neg (by omega), if_neg (by omega), if_neg (by omega), if_neg (by omega)]
    exact ⟨h1, h2, h3, by dsimp only; omega⟩
  · rw [if_neg (by omega), if_neg (by omega), if_neg (by omega), if_neg (by omega), if_pos hx]
    exact ⟨h1, h2, h3, by dsimp only; omega⟩
theorem do_rack_is (s : St) (x : Sx) : (doS s x).rack = if x.dk = 6 then x.tt else s.rack := by
  unfold doS cnt doX
  by_cases e6 : x.dk = 6
  · rw [if_neg (by omega), if_neg (by omega), if_neg (by omega), if_neg (by omega), if_pos e6, if_pos e6]
  · rw [show (if x.dk = 6 then x.tt else s.rack) = s.rack from if_neg e6]
    by_cases e1 : x.dk = 1
    · rw [if_pos e1]
    rw [if_neg e1]
    by_cases e2 : x.dk = 2
    · rw [if_pos e2]
    rw [if_neg e2]
    by_cases e4 : x.dk = 4
    · rw [if_pos e4]
    rw [if_neg e4]
    by_cases e5 : x.dk = 5
    · rw [if_pos e5]
    rw [if_neg e5, if_neg e6]

theorem wm_run (N : Nat) (l : List Sx) : ∀ s s', Lk s s' → s'.rack = s.rack → okR N s l → okR N s' (wmL l) ∧ Lk (enR s l) (enR s' (wmL l)) ∧ (enR s' (wmL l)).rack = (enR s l).rack := by
  induction l with
  | nil => intro s s' h hr _; exact ⟨trivial, h, hr⟩
  | cons x l ih =>
    intro s s' h hr ho
    unfold wmL
    by_cases hx : (x.dk != 3) = true
    · rw [if_pos hx]
      have hd := h.do x (.inl hr)
      have := ih _ _ hd.1 hd.2 ho.2
      exact ⟨⟨wrE_eq h (.inl hr) ho.1, this.1⟩, this.2⟩
    · rw [if_neg hx]
      have hx3 : x.dk = 3 := by simpa using hx
      refine ih _ _ (h.skip (.inl hx3)) ?_ ho.2
      rw [do_rack_is, if_neg (by omega)]
      exact hr
theorem rk_dk {x : Sx} (h : rkB x = true) : x.dk = 6 := by simpa [rkB] using h
theorem rk_no {x : Sx} (h : ¬ rkB x = true) : x.dk ≠ 6 := by simpa [rkB] using h
theorem wp_run (N : Nat) (l : List Sx) : ∀ s s', Lk s s' → (s'.rack = s.rack ∨ hdB l = true) → okR N s l → okR N s' (wpL l) ∧ Lk (enR s l) (enR s' (wpL l)) ∧ (enR s' (wpL l)).rack = (enR s l).rack := by
  induction l with
  | nil =>
    intro s s' h hr _
    rcases hr with hr | hr
    · exact ⟨trivial, h, hr⟩
    · cases hr
  | cons x l ih =>
    intro s s' h hr ho
    have hr2 : s'.rack = s.rack ∨ x.dk = 6 := hr.imp id (fun q => rk_dk q)
    unfold wpL
    by_cases hx : (rkB x && hdB l) = true
    · rw [if_pos hx]
      simp at hx
      exact ih _ _ (h.skip (.inr (rk_dk hx.1))) (.inr hx.2) ho.2
    · rw [if_neg hx]
      have hd := h.do x hr2
      have := ih _ _ hd.1 (.inl hd.2) ho.2
      exact ⟨⟨wrE_eq h hr2 ho.1, this.1⟩, this.2⟩
theorem wi_run (N : Nat) (l : List Sx) : ∀ s s', Lk s s' → s'.rack = s.rack → okR N s l → okR N s' (wiL s.rack l) ∧ Lk (enR s l) (enR s' (wiL s.rack l)) ∧ (enR s' (wiL s.rack l)).rack = (enR s l).rack := by
  induction l with
  | nil => intro s s' h hr _; exact ⟨trivial, h, hr⟩
  | cons x l ih =>
    intro s s' h hr ho
    have hdr := do_rack_is s x
    by_cases hx : rkB x = true
    · rw [if_pos (rk_dk hx)] at hdr
      by_cases ht : x.tt = s.rack
      · have e : wiL s.rack (x :: l) = wiL s.rack l := by rw [wiL, if_pos hx, if_pos ht]
        rw [e]
        have := ih _ _ (h.skip (.inr (rk_dk hx))) (by rw [hdr, ht]; exact hr) ho.2
        rw [hdr, ht] at this
        exact this
      · have e : wiL s.rack (x :: l) = x :: wiL x.tt l := by rw [wiL, if_pos hx, if_neg ht]
        rw [e]
        have hd := h.do x (.inl hr)
        have := ih _ _ hd.1 hd.2 ho.2
        rw [hdr] at this
        exact ⟨⟨wrE_eq h (.inl hr) ho.1, this.1⟩, this.2⟩
    · rw [if_neg (rk_no hx)] at hdr
      have e : wiL s.rack (x :: l) = x :: wiL s.rack l := by rw [wiL, if_neg hx]
      rw [e]
      have hd := h.do x (.inl hr)
      have := ih _ _ hd.1 hd.2 ho.2
      rw [hdr] at this
      exact ⟨⟨wrE_eq h (.inl hr) ho.1, this.1⟩, this.2⟩
/-- what is left does the same -/
theorem tidy_run {N : Nat} {l : List Sx} (h : okR N s0 l) : okR N s0 (tidyL l) ∧ tell N (enR s0 (tidyL l)) = tell N (enR s0 l) := by
  have r : Lk s0 s0 := ⟨rfl, rfl, rfl, Nat.le_refl _⟩
  have a1 := wm_run N l s0 s0 r rfl h
  have a2 := wp_run N (wmL l) s0 s0 r (.inl rfl) a1.1
  have a3 := wi_run N (wpL (wmL l)) s0 s0 r rfl a2.1
  refine ⟨a3.1, ?_⟩
  show tell N (enR s0 (wiL 0 (wpL (wmL l)))) = _
  have b1 := a3.2.1
  have b2 := a2.2.1
  have b3 := a1.2.1
  have c := a3.2.2.trans (a2.2.2.trans a1.2.2)
  unfold tell
  rw [show (enR s0 (wiL 0 (wpL (wmL l)))).loops = (enR s0 l).loops from b1.lps.trans (b2.lps.trans b3.lps),
    show (enR s0 (wiL 0 (wpL (wmL l)))).on = (enR s0 l).on from b1.on.trans (b2.on.trans b3.on),
    show (enR s0 (wiL 0 (wpL (wmL l)))).loose = (enR s0 l).loose from b1.lse.trans (b2.lse.trans b3.lse),
    show (enR s0 (wiL 0 (wpL (wmL l)))).rack = (enR s0 l).rack from c]
theorem tidy_kn {N : Nat} {f : Nat → Sx} {n : Nat} (h : ∀ i, i < n → erS N f i = 0) : (∀ i, i < (tidyL (lsG f n)).length → erS N (fun j => (tidyL (lsG f n)).getD j x0) i = 0) ∧ tell N (knS N (fun j => (tidyL (lsG f n)).getD j x0) (tidyL (lsG f n)).length) = tell N (knS N f n) := by
  have h1 := tidy_run ((kn_list N f n).1.1 h)
  have k := kn_list N (fun j => (tidyL (lsG f n)).getD j x0) (tidyL (lsG f n)).length
  rw [lsG_list] at k
  have h2 := k.1.2 h1.1
  refine ⟨h2, ?_⟩
  rw [k.2 h2, (kn_list N f n).2 h]
  exact h1.2
end Go.Proofs.Ytancniamgfppiaa
