/-
  A text is read in one way alone; and what Read answers, of anything.
-/
import Derived.Test.YtncjbmafefeajaaDoorReadD
namespace Go.Proofs.YtncjbmafefeajaaDoor
open Go.RowKit

theorem Pre.cases_head {s : ByteArray} {a p : Nat} {cs : List Int} (h : Pre s a cs p) : (cs = [] ∧ p = a) ∨ ∃ c n cs', signAt s a = some (c, n) ∧ cs = c :: cs' ∧ Pre s (a + n) cs' p := by
  induction h using Pre.ind with
  | nil => exact Or.inl ⟨rfl, rfl⟩
  | @snoc cs p c n h1 h2 ih =>
    rcases ih with ⟨rfl, rfl⟩ | ⟨c0, n0, cs0, e0, rfl, k⟩
    · exact Or.inr ⟨c, n, [], h2, rfl, .nil⟩
    · exact Or.inr ⟨c0, n0, cs0 ++ [c], e0, rfl, .snoc k h2⟩
theorem Pre.det {s : ByteArray} (cs cs' : List Int) (a p p' : Nat) (h : Pre s a cs p) (h' : Pre s a cs' p') (hn : signAt s p = none) (hn' : signAt s p' = none) : cs = cs' ∧ p = p' := by
  induction cs generalizing cs' a with
  | nil =>
    rcases h.cases_head with ⟨_, e0⟩ | ⟨c, n, cs0, _, e, _⟩
    · rcases h'.cases_head with ⟨e1, e2⟩ | ⟨c, n, cs0, e, _, _⟩
      · exact ⟨e1.symm, e0.trans e2.symm⟩
      · rw [← e0, hn] at e; exact absurd e (by simp)
    · exact absurd e (by simp)
  | cons c0 cs ih =>
    rcases h.cases_head with ⟨e, _⟩ | ⟨c, n, cs0, e, e2, k⟩
    · exact absurd e (by simp)
    · have e2' := List.cons.inj e2
      rcases h'.cases_head with ⟨_, e3⟩ | ⟨c', n', cs1, e', e4, k'⟩
      · rw [← e3, hn'] at e; exact absurd e (by simp)
      · rw [e] at e'
        have e5 := Prod.mk.inj (Option.some.inj e')
        rw [← e2'.2] at k
        rw [← e5.2] at k'
        obtain ⟨x, y⟩ := ih cs1 (a + n) k k'
        exact ⟨by rw [e4, x, e2'.1, e5.1], y⟩
theorem RowsPre.last {s : ByteArray} {a p : Nat} {R : List (List Int)} (h : RowsPre s a R p) : (R = [] ∧ p = a) ∨ ∃ rows q cs e, R = rows ++ [cs] ∧ p = e + 1 ∧ RowsPre s a rows q ∧ Pre s q cs e ∧ signAt s e = none ∧ cs ≠ [] ∧ lf s e = true ∧ wrongR rows cs = 0 := by
  induction h using RowsPre.ind with
  | nil => exact Or.inl ⟨rfl, rfl⟩
  | @snoc rows q e cs h1 h2 h3 h4 h5 h6 _ => exact Or.inr ⟨rows, q, cs, e, rfl, rfl, h1, h2, h3, h4, h5, h6⟩
theorem RowsPre.det {s : ByteArray} {a : Nat} : ∀ (n : Nat) (R R' : List (List Int)) (p p' : Nat), R.length = n → R'.length = n → RowsPre s a R p → RowsPre s a R' p' → R = R' ∧ p = p'
  | 0, R, R', p, p', hn, hn', h, h' => by
    rcases h.last with ⟨rfl, rfl⟩ | ⟨rows, q, cs, e, rfl, _⟩
    · rcases h'.last with ⟨rfl, rfl⟩ | ⟨rows, q, cs, e, rfl, _⟩
      · exact ⟨rfl, rfl⟩
      · simp at hn'
    · simp at hn
  | n + 1, R, R', p, p', hn, hn', h, h' => by
    rcases h.last with ⟨rfl, rfl⟩ | ⟨rows, q, cs, e, rfl, rfl, h1, h2, h3, _⟩
    · simp at hn
    · rcases h'.last with ⟨rfl, rfl⟩ | ⟨rows', q', cs', e', rfl, rfl, h1', h2', h3', _⟩
      · simp at hn'
      · simp at hn hn'
        obtain ⟨rfl, rfl⟩ := RowsPre.det n rows rows' q q' hn hn' h1 h1'
        obtain ⟨rfl, rfl⟩ := Pre.det cs cs' q e e' h2 h2' h3 h3'
        exact ⟨rfl, rfl⟩
/-- the row that comes next, in what was read -/
theorem RowsPre.next {s : ByteArray} {a : Nat} {R : List (List Int)} {P : Nat} (h : RowsPre s a R P) : ∀ k, k < R.length → ∃ rows p cs e, rows.length = k ∧ RowsPre s a rows p ∧ Pre s p cs e ∧ signAt s e = none ∧ cs ≠ [] ∧ lf s e = true ∧ wrongR rows cs = 0 := by
  induction h using RowsPre.ind with
  | nil => intro k hk; simp at hk
  | @snoc rows p e cs h1 h2 h3 h4 h5 h6 ih =>
    intro k hk
    simp at hk
    by_cases e' : k = rows.length
    · exact ⟨rows, p, cs, e, e'.symm, h1, h2, h3, h4, h5, h6⟩
    · exact ih k (by omega)
theorem row_lt {s : ByteArray} {p e : Nat} {cs : List Int} (h : Pre s p cs e) (hl : lf s e = true) : p < s.size := by
  have := h.range.1
  have := lf_lt hl
  omega
/-- the rows of a text that is read whole -/
def RowsGood (s : ByteArray) (a : Nat) (rows : List (List Int)) : Prop := ∃ p, RowsPre s a rows p ∧ rows ≠ [] ∧ ¬ p < s.size
theorem good_good {s : ByteArray} {a : Nat} {R R' : List (List Int)} (h : RowsGood s a R) (h' : RowsGood s a R') : R = R' := by
  obtain ⟨p, h1, _, h3⟩ := h
  obtain ⟨p', h1', _, h3'⟩ := h'
  have key : ∀ {R R' : List (List Int)} {p p' : Nat}, RowsPre s a R p → ¬ p < s.size → RowsPre s a R' p' → ¬ R.length < R'.length := by
    intro R R' p p' h1 h3 h1' hl
    obtain ⟨rows, q, cs, e, hk, k1, k2, _, _, k5, _⟩ := h1'.next R.length hl
    obtain ⟨rfl, rfl⟩ := RowsPre.det _ _ _ _ _ hk rfl k1 h1
    exact h3 (row_lt k2 k5)
  have a1 := key h1 h3 h1'
  have a2 := key h1' h3' h1
  exact (RowsPre.det R.length R R' p p' rfl (by omega) h1 h1').1
theorem good_fail {s : ByteArray} {a : Nat} {R : List (List Int)} {er at' : Int} (h : RowsGood s a R) (h' : RowsFail s a er at') : False := by
  obtain ⟨p, h1, h2, h3⟩ := h
  obtain ⟨rows, q, cs, e, k1, k2, k3, k4, k5⟩ := h'
  by_cases hl : rows.length < R.length
  · obtain ⟨rows', q', cs', e', hk, m1, m2, m3, m4, m5, m6⟩ := h1.next rows.length hl
    obtain ⟨rfl, rfl⟩ := RowsPre.det _ _ _ _ _ hk rfl m1 k1
    obtain ⟨rfl, rfl⟩ := Pre.det _ _ _ _ _ m2 k3 m3 k4
    rcases k5 with ⟨x | x, _⟩ | ⟨_, x, _⟩
    · exact m4 x
    · rw [m5] at x; cases x
    · exact x m6
  · by_cases he : rows.length = R.length
    · obtain ⟨rfl, rfl⟩ := RowsPre.det _ _ _ _ _ he rfl k1 h1
      rcases k2 with x | x
      · exact h2 x
      · exact h3 x
    · obtain ⟨rows', q', cs', e', hk, m1, m2, m3, m4, m5, m6⟩ := k1.next R.length (by omega)
      obtain ⟨rfl, rfl⟩ := RowsPre.det _ _ _ _ _ hk rfl m1 h1
      exact h3 (row_lt m2 m5)
theorem fail_fail {s : ByteArray} {a : Nat} {er at' er' at'' : Int} (h : RowsFail s a er at') (h' : RowsFail s a er' at'') : er = er' ∧ at' = at'' := by
  have key : ∀ {rows R : List (List Int)} {q p : Nat} {cs : List Int} {e : Nat}, RowsPre s a rows q → Pre s q cs e → signAt s e = none → ((cs = [] ∨ lf s e = false) ∨ wrongR rows cs ≠ 0) → RowsPre s a R p → ¬ rows.length < R.length := by
    intro rows R q p cs e k1 k3 k4 k5 h1 hl
    obtain ⟨rows', q', cs', e', hk, m1, m2, m3, m4, m5, m6⟩ := h1.next rows.length hl
    obtain ⟨rfl, rfl⟩ := RowsPre.det _ _ _ _ _ hk rfl m1 k1
    obtain ⟨rfl, rfl⟩ := Pre.det _ _ _ _ _ m2 k3 m3 k4
    rcases k5 with (x | x) | x
    · exact m4 x
    · rw [m5] at x; cases x
    · exact x m6
  obtain ⟨rows, q, cs, e, k1, k2, k3, k4, k5⟩ := h
  obtain ⟨R, p, ds, f, l1, l2, l3, l4, l5⟩ := h'
  have a1 := key k1 k3 k4 (by rcases k5 with x | x; exact Or.inl x.1; exact Or.inr x.2.1) l1
  have a2 := key l1 l3 l4 (by rcases l5 with x | x; exact Or.inl x.1; exact Or.inr x.2.1) k1
  obtain ⟨rfl, rfl⟩ := RowsPre.det _ _ _ _ _ rfl (show R.length = rows.length by omega) k1 l1
  obtain ⟨rfl, rfl⟩ := Pre.det _ _ _ _ _ k3 l3 k4 l4
  rcases k5 with ⟨x, rfl, rfl⟩ | ⟨⟨x1, x2⟩, x3, rfl, rfl⟩
  · rcases l5 with ⟨y, rfl, rfl⟩ | ⟨⟨y1, y2⟩, y3, rfl, rfl⟩
    · exact ⟨rfl, rfl⟩
    · rcases x with x | x
      · exact absurd x y1
      · rw [y2] at x; cases x
  · rcases l5 with ⟨y, rfl, rfl⟩ | ⟨⟨y1, y2⟩, y3, rfl, rfl⟩
    · rcases y with y | y
      · exact absurd y x1
      · rw [x2] at y; cases y
    · exact ⟨rfl, rfl⟩

theorem rows_good (s : ByteArray) (a : Nat) (R : List (List Int)) (hs : s.size ≤ 65536) (ha : a ≤ s.size) (h : RowsGood s a R) : RowsOk s a R := by
  intro V hV
  refine (readRows_any s a V hs ha hV).mono ?_
  rintro e w' ⟨v, er, at', rfl, hend, hb⟩
  rcases hend with ⟨rfl, rfl, rows, p, vs, k1, k2, k3, k4, k5⟩ | ⟨rfl, k⟩
  · obtain rfl := good_good ⟨p, k1, k2, k3⟩ h
    exact ⟨v, vs, rfl, k4, k5, hb⟩
  · exact (good_fail h k).elim
theorem rows_bad (s : ByteArray) (a : Nat) (er at' : Int) (hs : s.size ≤ 65536) (ha : a ≤ s.size) (h : RowsFail s a er at') : RowsBad s a er at' := by
  intro V hV
  refine (readRows_any s a V hs ha hV).mono ?_
  rintro e w' ⟨v, er', at'', rfl, hend, hb⟩
  rcases hend with ⟨rfl, rfl, rows, p, vs, k1, k2, k3, k4, k5⟩ | ⟨rfl, k⟩
  · exact (good_fail ⟨p, k1, k2, k3⟩ h).elim
  · obtain ⟨rfl, rfl⟩ := fail_fail k h
    exact ⟨rfl, hb⟩

/-- a text that is a chart's -/
def Text (s : ByteArray) (g : Int) (rows : List (List Int)) : Prop := s.size ≤ 65536 ∧ (g = 4 ∨ g = 6) ∧ grid (Lib.decodeGo s).1 = g ∧ lf s (Lib.decodeGo s).2 = true ∧ RowsGood s ((Lib.decodeGo s).2 + 1) rows
theorem read_text (s : ByteArray) (g : Int) (rows : List (List Int)) (W : World) (h : Text s g rows) (hT : Tabs W) : ReadOk s W g rows := by
  obtain ⟨h1, h2, h3, h4, h5⟩ := h
  have hlt := lf_lt h4
  have h5' := h5
  obtain ⟨p, k1, k2, _⟩ := h5'
  have hr := k1.range
  refine read_ok s W h1 g ((Lib.decodeGo s).2 + 1) rows k2 hr.2.1 (fun cs hc => ⟨(hr.2.2 cs hc).1, (hr.2.2 cs hc).2.1⟩) (hide fun V hV => ?_) (hide (rows_good s _ rows h1 (by omega) h5)) hT
  have := readGrid_line s V hV g _ rfl h3 h2 true h4
  simpa using this
end Go.Proofs.YtncjbmafefeajaaDoor
