/-
  The mathematics of a loom in a workshop: what is kept whatever happens, and that whoever goes on has the cloth.
-/
import Derived.Test.YtndfecdhmncdaaaDoC
namespace Go.Proofs.Ytndfecdhmncdaaa

/-- a loom in a workshop: the loom; what it wants done; shafts up, shuttle through; the row in the shed, the rows that were beaten; whether it did what cannot be done -/
abbrev WSt := LS × Int × Bool × Bool × Option Nat × List (Option Nat) × Bool
def tellS (h : Nat) (ev : Int) : WSt → WSt
  | (s, td, up, th, ro, rs, bad) =>
    if (doS h ev s).2.1 ≠ 0 ∨ (doS h ev s).1 = 0 then ((doS h ev s).2.2, td, up, th, ro, rs, bad)
    else if (doS h ev s).1 = 1 then ((doS h ev s).2.2, 1, false, false, ro, rs, bad)
    else if (doS h ev s).1 = 2 then ((doS h ev s).2.2, 2, up, th, ro, rs, bad || !up)
    else if (doS h ev s).1 = 3 then ((doS h ev s).2.2, 3, up, th, ro, rs, (bad || !up) || !th)
    else ((doS h ev s).2.2, (doS h ev s).1, up, th, ro, rs, bad)
def nextS (h : Nat) : WSt → WSt
  | (s, td, up, th, ro, rs, bad) =>
    if s.1 = 0 then tellS h 1 (s, td, up, th, ro, rs, bad)
    else if s.1 = 1 then tellS h 2 (s, td, true, th, some s.2.1, rs, bad)
    else if s.1 = 2 then tellS h 3 (s, td, up, true, ro, rs, bad)
    else if s.1 = 3 then tellS h 5 (s, td, up, th, ro, rs, bad)
    else if s.1 = 4 then (if td = 3 then tellS h 6 (s, 0, up, th, ro, rs ++ [ro], bad) else tellS h 6 (s, td, up, th, ro, rs, bad))
    else if s.1 = 5 then (if s.2.1 < rs.length then tellS h 8 (s, td, up, th, ro, rs, bad) else tellS h 9 (s, td, up, th, ro, rs, bad))
    else (s, td, up, th, ro, rs, bad)
def openS (h : Nat) (g : Nat → Int) (lf : Int) : LS := (fsS (g 1) (woN (g 0) h) h, woN (g 0) h, false, false, g, lf)
def turnS (h : Nat) (t : Int) : WSt → WSt
  | ((st, wv, sp, dd, g, lf), td, up, th, ro, rs, bad) =>
    if t = 1 then ((st, wv, sp, dd, g, 0), td, up, th, ro, rs, bad)
    else if t = 2 then (openS h g (-1), 0, false, false, ro, if td = 3 then rs ++ [ro] else rs, bad)
    else if t = 3 then (openS h g (-1), 0, false, false, ro, rs, bad)
    else if t = 4 then tellS h 4 ((st, wv, sp, dd, g, lf), td, up, th, ro, rs, bad)
    else if t = 5 then tellS h 7 ((st, wv, sp, dd, g, lf), td, up, th, ro, rs, bad)
    else nextS h ((st, wv, sp, dd, g, lf), td, up, th, ro, rs, bad)
def beginS (h : Nat) : WSt := (openS h (fun _ => 0) (-1), 0, false, false, none, [], false)
def liveS (h : Nat) (l : List Int) : WSt := l.foldl (fun x t => turnS h t x) (beginS h)
theorem liveS_snoc (h : Nat) (l : List Int) (t : Int) : liveS h (l ++ [t]) = turnS h t (liveS h l) := by simp [liveS]
theorem liveS_app (h : Nat) (l m : List Int) : liveS h (l ++ m) = m.foldl (fun x t => turnS h t x) (liveS h l) := by simp [liveS]

/-- what is kept -/
def Inv (h : Nat) : WSt → Prop
  | ((st, wv, _, _, g, lf), td, up, _, ro, rs, bad) =>
    bad = false ∧ g 0 = (wv : Int) ∧ lf ≤ 0 ∧ rs = (List.range rs.length).map some ∧
    ((st = 0 ∧ wv < h ∧ rs.length = wv ∧ g 1 ≠ (wv : Int) + 1 ∧ td ≠ 3) ∨
     (st = 1 ∧ wv < h ∧ rs.length = wv ∧ g 1 ≠ (wv : Int) + 1 ∧ td ≠ 3) ∨
     (st = 2 ∧ wv < h ∧ rs.length = wv ∧ g 1 ≠ (wv : Int) + 1 ∧ td ≠ 3 ∧ up = true ∧ ro = some wv) ∨
     (st = 3 ∧ wv < h ∧ rs.length = wv ∧ g 1 ≠ (wv : Int) + 1 ∧ td ≠ 3) ∨
     (st = 4 ∧ wv < h ∧ g 1 = (wv : Int) + 1 ∧ ro = some wv ∧ ((td = 3 ∧ rs.length = wv) ∨ (td ≠ 3 ∧ rs.length = wv + 1))) ∨
     (st = 5 ∧ wv < h ∧ g 1 = (wv : Int) + 1 ∧ td ≠ 3 ∧ (rs.length = wv ∨ rs.length = wv + 1)) ∨
     (st = 6 ∧ wv = h ∧ rs.length = wv ∧ td ≠ 3))

theorem range_more {l : List (Option Nat)} {k : Nat} (h : l = (List.range l.length).map some) (hk : l.length = k) : l ++ [some k] = (List.range (l ++ [some k]).length).map some := by
  rw [List.length_append, List.length_singleton, List.range_succ, List.map_append, ← h, hk]
  rfl
theorem lfN_le {lf : Int} (h : lf ≤ 0) : lfN lf ≤ 0 := by unfold lfN; split <;> omega

theorem inv_begin (h : Nat) (h0 : 0 < h) : Inv h (beginS h) := by
  have e : woN 0 h = 0 := by unfold woN; split <;> rfl
  have e2 : ¬ (0 = h) := by omega
  simp [beginS, openS, Inv, e, fsS, e2]
  omega

theorem inv_open {h wv : Nat} {st : Int} {sp dd : Bool} {g : Nat → Int} {lf td : Int} {up th : Bool} {ro : Option Nat} {rs : List (Option Nat)} {bad : Bool} (k : Inv h ((st, wv, sp, dd, g, lf), td, up, th, ro, rs, bad)) :
    Inv h (openS h g (-1), 0, false, false, ro, rs, bad) ∧ Inv h (openS h g (-1), 0, false, false, ro, if td = 3 then rs ++ [ro] else rs, bad) := by
  obtain ⟨k1, k2, k3, k4, k5⟩ := k
  have hle : wv ≤ h := by rcases k5 with q | q | q | q | q | q | q <;> omega
  have e : woN (g 0) h = wv := by unfold woN; rw [k2, if_pos (by omega)]; omega
  have key : ∀ l : List (Option Nat), l = (List.range l.length).map some → (l.length = wv ∨ (l.length = wv + 1 ∧ g 1 = (wv : Int) + 1)) → (wv = h → l.length = wv) → Inv h (openS h g (-1), 0, false, false, ro, l, bad) := by
    clear k5
    intro l h1 h2 h3
    simp only [Inv, openS, e]
    refine ⟨k1, k2, by decide, h1, ?_⟩
    unfold fsS
    by_cases c : wv = h
    · rw [if_pos c]
      exact .inr (.inr (.inr (.inr (.inr (.inr ⟨rfl, c, h3 c, by decide⟩)))))
    · rw [if_neg c]
      by_cases c2 : g 1 = (wv : Int) + 1
      · rw [if_pos c2]
        exact .inr (.inr (.inr (.inr (.inr (.inl ⟨rfl, by omega, c2, by decide, h2.imp id And.left⟩)))))
      · rw [if_neg c2]
        exact .inl ⟨rfl, by omega, by rcases h2 with h2 | h2; exact h2; exact absurd h2.2 c2, c2, by decide⟩
  have hr : (rs.length = wv ∨ (rs.length = wv + 1 ∧ g 1 = (wv : Int) + 1)) ∧ (wv = h → rs.length = wv) := by
    rcases k5 with q | q | q | q | q | q | q <;> omega
  refine ⟨key rs k4 hr.1 hr.2, ?_⟩
  by_cases c : td = 3
  · rw [if_pos c]
    obtain ⟨rfl, hl, hg⟩ : ro = some wv ∧ rs.length = wv ∧ g 1 = (wv : Int) + 1 := by
      rcases k5 with q | q | q | q | q | q | q
      · exact absurd c q.2.2.2.2
      · exact absurd c q.2.2.2.2
      · exact absurd c q.2.2.2.2.1
      · exact absurd c q.2.2.2.2
      · obtain ⟨q1, q2, q3, q4, q5⟩ := q
        refine ⟨q4, ?_, q3⟩
        rcases q5 with q5 | q5
        · exact q5.2
        · exact absurd c q5.1
      · exact absurd c q.2.2.2.1
      · exact absurd c q.2.2.2
    have hlt : wv < h := by
      rcases k5 with q | q | q | q | q | q | q
      all_goals first | exact q.2.1 | exact absurd c q.2.2.2
    exact key _ (range_more k4 hl) (.inr ⟨by simp; omega, hg⟩) (fun e => by omega)
  · rw [if_neg c]
    exact key rs k4 hr.1 hr.2

/-- what an event does, where it may come -/
theorem doS_no (h : Nat) (ev st : Int) (wv : Nat) (sp dd : Bool) (g : Nat → Int) (lf : Int) (he : evB ev = true) (hd : (dd || !may ev st) = true) : doS h ev (st, wv, sp, dd, g, lf) = (0, 9, (st, wv, sp, dd, g, lf)) := by
  rw [doS, if_neg (by simp [he]), if_pos hd]
theorem tellS_none (h : Nat) (ev : Int) (s s' : LS) (ds er td : Int) (up th : Bool) (ro : Option Nat) (rs : List (Option Nat)) (bad : Bool) (e : doS h ev s = (ds, er, s')) (k : er ≠ 0 ∨ ds = 0) : tellS h ev (s, td, up, th, ro, rs, bad) = (s', td, up, th, ro, rs, bad) := by
  rw [tellS, e, if_pos k]
theorem tellS_1 (h : Nat) (ev : Int) (s s' : LS) (td : Int) (up th : Bool) (ro : Option Nat) (rs : List (Option Nat)) (bad : Bool) (e : doS h ev s = (1, 0, s')) : tellS h ev (s, td, up, th, ro, rs, bad) = (s', 1, false, false, ro, rs, bad) := by
  rw [tellS, e]; rfl
theorem tellS_2 (h : Nat) (ev : Int) (s s' : LS) (td : Int) (up th : Bool) (ro : Option Nat) (rs : List (Option Nat)) (bad : Bool) (e : doS h ev s = (2, 0, s')) : tellS h ev (s, td, up, th, ro, rs, bad) = (s', 2, up, th, ro, rs, bad || !up) := by
  rw [tellS, e]; rfl
theorem tellS_3 (h : Nat) (ev : Int) (s s' : LS) (td : Int) (up th : Bool) (ro : Option Nat) (rs : List (Option Nat)) (bad : Bool) (e : doS h ev s = (3, 0, s')) : tellS h ev (s, td, up, th, ro, rs, bad) = (s', 3, up, th, ro, rs, (bad || !up) || !th) := by
  rw [tellS, e]; rfl
theorem tellS_4 (h : Nat) (ev : Int) (s s' : LS) (td : Int) (up th : Bool) (ro : Option Nat) (rs : List (Option Nat)) (bad : Bool) (e : doS h ev s = (4, 0, s')) : tellS h ev (s, td, up, th, ro, rs, bad) = (s', 4, up, th, ro, rs, bad) := by
  rw [tellS, e]; rfl

/-- how many steps are left at the most, if nothing happens -/
def leftN (h : Nat) (st : Int) (wv : Nat) : Nat :=
  if st = 6 then 0 else if st = 4 then 3 * (h - wv - 1) + 1 else if st = 2 then 3 * (h - wv - 1) + 2 else if st = 1 then 3 * (h - wv - 1) + 3 else if st = 5 then 3 * (h - wv - 1) + 5 else 3 * (h - wv - 1) + 4
/-- nothing is in its way -/
def Good (s : LS) : Prop := s.2.2.1 = false ∧ s.2.2.2.1 = false ∧ s.2.2.2.2.2 < 0

/-- what comes of a step: what is kept is kept; and if nothing is in its way, fewer steps are left -/
def Fine (h : Nat) (s : LS) (y : WSt) : Prop := Inv h y ∧ (Good s → Good y.1 ∧ leftN h y.1.1 y.1.2.1 ≤ leftN h s.1 s.2.1 - 1)

/-- behind a pick -/
theorem fine_end {h wv : Nat} {st : Int} {sp : Bool} {g : Nat → Int} {lf td : Int} {up th : Bool} {ro : Option Nat} {rs : List (Option Nat)} {bad : Bool} (ev : Int) (hev : (ev = 6 ∧ st = 4) ∨ (ev = 8 ∧ st = 5)) (k1 : bad = false) (k3 : lf < 0) (k4 : rs = (List.range rs.length).map some) (h1 : wv < h) (h2 : rs.length = wv + 1) (h3 : g 1 = (wv : Int) + 1) :
    Fine h (st, wv, sp, false, g, lf) (tellS h ev ((st, wv, sp, false, g, lf), td, up, th, ro, rs, bad)) := by
  have hl : ¬ lf = 0 := by omega
  have e : doS h ev (st, wv, sp, false, g, lf) = (nxD h wv sp st, 0, (nxS h wv sp st, wv + 1, false, false, ptW g 0 ((wv : Int) + 1), lfN lf)) := by
    rcases hev with ⟨rfl, rfl⟩ | ⟨rfl, rfl⟩ <;> simp [doS, evB, may, hl]
  have eg0 : ptW g 0 ((wv : Int) + 1) 0 = ((wv + 1 : Nat) : Int) := by simp [ptW]
  have eg1 : ptW g 0 ((wv : Int) + 1) 1 = (wv : Int) + 1 := by simp [ptW, h3]
  have el : lfN lf = lf := by unfold lfN; rw [if_neg (by omega)]
  by_cases c : wv + 1 = h
  · have d1 : nxD h wv sp st = 4 := by unfold nxD; rw [if_pos c]
    have d2 : nxS h wv sp st = 6 := by unfold nxS; rw [if_pos c]
    rw [d1, d2, el] at e
    rw [tellS_4 _ _ _ _ _ _ _ _ _ _ e]
    refine ⟨⟨k1, eg0, by omega, k4, .inr (.inr (.inr (.inr (.inr (.inr ⟨rfl, c, h2, by decide⟩)))))⟩, fun _ => ⟨⟨rfl, rfl, k3⟩, ?_⟩⟩
    simp [leftN]
  · cases c2 : sp || st == 5 with
    | true =>
      have d1 : nxD h wv sp st = 4 := by unfold nxD; rw [if_neg c, if_pos c2]
      have d2 : nxS h wv sp st = 0 := by unfold nxS; rw [if_neg c, if_pos c2]
      rw [d1, d2, el] at e
      rw [tellS_4 _ _ _ _ _ _ _ _ _ _ e]
      refine ⟨⟨k1, eg0, by omega, k4, .inl ⟨rfl, by omega, h2, by rw [eg1]; omega, by decide⟩⟩, fun q => ⟨⟨rfl, rfl, k3⟩, ?_⟩⟩
      have hs : st = 5 := by
        have := q.1
        dsimp only at this
        simpa [this] using c2
      simp [leftN, hs]
      omega
    | false =>
      have d1 : nxD h wv sp st = 1 := by unfold nxD; rw [if_neg c, c2]; rfl
      have d2 : nxS h wv sp st = 1 := by unfold nxS; rw [if_neg c, c2]; rfl
      rw [d1, d2, el] at e
      rw [tellS_1 _ _ _ _ _ _ _ _ _ _ e]
      refine ⟨⟨k1, eg0, by omega, k4, .inr (.inl ⟨rfl, by omega, h2, by rw [eg1]; omega, by decide⟩)⟩, fun q => ⟨⟨rfl, rfl, k3⟩, ?_⟩⟩
      rcases hev with ⟨-, rfl⟩ | ⟨-, rfl⟩
      · simp [leftN]
        omega
      · simp at c2

theorem fine_next {h wv : Nat} {st : Int} {sp dd : Bool} {g : Nat → Int} {lf td : Int} {up th : Bool} {ro : Option Nat} {rs : List (Option Nat)} {bad : Bool} (k : Inv h ((st, wv, sp, dd, g, lf), td, up, th, ro, rs, bad)) :
    Fine h (st, wv, sp, dd, g, lf) (nextS h ((st, wv, sp, dd, g, lf), td, up, th, ro, rs, bad)) := by
  have K := k
  obtain ⟨k1, k2, k3, k4, k5⟩ := k
  cases dd with
  | true =>
    have ng : ∀ y : Prop, Good (st, wv, sp, true, g, lf) → y := fun y q => by have := q.2.1; simp at this
    have none : ∀ (ev : Int) (td : Int) (up th : Bool) (ro : Option Nat) (rs : List (Option Nat)), evB ev = true → tellS h ev ((st, wv, sp, true, g, lf), td, up, th, ro, rs, bad) = ((st, wv, sp, true, g, lf), td, up, th, ro, rs, bad) :=
      fun ev td up th ro rs he => tellS_none _ _ _ _ 0 9 _ _ _ _ _ _ (doS_no h ev st wv sp true g lf he rfl) (.inl (by decide))
    refine ⟨?_, ng _⟩
    rcases k5 with q | q | q | q | q | q | q
    · obtain ⟨rfl, -⟩ := q
      simp only [nextS, if_true]
      rw [none _ _ _ _ _ _ rfl]; exact K
    · obtain ⟨rfl, q⟩ := q
      simp only [nextS, Int.one_ne_zero, if_true, if_false]
      rw [none _ _ _ _ _ _ rfl]
      exact ⟨k1, k2, k3, k4, .inr (.inl ⟨rfl, q⟩)⟩
    · obtain ⟨rfl, q⟩ := q
      simp only [nextS]
      rw [if_neg (by decide), if_neg (by decide), if_pos (by decide), none _ _ _ _ _ _ rfl]
      exact ⟨k1, k2, k3, k4, .inr (.inr (.inl ⟨rfl, q⟩))⟩
    · obtain ⟨rfl, -⟩ := q
      simp only [nextS]
      rw [if_neg (by decide), if_neg (by decide), if_neg (by decide), if_pos (by decide), none _ _ _ _ _ _ rfl]; exact K
    · obtain ⟨rfl, q1, q2, rfl, q3⟩ := q
      simp only [nextS]
      rw [if_neg (by decide), if_neg (by decide), if_neg (by decide), if_neg (by decide), if_pos (by decide)]
      by_cases c : td = 3
      · rw [if_pos c, none _ _ _ _ _ _ rfl]
        have hl : rs.length = wv := by
          rcases q3 with q3 | q3
          · exact q3.2
          · exact absurd c q3.1
        exact ⟨k1, k2, k3, range_more k4 hl, .inr (.inr (.inr (.inr (.inl ⟨rfl, q1, q2, rfl, .inr ⟨by decide, by simp [hl]⟩⟩))))⟩
      · rw [if_neg c, none _ _ _ _ _ _ rfl]; exact K
    · obtain ⟨rfl, -⟩ := q
      simp only [nextS]
      rw [if_neg (by decide), if_neg (by decide), if_neg (by decide), if_neg (by decide), if_neg (by decide), if_pos (by decide)]
      split
      · rw [none _ _ _ _ _ _ rfl]; exact K
      · rw [none _ _ _ _ _ _ rfl]; exact K
    · obtain ⟨rfl, -⟩ := q
      simp only [nextS]
      rw [if_neg (by decide), if_neg (by decide), if_neg (by decide), if_neg (by decide), if_neg (by decide), if_neg (by decide)]; exact K
  | false =>
    rcases k5 with q | q | q | q | q | q | q
    · obtain ⟨rfl, q1, q2, q3, q4⟩ := q
      simp only [nextS, if_true]
      rw [tellS_1 _ _ _ (1, wv, sp, false, g, lf) _ _ _ _ _ _ (by simp [doS, evB, may])]
      exact ⟨⟨k1, k2, k3, k4, .inr (.inl ⟨rfl, q1, q2, q3, by decide⟩)⟩, fun q => ⟨q, by simp [leftN]⟩⟩
    · obtain ⟨rfl, q1, q2, q3, q4⟩ := q
      simp only [nextS, Int.one_ne_zero, if_true, if_false]
      rw [tellS_2 _ _ _ (2, wv, sp, false, g, lf) _ _ _ _ _ _ (by simp [doS, evB, may])]
      exact ⟨⟨by simp [k1], k2, k3, k4, .inr (.inr (.inl ⟨rfl, q1, q2, q3, by decide, rfl, rfl⟩))⟩, fun q => ⟨q, by simp [leftN]⟩⟩
    · obtain ⟨rfl, q1, q2, q3, q4, rfl, rfl⟩ := q
      simp only [nextS]
      rw [if_neg (by decide), if_neg (by decide), if_pos (by decide)]
      by_cases c : lf = 0
      · rw [tellS_none _ _ _ (2, wv, sp, true, g, lf) 0 11 _ _ _ _ _ _ (by simp [doS, evB, may, c]) (.inl (by decide))]
        exact ⟨⟨k1, k2, k3, k4, .inr (.inr (.inl ⟨rfl, q1, q2, q3, q4, rfl, rfl⟩))⟩, fun q => by have := q.2.2; dsimp only at this; omega⟩
      · have el : lfN lf = lf := by unfold lfN; rw [if_neg (by omega)]
        rw [tellS_3 _ _ _ (4, wv, sp, false, ptW g 1 ((wv : Int) + 1), lf) _ _ _ _ _ _ (by simp [doS, evB, may, c, el])]
        exact ⟨⟨by simp [k1], by simp [ptW, k2], k3, k4, .inr (.inr (.inr (.inr (.inl ⟨rfl, q1, by simp [ptW], rfl, .inl ⟨rfl, q2⟩⟩))))⟩, fun q => ⟨q, by simp [leftN]⟩⟩
    · obtain ⟨rfl, q1, q2, q3, q4⟩ := q
      simp only [nextS]
      rw [if_neg (by decide), if_neg (by decide), if_neg (by decide), if_pos (by decide)]
      rw [tellS_1 _ _ _ (1, wv, sp, false, g, lf) _ _ _ _ _ _ (by simp [doS, evB, may])]
      exact ⟨⟨k1, k2, k3, k4, .inr (.inl ⟨rfl, q1, q2, q3, by decide⟩)⟩, fun q => ⟨q, by simp [leftN]⟩⟩
    · obtain ⟨rfl, q1, q2, rfl, q3⟩ := q
      simp only [nextS]
      rw [if_neg (by decide), if_neg (by decide), if_neg (by decide), if_neg (by decide), if_pos (by decide)]
      have key : ∀ (t2 : Int) (l : List (Option Nat)), t2 ≠ 3 → l = (List.range l.length).map some → l.length = wv + 1 → Fine h (4, wv, sp, false, g, lf) (tellS h 6 ((4, wv, sp, false, g, lf), t2, up, th, some wv, l, bad)) := by
        intro t2 l ht hl hn
        by_cases c : lf = 0
        · rw [tellS_none _ _ _ (4, wv, sp, true, g, lf) 0 11 _ _ _ _ _ _ (by simp [doS, evB, may, c]) (.inl (by decide))]
          exact ⟨⟨k1, k2, k3, hl, .inr (.inr (.inr (.inr (.inl ⟨rfl, q1, q2, rfl, .inr ⟨ht, hn⟩⟩))))⟩, fun q => by have := q.2.2; dsimp only at this; omega⟩
        · exact fine_end 6 (.inl ⟨rfl, rfl⟩) k1 (by omega) hl q1 hn q2
      by_cases c : td = 3
      · rw [if_pos c]
        have hl : rs.length = wv := by
          rcases q3 with q3 | q3
          · exact q3.2
          · exact absurd c q3.1
        exact key 0 _ (by decide) (range_more k4 hl) (by simp [hl])
      · rw [if_neg c]
        refine key td rs c k4 ?_
        rcases q3 with q3 | q3
        · exact absurd q3.1 c
        · exact q3.2
    · obtain ⟨rfl, q1, q2, q3, q4⟩ := q
      simp only [nextS]
      rw [if_neg (by decide), if_neg (by decide), if_neg (by decide), if_neg (by decide), if_neg (by decide), if_pos (by decide)]
      by_cases c : lf = 0
      · have : ∀ ev : Int, (ev = 8 ∨ ev = 9) → Fine h (5, wv, sp, false, g, lf) (tellS h ev ((5, wv, sp, false, g, lf), td, up, th, ro, rs, bad)) := by
          rintro ev (rfl | rfl)
          all_goals
            rw [tellS_none _ _ _ (5, wv, sp, true, g, lf) 0 11 _ _ _ _ _ _ (by simp [doS, evB, may, c]) (.inl (by decide))]
            exact ⟨⟨k1, k2, k3, k4, .inr (.inr (.inr (.inr (.inr (.inl ⟨rfl, q1, q2, q3, q4⟩)))))⟩, fun q => by have := q.2.2; dsimp only at this; omega⟩
        split
        · exact this 8 (.inl rfl)
        · exact this 9 (.inr rfl)
      · by_cases c2 : wv < rs.length
        · rw [if_pos c2]
          exact fine_end 8 (.inr ⟨rfl, rfl⟩) k1 (by omega) k4 q1 (by omega) q2
        · rw [if_neg c2]
          have el : lfN lf = lf := by unfold lfN; rw [if_neg (by omega)]
          rw [tellS_none _ _ _ (0, wv, sp, false, ptW g 1 0, lf) 0 0 _ _ _ _ _ _ (by simp [doS, evB, may, c, el]) (.inr rfl)]
          exact ⟨⟨k1, by simp [ptW, k2], k3, k4, .inl ⟨rfl, q1, by omega, by simp [ptW]; omega, q3⟩⟩, fun q => ⟨q, by simp [leftN]⟩⟩
    · obtain ⟨rfl, q⟩ := q
      simp only [nextS]
      rw [if_neg (by decide), if_neg (by decide), if_neg (by decide), if_neg (by decide), if_neg (by decide), if_neg (by decide)]
      exact ⟨K, fun q => ⟨q, by simp [leftN]⟩⟩

theorem inv_turn {h : Nat} {x : WSt} (t : Int) (k : Inv h x) : Inv h (turnS h t x) := by
  obtain ⟨⟨st, wv, sp, dd, g, lf⟩, td, up, th, ro, rs, bad⟩ := x
  rw [turnS]
  split
  · exact ⟨k.1, k.2.1, Int.le_refl _, k.2.2.2⟩
  split
  · exact (inv_open k).2
  split
  · exact (inv_open k).1
  split
  · by_cases c : (dd || !may 4 st) = true
    · rw [tellS_none _ _ _ _ 0 9 _ _ _ _ _ _ (doS_no h 4 st wv sp dd g lf rfl c) (.inl (by decide))]
      exact k
    · obtain ⟨rfl, c2⟩ : dd = false ∧ may 4 st = true := by simpa using c
      obtain rfl : st = 2 := by simpa [may] using c2
      rw [tellS_4 _ _ _ (3, wv, sp, false, g, lf) _ _ _ _ _ _ (by simp [doS, evB, may])]
      obtain ⟨k1, k2, k3, k4, k5⟩ := k
      rcases k5 with q | q | q | q | q | q | q
      all_goals try (exact absurd q.1 (by decide))
      exact ⟨k1, k2, k3, k4, .inr (.inr (.inr (.inl ⟨rfl, q.2.1, q.2.2.1, q.2.2.2.1, by decide⟩)))⟩
  split
  · by_cases c : (dd || !may 7 st) = true
    · rw [tellS_none _ _ _ _ 0 9 _ _ _ _ _ _ (doS_no h 7 st wv sp dd g lf rfl c) (.inl (by decide))]
      exact k
    · rw [tellS_none _ _ _ (st, wv, true, dd, g, lf) 0 0 _ _ _ _ _ _ (by
        rw [doS, if_neg (by simp [evB]), if_neg c]; rfl) (.inr rfl)]
      exact k
  · exact (fine_next k).1
theorem inv_live {h : Nat} (h0 : 0 < h) (l : List Int) : Inv h (liveS h l) := by
  unfold liveS
  have : ∀ (l : List Int) (x : WSt), Inv h x → Inv h (l.foldl (fun x t => turnS h t x) x) := by
    intro l
    induction l with
    | nil => intro x hx; exact hx
    | cons t l ih => intro x hx; exact ih _ (inv_turn t hx)
  exact this l _ (inv_begin h h0)

theorem zeros {h : Nat} : ∀ (m : Nat) (x : WSt), Inv h x → Good x.1 → leftN h x.1.1 x.1.2.1 ≤ m → leftN h ((List.replicate m (0 : Int)).foldl (fun x t => turnS h t x) x).1.1 ((List.replicate m (0 : Int)).foldl (fun x t => turnS h t x) x).1.2.1 = 0 := by
  intro m
  induction m with
  | zero => intro x _ _ hl; simpa using hl
  | succ m ih =>
    intro x hx hg hl
    obtain ⟨⟨st, wv, sp, dd, g, lf⟩, td, up, th, ro, rs, bad⟩ := x
    rw [List.replicate_succ, List.foldl_cons]
    have e : turnS h 0 ((st, wv, sp, dd, g, lf), td, up, th, ro, rs, bad) = nextS h ((st, wv, sp, dd, g, lf), td, up, th, ro, rs, bad) := by
      simp [turnS]
    rw [e]
    have f := fine_next hx
    refine ih _ f.1 (f.2 hg).1 ?_
    have := (f.2 hg).2
    dsimp only at this hl
    omega

/-- whoever goes on long enough has the cloth -/
theorem live_done {h : Nat} (h0 : 0 < h) (l : List Int) (m : Nat) (hm : 3 * h + 2 ≤ m) : (liveS h (l ++ 3 :: List.replicate m (0 : Int))).1.1 = 6 := by
  rw [liveS_app, List.foldl_cons]
  have hI := inv_live h0 l
  generalize liveS h l = x at *
  have hI3 := inv_turn 3 hI
  have hG : Good (turnS h 3 x).1 ∧ leftN h (turnS h 3 x).1.1 (turnS h 3 x).1.2.1 ≤ m := by
    obtain ⟨⟨st, wv, sp, dd, g, lf⟩, td, up, th, ro, rs, bad⟩ := x
    have e : turnS h 3 ((st, wv, sp, dd, g, lf), td, up, th, ro, rs, bad) = (openS h g (-1), 0, false, false, ro, rs, bad) := by simp [turnS]
    rw [e]
    refine ⟨⟨rfl, rfl, show (-1 : Int) < 0 by decide⟩, ?_⟩
    generalize (openS h g (-1)).1 = a
    generalize (openS h g (-1)).2.1 = b
    unfold leftN
    repeat' split
    all_goals omega
  have hz := zeros m _ hI3 hG.1 hG.2
  generalize (List.replicate m (0 : Int)).foldl (fun x t => turnS h t x) (turnS h 3 x) = y at *
  revert hz
  unfold leftN
  repeat' split
  all_goals first | (intro; assumption) | (intro e; omega)
end Go.Proofs.Ytndfecdhmncdaaa
