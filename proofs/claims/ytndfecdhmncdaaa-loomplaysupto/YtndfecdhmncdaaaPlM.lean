/-
  The mathematics of a loom that is led step by step, and of the document's own one.
-/
import Derived.Test.YtndfecdhmncdaaaWkM
namespace Go.Proofs.Ytndfecdhmncdaaa
open Go.RowKit

/-- what is seen behind a step: what is done, state, woven, which row, the error of Open, the error -/
abbrev Sn := Int × Int × Nat × Option Nat × Int × Int
def pwS (P : Int) : LS → LS
  | (st, wv, sp, dd, g, lf) => (st, wv, sp, dd, g, if P = 0 then lf else wrap64 (P - 1))
def opS (h : Nat) (O : Bool) : LS → LS
  | (st, wv, sp, dd, g, lf) => if O then openS h g lf else (st, wv, sp, dd, g, lf)
def evS (h : Nat) (E : Int) (s : LS) : Int × Int × LS := if E = 0 then (0, 0, s) else doS h E s
def roS (s : LS) : Option Nat := if amid s.1 then some s.2.1 else none
/-- what is seen of a loom -/
def lkS (r : Int × Int × LS) : Sn := (r.1, r.2.2.1, r.2.2.2.1, roS r.2.2, 0, r.2.1)
def stS (h : Nat) (P : Int) (O : Bool) (E : Int) (s : LS) : Int × Int × LS := evS h E (opS h O (pwS P s))
def plS (h : Nat) (P : Nat → Int) (O : Nat → Bool) (E : Nat → Int) (s0 : LS) : Nat → LS
  | 0 => s0
  | k + 1 => (stS h (P k) (O k) (E k) (plS h P O E s0 k)).2.2
def plL (h : Nat) (P : Nat → Int) (O : Nat → Bool) (E : Nat → Int) (s0 : LS) : Nat → List Sn
  | 0 => []
  | k + 1 => plL h P O E s0 k ++ [lkS (stS h (P k) (O k) (E k) (plS h P O E s0 k))]

/-- what is always so -/
def Pi (h : Nat) : LS → Prop
  | (st, wv, _, _, _, lf) => wv ≤ h ∧ (st ≠ 6 → wv < h) ∧ lf ≤ 9223372036854775807 ∧ 0 ≤ st ∧ st ≤ 6
theorem amid_iff (st : Int) : amid st = true ↔ 1 ≤ st ∧ st ≤ 4 := by simp [amid]
theorem wrap_le (x : Int) : wrap64 x ≤ 9223372036854775807 := by unfold wrap64; omega
theorem lfN_max {lf : Int} (h : lf ≤ 9223372036854775807) : lfN lf ≤ 9223372036854775807 := by unfold lfN; split <;> omega
theorem nxS_pi (h wv : Nat) (sp : Bool) (st : Int) (hw : wv < h) : (nxS h wv sp st ≠ 6 → wv + 1 < h) ∧ 0 ≤ nxS h wv sp st ∧ nxS h wv sp st ≤ 6 := by
  unfold nxS
  split
  · exact ⟨fun e => absurd rfl e, by decide, by decide⟩
  · split
    · exact ⟨fun _ => by omega, by decide, by decide⟩
    · exact ⟨fun _ => by omega, by decide, by decide⟩
theorem pi_pw {h : Nat} (P : Int) {s : LS} (k : Pi h s) : Pi h (pwS P s) := by
  obtain ⟨st, wv, sp, dd, g, lf⟩ := s
  obtain ⟨k1, k2, k3, k4⟩ := k
  refine ⟨k1, k2, ?_, k4⟩
  split
  · exact k3
  · exact wrap_le _
theorem pi_open {h : Nat} {g : Nat → Int} {lf : Int} (hl : lf ≤ 9223372036854775807) : Pi h (openS h g lf) := by
  refine ⟨woN_le _ _, ?_, hl, ?_⟩
  · intro e
    have := woN_le (g 0) h
    unfold fsS at e
    by_cases c : woN (g 0) h = h
    · rw [if_pos c] at e; exact absurd rfl e
    · omega
  · unfold fsS
    split
    · decide
    · split <;> decide
theorem pi_op {h : Nat} (O : Bool) {s : LS} (k : Pi h s) : Pi h (opS h O s) := by
  obtain ⟨st, wv, sp, dd, g, lf⟩ := s
  cases O
  · exact k
  · exact pi_open k.2.2.1
theorem may_six (ev : Int) : may ev 6 = false := by
  unfold may
  repeat' split
  all_goals rfl
theorem pi_ev {h : Nat} (E : Int) {s : LS} (k : Pi h s) : Pi h (evS h E s).2.2 := by
  unfold evS
  split
  · exact k
  obtain ⟨st, wv, sp, dd, g, lf⟩ := s
  obtain ⟨k1, k2, k3, k4, k5⟩ := k
  have K : Pi h (st, wv, sp, dd, g, lf) := ⟨k1, k2, k3, k4, k5⟩
  have K' : Pi h (st, wv, sp, true, g, lf) := ⟨k1, k2, k3, k4, k5⟩
  rw [doS]
  by_cases c0 : evB E = false
  · rw [if_pos c0]; exact K
  rw [if_neg c0]
  by_cases c1 : (dd || !may E st) = true
  · rw [if_pos c1]; exact K
  rw [if_neg c1]
  have h6 : st ≠ 6 := by
    rintro rfl
    rw [may_six] at c1
    simp at c1
  have hlt := k2 h6
  have hl := lfN_max k3
  have hnx := nxS_pi h wv sp st hlt
  by_cases e1 : E = 1
  · rw [if_pos e1]; exact ⟨k1, fun _ => hlt, k3, by decide, by decide⟩
  rw [if_neg e1]
  by_cases e2 : E = 2
  · rw [if_pos e2]; exact ⟨k1, fun _ => hlt, k3, by decide, by decide⟩
  rw [if_neg e2]
  by_cases e3 : E = 3
  · rw [if_pos e3]
    split
    · exact K'
    · exact ⟨k1, fun _ => hlt, hl, by decide, by decide⟩
  rw [if_neg e3]
  by_cases e4 : E = 4
  · rw [if_pos e4]; exact ⟨k1, fun _ => hlt, k3, by decide, by decide⟩
  rw [if_neg e4]
  by_cases e5 : E = 5
  · rw [if_pos e5]; exact ⟨k1, fun _ => hlt, k3, by decide, by decide⟩
  rw [if_neg e5]
  by_cases e6 : E = 6
  · rw [if_pos e6]
    split
    · exact K'
    · exact ⟨by omega, hnx.1, hl, hnx.2⟩
  rw [if_neg e6]
  by_cases e7 : E = 7
  · rw [if_pos e7]; exact ⟨k1, k2, k3, k4, k5⟩
  rw [if_neg e7]
  by_cases e8 : E = 8
  · rw [if_pos e8]
    split
    · exact K'
    · exact ⟨by omega, hnx.1, hl, hnx.2⟩
  rw [if_neg e8]
  split
  · exact K'
  · exact ⟨k1, fun _ => hlt, hl, by decide, by decide⟩
theorem pi_pl {h : Nat} (P : Nat → Int) (O : Nat → Bool) (E : Nat → Int) {s0 : LS} (k : Pi h s0) (j : Nat) : Pi h (plS h P O E s0 j) := by
  induction j with
  | zero => exact k
  | succ j ih => exact pi_ev _ (pi_op _ (pi_pw _ ih))
theorem pl_len (h : Nat) (P : Nat → Int) (O : Nat → Bool) (E : Nat → Int) (s0 : LS) (k : Nat) : (plL h P O E s0 k).length = k := by
  induction k with
  | zero => rfl
  | succ k ih => simp [plL, ih]

/-! the document's own loom: what an event does by its table -/
def tdSt (h wv : Nat) (st : Int) (sp : Bool) (ev : Int) : Int :=
  if ev = 1 then 1 else if ev = 2 then 2 else if ev = 3 then 4 else if ev = 4 then 3 else if ev = 5 then 1 else if ev = 6 then nxS h wv sp st else if ev = 7 then st else if ev = 8 then nxS h wv sp st else 0
def tdDo (h wv : Nat) (st : Int) (sp : Bool) (ev : Int) : Int :=
  if ev = 1 then 1 else if ev = 2 then 2 else if ev = 3 then 3 else if ev = 4 then 4 else if ev = 5 then 1 else if ev = 6 then nxD h wv sp st else if ev = 7 then 0 else if ev = 8 then nxD h wv sp st else 0
def tdWv (wv : Nat) (ev : Int) : Nat := if ev = 6 ∨ ev = 8 then wv + 1 else wv
def bhSp (h wv : Nat) (st : Int) (sp : Bool) : Bool := if wv + 1 = h then sp else if sp || st == 5 then false else sp
def tdSp (h wv : Nat) (st : Int) (sp : Bool) (ev : Int) : Bool := if ev = 7 then true else if ev = 6 ∨ ev = 8 then bhSp h wv st sp else sp
def tdAt (ev : Int) : Int := if ev = 6 ∨ ev = 8 then 0 else if ev = 3 ∨ ev = 9 then 1 else -1
def tdW (wv : Nat) (ev : Int) : Int := if ev = 6 ∨ ev = 8 ∨ ev = 3 then (wv : Int) + 1 else 0
def evR (h : Nat) (E : Int) : LS → Int × Int × LS
  | (st, wv, sp, dd, g, lf) =>
    if E = 0 then (0, 0, (st, wv, sp, dd, g, lf))
    else if evB E = false then (0, 1, (st, wv, sp, dd, g, lf))
    else if (dd || !may E st) = true then (0, 9, (st, wv, sp, dd, g, lf))
    else if 0 ≤ tdAt E ∧ lf = 0 then (0, 11, (st, wv, sp, true, g, lf))
    else (tdDo h wv st sp E, 0, (tdSt h wv st sp E, tdWv wv E, tdSp h wv st sp E, dd, if 0 ≤ tdAt E then ptW g (tdAt E).toNat (tdW wv E) else g, if 0 ≤ tdAt E then lfN lf else lf))
def stR (h : Nat) (P : Int) (O : Bool) (E : Int) (s : LS) : Int × Int × LS := evR h E (opS h O (pwS P s))
def plR (h : Nat) (P : Nat → Int) (O : Nat → Bool) (E : Nat → Int) (s0 : LS) : Nat → LS
  | 0 => s0
  | k + 1 => (stR h (P k) (O k) (E k) (plR h P O E s0 k)).2.2
def plT (h : Nat) (P : Nat → Int) (O : Nat → Bool) (E : Nat → Int) (s0 : LS) : Nat → List Sn
  | 0 => []
  | k + 1 => plT h P O E s0 k ++ [lkS (stR h (P k) (O k) (E k) (plR h P O E s0 k))]
/-- the two looms are as one: but for a stop that no pick comes behind -/
def Rl : LS → LS → Prop
  | (st, wv, sp, dd, g, lf), (st', wv', sp', dd', g', lf') => st = st' ∧ wv = wv' ∧ dd = dd' ∧ g = g' ∧ lf = lf' ∧ (sp = sp' ∨ st = 6)
theorem rl_refl (s : LS) : Rl s s := by
  obtain ⟨st, wv, sp, dd, g, lf⟩ := s
  exact ⟨rfl, rfl, rfl, rfl, rfl, .inl rfl⟩
theorem rl_pw (P : Int) {s t : LS} (k : Rl s t) : Rl (pwS P s) (pwS P t) := by
  obtain ⟨st, wv, sp, dd, g, lf⟩ := s
  obtain ⟨st', wv', sp', dd', g', lf'⟩ := t
  obtain ⟨rfl, rfl, rfl, rfl, rfl, k⟩ := k
  exact ⟨rfl, rfl, rfl, rfl, rfl, k⟩
theorem rl_op (h : Nat) (O : Bool) {s t : LS} (k : Rl s t) : Rl (opS h O s) (opS h O t) := by
  obtain ⟨st, wv, sp, dd, g, lf⟩ := s
  obtain ⟨st', wv', sp', dd', g', lf'⟩ := t
  obtain ⟨rfl, rfl, rfl, rfl, rfl, k⟩ := k
  cases O
  · exact ⟨rfl, rfl, rfl, rfl, rfl, k⟩
  · exact rl_refl _
/-- what comes of a step, for both -/
def Alike (a b : Int × Int × LS) : Prop := a.1 = b.1 ∧ a.2.1 = b.2.1 ∧ Rl a.2.2 b.2.2
theorem alike_ev (h : Nat) (E : Int) {s t : LS} (k : Rl s t) : Alike (evS h E s) (evR h E t) := by
  obtain ⟨st, wv, sp, dd, g, lf⟩ := s
  obtain ⟨st', wv', sp', dd', g', lf'⟩ := t
  obtain ⟨rfl, rfl, rfl, rfl, rfl, k⟩ := k
  rw [evR, evS]
  by_cases c0 : E = 0
  · rw [if_pos c0, if_pos c0]; exact ⟨rfl, rfl, rfl, rfl, rfl, rfl, rfl, k⟩
  rw [if_neg c0, if_neg c0, doS]
  by_cases c1 : evB E = false
  · rw [if_pos c1, if_pos c1]; exact ⟨rfl, rfl, rfl, rfl, rfl, rfl, rfl, k⟩
  rw [if_neg c1, if_neg c1]
  by_cases c2 : (dd || !may E st) = true
  · rw [if_pos c2, if_pos c2]; exact ⟨rfl, rfl, rfl, rfl, rfl, rfl, rfl, k⟩
  rw [if_neg c2, if_neg c2]
  have h6 : st ≠ 6 := by
    rintro rfl
    rw [may_six] at c2
    simp at c2
  obtain rfl : sp = sp' := k.resolve_right h6
  have ev := evB_cases (by simpa using c1 : evB E = true)
  rcases ev with rfl | rfl | rfl | rfl | rfl | rfl | rfl | rfl | rfl
  · simp [tdAt, tdDo, tdSt, tdWv, tdSp, Alike, Rl]
  · simp [tdAt, tdDo, tdSt, tdWv, tdSp, Alike, Rl]
  · by_cases cl : lf = 0 <;> simp [tdAt, tdDo, tdSt, tdWv, tdSp, tdW, Alike, Rl, cl]
  · simp [tdAt, tdDo, tdSt, tdWv, tdSp, Alike, Rl]
  · simp [tdAt, tdDo, tdSt, tdWv, tdSp, Alike, Rl]
  · by_cases cl : lf = 0
    · simp [tdAt, Alike, Rl, cl]
    · simp [tdAt, tdDo, tdSt, tdWv, tdSp, tdW, Alike, Rl, cl, bhSp, nxS]
      by_cases cw : wv + 1 = h <;> simp [cw]
      cases sp <;> simp
  · simp [tdAt, tdDo, tdSt, tdWv, tdSp, Alike, Rl]
  · by_cases cl : lf = 0
    · simp [tdAt, Alike, Rl, cl]
    · simp [tdAt, tdDo, tdSt, tdWv, tdSp, tdW, Alike, Rl, cl, bhSp, nxS]
      by_cases cw : wv + 1 = h <;> simp [cw]
      cases sp <;> simp
  · by_cases cl : lf = 0 <;> simp [tdAt, tdDo, tdSt, tdWv, tdSp, tdW, Alike, Rl, cl]
theorem alike_lk {a b : Int × Int × LS} (k : Alike a b) : lkS a = lkS b := by
  obtain ⟨a1, a2, st, wv, sp, dd, g, lf⟩ := a
  obtain ⟨b1, b2, st', wv', sp', dd', g', lf'⟩ := b
  obtain ⟨rfl, rfl, rfl, rfl, -⟩ := k
  rfl
theorem alike_pl (h : Nat) (P : Nat → Int) (O : Nat → Bool) (E : Nat → Int) (s0 : LS) (k : Nat) : Rl (plS h P O E s0 k) (plR h P O E s0 k) ∧ plL h P O E s0 k = plT h P O E s0 k := by
  induction k with
  | zero => exact ⟨rl_refl _, rfl⟩
  | succ k ih =>
    have a := alike_ev h (E k) (rl_op h (O k) (rl_pw (P k) ih.1))
    exact ⟨a.2.2, by rw [plL, plT, ih.2]; exact congrArg (fun x => _ ++ [x]) (alike_lk a)⟩
theorem rl_words {s t : LS} (k : Rl s t) : s.2.2.2.2.1 = t.2.2.2.2.1 := by
  obtain ⟨st, wv, sp, dd, g, lf⟩ := s
  obtain ⟨st', wv', sp', dd', g', lf'⟩ := t
  exact k.2.2.2.1
theorem pi_rl {h : Nat} {s t : LS} (p : Pi h s) (k : Rl s t) : Pi h t := by
  obtain ⟨st, wv, sp, dd, g, lf⟩ := s
  obtain ⟨st', wv', sp', dd', g', lf'⟩ := t
  obtain ⟨rfl, rfl, rfl, rfl, rfl, k⟩ := k
  exact p
end Go.Proofs.Ytndfecdhmncdaaa
