/-
  Stripes and setts in memory; isNoColour, isBeyond; slices.ContainsFunc of stripes and of numbers.
-/
import Derived.Test.YtbnjjkanokmakaaDoorSL
namespace Go.Proofs.YtbnjjkanokmakaaDoor
open Go.RowKit

/-- pairs of numbers in a slice -/
def Ps (W : World) (q : Option Addr) (n : Nat) (a b : Nat → Int) : Prop := n = 0 ∨ ∃ g o, q = some ⟨g, o, none⟩ ∧ g < W.heap.size ∧ ∀ k, k < n → W.cell? ⟨g, o + k * 2, none⟩ = some (.int .i64 (a k)) ∧ W.cell? ⟨g, o + k * 2 + 1, none⟩ = some (.int .i64 (b k))
theorem Ps.keep {W V : World} {q : Option Addr} {n : Nat} {a b : Nat → Int} (h : Ps W q n a b) (hb : Below W.heap.size W V) : Ps V q n a b := by
  rcases h with h | ⟨g, o, e, hl, hk⟩
  · exact .inl h
  · exact .inr ⟨g, o, e, Nat.lt_of_lt_of_le hl hb.size, fun k hkn => ⟨keepC hb hl (hk k hkn).1, keepC hb hl (hk k hkn).2⟩⟩
theorem Ps.at {W : World} {q : Option Addr} {n x : Nat} {a b : Nat → Int} (h : Ps W q n a b) (hx : x < n) : ∃ g o, q = some ⟨g, o, none⟩ ∧ W.cell? ⟨g, o + x * 2, none⟩ = some (.int .i64 (a x)) ∧ W.cell? ⟨g, o + x * 2 + 1, none⟩ = some (.int .i64 (b x)) := by
  rcases h with h | ⟨g, o, e, hl, hk⟩
  · omega
  · exact ⟨g, o, e, hk x hx⟩
theorem Ps.congr {W : World} {q : Option Addr} {n : Nat} {a b a' b' : Nat → Int} (h : Ps W q n a b) (e : ∀ k, k < n → a k = a' k ∧ b k = b' k) : Ps W q n a' b' := by
  rcases h with h | ⟨g, o, e1, hl, hk⟩
  · exact .inl h
  · exact .inr ⟨g, o, e1, hl, fun k hkn => by rw [← (e k hkn).1, ← (e k hkn).2]; exact hk k hkn⟩
/-- stripes in a slice -/
abbrev Sl (W : World) (q : Option Addr) (l : List St) : Prop := Ps W q l.length (ca l) (cb l)
/-- a sett, as the calls take it -/
abbrev sV (pv : Bool) (q : Option Addr) (n cap : Nat) : Value := .agg #[.bool pv, .slice q n cap]
/-- a pair in its box -/
def B2 (W : World) (g : Nat) (a b : Int) : Prop := g < W.heap.size ∧ W.cell? ⟨g, 0, none⟩ = some (.int .i64 a) ∧ W.cell? ⟨g, 1, none⟩ = some (.int .i64 b)
theorem B2.keep {W V : World} {g : Nat} {a b : Int} (h : B2 W g a b) (hb : Below W.heap.size W V) : B2 V g a b :=
  ⟨Nat.lt_of_lt_of_le h.1 hb.size, keepC hb h.1 h.2.1, keepC hb h.1 h.2.2⟩
theorem B2.new (W : World) (a b : Int) (t : TypeId) : B2 (W.alloc (.cells #[.int .i64 a, .int .i64 b] t)) W.heap.size a b :=
  ⟨by simp, by simp [go_sem], by simp [go_sem]⟩
/-- a sett in its box -/
def BS (W : World) (g : Nat) (pv : Bool) (v : Value) : Prop := g < W.heap.size ∧ W.cell? ⟨g, 0, none⟩ = some (.bool pv) ∧ W.cell? ⟨g, 1, none⟩ = some v
theorem BS.keep {W V : World} {g : Nat} {pv : Bool} {v : Value} (h : BS W g pv v) (hb : Below W.heap.size W V) : BS V g pv v :=
  ⟨Nat.lt_of_lt_of_le h.1 hb.size, keepC hb h.1 h.2.1, keepC hb h.1 h.2.2⟩
theorem BS.new (W : World) (pv : Bool) (v : Value) (t : TypeId) : BS (W.alloc (.cells #[.bool pv, v] t)) W.heap.size pv v :=
  ⟨by simp, by simp [go_sem], by simp [go_sem]⟩

theorem isNo_any (c : Int) (w : World) : Calls Tryd.prog 29 #[.int .i64 c] w fun e w' => e = .returned (.bool (nocol c)) ∧ w' = w := by
  by_cases h1 : c < 0
  · have e := hide (show nocol c = true by simp [nocol, h1])
    have h1' : decide (c < 0) = true := decide_eq_true h1
    go_enter Tryd.func29, Tryd.ntmps29
    go_wp2
    go_ret
    exact ⟨ret_bool (unhide e).symm, rfl⟩
  · have h1' : decide (c < 0) = false := decide_eq_false h1
    by_cases h2 : 62 ≤ c
    · have e := hide (show nocol c = true by simp [nocol]; omega)
      have h2' : decide (62 ≤ c) = true := decide_eq_true h2
      go_enter Tryd.func29, Tryd.ntmps29
      go_wp2
      go_ret
      exact ⟨ret_bool (unhide e).symm, rfl⟩
    · have e := hide (show nocol c = false by simp [nocol]; omega)
      have h2' : decide (62 ≤ c) = false := decide_eq_false h2
      go_enter Tryd.func29, Tryd.ntmps29
      go_wp2
      go_ret
      exact ⟨ret_bool (unhide e).symm, rfl⟩

theorem isBeyond_any (a b : Int) (w : World) : Calls Tryd.prog 24 #[.agg #[.int .i64 a, .int .i64 b]] w fun e w' => e = .returned (.bool (byd (a, b))) ∧ Below w.heap.size w w' := by
  have HB := hide (B2.new w a b 45)
  have Hb := hide (bnew w (.cells #[.int .i64 a, .int .i64 b] 45))
  have Hd := hide (show byd (a, b) = (nocol a || decide (b < 1) || decide (4096 < b)) from rfl)
  have HC := hide (isNo_any a)
  generalize byd (a, b) = r at *
  generalize nocol a = na at *
  go_enter Tryd.func24, Tryd.ntmps24
  go_upto_region 1 with fail
  generalize w.alloc (.cells #[.int .i64 a, .int .i64 b] 45) = w1 at *
  generalize hg : w.heap.size = g at *
  obtain ⟨-, c0, c1⟩ := unhide HB
  cases na with
  | true =>
    go_wp2_with (go_at_call 29; refine (unhide HC _).mono ?_; rintro e w' ⟨rfl, rfl⟩)
    go_ret
    exact ⟨ret_bool (by rw [unhide Hd]; rfl), by rw [hg]; exact unhide Hb⟩
  | false =>
    by_cases h1 : b < 1
    · have h1' : decide (b < 1) = true := decide_eq_true h1
      go_wp2_with (go_at_call 29; refine (unhide HC _).mono ?_; rintro e w' ⟨rfl, rfl⟩)
      go_ret
      exact ⟨ret_bool (by rw [unhide Hd, h1']; rfl), by rw [hg]; exact unhide Hb⟩
    · have h1' : decide (b < 1) = false := decide_eq_false h1
      by_cases h2 : 4096 < b
      · have h2' : decide (4096 < b) = true := decide_eq_true h2
        go_wp2_with (go_at_call 29; refine (unhide HC _).mono ?_; rintro e w' ⟨rfl, rfl⟩)
        go_ret
        exact ⟨ret_bool (by rw [unhide Hd, h2']; simp), by rw [hg]; exact unhide Hb⟩
      · have h2' : decide (4096 < b) = false := decide_eq_false h2
        go_wp2_with (go_at_call 29; refine (unhide HC _).mono ?_; rintro e w' ⟨rfl, rfl⟩)
        go_ret
        exact ⟨ret_bool (by rw [unhide Hd, h1', h2']; rfl), by rw [hg]; exact unhide Hb⟩

/-- the first that is beyond its bounds, or none -/
def PIx (p : Nat → Bool) (n : Nat) (r : Int) : Prop := (r = -1 ∧ ∀ k, k < n → p k = false) ∨ ∃ k : Nat, r = k ∧ k < n ∧ p k = true
set_option maxRecDepth 100000 in
set_option maxHeartbeats 1000000 in
theorem indexB_any (q : Option Addr) (n cap : Nat) (a b : Nat → Int) (W : World) (hP : Ps W q n a b) (hn : n ≤ maxLen) :
    Calls Tryd.prog 42 #[.slice q n cap, .func (.func 24) #[] #[]] W fun e V => ∃ r, e = .returned (.int .i64 r) ∧ PIx (fun k => byd (a k, b k)) n r ∧ Below W.heap.size W V := by
  have HP := hide hP
  unfold maxLen at hn
  clear hP
  go_enter Tryd.func42, Tryd.ntmps42
  go_wp2
  go_loopw [8] (fun i wr => ∃ x : Nat, x ≤ n ∧ i = .int .i64 (x : Int) ∧ Hid (∀ k, k < x → byd (a k, b k) = false) ∧ Below W.heap.size W wr) (fun i _ => n - (intOf i).toNat)
  case atStart => exact ⟨0, by omega, rfl, hide (fun k hk => by omega), Below.refl _ _⟩
  case round =>
    obtain ⟨x, hx, rfl, Hs, hb⟩ := hrel
    by_cases hlt : x < n
    · obtain ⟨ad0, oo, rfl, k0, k1⟩ := ((unhide HP).keep hb).at hlt
      have q0 : (x : Int) < (n : Int) := by omega
      have q1 : (0 : Int) ≤ (x : Int) := by omega
      have HC := hide (isBeyond_any (a x) (b x))
      have Hc1 := hide (show byd (a x, b x) = false → ∀ k, k < x + 1 → byd (a k, b k) = false from fun h k hk => by
        by_cases e : k = x
        · rw [e]; exact h
        · exact unhide Hs k (by omega))
      have Hc2 := hide (show byd (a x, b x) = true → PIx (fun k => byd (a k, b k)) n (x : Int) from fun h => .inr ⟨x, rfl, hlt, h⟩)
      have Hb := hide hb
      clear hb
      generalize byd (a x, b x) = r at *
      generalize a x = u at *
      generalize b x = v at *
      cases r with
      | true =>
        go_wp2_with (go_at_call 24; refine (unhide HC _).mono ?_; rintro e w2 ⟨rfl, hb2⟩)
        go_ret
        exact ⟨_, rfl, unhide Hc2 trivial, btrans (unhide Hb) hb2⟩
      | false =>
        go_wp2_with (go_at_call 24; refine (unhide HC _).mono ?_; rintro e w2 ⟨rfl, hb2⟩)
        go_roundw
        case rel => exact ⟨x + 1, by omega, by go_num, hide (unhide Hc1 trivial), btrans (unhide Hb) hb2⟩
        case measure => simp [intOf]; omega
    · obtain rfl : n = x := by omega
      have cl : ¬ ((n : Int) < (n : Int)) := by omega
      have Hb := hide hb
      clear hb
      go_wp2
      go_ret
      exact ⟨_, rfl, .inl ⟨rfl, unhide Hs⟩, unhide Hb⟩
theorem containsB_any (q : Option Addr) (l : List St) (cap : Nat) (W : World) (hP : Sl W q l) (hn : l.length ≤ maxLen) :
    Calls Tryd.prog 23 #[.slice q l.length cap, .func (.func 24) #[] #[]] W fun e V => e = .returned (.bool (l.any byd)) ∧ Below W.heap.size W V := by
  have HC := hide (indexB_any q l.length cap (ca l) (cb l) W hP hn)
  have Hy := hide (fun k (hk : k < l.length) h => any_at hk h)
  have Hn := hide (@any_none l)
  clear hP hn
  generalize l.any byd = r at *
  go_enter Tryd.func23, Tryd.ntmps23
  go_wp2_with fail
  refine (unhide HC).mono ?_
  rintro e w1 ⟨i, rfl, hi, hb⟩
  rcases hi with ⟨rfl, h⟩ | ⟨k, rfl, hk, h⟩
  · have e1 := hide (unhide Hn h)
    clear h
    go_wp2
    go_ret
    exact ⟨ret_bool (unhide e1).symm, hb⟩
  · have e1 := hide (unhide Hy k hk h)
    have k0 : decide ((0 : Int) ≤ (k : Int)) = true := by simp
    clear h
    go_wp2
    go_ret
    exact ⟨ret_bool (unhide e1).symm, hb⟩

/-- numbers in a slice -/
def Is (W : World) (q : Option Addr) (n : Nat) (a : Nat → Int) : Prop := n = 0 ∨ ∃ g o, q = some ⟨g, o, none⟩ ∧ g < W.heap.size ∧ ∀ k, k < n → W.cell? ⟨g, o + k, none⟩ = some (.int .i64 (a k))
theorem Is.keep {W V : World} {q : Option Addr} {n : Nat} {a : Nat → Int} (h : Is W q n a) (hb : Below W.heap.size W V) : Is V q n a := by
  rcases h with h | ⟨g, o, e, hl, hk⟩
  · exact .inl h
  · exact .inr ⟨g, o, e, Nat.lt_of_lt_of_le hl hb.size, fun k hkn => keepC hb hl (hk k hkn)⟩
theorem Is.at {W : World} {q : Option Addr} {n x : Nat} {a : Nat → Int} (h : Is W q n a) (hx : x < n) : ∃ g o, q = some ⟨g, o, none⟩ ∧ W.cell? ⟨g, o + x, none⟩ = some (.int .i64 (a x)) := by
  rcases h with h | ⟨g, o, e, hl, hk⟩
  · omega
  · exact ⟨g, o, e, hk x hx⟩
set_option maxRecDepth 100000 in
set_option maxHeartbeats 1000000 in
theorem indexI_any (q : Option Addr) (n cap : Nat) (a : Nat → Int) (W : World) (hP : Is W q n a) (hn : n ≤ maxLen) :
    Calls Tryd.prog 43 #[.slice q n cap, .func (.func 29) #[] #[]] W fun e V => ∃ r, e = .returned (.int .i64 r) ∧ PIx (fun k => nocol (a k)) n r ∧ Below W.heap.size W V := by
  have HP := hide hP
  unfold maxLen at hn
  clear hP
  go_enter Tryd.func43, Tryd.ntmps43
  go_wp2
  go_loopw [8] (fun i wr => ∃ x : Nat, x ≤ n ∧ i = .int .i64 (x : Int) ∧ Hid (∀ k, k < x → nocol (a k) = false) ∧ Below W.heap.size W wr) (fun i _ => n - (intOf i).toNat)
  case atStart => exact ⟨0, by omega, rfl, hide (fun k hk => by omega), Below.refl _ _⟩
  case round =>
    obtain ⟨x, hx, rfl, Hs, hb⟩ := hrel
    by_cases hlt : x < n
    · obtain ⟨ad0, oo, rfl, k0⟩ := ((unhide HP).keep hb).at hlt
      have q0 : (x : Int) < (n : Int) := by omega
      have q1 : (0 : Int) ≤ (x : Int) := by omega
      have HC := hide (isNo_any (a x))
      have Hc1 := hide (show nocol (a x) = false → ∀ k, k < x + 1 → nocol (a k) = false from fun h k hk => by
        by_cases e : k = x
        · rw [e]; exact h
        · exact unhide Hs k (by omega))
      have Hc2 := hide (show nocol (a x) = true → PIx (fun k => nocol (a k)) n (x : Int) from fun h => .inr ⟨x, rfl, hlt, h⟩)
      have Hb := hide hb
      clear hb
      generalize nocol (a x) = r at *
      generalize a x = u at *
      cases r with
      | true =>
        go_wp2_with (go_at_call 29; refine (unhide HC _).mono ?_; rintro e w2 ⟨rfl, rfl⟩)
        go_ret
        exact ⟨_, rfl, unhide Hc2 trivial, unhide Hb⟩
      | false =>
        go_wp2_with (go_at_call 29; refine (unhide HC _).mono ?_; rintro e w2 ⟨rfl, rfl⟩)
        go_roundw
        case rel => exact ⟨x + 1, by omega, by go_num, hide (unhide Hc1 trivial), unhide Hb⟩
        case measure => simp [intOf]; omega
    · obtain rfl : n = x := by omega
      have cl : ¬ ((n : Int) < (n : Int)) := by omega
      have Hb := hide hb
      clear hb
      go_wp2
      go_ret
      exact ⟨_, rfl, .inl ⟨rfl, unhide Hs⟩, unhide Hb⟩
/-- numbers in a slice, as a list -/
abbrev Il (W : World) (q : Option Addr) (l : List Int) : Prop := Is W q l.length (fun k => l.getD k 0)
theorem ianyT {l : List Int} (k : Nat) (hk : k < l.length) (h : nocol (l.getD k 0) = true) : l.any nocol = true := by
  rw [getD_lt _ _ hk] at h
  exact List.any_eq_true.2 ⟨l[k], List.getElem_mem hk, h⟩
theorem ianyF {l : List Int} (h : ∀ k, k < l.length → nocol (l.getD k 0) = false) : l.any nocol = false := by
  rw [Bool.eq_false_iff]
  intro e
  rw [List.any_eq_true] at e
  obtain ⟨x, hx, hb⟩ := e
  obtain ⟨k, hk, rfl⟩ := List.mem_iff_getElem.1 hx
  have := h k hk
  rw [getD_lt _ _ hk, hb] at this
  cases this
theorem containsI_any (q : Option Addr) (l : List Int) (cap : Nat) (W : World) (hP : Il W q l) (hn : l.length ≤ maxLen) :
    Calls Tryd.prog 28 #[.slice q l.length cap, .func (.func 29) #[] #[]] W fun e V => e = .returned (.bool (l.any nocol)) ∧ Below W.heap.size W V := by
  have HC := hide (indexI_any q l.length cap _ W hP hn)
  have Hy := hide (@ianyT l)
  have Hn := hide (@ianyF l)
  clear hP hn
  generalize l.any nocol = r at *
  go_enter Tryd.func28, Tryd.ntmps28
  go_wp2_with fail
  refine (unhide HC).mono ?_
  rintro e w1 ⟨i, rfl, hi, hb⟩
  rcases hi with ⟨rfl, h⟩ | ⟨k, rfl, hk, h⟩
  · have e1 := hide (unhide Hn h)
    clear h
    go_wp2
    go_ret
    exact ⟨ret_bool (unhide e1).symm, hb⟩
  · have e1 := hide (unhide Hy k hk h)
    have k0 : decide ((0 : Int) ≤ (k : Int)) = true := by simp
    clear h
    go_wp2
    go_ret
    exact ⟨ret_bool (unhide e1).symm, hb⟩
end Go.Proofs.YtbnjjkanokmakaaDoor
