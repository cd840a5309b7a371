/-
  Numbers and jobs in memory; what is wrong with jobs and looms; picks that a cloth may have; the loom that is free first; the greatest.
-/
import Derived.Test.YthhcmccleabhhaaBase
import Derived.Test.YthhcmccleabhhaaMM
namespace Go.Proofs.Ythhcmccleabhhaa
open Go.RowKit

theorem wnat (x : Nat) (h : x ≤ 9223372036854775807) : wrap64 (x : Int) = (x : Int) := Go.IntWalk.wrap64_in _ (by omega)
/-- whole numbers in a slice -/
def Is (W : World) (q : Option Addr) (n : Nat) (f : Nat → Int) : Prop := n = 0 ∨ ∃ b o, q = some ⟨b, o, none⟩ ∧ b < W.heap.size ∧ ∀ k, k < n → W.cell? ⟨b, o + k, none⟩ = some (.int .i64 (f k))
theorem Is.keep {W V : World} {q : Option Addr} {n : Nat} {f : Nat → Int} (h : Is W q n f) (hb : Below W.heap.size W V) : Is V q n f := by
  rcases h with h | ⟨b, o, e, hl, hk⟩
  · exact .inl h
  · exact .inr ⟨b, o, e, Nat.lt_of_lt_of_le hl hb.size, fun k hkn => keepC hb hl (hk k hkn)⟩
theorem Is.at {W : World} {q : Option Addr} {n x : Nat} {f : Nat → Int} (h : Is W q n f) (hx : x < n) : ∃ b o, q = some ⟨b, o, none⟩ ∧ W.cell? ⟨b, o + x, none⟩ = some (.int .i64 (f x)) := by
  rcases h with h | ⟨b, o, e, hl, hk⟩
  · omega
  · exact ⟨b, o, e, hk x hx⟩
theorem Is.congr {W : World} {q : Option Addr} {n : Nat} {f g : Nat → Int} (h : Is W q n f) (e : ∀ k, k < n → f k = g k) : Is W q n g := by
  rcases h with h | ⟨b, o, e1, hl, hk⟩
  · exact .inl h
  · exact .inr ⟨b, o, e1, hl, fun k hkn => by rw [← e k hkn]; exact hk k hkn⟩
/-- numbers that may be written -/
def JRow (W : World) (b k : Nat) (f : Nat → Nat) : Prop := b < W.heap.size ∧ ∀ j, j < k → W.cell? ⟨b, j, none⟩ = some (.int .i64 (f j : Int)) ∧ W.frozen? ⟨b, j, none⟩ = false
theorem JRow.kept {T : Nat → Prop} {W V : World} {b k : Nat} {f : Nat → Nat} (h : JRow W b k f) (q : Kept T W V) (hT : ¬ T b) : JRow V b k f :=
  ⟨Nat.lt_of_lt_of_le h.1 q.size, fun j hj => ⟨q.cell h.1 hT (h.2 j hj).1, q.froz h.1 hT (h.2 j hj).2⟩⟩
theorem JRow.keep {W V : World} {b k : Nat} {f : Nat → Nat} (h : JRow W b k f) (hb : Below W.heap.size W V) : JRow V b k f := h.kept (Kept.of (S := fun _ => False) hb) (fun q => q)
theorem JRow.put {W : World} {b k : Nat} {f g : Nat → Nat} (h : JRow W b k f) {x : Nat} {v : Int} (hv : (g x : Int) = v) (hg : ∀ j, j < k → j ≠ x → f j = g j) : JRow (W.setCell ⟨b, x, none⟩ (.int .i64 v)) b k g := by
  refine ⟨by simpa using h.1, fun j hj => ⟨?_, fset (h.2 j hj).2⟩⟩
  by_cases e : j = x
  · subst e; rw [hv]; exact csame (h.2 j hj).1
  · rw [← hg j hj e]; exact cset (h.2 j hj).1 e
theorem JRow.is {W : World} {b k : Nat} {f : Nat → Nat} (h : JRow W b k f) : Is W (some ⟨b, 0, none⟩) k (fun j => (f j : Int)) :=
  .inr ⟨b, 0, rfl, h.1, fun j hj => by rw [Nat.zero_add]; exact (h.2 j hj).1⟩
theorem jrow_made {w : World} {B b k : Nat} (h : w.ownsRow B 3 1 (.slice (some ⟨b, 0, none⟩) k k) k (madeCells #[.int .i64 0] k).toList) : JRow w b k (fun _ => 0) :=
  ⟨(h.lt b rfl).2, fun j hj => ⟨by rw [h.cellAt j (by omega), toList_madeCells_one, List.getElem?_replicate, if_pos (by omega)]; rfl, h.frozenAt j⟩⟩

/-- pairs of numbers in a slice: jobs -/
def Ps (W : World) (q : Option Addr) (n : Nat) (a b : Nat → Int) : Prop := n = 0 ∨ ∃ g o, q = some ⟨g, o, none⟩ ∧ g < W.heap.size ∧ ∀ k, k < n → W.cell? ⟨g, o + k * 2, none⟩ = some (.int .i64 (a k)) ∧ W.cell? ⟨g, o + k * 2 + 1, none⟩ = some (.int .i64 (b k))
theorem Ps.keep {W V : World} {q : Option Addr} {n : Nat} {a b : Nat → Int} (h : Ps W q n a b) (hb : Below W.heap.size W V) : Ps V q n a b := by
  rcases h with h | ⟨g, o, e, hl, hk⟩
  · exact .inl h
  · exact .inr ⟨g, o, e, Nat.lt_of_lt_of_le hl hb.size, fun k hkn => ⟨keepC hb hl (hk k hkn).1, keepC hb hl (hk k hkn).2⟩⟩
theorem Ps.at {W : World} {q : Option Addr} {n x : Nat} {a b : Nat → Int} (h : Ps W q n a b) (hx : x < n) : ∃ g o, q = some ⟨g, o, none⟩ ∧ W.cell? ⟨g, o + x * 2, none⟩ = some (.int .i64 (a x)) ∧ W.cell? ⟨g, o + x * 2 + 1, none⟩ = some (.int .i64 (b x)) := by
  rcases h with h | ⟨g, o, e, hl, hk⟩
  · omega
  · exact ⟨g, o, e, hk x hx⟩
/-- a pair in its box -/
def B2 (W : World) (g : Nat) (a b : Int) : Prop := g < W.heap.size ∧ W.cell? ⟨g, 0, none⟩ = some (.int .i64 a) ∧ W.cell? ⟨g, 1, none⟩ = some (.int .i64 b)
theorem B2.keep {W V : World} {g : Nat} {a b : Int} (h : B2 W g a b) (hb : Below W.heap.size W V) : B2 V g a b :=
  ⟨Nat.lt_of_lt_of_le h.1 hb.size, keepC hb h.1 h.2.1, keepC hb h.1 h.2.2⟩
theorem B2.new (W : World) (a b : Int) (t : TypeId) : B2 (W.alloc (.cells #[.int .i64 a, .int .i64 b] t)) W.heap.size a b :=
  ⟨by simp, by simp [go_sem], by simp [go_sem]⟩
/-- jobs that may be written -/
def PRw (W : World) (b n : Nat) (X Y : Nat → Nat) : Prop := b < W.heap.size ∧ ∀ j, j < n → (W.cell? ⟨b, j * 2, none⟩ = some (.int .i64 (X j : Int)) ∧ W.cell? ⟨b, j * 2 + 1, none⟩ = some (.int .i64 (Y j : Int))) ∧ (W.frozen? ⟨b, j * 2, none⟩ = false ∧ W.frozen? ⟨b, j * 2 + 1, none⟩ = false)
theorem PRw.kept {T : Nat → Prop} {w V : World} {b n : Nat} {X Y : Nat → Nat} (h : PRw w b n X Y) (k : Kept T w V) (hT : ¬ T b) : PRw V b n X Y :=
  ⟨Nat.lt_of_lt_of_le h.1 k.size, fun j hj => ⟨⟨k.cell h.1 hT (h.2 j hj).1.1, k.cell h.1 hT (h.2 j hj).1.2⟩, ⟨k.froz h.1 hT (h.2 j hj).2.1, k.froz h.1 hT (h.2 j hj).2.2⟩⟩⟩
theorem PRw.keep {w V : World} {b n : Nat} {X Y : Nat → Nat} (h : PRw w b n X Y) (hb : Below w.heap.size w V) : PRw V b n X Y := h.kept (Kept.of (S := fun _ => False) hb) (fun q => q)
theorem PRw.put {W : World} {b n i : Nat} {X Y X' Y' : Nat → Nat} {x y : Int} (h : PRw W b n X Y) (hx : (X' i : Int) = x ∧ (Y' i : Int) = y) (hr : ∀ j, j < n → j ≠ i → X j = X' j ∧ Y j = Y' j) : PRw ((W.setCell ⟨b, i * 2, none⟩ (.int .i64 x)).setCell ⟨b, i * 2 + 1, none⟩ (.int .i64 y)) b n X' Y' := by
  refine ⟨by simpa using h.1, fun j hj => ⟨?_, ⟨fset (fset (h.2 j hj).2.1), fset (fset (h.2 j hj).2.2)⟩⟩⟩
  by_cases e : j = i
  · subst e
    rw [hx.1, hx.2]
    exact ⟨cset (csame (h.2 j hj).1.1) (by omega), csame (cset (h.2 j hj).1.2 (by omega))⟩
  · rw [← (hr j hj e).1, ← (hr j hj e).2]
    exact ⟨cset (cset (h.2 j hj).1.1 (by omega)) (by omega), cset (cset (h.2 j hj).1.2 (by omega)) (by omega)⟩
theorem PRw.ps {W : World} {b n : Nat} {X Y : Nat → Nat} (h : PRw W b n X Y) : Ps W (some ⟨b, 0, none⟩) n (fun j => (X j : Int)) (fun j => (Y j : Int)) :=
  .inr ⟨b, 0, rfl, h.1, fun k hk => by rw [Nat.zero_add]; exact (h.2 k hk).1⟩
theorem made_pair (z : Value) (m j : Nat) (hj : j < m) : (madeCells #[z, z] m).toList[j]? = some z := by
  have h : j % 2 = 0 ∨ j % 2 = 1 := by omega
  rcases h with h | h <;> simp [madeCells, hj, h]
theorem prw_made {w : World} {B b n : Nat} (h : w.ownsRow B 45 2 (.slice (some ⟨b, 0, none⟩) n n) n (madeCells #[.int .i64 0, .int .i64 0] (n * 2)).toList) : PRw w b n (fun _ => 0) (fun _ => 0) :=
  ⟨(h.lt b rfl).2, fun j hj => ⟨⟨by rw [h.cellAt (j * 2) (by omega)]; exact made_pair _ _ _ (by omega), by rw [h.cellAt (j * 2 + 1) (by omega)]; exact made_pair _ _ _ (by omega)⟩, ⟨h.frozenAt _, h.frozenAt _⟩⟩⟩

/-- what is wrong with so many jobs and looms -/
def wE (n : Nat) (k : Int) : Int := if 64 < n then 5 else if k < 1 ∨ 16 < k then 3 else 0
set_option maxHeartbeats 1000000 in
theorem wrong_any (n : Nat) (k : Int) (W : World) : Calls Try.prog 15 #[.int .i64 (n : Int), .int .i64 k] W fun e V => e = .returned (.int .i64 (wE n k)) ∧ Below W.heap.size W V := by
  unfold wE
  by_cases c1 : 64 < n
  · have c1' : 64 < (n : Int) := by omega
    rw [if_pos c1]
    go_enter Try.func15, Try.ntmps15
    go_wp2
    go_ret
    exact ⟨rfl, Below.refl _ _⟩
  have c1' : ¬ 64 < (n : Int) := by omega
  rw [if_neg c1]
  by_cases c2 : k < 1
  · have c2' : decide (k < 1) = true := decide_eq_true c2
    rw [if_pos (.inl c2)]
    go_enter Try.func15, Try.ntmps15
    go_wp2
    go_ret
    exact ⟨rfl, Below.refl _ _⟩
  have c2' : decide (k < 1) = false := decide_eq_false c2
  by_cases c3 : 16 < k
  · have c3' : decide (16 < k) = true := decide_eq_true c3
    rw [if_pos (.inr c3)]
    go_enter Try.func15, Try.ntmps15
    go_wp2
    go_ret
    exact ⟨rfl, Below.refl _ _⟩
  have c3' : decide (16 < k) = false := decide_eq_false c3
  rw [if_neg (by omega)]
  go_enter Try.func15, Try.ntmps15
  go_wp2
  go_ret
  exact ⟨rfl, Below.refl _ _⟩

/-- may a cloth have so many picks? -/
def aC (n : Nat) (f : Nat → Int) : Bool := decide (∀ k, k < n → 0 ≤ f k ∧ f k ≤ 1048576)
theorem aC_bad {n x : Nat} {f : Nat → Int} (hx : x < n) (h : ¬ (0 ≤ f x ∧ f x ≤ 1048576)) : aC n f = false := decide_eq_false (fun q => h (q x hx))
theorem aC_all {n : Nat} {f : Nat → Int} (h : ∀ k, k < n → 0 ≤ f k ∧ f k ≤ 1048576) : aC n f = true := decide_eq_true h
set_option maxRecDepth 100000 in
set_option maxHeartbeats 2000000 in
theorem all_any (q : Option Addr) (n cap : Nat) (f : Nat → Int) (hn : n ≤ 64) (W : World) (hP : Is W q n f) : Calls Try.prog 16 #[.slice q n cap] W fun e V => e = .returned (.bool (aC n f)) ∧ Below W.heap.size W V := by
  have HP := hide hP
  clear hP
  go_enter Try.func16, Try.ntmps16
  go_wp2
  go_loopw [7] (fun i wr => ∃ x : Nat, x ≤ n ∧ i = .int .i64 (x : Int) ∧ Hid (∀ k, k < x → 0 ≤ f k ∧ f k ≤ 1048576) ∧ Below W.heap.size W wr) (fun i _ => n - (intOf i).toNat)
  case atStart => exact ⟨0, by omega, rfl, hide (fun k hk => by omega), Below.refl _ _⟩
  case round =>
    obtain ⟨x, hx, rfl, Hs, hb⟩ := hrel
    by_cases hlt : x < n
    · obtain ⟨ad0, oo, rfl, k0⟩ := ((unhide HP).keep hb).at hlt
      have q0 : (x : Int) < (n : Int) := by omega
      have q1 : (0 : Int) ≤ (x : Int) := by omega
      have Hb1 := hide hb
      have Hbad := hide (show ¬ (0 ≤ f x ∧ f x ≤ 1048576) → aC n f = false from aC_bad hlt)
      have Hgood := hide (show (0 ≤ f x ∧ f x ≤ 1048576) → ∀ k, k < x + 1 → 0 ≤ f k ∧ f k ≤ 1048576 from fun h k hk => by
        by_cases e : k = x
        · rw [e]; exact h
        · exact unhide Hs k (by omega))
      clear hb
      generalize f x = u at *
      by_cases d1 : u < 0
      · have d1' : decide (u < 0) = true := decide_eq_true d1
        go_wp2
        go_ret
        exact ⟨ret_bool (unhide Hbad (fun h => by omega)).symm, unhide Hb1⟩
      have d1' : decide (u < 0) = false := decide_eq_false d1
      by_cases d2 : 1048576 < u
      · have d2' : decide (1048576 < u) = true := decide_eq_true d2
        go_wp2
        go_ret
        exact ⟨ret_bool (unhide Hbad (fun h => by omega)).symm, unhide Hb1⟩
      have d2' : decide (1048576 < u) = false := decide_eq_false d2
      have Hok := hide (show 0 ≤ u ∧ u ≤ 1048576 by omega)
      go_wp2
      go_roundw
      case rel => exact ⟨x + 1, by omega, by go_num, hide (unhide Hgood (unhide Hok)), unhide Hb1⟩
      case measure => simp [intOf]; omega
    · obtain rfl : n = x := by omega
      have cl : ¬ ((n : Int) < (n : Int)) := by omega
      have HE := hide (aC_all (unhide Hs))
      have Hb := hide hb
      clear hb
      go_wp2
      go_ret
      exact ⟨ret_bool (unhide HE).symm, unhide Hb⟩

theorem am_lt (f : Nat → Nat) (n : Nat) : am f n ≤ n := am_le f n
set_option maxRecDepth 100000 in
set_option maxHeartbeats 2000000 in
theorem first_any (L n : Nat) (hn : n = L + 1) (hL : n ≤ 16) (q : Option Addr) (cap : Nat) (f : Nat → Nat) (W : World) (hP : Is W q n (fun k => (f k : Int))) : Calls Try.prog 17 #[.slice q n cap] W fun e V => e = .returned (.int .i64 (am f L : Int)) ∧ Below W.heap.size W V := by
  have HP := hide hP
  have Hn := hide hn
  have n1 : 1 ≤ n := by omega
  clear hP hn
  go_enter Try.func17, Try.ntmps17
  go_wp2
  go_loopw [3, 8] (fun m i wr => ∃ x : Nat, x ≤ n ∧ i = .int .i64 (x : Int) ∧ m = .int .i64 (am f (x - 1) : Int) ∧ Below W.heap.size W wr) (fun _ i _ => n - (intOf i).toNat)
  case atStart => exact ⟨0, by omega, rfl, rfl, Below.refl _ _⟩
  case round =>
    obtain ⟨x, hx, rfl, rfl, hb⟩ := hrel
    by_cases hlt : x < n
    · obtain ⟨ad0, oo, rfl, k0⟩ := ((unhide HP).keep hb).at hlt
      have hm : am f (x - 1) < n := by have := am_le f (x - 1); omega
      obtain ⟨ad1, oo1, he, k1⟩ := ((unhide HP).keep hb).at hm
      cases he
      have q0 : (x : Int) < (n : Int) := by omega
      have q1 : (0 : Int) ≤ (x : Int) := by omega
      have Hb1 := hide hb
      have Hm := hide (show am f (x + 1 - 1) = if f x < f (am f (x - 1)) then x else am f (x - 1) by
        rcases x with _ | y
        · simp [am]
        · rfl)
      clear hb
      obtain ⟨m, hme⟩ : ∃ m, m = am f (x - 1) := ⟨_, rfl⟩
      rw [← hme] at hm k1 Hm ⊢
      have c0 : (m : Int) < (n : Int) := by omega
      have c1 : (0 : Int) ≤ (m : Int) := by omega
      clear hme
      obtain ⟨u, hu⟩ : ∃ u, u = f x := ⟨_, rfl⟩
      obtain ⟨v, hv⟩ : ∃ v, v = f m := ⟨_, rfl⟩
      rw [← hu] at k0 Hm
      rw [← hv] at k1 Hm
      clear hu hv
      by_cases c : u < v
      · have c' : (u : Int) < (v : Int) := by omega
        go_wp2
        go_roundw
        case rel => exact ⟨x + 1, by omega, by go_num, by rw [unhide Hm, if_pos c], unhide Hb1⟩
        case measure => simp [intOf]; omega
      · have c' : ¬ (u : Int) < (v : Int) := by omega
        go_wp2
        go_roundw
        case rel => exact ⟨x + 1, by omega, by go_num, by rw [unhide Hm, if_neg c], unhide Hb1⟩
        case measure => simp [intOf]; omega
    · obtain rfl : n = x := by omega
      have cl : ¬ ((n : Int) < (n : Int)) := by omega
      have HE := hide (show am f L = am f (n - 1) by rw [unhide Hn]; rfl)
      have Hb := hide hb
      clear hb
      go_wp2
      go_ret
      exact ⟨ret_int (by rw [unhide HE]), unhide Hb⟩

/-- the greatest of the first so many and one more -/
def mz (f : Nat → Nat) : Nat → Nat
  | 0 => f 0
  | n + 1 => if mz f n < f (n + 1) then f (n + 1) else mz f n
theorem mz_mx (f : Nat → Nat) : ∀ n, mz f n = mx f (n + 1)
  | 0 => by
    show f 0 = if 0 < f 0 then f 0 else 0
    by_cases c : 0 < f 0
    · rw [if_pos c]
    · rw [if_neg c]; omega
  | n + 1 => by
    have := mz_mx f n
    rw [mz, this]; rfl
set_option maxRecDepth 100000 in
set_option maxHeartbeats 2000000 in
theorem greatest_any (L n : Nat) (hn : n = L + 1) (hL : n ≤ 16) (q : Option Addr) (cap : Nat) (f : Nat → Nat) (W : World) (hP : Is W q n (fun k => (f k : Int))) : Calls Try.prog 18 #[.slice q n cap] W fun e V => e = .returned (.int .i64 (mx f (L + 1) : Int)) ∧ Below W.heap.size W V := by
  have HP := hide hP
  rw [← mz_mx]
  obtain ⟨ad0, oo, rfl, k0⟩ := hP.at (show 0 < n by omega)
  rw [Nat.add_zero] at k0
  clear hP
  have Hn := hide hn
  have n0 : ¬ (n : Int) < 1 := by omega
  have n2 : 1 ≤ n := by omega
  have n1 : (0 : Int) < (n : Int) := by omega
  clear hn
  go_enter Try.func18, Try.ntmps18
  go_wp2
  go_loopw [3, 4] (fun m i wr => ∃ x : Nat, 1 ≤ x ∧ x ≤ n ∧ i = .int .i64 (x : Int) ∧ m = .int .i64 (mz f (x - 1) : Int) ∧ Below W.heap.size W wr) (fun _ i _ => n - (intOf i).toNat)
  case atStart => exact ⟨1, by omega, by omega, rfl, rfl, Below.refl _ _⟩
  case round =>
    clear k0
    obtain ⟨x, hx0, hx, rfl, rfl, hb⟩ := hrel
    by_cases hlt : x < n
    · obtain ⟨ad1, oo1, he, k1⟩ := ((unhide HP).keep hb).at hlt
      cases he
      have q0 : (x : Int) < (n : Int) := by omega
      have q1 : (0 : Int) ≤ (x : Int) := by omega
      have Hb1 := hide hb
      have Hm := hide (show mz f (x + 1 - 1) = if mz f (x - 1) < f x then f x else mz f (x - 1) by
        rcases x with _ | y
        · omega
        · rfl)
      clear hb
      obtain ⟨m, hme⟩ : ∃ m, m = mz f (x - 1) := ⟨_, rfl⟩
      rw [← hme] at Hm ⊢
      clear hme
      obtain ⟨u, hu⟩ : ∃ u, u = f x := ⟨_, rfl⟩
      rw [← hu] at k1 Hm
      clear hu
      by_cases c : m < u
      · have c' : (m : Int) < (u : Int) := by omega
        go_wp2
        go_roundw
        case rel => exact ⟨x + 1, by omega, by omega, by go_num, by rw [unhide Hm, if_pos c], unhide Hb1⟩
        case measure => simp [intOf]; omega
      · have c' : ¬ (m : Int) < (u : Int) := by omega
        go_wp2
        go_roundw
        case rel => exact ⟨x + 1, by omega, by omega, by go_num, by rw [unhide Hm, if_neg c], unhide Hb1⟩
        case measure => simp [intOf]; omega
    · obtain rfl : n = x := by omega
      have cl : ¬ ((n : Int) < (n : Int)) := by omega
      have HE := hide (show mz f L = mz f (n - 1) by rw [unhide Hn]; rfl)
      have Hb := hide hb
      clear hb
      go_wp2
      go_ret
      exact ⟨ret_int (by rw [unhide HE]), unhide Hb⟩
end Go.Proofs.Ythhcmccleabhhaa
