/-
  A deck that is read: fault, take and head of package cards.
-/
import Derived.Test.YtkjicpbnkehimaaCdE
namespace Go.Proofs.Ytkjicpbnkehimaa
open Go.RowKit

/-- a deck in its box: its bytes, and the next one -/
def Dk (W : World) (d : Nat) (s : ByteArray) (a : Nat) : Prop := d < W.heap.size ∧ W.cell? ⟨d, 0, none⟩ = some (.string s) ∧ W.cell? ⟨d, 1, none⟩ = some (.int .i64 a) ∧ W.frozen? ⟨d, 1, none⟩ = false
theorem Dk.keep {W V : World} {d a : Nat} {s : ByteArray} (k : Dk W d s a) (hb : Below W.heap.size W V) : Dk V d s a :=
  ⟨Nat.lt_of_lt_of_le k.1 hb.size, keepC hb k.1 k.2.1, keepC hb k.1 k.2.2.1, keepF hb k.1 k.2.2.2⟩
theorem Dk.put {W : World} {d a : Nat} {s : ByteArray} (k : Dk W d s a) (b : Nat) : Dk (W.setCell ⟨d, 1, none⟩ (.int .i64 b)) d s b := by
  refine ⟨by simpa using k.1, ?_, ?_, by rw [World.frozen?_setCell]; exact k.2.2.2⟩
  · rw [World.cell?_setCell_other _ _ _ _ (by intro e; cases e)]; exact k.2.1
  · rw [World.cell?_setCell_same' _ _ _ (by rw [k.2.2.1]; rfl)]

set_option maxHeartbeats 1000000 in
theorem fault_any {W : World} {d a : Nat} {s : ByteArray} (k : Dk W d s a) :
    Calls Try.prog 26 #[.pointer (some ⟨d, 0, none⟩)] W fun e w' => e = .returned (.agg #[.int .i64 2, .int .i64 a]) ∧ Below W.heap.size W w' := by
  obtain ⟨-, c0, c1, c2⟩ := k.keep (bal (o := .cells #[.int .i64 0, .int .i64 0] 29) (Below.refl _ W))
  go_enter Try.func26, Try.ntmps26
  go_wp2
  exact bodyPost_ret (v := .agg #[.int .i64 2, .int .i64 a]) (by simp [results, Try.results26, go_sem]) rfl ⟨rfl, by
    repeat first | exact Below.refl _ _ | refine bset ?_ (by simp) | refine bal ?_⟩

set_option maxRecDepth 100000 in
set_option maxHeartbeats 1000000 in
theorem take_end {W : World} {d a : Nat} {s : ByteArray} (k : Dk W d s a) (lo hi : Int) (he : a = s.size) :
    Calls Try.prog 37 #[.pointer (some ⟨d, 0, none⟩), .int .i64 lo, .int .i64 hi] W fun e w' => e = .returned (.tuple #[.int .i64 0, .bool false]) ∧ Below W.heap.size W w' := by
  obtain ⟨-, c0, c1, c2⟩ := k
  have e1 : ((a : Int) == (s.size : Int)) = true := by simp [he]
  clear he
  go_enter Try.func37, Try.ntmps37
  go_wp2_with fail
  go_quiet (fail)
  go_wp2
  go_ret2
  exact ⟨rfl, Joins.below_draws _ _ _⟩

set_option maxRecDepth 100000 in
set_option maxHeartbeats 1000000 in
theorem take_no {W : World} {d a : Nat} {s : ByteArray} (k : Dk W d s a) (lo hi : Int) (ha : a < s.size) (hn : (bya s.data.toList a : Int) < lo ∨ hi < (bya s.data.toList a : Int)) :
    Calls Try.prog 37 #[.pointer (some ⟨d, 0, none⟩), .int .i64 lo, .int .i64 hi] W fun e w' => e = .returned (.tuple #[.int .i64 0, .bool false]) ∧ Below W.heap.size W w' := by
  rw [bya_str s a ha] at hn
  obtain ⟨-, c0, c1, c2⟩ := k
  have e1 : ((a : Int) == (s.size : Int)) = false := by simp; omega
  have q1 : (0 : Int) ≤ (a : Int) := by omega
  have q2 : (a : Int) < (s.size : Int) := by omega
  have hc := s[a].toNat_lt
  rcases Classical.em ((s[a].toNat : Int) < lo) with h | h
  · clear hn
    go_enter Try.func37, Try.ntmps37
    go_wp2_with fail
    go_quiet (fail)
    go_wp2_with fail
    go_quiet (fail)
    go_wp2
    go_ret2
    exact ⟨rfl, Joins.below_draws _ _ _⟩
  · have h2 : hi < (s[a].toNat : Int) := by omega
    have h3 : decide ((s[a].toNat : Int) < lo) = false := by simpa using h
    clear hn
    go_enter Try.func37, Try.ntmps37
    go_wp2_with fail
    go_quiet (fail)
    go_wp2_with fail
    go_quiet (fail)
    go_wp2
    go_ret2
    exact ⟨rfl, Joins.below_draws _ _ _⟩

set_option maxRecDepth 100000 in
set_option maxHeartbeats 1000000 in
theorem take_yes {W : World} {d a : Nat} {s : ByteArray} (k : Dk W d s a) (lo hi : Int) (ha : a < s.size) (hm : s.size ≤ maxLen) (hn : lo ≤ (bya s.data.toList a : Int)) (hn2 : (bya s.data.toList a : Int) ≤ hi) :
    Calls Try.prog 37 #[.pointer (some ⟨d, 0, none⟩), .int .i64 lo, .int .i64 hi] W fun e w' => e = .returned (.tuple #[.int .i64 (bya s.data.toList a : Int), .bool true]) ∧ Dk w' d s (a + 1) ∧ W.grownBy w' (some d) := by
  unfold maxLen at hm
  have Hb := hide (bya_str s a ha)
  rw [bya_str s a ha] at hn hn2
  have K0 := hide k
  obtain ⟨-, c0, c1, c2⟩ := k
  have e1 : ((a : Int) == (s.size : Int)) = false := by simp; omega
  have q1 : (0 : Int) ≤ (a : Int) := by omega
  have q2 : (a : Int) < (s.size : Int) := by omega
  have hc := s[a].toNat_lt
  have h : ¬ ((s[a].toNat : Int) < lo) := by omega
  have h3 : decide ((s[a].toNat : Int) < lo) = false := by simpa using h
  have h2 : ¬ (hi < (s[a].toNat : Int)) := by omega
  have h4 : decide (hi < (s[a].toNat : Int)) = false := by simpa using h2
  go_enter Try.func37, Try.ntmps37
  go_wp2_with fail
  go_quiet (fail)
  go_wp2_with fail
  go_quiet (fail)
  go_wp2
  go_ret2
  refine ⟨by rw [unhide Hb]; rfl, ((unhide K0).keep (Joins.below_draws _ _ _)).put (a + 1), ?_⟩
  exact gset (gbelow _ (Joins.below_draws _ _ _)) _ _

/-- what is read at the head: the places ahead are right -/
theorem okc_lo (l : List UInt8) (i : Nat) (h3 : i < 3) (h : i < l.length) (hb : bya l i = mk i) : okc l i = true := by
  unfold okc; rw [decide_eq_true h, if_pos h3, hb]; simp
theorem okc_hi (l : List UInt8) (i : Nat) (h3 : ¬ i < 3) (h : i < l.length) (hb : bya l i ≤ 64) : okc l i = true := by
  unfold okc; rw [decide_eq_true h, if_neg h3]; simpa using hb
theorem okc_short (l : List UInt8) (i : Nat) (h : l.length ≤ i) : okc l i = false := by
  unfold okc; rw [decide_eq_false (by omega)]; rfl
theorem okc_lo_no (l : List UInt8) (i : Nat) (h3 : i < 3) (hb : ¬ bya l i = mk i) : okc l i = false := by
  unfold okc; rw [if_pos h3]; simp [hb]
theorem okc_hi_no (l : List UInt8) (i : Nat) (h3 : ¬ i < 3) (hb : ¬ bya l i ≤ 64) : okc l i = false := by
  unfold okc; rw [if_neg h3]; simp; omega
/-- take, whatever comes: what it answers, and where the deck is then -/
def tkV (l : List UInt8) (a : Nat) (lo hi : Int) : Bool := decide (a < l.length) && (decide (lo ≤ (bya l a : Int)) && decide ((bya l a : Int) ≤ hi))
theorem str_len (s : ByteArray) : s.data.toList.length = s.size := by simp
theorem take_any {W : World} {d a : Nat} {s : ByteArray} (k : Dk W d s a) (lo hi : Int) (ha : a ≤ s.size) (hm : s.size ≤ maxLen) :
    Calls Try.prog 37 #[.pointer (some ⟨d, 0, none⟩), .int .i64 lo, .int .i64 hi] W fun e w' =>
      e = .returned (.tuple #[.int .i64 (if tkV s.data.toList a lo hi then (bya s.data.toList a : Int) else 0), .bool (tkV s.data.toList a lo hi)]) ∧ Dk w' d s (if tkV s.data.toList a lo hi then a + 1 else a) ∧ W.grownBy w' (some d) := by
  cases c : tkV s.data.toList a lo hi with
  | true =>
    unfold tkV at c
    rw [str_len] at c
    simp at c
    simpa using take_yes k lo hi c.1 hm c.2.1 c.2.2
  | false =>
    have := fun (e : Ending) (w' : World) (h : e = .returned (.tuple #[.int .i64 0, .bool false]) ∧ Below W.heap.size W w') => (show e = .returned (.tuple #[.int .i64 (if false = true then (bya s.data.toList a : Int) else 0), .bool false]) ∧ Dk w' d s (if false = true then a + 1 else a) ∧ W.grownBy w' (some d) from ⟨h.1, k.keep h.2, gbelow _ h.2⟩)
    by_cases h : a < s.size
    · refine (take_no k lo hi h ?_).mono this
      unfold tkV at c
      rw [str_len] at c
      simp [h] at c
      omega
    · exact (take_end k lo hi (by omega)).mono this
end Go.Proofs.Ytkjicpbnkehimaa
