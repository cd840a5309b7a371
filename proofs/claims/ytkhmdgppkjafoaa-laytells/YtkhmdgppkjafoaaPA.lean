/-
  Pieces and points in memory; what is wrong, on both sides; within, areaOf, meets, between.
-/
import Derived.Test.YtkhmdgppkjafoaaLM
import Derived.Test.YtkhmdgppkjafoaaBase
namespace Go.Proofs.Ytkhmdgppkjafoaa
open Go.RowKit

/-- pairs of numbers in a slice: pieces, or points -/
def Ps (W : World) (q : Option Addr) (n : Nat) (a b : Nat → Int) : Prop := n = 0 ∨ ∃ g o, q = some ⟨g, o, none⟩ ∧ g < W.heap.size ∧ ∀ k, k < n → W.cell? ⟨g, o + k * 2, none⟩ = some (.int .i64 (a k)) ∧ W.cell? ⟨g, o + k * 2 + 1, none⟩ = some (.int .i64 (b k))
theorem Ps.keep {W V : World} {q : Option Addr} {n : Nat} {a b : Nat → Int} (h : Ps W q n a b) (hb : Below W.heap.size W V) : Ps V q n a b := by
  rcases h with h | ⟨g, o, e, hl, hk⟩
  · exact .inl h
  · exact .inr ⟨g, o, e, Nat.lt_of_lt_of_le hl hb.size, fun k hkn => ⟨keepC hb hl (hk k hkn).1, keepC hb hl (hk k hkn).2⟩⟩
theorem Ps.at {W : World} {q : Option Addr} {n x : Nat} {a b : Nat → Int} (h : Ps W q n a b) (hx : x < n) : ∃ g o, q = some ⟨g, o, none⟩ ∧ W.cell? ⟨g, o + x * 2, none⟩ = some (.int .i64 (a x)) ∧ W.cell? ⟨g, o + x * 2 + 1, none⟩ = some (.int .i64 (b x)) := by
  rcases h with h | ⟨g, o, e, hl, hk⟩
  · omega
  · exact ⟨g, o, e, hk x hx⟩
theorem Ps.congr {W : World} {q : Option Addr} {n : Nat} {a b a' b' : Nat → Int} (h : Ps W q n a b) (e : ∀ k, k < n → a k = a' k ∧ b k = b' k) : Ps W q n a' b' := by
  rcases h with h | ⟨g, o, e1, hl, hk⟩
  · exact .inl h
  · exact .inr ⟨g, o, e1, hl, fun k hkn => by rw [← (e k hkn).1, ← (e k hkn).2]; exact hk k hkn⟩
/-- a pair in its box -/
def B2 (W : World) (g : Nat) (a b : Int) : Prop := g < W.heap.size ∧ W.cell? ⟨g, 0, none⟩ = some (.int .i64 a) ∧ W.cell? ⟨g, 1, none⟩ = some (.int .i64 b)
theorem B2.keep {W V : World} {g : Nat} {a b : Int} (h : B2 W g a b) (hb : Below W.heap.size W V) : B2 V g a b :=
  ⟨Nat.lt_of_lt_of_le h.1 hb.size, keepC hb h.1 h.2.1, keepC hb h.1 h.2.2⟩
theorem B2.new (W : World) (a b : Int) (t : TypeId) : B2 (W.alloc (.cells #[.int .i64 a, .int .i64 b] t)) W.heap.size a b :=
  ⟨by simp, by simp [go_sem], by simp [go_sem]⟩

theorem wE_w {wide : Int} {n : Nat} {a b : Nat → Int} (h : wide < 1 ∨ 1048576 < wide) : wE wide n a b = 3 := by unfold wE; rw [if_pos h]
theorem wE_n {wide : Int} {n : Nat} {a b : Nat → Int} (h1 : ¬ (wide < 1 ∨ 1048576 < wide)) (h : 256 < n) : wE wide n a b = 5 := by unfold wE; rw [if_neg h1, if_pos h]
theorem wE_bad {wide : Int} {n x : Nat} {a b : Nat → Int} (h1 : ¬ (wide < 1 ∨ 1048576 < wide)) (h2 : ¬ 256 < n) (hx : x < n) (h : ¬ PcOk wide (a x) (b x)) : wE wide n a b = 3 := by
  unfold wE; rw [if_neg h1, if_neg h2, if_neg (fun q => h (q x hx))]
theorem wE_all {wide : Int} {n : Nat} {a b : Nat → Int} (h1 : ¬ (wide < 1 ∨ 1048576 < wide)) (h2 : ¬ 256 < n) (h : ∀ k, k < n → PcOk wide (a k) (b k)) : wE wide n a b = 0 := by
  unfold wE; rw [if_neg h1, if_neg h2, if_pos h]

set_option maxRecDepth 100000 in
set_option maxHeartbeats 4000000 in
theorem wrong_any (wide : Int) (q : Option Addr) (n cap : Nat) (a b : Nat → Int) (W : World) (hP : Ps W q n a b) : Calls Try.prog 12 #[.int .i64 wide, .slice q n cap] W fun e V => e = .returned (.int .i64 (wE wide n a b)) ∧ Below W.heap.size W V := by
  by_cases c1 : wide < 1
  · have c1' : decide (wide < 1) = true := decide_eq_true c1
    rw [wE_w (.inl c1)]
    go_enter Try.func12, Try.ntmps12
    go_wp2
    go_ret
    exact ⟨rfl, Below.refl _ _⟩
  have c1' : decide (wide < 1) = false := decide_eq_false c1
  by_cases c2 : 1048576 < wide
  · have c2' : decide (1048576 < wide) = true := decide_eq_true c2
    rw [wE_w (.inr c2)]
    go_enter Try.func12, Try.ntmps12
    go_wp2
    go_ret
    exact ⟨rfl, Below.refl _ _⟩
  have c2' : decide (1048576 < wide) = false := decide_eq_false c2
  have c12 : ¬ (wide < 1 ∨ 1048576 < wide) := by omega
  by_cases c3 : 256 < n
  · have c3' : 256 < (n : Int) := by omega
    rw [wE_n c12 c3]
    go_enter Try.func12, Try.ntmps12
    go_wp2
    go_ret
    exact ⟨rfl, Below.refl _ _⟩
  have c3' : ¬ 256 < (n : Int) := by omega
  have HP := hide hP
  clear hP
  go_enter Try.func12, Try.ntmps12
  go_wp2
  go_loopw [18] (fun i wr => ∃ x : Nat, x ≤ n ∧ i = .int .i64 (x : Int) ∧ Hid (∀ k, k < x → PcOk wide (a k) (b k)) ∧ Below W.heap.size W wr) (fun i _ => n - (intOf i).toNat)
  case atStart => exact ⟨0, by omega, rfl, hide (fun k hk => by omega), Below.refl _ _⟩
  case round =>
    obtain ⟨x, hx, rfl, Hs, hb⟩ := hrel
    by_cases hlt : x < n
    · obtain ⟨ad0, oo, rfl, k0, k1⟩ := ((unhide HP).keep hb).at hlt
      have q0 : (x : Int) < (n : Int) := by omega
      have q1 : (0 : Int) ≤ (x : Int) := by omega
      have HB := hide (B2.new wr (a x) (b x) 33)
      have Hb1 := hide (bal (o := .cells #[.int .i64 (a x), .int .i64 (b x)] 33) hb)
      have Hbad := hide (show ¬ PcOk wide (a x) (b x) → wE wide n a b = 3 from fun h => wE_bad c12 c3 hlt h)
      have Hgood := hide (show PcOk wide (a x) (b x) → ∀ k, k < x + 1 → PcOk wide (a k) (b k) from fun h k hk => by
        by_cases e : k = x
        · rw [e]; exact h
        · exact unhide Hs k (by omega))
      have Hiff := hide (show PcOk wide (a x) (b x) ↔ 1 ≤ a x ∧ a x ≤ wide ∧ 1 ≤ b x ∧ b x ≤ 1048576 from Iff.rfl)
      clear hb
      generalize a x = u at *
      generalize b x = v at *
      go_upto_region 8 with fail
      generalize wr.alloc (.cells #[.int .i64 u, .int .i64 v] 33) = w3 at *
      generalize wr.heap.size = n6 at *
      clear k0 k1
      have i0 := (unhide HB).2.1
      have i1 := (unhide HB).2.2
      by_cases d1 : u < 1
      · have d1' : decide (u < 1) = true := decide_eq_true d1
        go_wp2
        go_ret
        exact ⟨ret_int (unhide Hbad (fun h => by have := (unhide Hiff).1 h; omega)).symm, unhide Hb1⟩
      have d1' : decide (u < 1) = false := decide_eq_false d1
      by_cases d2 : wide < u
      · have d2' : decide (wide < u) = true := decide_eq_true d2
        go_wp2
        go_ret
        exact ⟨ret_int (unhide Hbad (fun h => by have := (unhide Hiff).1 h; omega)).symm, unhide Hb1⟩
      have d2' : decide (wide < u) = false := decide_eq_false d2
      by_cases d3 : v < 1
      · have d3' : decide (v < 1) = true := decide_eq_true d3
        go_wp2
        go_ret
        exact ⟨ret_int (unhide Hbad (fun h => by have := (unhide Hiff).1 h; omega)).symm, unhide Hb1⟩
      have d3' : decide (v < 1) = false := decide_eq_false d3
      by_cases d4 : 1048576 < v
      · have d4' : decide (1048576 < v) = true := decide_eq_true d4
        go_wp2
        go_ret
        exact ⟨ret_int (unhide Hbad (fun h => by have := (unhide Hiff).1 h; omega)).symm, unhide Hb1⟩
      have d4' : decide (1048576 < v) = false := decide_eq_false d4
      have Hok := hide ((unhide Hiff).2 (by omega))
      go_wp2
      go_roundw
      case rel => exact ⟨x + 1, by omega, by go_num, hide (unhide Hgood (unhide Hok)), unhide Hb1⟩
      case measure => simp [intOf]; omega
    · obtain rfl : n = x := by omega
      have cl : ¬ ((n : Int) < (n : Int)) := by omega
      have HE := hide (wE_all c12 c3 (unhide Hs))
      have Hb := hide hb
      clear hb
      go_wp2
      go_ret
      exact ⟨ret_int (unhide HE).symm, unhide Hb⟩

set_option maxRecDepth 100000 in
set_option maxHeartbeats 4000000 in
theorem rwrong_any (wide : Int) (q : Option Addr) (n cap : Nat) (a b : Nat → Int) (W : World) (hP : Ps W q n a b) : Calls Try.prog 15 #[.int .i64 wide, .slice q n cap] W fun e V => e = .returned (.int .i64 (wE wide n a b)) ∧ Below W.heap.size W V := by
  by_cases c1 : wide < 1
  · have c1' : decide (wide < 1) = true := decide_eq_true c1
    rw [wE_w (.inl c1)]
    go_enter Try.func15, Try.ntmps15
    go_wp2
    go_ret
    exact ⟨rfl, Below.refl _ _⟩
  have c1' : decide (wide < 1) = false := decide_eq_false c1
  by_cases c2 : 1048576 < wide
  · have c2' : decide (1048576 < wide) = true := decide_eq_true c2
    rw [wE_w (.inr c2)]
    go_enter Try.func15, Try.ntmps15
    go_wp2
    go_ret
    exact ⟨rfl, Below.refl _ _⟩
  have c2' : decide (1048576 < wide) = false := decide_eq_false c2
  have c12 : ¬ (wide < 1 ∨ 1048576 < wide) := by omega
  by_cases c3 : 256 < n
  · have c3' : 256 < (n : Int) := by omega
    rw [wE_n c12 c3]
    go_enter Try.func15, Try.ntmps15
    go_wp2
    go_ret
    exact ⟨rfl, Below.refl _ _⟩
  have c3' : ¬ 256 < (n : Int) := by omega
  have HP := hide hP
  clear hP
  go_enter Try.func15, Try.ntmps15
  go_wp2
  go_loopw [18] (fun i wr => ∃ x : Nat, x ≤ n ∧ i = .int .i64 (x : Int) ∧ Hid (∀ k, k < x → PcOk wide (a k) (b k)) ∧ Below W.heap.size W wr) (fun i _ => n - (intOf i).toNat)
  case atStart => exact ⟨0, by omega, rfl, hide (fun k hk => by omega), Below.refl _ _⟩
  case round =>
    obtain ⟨x, hx, rfl, Hs, hb⟩ := hrel
    by_cases hlt : x < n
    · obtain ⟨ad0, oo, rfl, k0, k1⟩ := ((unhide HP).keep hb).at hlt
      have q0 : (x : Int) < (n : Int) := by omega
      have q1 : (0 : Int) ≤ (x : Int) := by omega
      have HB := hide (B2.new wr (a x) (b x) 33)
      have Hb1 := hide (bal (o := .cells #[.int .i64 (a x), .int .i64 (b x)] 33) hb)
      have Hbad := hide (show ¬ PcOk wide (a x) (b x) → wE wide n a b = 3 from fun h => wE_bad c12 c3 hlt h)
      have Hgood := hide (show PcOk wide (a x) (b x) → ∀ k, k < x + 1 → PcOk wide (a k) (b k) from fun h k hk => by
        by_cases e : k = x
        · rw [e]; exact h
        · exact unhide Hs k (by omega))
      have Hiff := hide (show PcOk wide (a x) (b x) ↔ 1 ≤ a x ∧ a x ≤ wide ∧ 1 ≤ b x ∧ b x ≤ 1048576 from Iff.rfl)
      clear hb
      generalize a x = u at *
      generalize b x = v at *
      go_upto_region 8 with fail
      generalize wr.alloc (.cells #[.int .i64 u, .int .i64 v] 33) = w3 at *
      generalize wr.heap.size = n6 at *
      clear k0 k1
      have i0 := (unhide HB).2.1
      have i1 := (unhide HB).2.2
      by_cases d1 : u < 1
      · have d1' : decide (u < 1) = true := decide_eq_true d1
        go_wp2
        go_ret
        exact ⟨ret_int (unhide Hbad (fun h => by have := (unhide Hiff).1 h; omega)).symm, unhide Hb1⟩
      have d1' : decide (u < 1) = false := decide_eq_false d1
      by_cases d2 : wide < u
      · have d2' : decide (wide < u) = true := decide_eq_true d2
        go_wp2
        go_ret
        exact ⟨ret_int (unhide Hbad (fun h => by have := (unhide Hiff).1 h; omega)).symm, unhide Hb1⟩
      have d2' : decide (wide < u) = false := decide_eq_false d2
      by_cases d3 : v < 1
      · have d3' : decide (v < 1) = true := decide_eq_true d3
        go_wp2
        go_ret
        exact ⟨ret_int (unhide Hbad (fun h => by have := (unhide Hiff).1 h; omega)).symm, unhide Hb1⟩
      have d3' : decide (v < 1) = false := decide_eq_false d3
      by_cases d4 : 1048576 < v
      · have d4' : decide (1048576 < v) = true := decide_eq_true d4
        go_wp2
        go_ret
        exact ⟨ret_int (unhide Hbad (fun h => by have := (unhide Hiff).1 h; omega)).symm, unhide Hb1⟩
      have d4' : decide (1048576 < v) = false := decide_eq_false d4
      have Hok := hide ((unhide Hiff).2 (by omega))
      go_wp2
      go_roundw
      case rel => exact ⟨x + 1, by omega, by go_num, hide (unhide Hgood (unhide Hok)), unhide Hb1⟩
      case measure => simp [intOf]; omega
    · obtain rfl : n = x := by omega
      have cl : ¬ ((n : Int) < (n : Int)) := by omega
      have HE := hide (wE_all c12 c3 (unhide Hs))
      have Hb := hide hb
      clear hb
      go_wp2
      go_ret
      exact ⟨ret_int (unhide HE).symm, unhide Hb⟩
end Go.Proofs.Ytkhmdgppkjafoaa
