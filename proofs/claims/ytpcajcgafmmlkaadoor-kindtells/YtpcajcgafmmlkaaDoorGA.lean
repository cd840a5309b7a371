/-
  What the small functions of package group answer: modulo, leastMultiple, point, cell, cellBy, onto.
-/
import Derived.Test.YtpcajcgafmmlkaaDoorMoveMath
import Derived.Test.YtpcajcgafmmlkaaDoorChAt
import Derived.Deep.RegionHeld3
namespace Go.Proofs.YtpcajcgafmmlkaaDoor
open Go.RowKit

/-- a torus, as the methods take it -/
abbrev tv (g n : Int) (q : Option Addr) (k cap : Nat) : Value := .agg #[.int .i64 g, .int .i64 n, .slice q k cap]
/-- a torus in a box -/
def OwnT (W : World) (b : Nat) (g n : Int) (q : Option Addr) (k cap : Nat) : Prop := b < W.heap.size ∧ W.cell? ⟨b, 0, none⟩ = some (.int .i64 g) ∧ W.cell? ⟨b, 1, none⟩ = some (.int .i64 n) ∧ W.cell? ⟨b, 2, none⟩ = some (.slice q k cap)
theorem OwnT.keep {W w1 : World} {b : Nat} {g n : Int} {q : Option Addr} {k cap : Nat} (h : OwnT W b g n q k cap) (hb : Below W.heap.size W w1) : OwnT w1 b g n q k cap :=
  ⟨Nat.lt_of_lt_of_le h.1 hb.size, keepC hb h.1 h.2.1, keepC hb h.1 h.2.2.1, keepC hb h.1 h.2.2.2⟩
theorem OwnT.alloc {W : World} {b : Nat} {g n : Int} {q : Option Addr} {k cap : Nat} (h : OwnT W b g n q k cap) (o : Obj) : OwnT (W.alloc o) b g n q k cap := h.keep (bal (Below.refl _ _))
theorem OwnT.new (W : World) (g n : Int) (q : Option Addr) (k cap : Nat) (t : TypeId) : OwnT (W.alloc (.cells #[.int .i64 g, .int .i64 n, .slice q k cap] t)) W.heap.size g n q k cap :=
  ⟨by simp, by simp [go_sem], by simp [go_sem], by simp [go_sem]⟩

theorem gmodulo_any (n s : Int) (w : World) (hs : 1 ≤ s ∧ s ≤ 64) : Calls Tryd.prog 78 #[.int .i64 n, .int .i64 s] w fun e w' => e = .returned (.int .i64 (n % s)) ∧ w' = w := by
  have h0 : s ≠ 0 := by omega
  have ht := hide (Ch.tmod_twice n s hs.1)
  have hl := Ch.tmod_lt n s hs.1
  have hw := hide (Go.IntWalk.wrap64_in (n.tmod s + s) (by omega))
  clear hl
  go_enter Tryd.func78, Tryd.ntmps78
  go_wp2
  go_ret
  exact ⟨ret_int (by rw [unhide hw, unhide ht]), rfl⟩

/-- the least number that two divide -/
def lm (a b : Int) : Int := (Nat.lcm a.toNat b.toNat : Nat)
theorem lm_step (a b j : Nat) (ha : 1 ≤ a) (hb : 1 ≤ b) (hj : 1 ≤ j) (hno : ∀ i, 1 ≤ i → i < j → ¬ b ∣ a * i) (hd : b ∣ a * j) : Nat.lcm a b = a * j := by
  obtain ⟨c, hc⟩ := Nat.dvd_lcm_left a b
  have hcb : b ∣ a * c := hc ▸ Nat.dvd_lcm_right a b
  have h0 : 0 < Nat.lcm a b := Nat.lcm_pos (by omega) (by omega)
  have h1 : 1 ≤ c := by
    rcases Nat.eq_zero_or_pos c with e | e
    · rw [e] at hc; omega
    · exact e
  have h2 : Nat.lcm a b ∣ a * j := Nat.lcm_dvd (Nat.dvd_mul_right a j) hd
  have h3 : Nat.lcm a b ≤ a * j := Nat.le_of_dvd (Nat.mul_pos (by omega) (by omega)) h2
  rw [hc] at h3
  have h4 : c ≤ j := Nat.le_of_mul_le_mul_left h3 (by omega)
  by_cases e : c = j
  · rw [hc, e]
  · exact absurd hcb (hno c h1 (by omega))
/-- how far the search has come -/
def Seek (a b n : Int) : Prop := ∃ j : Nat, 1 ≤ j ∧ j ≤ b.toNat ∧ n = ((a.toNat * j : Nat) : Int) ∧ ∀ i, 1 ≤ i → i < j → ¬ b.toNat ∣ a.toNat * i
theorem Seek.range {a b n : Int} (h : Seek a b n) (ha : 1 ≤ a ∧ a ≤ 64) (hb : 1 ≤ b ∧ b ≤ 64) : 1 ≤ n ∧ n ≤ a * b ∧ n ≤ 4096 := by
  obtain ⟨j, h1, h2, rfl, _⟩ := h
  have e1 := Nat.mul_le_mul_left a.toNat h2
  have e2 := Nat.mul_le_mul (show a.toNat ≤ 64 by omega) (show j ≤ 64 by omega)
  have e3 := Nat.mul_le_mul (show 1 ≤ a.toNat by omega) h1
  have e4 : a * b = ((a.toNat * b.toNat : Nat) : Int) := by rw [Int.natCast_mul, Int.toNat_of_nonneg (by omega), Int.toNat_of_nonneg (by omega)]
  rw [e4]
  omega
theorem Seek.init (a b : Int) (ha : 1 ≤ a) (hb : 1 ≤ b) : Seek a b a := ⟨1, by omega, by omega, by simp; omega, fun i h1 h2 => by omega⟩
theorem mod_dvd (n b : Nat) : ((n : Int) % (b : Int) = 0) ↔ b ∣ n := by
  rw [← Int.natCast_emod, ← Int.natCast_zero, Int.natCast_inj]
  exact ⟨Nat.dvd_of_mod_eq_zero, Nat.mod_eq_zero_of_dvd⟩
theorem Seek.next {a b n : Int} (h : Seek a b n) (ha : 1 ≤ a) (hb : 1 ≤ b) (hn : n % b ≠ 0) : Seek a b (n + a) := by
  obtain ⟨j, h1, h2, rfl, h3⟩ := h
  have hnd : ¬ b.toNat ∣ a.toNat * j := fun hd => hn (by have := (mod_dvd (a.toNat * j) b.toNat).2 hd; rwa [Int.toNat_of_nonneg (by omega)] at this)
  refine ⟨j + 1, by omega, ?_, ?_, fun i k1 k2 => ?_⟩
  · by_cases e : j = b.toNat
    · exact absurd (e ▸ Nat.dvd_mul_left _ _) hnd
    · omega
  · rw [Nat.mul_add, Nat.mul_one, Int.natCast_add, Int.toNat_of_nonneg (show 0 ≤ a by omega)]
  · by_cases e : i = j
    · rw [e]; exact hnd
    · exact h3 i k1 (by omega)
theorem Seek.done {a b n : Int} (h : Seek a b n) (ha : 1 ≤ a) (hb : 1 ≤ b) (hn : n % b = 0) : n = lm a b := by
  obtain ⟨j, h1, h2, rfl, h3⟩ := h
  have hd : b.toNat ∣ a.toNat * j := (mod_dvd (a.toNat * j) b.toNat).1 (by rw [Int.toNat_of_nonneg (by omega)]; exact hn)
  unfold lm
  rw [lm_step a.toNat b.toNat j (by omega) (by omega) h1 h3 hd]
theorem Seek.more {a b n : Int} (h : Seek a b n) (ha : 1 ≤ a) (hb : 1 ≤ b) (hn : n % b ≠ 0) : n < a * b := by
  obtain ⟨j, h1, h2, rfl, h3⟩ := h
  have hnd : ¬ b.toNat ∣ a.toNat * j := fun hd => hn (by have := (mod_dvd (a.toNat * j) b.toNat).2 hd; rwa [Int.toNat_of_nonneg (by omega)] at this)
  have hj : j < b.toNat := by
    by_cases e : j = b.toNat
    · exact absurd (e ▸ Nat.dvd_mul_left _ _) hnd
    · omega
  have := Nat.mul_lt_mul_of_pos_left hj (show 0 < a.toNat by omega)
  have e4 : a * b = ((a.toNat * b.toNat : Nat) : Int) := by rw [Int.natCast_mul, Int.toNat_of_nonneg (by omega), Int.toNat_of_nonneg (by omega)]
  rw [e4]
  omega
theorem lm_range (a b : Int) (ha : 1 ≤ a) (hb : 1 ≤ b) : 1 ≤ lm a b := by
  have h0 : 0 < Nat.lcm a.toNat b.toNat := Nat.lcm_pos (by omega) (by omega)
  unfold lm; omega

set_option maxHeartbeats 1000000 in
theorem least_any (a b : Int) (w : World) (ha : 1 ≤ a ∧ a ≤ 64) (hb : 1 ≤ b ∧ b ≤ 64) : Calls Tryd.prog 70 #[.int .i64 a, .int .i64 b] w fun e w' => e = .returned (.int .i64 (lm a b)) ∧ w' = w := by
  go_enter Tryd.func70, Tryd.ntmps70
  go_wp2
  go_loop [5] (fun v => ∃ n : Int, v = .int .i64 n ∧ Seek a b n) (fun v => (a * b - intOf v).toNat)
  case atStart => exact ⟨a, rfl, Seek.init a b ha.1 hb.1⟩
  case round =>
    obtain ⟨n, rfl, hs⟩ := hrel
    have hr := hs.range ha hb
    by_cases hz : n % b = 0
    · have e := hide (hs.done ha.1 hb.1 hz)
      have hz' : (n % b != 0) = false := by simp [hz]
      clear hz hs
      go_wp2
      go_ret
      exact ⟨ret_int (unhide e), rfl⟩
    · have hz' : (n % b != 0) = true := by simp [hz]
      have Hs := hide (hs.next ha.1 hb.1 hz)
      have hm := hide (hs.more ha.1 hb.1 hz)
      clear hz hs
      go_wp2
      go_round
      case rel => exact ⟨n + a, rfl, unhide Hs⟩
      case measure => have := unhide hm; simp [intOf]; omega

theorem tmod_of (i n : Int) (hi : 0 ≤ i) : i.tmod n = i % n := Int.tmod_eq_emod_of_nonneg hi
theorem tdiv_of (i n : Int) (hi : 0 ≤ i ∧ i ≤ 100000) (hn : 1 ≤ n) : IntKind.i64.wrap (i.tdiv n) = i / n := by
  rw [Int.tdiv_eq_ediv_of_nonneg hi.1]
  have h1 := Int.ediv_nonneg hi.1 (show 0 ≤ n by omega)
  have h2 := Int.ediv_le_self n hi.1
  exact (Go.IntWalk.i64_left _).trans (Go.IntWalk.wrap64_in _ (by omega))

set_option maxHeartbeats 1000000 in
theorem point_any (g n : Int) (q : Option Addr) (k cap : Nat) (i : Int) (w : World) (hn : 1 ≤ n ∧ n ≤ 24) (hi : 0 ≤ i ∧ i ≤ 576) : Calls Tryd.prog 58 #[tv g n q k cap, .int .i64 i] w fun e w' => e = .returned (.agg #[.int .i64 (i % n), .int .i64 (i / n)]) ∧ Below w.heap.size w w' := by
  have h0 : n ≠ 0 := by omega
  have e1 := hide (tmod_of i n hi.1)
  have e2 := hide (tdiv_of i n ⟨hi.1, by omega⟩ hn.1)
  go_enter Tryd.func58, Tryd.ntmps58
  go_wp2_with fail
  go_region_held3 (fun V => Below w.heap.size w V ∧ V.cell? ⟨w.heap.size, 1, none⟩ = some (.int .i64 n))
    (first
      | (exact ⟨Below.drew (bal (bal (Below.refl _ _))), by simp [go_sem]⟩))
    (fail)
  go_wp2
  exact bodyPost_ret (v := .agg #[.int .i64 (i.tmod n), .int .i64 (IntKind.i64.wrap (i.tdiv n))]) (by simp [results, Tryd.results58, go_sem]) rfl ⟨by rw [unhide e1, unhide e2], (by assumption : Below w.heap.size w _ ∧ _).1⟩

set_option maxHeartbeats 1000000 in
theorem gcell_any (g n : Int) (q : Option Addr) (k cap : Nat) (x y : Int) (w : World) (hn : 1 ≤ n ∧ n ≤ 24) (hx : 0 ≤ x ∧ x ≤ 24) (hy : 0 ≤ y ∧ y ≤ 24) : Calls Tryd.prog 79 #[tv g n q k cap, .agg #[.int .i64 x, .int .i64 y]] w fun e w' => e = .returned (.int .i64 (y * n + x)) ∧ Below w.heap.size w w' := by
  have b1 := Int.mul_nonneg hy.1 (show 0 ≤ n by omega)
  have b2 := Int.mul_le_mul hy.2 hn.2 (by omega) (by omega)
  go_enter Tryd.func79, Tryd.ntmps79
  go_wp2
  go_ret
  exact ⟨rfl, bal (bal (Below.refl _ _))⟩

end Go.Proofs.YtpcajcgafmmlkaaDoor
