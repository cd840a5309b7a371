/-
  Package shape: Spread and Count.
-/
import Derived.Test.YtmblnfdadpcigaaA
namespace Go.Proofs.Ytmblnfdadpcigaa
open Go.RowKit

/-- whole numbers in a slice -/
def Is (W : World) (q : Option Addr) (n : Nat) (f : Nat → Int) : Prop := n = 0 ∨ ∃ b, q = some ⟨b, 0, none⟩ ∧ b < W.heap.size ∧ ∀ k, k < n → W.cell? ⟨b, k, none⟩ = some (.int .i64 (f k))
theorem Is.keep {W V : World} {q : Option Addr} {n : Nat} {f : Nat → Int} (h : Is W q n f) (hb : Below W.heap.size W V) : Is V q n f := by
  rcases h with h | ⟨b, e, hl, hk⟩
  · exact .inl h
  · exact .inr ⟨b, e, Nat.lt_of_lt_of_le hl hb.size, fun k hkn => keepC hb hl (hk k hkn)⟩
theorem Is.at {W : World} {q : Option Addr} {n x : Nat} {f : Nat → Int} (h : Is W q n f) (hx : x < n) : ∃ a, q = some ⟨a, 0, none⟩ ∧ a < W.heap.size ∧ ∀ k, k < n → W.cell? ⟨a, k, none⟩ = some (.int .i64 (f k)) := by
  rcases h with h | h
  · omega
  · exact h
/-- numbers that may be written -/
def JRow (W : World) (b k : Nat) (f : Nat → Int) : Prop := b < W.heap.size ∧ ∀ j, j < k → W.cell? ⟨b, j, none⟩ = some (.int .i64 (f j)) ∧ W.frozen? ⟨b, j, none⟩ = false
theorem JRow.keep {W V : World} {b k : Nat} {f : Nat → Int} (h : JRow W b k f) (hb : Below W.heap.size W V) : JRow V b k f :=
  ⟨Nat.lt_of_lt_of_le h.1 hb.size, fun j hj => ⟨keepC hb h.1 (h.2 j hj).1, keepF hb h.1 (h.2 j hj).2⟩⟩
theorem JRow.put {W : World} {b k : Nat} {f g : Nat → Int} (h : JRow W b k f) {x : Nat} {v : Int} (hv : g x = v) (hg : ∀ j, j < k → j ≠ x → f j = g j) : JRow (W.setCell ⟨b, x, none⟩ (.int .i64 v)) b k g := by
  refine ⟨by simpa using h.1, fun j hj => ⟨?_, fset (h.2 j hj).2⟩⟩
  by_cases e : j = x
  · subst e; rw [hv]; exact csame (h.2 j hj).1
  · rw [← hg j hj e]; exact cset (h.2 j hj).1 e
theorem JRow.is {W : World} {b k : Nat} {f g : Nat → Int} (h : JRow W b k f) (hg : ∀ j, j < k → f j = g j) : Is W (some ⟨b, 0, none⟩) k g :=
  .inr ⟨b, rfl, h.1, fun j hj => by rw [← hg j hj]; exact (h.2 j hj).1⟩
theorem jrow_made {w : World} {B b k : Nat} (h : w.ownsRow B 3 1 (.slice (some ⟨b, 0, none⟩) k k) k (madeCells #[.int .i64 0] k).toList) : JRow w b k (fun _ => 0) :=
  ⟨(h.lt b rfl).2, fun j hj => ⟨by rw [h.cellAt j (by omega), toList_madeCells_one, List.getElem?_replicate, if_pos (by omega)], h.frozenAt j⟩⟩
/-- the first x are f's, the others nought -/
def upto (f : Nat → Int) (x : Nat) : Nat → Int := fun j => if j < x then f j else 0
theorem upto_zero (f : Nat → Int) : upto f 0 = fun _ => 0 := by funext j; simp [upto]
theorem upto_at (f : Nat → Int) (x : Nat) : upto f (x + 1) x = f x := by simp [upto]
theorem upto_ne (f : Nat → Int) (x j : Nat) (h : j ≠ x) : upto f x j = upto f (x + 1) j := by
  unfold upto
  by_cases h2 : j < x
  · rw [if_pos h2, if_pos (by omega)]
  · rw [if_neg h2, if_neg (by omega)]

/-- numbers and an error are answered -/
def PN (W : World) (n : Nat) (f : Nat → Int) (er : Int) (e : Ending) (V : World) : Prop := ∃ q cp, e = .returned (.tuple #[.slice q n cp, .int .i64 er]) ∧ Is V q n f ∧ Below W.heap.size W V
theorem PN.mk {W V : World} {n : Nat} {f : Nat → Int} {er : Int} (q : Option Addr) (cp : Nat) (h : Is V q n f) (hb : Below W.heap.size W V) : PN W n f er (.returned (.tuple #[.slice q n cp, .int .i64 er])) V := ⟨q, cp, rfl, h, hb⟩
/-- a call that answers numbers and an error -/
def AnsN (F : Nat) (args : Array Value) (W : World) (n : Nat) (f : Nat → Int) (er : Int) : Prop := Calls Try.prog F args W (PN W n f er)
/-- a call that answers a number and an error -/
def AnsI (F : Nat) (args : Array Value) (W : World) (k er : Int) : Prop :=
  Calls Try.prog F args W fun e V => e = .returned (.tuple #[.int .i64 k, .int .i64 er]) ∧ Below W.heap.size W V

theorem sp_nums (t m i : Nat) (ht2 : t ≤ 1048576) (hm : m ≤ 1048576) (hi : i < m) : ∃ i2 i3 a m2 r : Nat, r = sp t m i ∧ 2 * (i : Int) = (i2 : Int) ∧ (i2 : Int) + 1 = (i3 : Int) ∧ wrap64 ((i3 : Int) * (t : Int)) = (a : Int) ∧ 2 * (m : Int) = (m2 : Int) ∧ (a : Int) / (m2 : Int) = (r : Int) ∧
    (i2 : Int) ≤ 2097152 ∧ (i3 : Int) ≤ 2097153 ∧ (0 : Int) ≤ (a : Int) ∧ (a : Int) ≤ 2199024304128 ∧ (m2 : Int) ≤ 2097152 ∧ ((m2 : Int) == 0) = false ∧ (r : Int) ≤ 2199024304128 := by
  have h1 : (2 * i + 1) * t ≤ 2097153 * 1048576 := Nat.mul_le_mul (by omega) ht2
  have h2 : sp t m i ≤ (2 * i + 1) * t := Nat.div_le_self _ _
  refine ⟨2 * i, 2 * i + 1, (2 * i + 1) * t, 2 * m, sp t m i, rfl, by simp, by simp, ?_, by simp, ?_, by omega, by omega, by omega, by omega, by omega, by simp; omega, by omega⟩
  · rw [← Int.natCast_mul]; exact wnat _ (by omega)
  · unfold sp; simp

set_option maxRecDepth 100000 in
set_option maxHeartbeats 2000000 in
theorem spread_ok (t m : Nat) (ht : 0 < t) (ht2 : t ≤ 1048576) (hm : m ≤ t) (W : World) : AnsN 6 #[.int .i64 t, .int .i64 m] W m (fun i => (sp t m i : Nat)) 0 := by
  unfold AnsN
  obtain ⟨i0, hi, hz0, hz1, hz2⟩ := info_parts info3
  have hby : i0.bytes * m ≤ 281474976710656 := by rw [hz2]; omega
  have hml : m ≤ maxLen := by unfold maxLen; omega
  have HC := hide (fun V => can_any t m V)
  rw [show caB (t : Int) (m : Int) = true from (caB_iff _ _).2 (by omega)] at HC
  go_enter Try.func6, Try.ntmps6
  go_wp2_with fail
  refine (unhide HC _).mono ?_
  rintro e w1 ⟨rfl, hb1⟩
  have HB := hide hb1
  clear hb1 HC
  go_wp2_with (refine wpList_make_full _ rfl _ _ 22 rfl w1.heap.size 3 i0 _ 1 Try.underlying22 hi hz0 hz1 .i64 .i64 (m : Int) (m : Int) m rfl rfl rfl rfl hby hml (Nat.le_refl _) ?_)
  intro wm hown hgrow
  have HR := hide (jrow_made hown)
  have HS := hide (btrans (unhide HB) ((Below.refl _ w1).grown hgrow (Nat.le_refl _) (fun k hk => by cases hk)))
  have hq : W.heap.size ≤ w1.heap.size := (unhide HB).size
  clear hown hgrow hi hz0 hz1 hz2 hby hml HB
  generalize w1.heap.size = bq at *
  go_wp2
  go_loopw [15] (fun i wr => ∃ x : Nat, x ≤ m ∧ i = .int .i64 x ∧ JRow wr bq m (upto (fun i => (sp t m i : Nat)) x) ∧ Below W.heap.size W wr) (fun i _ => m - (intOf i).toNat)
  case atStart => exact ⟨0, Nat.zero_le _, rfl, by rw [upto_zero]; exact unhide HR, unhide HS⟩
  case round =>
    clear HR HS
    obtain ⟨x, hx, rfl, hR, hb⟩ := hrel
    by_cases hlt : x < m
    · have q0 : (x : Int) < (m : Int) := by omega
      have q1 : (0 : Int) ≤ (x : Int) := by omega
      obtain ⟨i2, i3, a, m2, r, hr, e1, e2, e3, e4, e5, b1, b2, b3, b4, b5, b6, b7⟩   := sp_nums t m x ht2 (by omega) hlt
      have hf := (hR.2 x hlt).2
      have hc := (hR.2 x hlt).1
      generalize upto (fun i => ((sp t m i : Nat) : Int)) x x = old at hc
      have HR := hide (hR.put (g := upto (fun i => (sp t m i : Nat)) (x + 1)) (x := x) (v := (r : Int)) (by rw [upto_at, hr]) (fun j _ hj => upto_ne _ x j hj))
      have Hb := hide (bset (p := ⟨bq, x, none⟩) (u := .int .i64 (r : Int)) hb hq)
      clear hR hb hr
      go_wp2
      clear e1 e2 e3 e4 e5
      go_roundw
      case rel => exact ⟨x + 1, by omega, by go_num, unhide HR, unhide Hb⟩
      case measure => simp [intOf]; omega
    · obtain rfl : m = x := by omega
      have cl : ¬ ((m : Int) < (m : Int)) := by omega
      have HR := hide hR
      have Hb := hide hb
      clear hR hb
      go_wp2
      exact bodyPost_ret (v := .tuple #[.slice (some ⟨bq, 0, none⟩) m m, .int .i64 0]) (by simp [results, Try.results6, go_sem]) rfl (PN.mk _ _ ((unhide HR).is (fun j hj => by simp [upto, hj])) (unhide Hb))

set_option maxHeartbeats 1000000 in
theorem spread_err (t m : Int) (h : caB t m = false) (W : World) : AnsN 6 #[.int .i64 t, .int .i64 m] W 0 (fun _ => 0) 3 := by
  unfold AnsN
  have HC := hide (fun V => can_any t m V)
  rw [h] at HC
  clear h
  go_enter Try.func6, Try.ntmps6
  go_wp2_with fail
  refine (unhide HC _).mono ?_
  rintro e w1 ⟨rfl, hb1⟩
  go_wp2
  exact bodyPost_ret (v := .tuple #[.slice none 0 0, .int .i64 3]) (by simp [results, Try.results6, go_sem]) rfl (PN.mk _ _ (.inl rfl) hb1)

set_option maxHeartbeats 1000000 in
theorem count_ok (t m p : Nat) (ht : 0 < t) (ht2 : t ≤ 1048576) (hm : m ≤ t) (hp : p ≤ t) (W : World) : AnsI 9 #[.int .i64 t, .int .i64 m, .int .i64 p] W (mb t m p : Nat) 0 := by
  unfold AnsI
  have HC := hide (fun V => can_any t m V)
  rw [show caB (t : Int) (m : Int) = true from (caB_iff _ _).2 (by omega)] at HC
  have HW := hide (fun V => within_any p 0 t V)
  rw [show wiB (p : Int) 0 (t : Int) = true from (wiB_iff _ _ _).2 (by omega)] at HW
  have HM := hide (fun V => below_any t m p ht ht2 (by omega) (by omega) V)
  generalize mb t m p = r at *
  go_enter Try.func9, Try.ntmps9
  go_wp2_with fail
  refine (unhide HC _).mono ?_
  rintro e w1 ⟨rfl, hb1⟩
  go_wp2_with fail
  refine (unhide HW _).mono ?_
  rintro e w2 ⟨rfl, hb2⟩
  have Hb := hide (btrans hb1 hb2)
  clear hb1 hb2
  go_wp2_with fail
  refine (unhide HM _).mono ?_
  rintro e w3 ⟨rfl, hb3⟩
  have Hb2 := hide (btrans (unhide Hb) hb3)
  clear hb3 Hb HM HW HC
  go_wp2
  exact bodyPost_ret (v := .tuple #[.int .i64 (r : Int), .int .i64 0]) (by simp [results, Try.results9, go_sem]) rfl ⟨rfl, unhide Hb2⟩
set_option maxHeartbeats 1000000 in
theorem count_err (t m p : Int) (h : ¬ (caB t m = true ∧ wiB p 0 t = true)) (W : World) : AnsI 9 #[.int .i64 t, .int .i64 m, .int .i64 p] W 0 3 := by
  unfold AnsI
  have HC := hide (fun V => can_any t m V)
  cases h1 : caB t m with
  | false =>
    rw [h1] at HC
    clear h h1
    go_enter Try.func9, Try.ntmps9
    go_wp2_with fail
    refine (unhide HC _).mono ?_
    rintro e w1 ⟨rfl, hb1⟩
    go_wp2
    exact bodyPost_ret (v := .tuple #[.int .i64 0, .int .i64 3]) (by simp [results, Try.results9, go_sem]) rfl ⟨rfl, hb1⟩
  | true =>
    have h2 : wiB p 0 t = false := by cases h2 : wiB p 0 t with
      | false => rfl
      | true => exact absurd ⟨h1, h2⟩ h
    have HW := hide (fun V => within_any p 0 t V)
    rw [h1] at HC
    rw [h2] at HW
    clear h h1 h2
    go_enter Try.func9, Try.ntmps9
    go_wp2_with fail
    refine (unhide HC _).mono ?_
    rintro e w1 ⟨rfl, hb1⟩
    go_wp2_with fail
    refine (unhide HW _).mono ?_
    rintro e w2 ⟨rfl, hb2⟩
    have Hb := hide (btrans hb1 hb2)
    clear hb1 hb2
    go_wp2
    exact bodyPost_ret (v := .tuple #[.int .i64 0, .int .i64 3]) (by simp [results, Try.results9, go_sem]) rfl ⟨rfl, unhide Hb⟩
end Go.Proofs.Ytmblnfdadpcigaa
