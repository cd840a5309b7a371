/-
  Package dye: dot.
-/
import Derived.Test.YtlilmchlddiacaaDA
namespace Go.Proofs.Ytlilmchlddiacaa
open Go.RowKit

theorem ms_bounds {n a : Nat} {s : PS} (h : ms n (a + 1) s ≤ 1000000000000) : (-1000000000000 ≤ s.lost ∧ s.lost ≤ 1000000000000) ∧ ∀ j, a < j → j < n → -1000000000000 ≤ s.f j ∧ s.f j ≤ 1000000000000 := by
  unfold ms at h
  have h0 := ts_ab_nonneg s.f (a + 1) (n - (a + 1))
  refine ⟨by omega, fun j h1 h2 => ?_⟩
  have := ts_ab_one s.f (a + 1) (n - (a + 1)) j (by omega) (by omega)
  omega
theorem dot_nums (v : Int) (hv : (v.natAbs : Int) ≤ 900000000) : ∃ l r7 r3 r5 r1 : Int, l = le v ∧ r7 = sx 7 l ∧ r3 = sx 3 l ∧ r5 = sx 5 l ∧ r1 = sr l ∧ v - 16 * dt v = l ∧ Int.tdiv (7 * l) 16 = r7 ∧ Int.tdiv (3 * l) 16 = r3 ∧ Int.tdiv (5 * l) 16 = r5 ∧ l - r7 - r3 - r5 = r1 ∧
    (-1000000000 ≤ l ∧ l ≤ 1000000000) ∧ (-1000000000 ≤ r7 ∧ r7 ≤ 1000000000) ∧ (-1000000000 ≤ r3 ∧ r3 ≤ 1000000000) ∧ (-1000000000 ≤ r5 ∧ r5 ≤ 1000000000) ∧ (-1000000000 ≤ r1 ∧ r1 ≤ 1000000000) := by
  have h1 := le_abs v
  have h2 := parts_abs (le v)
  exact ⟨le v, _, _, _, _, rfl, rfl, rfl, rfl, rfl, rfl, rfl, rfl, rfl, rfl, by omega, by omega, by omega, by omega, by omega⟩
/-- the picture behind one, two and three neighbours -/
theorem dot_steps {w n a : Nat} {s : PS} (hw : 0 < w) (ha : a < n) (hm : ms n a s ≤ 900000000) (l : Int) (hl : l = le (s.f a)) :
    ms n (a + 1) s ≤ 1000000000000 ∧ ms n (a + 1) (giS w n a 0 1 (sx 7 l) s) ≤ 1000000000000 ∧ ms n (a + 1) (giS w n a 1 (-1) (sx 3 l) (giS w n a 0 1 (sx 7 l) s)) ≤ 1000000000000 ∧ ms n (a + 1) (giS w n a 1 0 (sx 5 l) (giS w n a 1 (-1) (sx 3 l) (giS w n a 0 1 (sx 7 l) s))) ≤ 1000000000000 ∧ ((s.f a).natAbs : Int) ≤ 900000000 := by
  have h0 := (ms_at s ha).1
  have h9 : 0 ≤ ms n (a + 1) s := by have := ts_ab_nonneg s.f (a + 1) (n - (a + 1)); unfold ms; omega
  have k1 := (giS_ms (w := w) (d := sx 7 l) (s := s) hw ha nb1).1
  have k2 := (giS_ms (w := w) (d := sx 3 l) (s := giS w n a 0 1 (sx 7 l) s) hw ha nb2).1
  have k3 := (giS_ms (w := w) (d := sx 5 l) (s := giS w n a 1 (-1) (sx 3 l) (giS w n a 0 1 (sx 7 l) s)) hw ha nb3).1
  have p1 := parts_abs l
  have p3 := le_abs (s.f a)
  rw [← hl] at p3
  omega

/-- behind a call of dot -/
def DoP (W : World) (b q w n : Nat) (s : PS) (v : Int) (e : Ending) (V : World) : Prop := e = .returned (.int .i64 v) ∧ PB V b q w n s ∧ Kept (fun i => i = b ∨ i = q) W V

set_option maxRecDepth 100000 in
set_option maxHeartbeats 2000000 in
theorem dot_any (b q w n a : Nat) (s : PS) (hw : 0 < w) (hw2 : w ≤ 4096) (ha : a < n) (hn : n ≤ 65536) (hm : ms n a s ≤ 900000000) (W : World) (hP : PB W b q w n s) :
    Calls Try.prog 28 #[.pointer (some ⟨b, 0, none⟩), .int .i64 a] W (DoP W b q w n (doS w n a s) (dt (s.f a))) := by
  have hS := dot_steps hw ha hm (le (s.f a)) rfl
  obtain ⟨l, r7, r3, r5, r1, hl, h7, h3, h5, h1, e0, e7, e3, e5, e1, ⟨bl1, bl2⟩, ⟨b71, b72⟩, ⟨b31, b32⟩, ⟨b51, b52⟩, ⟨b11, b12⟩⟩ := dot_nums (s.f a) hS.2.2.2.2
  rw [← hl, ← h7, ← h3, ← h5] at hS
  obtain ⟨m0, m1, m2, m3, -⟩ := hS
  have H1 := hide (fun V (hV : PB V b q w n s) => give_any b q w n a 0 1 r7 s hw hw2 ha hn nb1 ⟨b71, b72⟩ (ms_bounds m0).1 (ms_bounds m0).2 V hV)
  have H2 := hide (fun V hV => give_any b q w n a 1 (-1) r3 (giS w n a 0 1 r7 s) hw hw2 ha hn nb2 ⟨b31, b32⟩ (ms_bounds m1).1 (ms_bounds m1).2 V hV)
  have H3 := hide (fun V hV => give_any b q w n a 1 0 r5 (giS w n a 1 (-1) r3 (giS w n a 0 1 r7 s)) hw hw2 ha hn nb3 ⟨b51, b52⟩ (ms_bounds m2).1 (ms_bounds m2).2 V hV)
  have H4 := hide (fun V hV => give_any b q w n a 1 1 r1 (giS w n a 1 0 r5 (giS w n a 1 (-1) r3 (giS w n a 0 1 r7 s))) hw hw2 ha hn nb4 ⟨b11, b12⟩ (ms_bounds m3).1 (ms_bounds m3).2 V hV)
  have Hd : Hid (doS w n a s = giS w n a 1 1 r1 (giS w n a 1 0 r5 (giS w n a 1 (-1) r3 (giS w n a 0 1 r7 s)))) := hide (by unfold doS; rw [← hl, ← h7, ← h3, ← h5, ← h1])
  rw [unhide Hd]
  generalize giS w n a 1 1 r1 (giS w n a 1 0 r5 (giS w n a 1 (-1) r3 (giS w n a 0 1 r7 s))) = s4 at *
  generalize giS w n a 1 0 r5 (giS w n a 1 (-1) r3 (giS w n a 0 1 r7 s)) = s3 at *
  generalize giS w n a 1 (-1) r3 (giS w n a 0 1 r7 s) = s2 at *
  generalize giS w n a 0 1 r7 s = s1 at *
  have hv : -900000000 ≤ s.f a ∧ s.f a ≤ 900000000 := by have := (ms_at s ha).1; have := ts_ab_nonneg s.f (a + 1) (n - (a + 1)); unfold ms at *; omega
  obtain ⟨P1, P2, P3, P4, P5, P6, P7⟩ := id hP
  have k1 := (P7.2 a ha).1
  have HP := hide hP
  have q0 : (a : Int) < (n : Int) := by omega
  have q1 : (0 : Int) ≤ (a : Int) := by omega
  obtain ⟨v1, v2⟩ := hv
  clear hP P7 P1 Hd m0 m1 m2 m3 h7 h3 h5 h1 hl hm
  generalize s.f a = v at *
  by_cases hc : 4080 ≤ 2 * v
  · have hd : dt v = 255 := by unfold dt; rw [if_pos hc]
    rw [hd] at e0 ⊢
    have e0' : v - 4080 = l := by omega
    clear hd e0
    go_enter Try.func28, Try.ntmps28
    go_wp2_with fail
    refine (unhide H1 _ (unhide HP)).mono ?_
    rintro e w1 ⟨rfl, hP1, hK1⟩
    have HP1 := hide hP1
    have HK1 := hide hK1
    clear hP1 hK1 k1 P2 P3 P4 P5 P6
    go_wp2_with fail
    refine (unhide H2 _ (unhide HP1)).mono ?_
    rintro e w2 ⟨rfl, hP2, hK2⟩
    have HP2 := hide hP2
    have HK2 := hide ((unhide HK1).trans hK2)
    clear hP2 hK2
    go_wp2_with fail
    refine (unhide H3 _ (unhide HP2)).mono ?_
    rintro e w3 ⟨rfl, hP3, hK3⟩
    have HP3 := hide hP3
    have HK3 := hide ((unhide HK2).trans hK3)
    clear hP3 hK3
    go_wp2_with fail
    refine (unhide H4 _ (unhide HP3)).mono ?_
    rintro e w4 ⟨rfl, hP4, hK4⟩
    have HP4 := hide hP4
    have HK4 := hide ((unhide HK3).trans hK4)
    clear hP4 hK4
    go_wp2
    go_ret
    exact ⟨rfl, unhide HP4, unhide HK4⟩
  · have hd : dt v = 0 := by unfold dt; rw [if_neg hc]
    rw [hd] at e0 ⊢
    clear hd
    simp only [Int.mul_zero, Int.sub_zero] at e0
    subst e0
    go_enter Try.func28, Try.ntmps28
    go_wp2_with fail
    refine (unhide H1 _ (unhide HP)).mono ?_
    rintro e w1 ⟨rfl, hP1, hK1⟩
    have HP1 := hide hP1
    have HK1 := hide hK1
    clear hP1 hK1 k1 P2 P3 P4 P5 P6
    go_wp2_with fail
    refine (unhide H2 _ (unhide HP1)).mono ?_
    rintro e w2 ⟨rfl, hP2, hK2⟩
    have HP2 := hide hP2
    have HK2 := hide ((unhide HK1).trans hK2)
    clear hP2 hK2
    go_wp2_with fail
    refine (unhide H3 _ (unhide HP2)).mono ?_
    rintro e w3 ⟨rfl, hP3, hK3⟩
    have HP3 := hide hP3
    have HK3 := hide ((unhide HK2).trans hK3)
    clear hP3 hK3
    go_wp2_with fail
    refine (unhide H4 _ (unhide HP3)).mono ?_
    rintro e w4 ⟨rfl, hP4, hK4⟩
    have HP4 := hide hP4
    have HK4 := hide ((unhide HK3).trans hK4)
    clear hP4 hK4
    go_wp2
    go_ret
    exact ⟨rfl, unhide HP4, unhide HK4⟩
end Go.Proofs.Ytlilmchlddiacaa
