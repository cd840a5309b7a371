/-
  What the program runs is what the document runs.
-/
import Derived.Test.YtnolblcfafdnpaaRfL
namespace Go.Proofs.Ytnolblcfafdnpaa
open Go.RowKit

theorem KR.kept27 {S : Nat → Prop} {W V : World} {B : Nat} {v : Value} {k : Kn} (h : KR W B v k) (e : Kept S W V) (hS : ∀ i, S i → Tg W i 27) : KR V B v k := by
  obtain ⟨v1, v2, v3, v4, h0, h1, h2, h3, h4⟩ := h
  have n : ∀ {u : TypeId}, (27 : TypeId) ≠ u → ∀ i, S i → ¬ Tg W i u := fun hu i q t => tg_not (hS i q) hu t
  exact ⟨v1, v2, v3, v4, h0, h1.kept e (n (by decide)) (n (by decide)), h2.kept e (n (by decide)) (n (by decide)), h3.kept e (n (by decide)) (n (by decide)), h4.kept e (n (by decide))⟩
/-- a Run that answers so -/
def RunIs (F : Nat) (args : Array Value) (K : Kn) (x y : Int) (V : World) : Prop := Calls Try.prog F args V fun e w' => ∃ v, e = .returned (.tuple #[v, fltV x y]) ∧ KR w' 0 v K ∧ Below V.heap.size V w'
/-- a Knit that answers so -/
def KnitIs (F : Nat) (args : Array Value) (K : Kn) (z : Int) (m : Nat) (g : Nat → Int) (V : World) : Prop := Calls Try.prog F args V fun e w' => ∃ ov v, e = .returned (.tuple #[ov, v, .int .i64 z]) ∧ w'.ownsRow 0 28 1 ov m ((List.range m).map fun i => Value.int .i64 (g i)) ∧ KR w' 0 v K ∧ Below V.heap.size V w'
theorem row_at {W : World} {B x n cap : Nat} {g : Nat → Int} {q : Option Addr} (h : W.ownsRow B 28 1 (.slice q n cap) n ((List.range n).map fun i => Value.int .i64 (g i))) (hx : x < n) : ∃ b, q = some ⟨b, 0, none⟩ ∧ W.cell? ⟨b, x, none⟩ = some (.int .i64 (g x)) := by
  obtain ⟨b, c, e⟩ := own_slice h (by omega)
  simp only [Value.slice.injEq] at e
  obtain ⟨rfl, -, rfl⟩ := e
  exact ⟨b, rfl, by rw [h.cellAt x (by omega)]; simp [hx]⟩

set_option maxRecDepth 100000 in
set_option maxHeartbeats 4000000 in
theorem runs_core {n : Int} {W : World} {q : Option Addr} {l c m : Nat} {K1 K2 : Kn} {x y z : Int} {g : Nat → Int} (hm : m * 40 + 4096 ≤ 140737488355328) (h7 : ∀ V, Below W.heap.size W V → RunIs 7 #[.int .i64 n, .slice q l c] K1 x y V) (h8 : ∀ V, Below W.heap.size W V → RunIs 8 #[.int .i64 n, .slice q l c] K1 x y V) (h10 : ∀ V, Below W.heap.size W V → KnitIs 10 #[.int .i64 n, .slice q l c] K2 z m g V) (h11 : ∀ V, Below W.heap.size W V → KnitIs 11 #[.int .i64 n, .slice q l c] K2 z m g V) (hf1 : Fit K1) (hf2 : Fit K2) : LawIs 3 #[.int .i64 n, .slice q l c] W := by
  unfold LawIs
  unfold RunIs at h7 h8
  unfold KnitIs at h10 h11
  have H7 := hide h7
  have H8 := hide h8
  have H10 := hide h10
  have H11 := hide h11
  have HF1 := hide hf1
  have HF2 := hide hf2
  obtain ⟨rk1, hrk1⟩ : ∃ rk, rk = K1.rack := ⟨_, rfl⟩
  obtain ⟨rk2, hrk2⟩ : ∃ rk, rk = K2.rack := ⟨_, rfl⟩
  have Hrk1 := hide hrk1
  have Hrk2 := hide hrk2
  clear h7 h8 h10 h11 hf1 hf2 hrk1 hrk2
  go_enter Try.func3, Try.ntmps3
  go_wp2_with fail
  refine (unhide H7 _ (Below.refl _ _)).mono ?_
  rintro e w1 ⟨v1, rfl, hR1, hb1⟩
  obtain ⟨a1, a2, a3, a4, a5, a6, a7, a8, a9, a10, a11, a12, rfl⟩ := hR1.parts
  rw [← unhide Hrk1] at hR1
  rw [← unhide Hrk1]
  obtain ⟨tb1, tb2, tb3⟩ := two_boxes w1 (.slice a1 a2 a3) (.slice a4 a5 a6) (.slice a7 a8 a9) (.slice a10 a12 a11) rk1 x y
  have HA2 := hide tb1
  have HE2 := hide tb2
  have HR2 := hide (hR1.keep tb3)
  have S2 := hide (btrans hb1 tb3)
  have Hab := hide (show W.heap.size ≤ w1.heap.size from hb1.size)
  clear tb1 tb2 tb3 hR1 hb1 H7
  go_upto_region 2 with fail
  generalize (w1.alloc (.cells #[.slice a1 a2 a3, .slice a4 a5 a6, .slice a7 a8 a9, .slice a10 a12 a11, .int .i64 rk1] 27)).alloc (.cells #[.int .i64 x, .int .i64 y] 30) = w2 at *
  generalize w1.heap.size + 1 = eb at *
  generalize w1.heap.size = ab at *
  go_wp2_with fail
  refine (unhide H8 _ (unhide S2)).mono ?_
  rintro e w3 ⟨v3, rfl, hR3, hb3⟩
  obtain ⟨b1, b2, b3, b4, b5, b6, b7, b8, b9, b10, b11, b12, rfl⟩ := hR3.parts
  rw [← unhide Hrk1] at hR3
  rw [← unhide Hrk1]
  obtain ⟨tb1, tb2, tb3⟩ := two_boxes w3 (.slice b1 b2 b3) (.slice b4 b5 b6) (.slice b7 b8 b9) (.slice b10 b12 b11) rk1 x y
  have HB4 := hide tb1
  have HG4 := hide tb2
  have hb4 := btrans hb3 tb3
  have HA4 := hide ((unhide HA2).keep hb4)
  have HE4 := hide ((unhide HE2).keep hb4)
  have HSame := hide (same_any ((unhide HR2).keep hb4) (hR3.keep tb3) (unhide HF1))
  have S4 := hide (btrans (unhide S2) hb4)
  have Hbb := hide (show ab < w3.heap.size from Nat.lt_of_lt_of_le (unhide HA2).1.1 hb3.size)
  clear tb1 tb2 tb3 hR3 hb3 hb4 H8 HA2 HE2 HR2 S2
  go_upto_region 3 with fail
  generalize (w3.alloc (.cells #[.slice b1 b2 b3, .slice b4 b5 b6, .slice b7 b8 b9, .slice b10 b12 b11, .int .i64 rk1] 27)).alloc (.cells #[.int .i64 x, .int .i64 y] 30) = w4 at *
  generalize w3.heap.size + 1 = gb at *
  generalize w3.heap.size = bb at *
  obtain ⟨-, ⟨k0, k1, k2, k3, k4⟩, -⟩ := unhide HA4
  obtain ⟨-, ⟨j0, j1, j2, j3, j4⟩, -⟩ := unhide HB4
  go_wp2_with fail
  refine (unhide HSame).mono ?_
  rintro e w5 ⟨rfl, hb5⟩
  have HA5 := hide ((unhide HA4).keep hb5)
  have HB5 := hide ((unhide HB4).keep hb5)
  have HE5 := hide ((unhide HE4).keep hb5)
  have HG5 := hide ((unhide HG4).keep hb5)
  have S5 := hide (btrans (unhide S4) hb5)
  clear hb5 HSame HA4 HB4 HE4 HG4 S4 k0 k1 k2 k3 k4 j0 j1 j2 j3 j4
  have gx : (x == x) = true := by simp
  have gy : (y == y) = true := by simp
  obtain ⟨-, ⟨e0, e1⟩, -⟩ := unhide HE5
  obtain ⟨-, ⟨i0, i1⟩, -⟩ := unhide HG5
  go_wp2_with fail
  refine (unhide H10 _ (unhide S5)).mono ?_
  rintro e w6 ⟨ov6, v6, rfl, hO6, hR6, hb6⟩
  obtain ⟨oq, oc, rfl⟩ := own_form hO6
  obtain ⟨c1, c2, c3, c4, c5, c6, c7, c8, c9, c10, c11, c12, rfl⟩ := hR6.parts
  rw [← unhide Hrk2] at hR6
  rw [← unhide Hrk2]
  have HA6 := hide ((unhide HA5).keep hb6)
  have HB6 := hide ((unhide HB5).keep hb6)
  have S6 := hide (btrans (unhide S5) hb6)
  have HO6 := hide hO6
  have HR6 := hide hR6
  clear hb6 hO6 hR6 H10 HA5 HB5 HE5 HG5 S5 e0 e1 i0 i1
  obtain ⟨-, ⟨k0, k1, k2, k3, k4⟩, kf⟩ := unhide HA6
  have kf0 := kf 0 (by decide)
  have kf1 := kf 1 (by decide)
  have kf2 := kf 2 (by decide)
  have kf3 := kf 3 (by decide)
  have kf4 := kf 4 (by decide)
  clear kf
  obtain ⟨x7, hx7, hK7, hL7⟩ : ∃ x7, put27 w6 ab (.slice c1 c2 c3) (.slice c4 c5 c6) (.slice c7 c8 c9) (.slice c10 c12 c11) rk2 = x7 ∧ KB x7 ab (.slice c1 c2 c3) (.slice c4 c5 c6) (.slice c7 c8 c9) (.slice c10 c12 c11) rk2 ∧ Kept (fun i => i = ab) w6 x7 := ⟨_, rfl, (unhide HA6).put _ _ _ _ _, put27_kept _ _ _ _ _ _ _⟩
  unfold put27 at hx7
  have tA : ∀ i, i = ab → Tg w6 i 27 := fun i e => e ▸ (unhide HA6).1.2
  have HA7 := hide hK7
  have HB7 := hide ((unhide HB6).kept hL7 (by have := unhide Hbb; omega))
  have HO7 := hide (own_kept (unhide HO6) hL7 (fun i e t => tg_not (tA i e) (by decide) t))
  have HR7 := hide ((unhide HR6).kept27 hL7 tA)
  have S7 := hide (Kept.back (unhide S6) hL7 (unhide S6).size (fun i e => by have := unhide Hab; omega))
  clear hK7 hL7 tA HA6 HB6 HO6 HR6 S6
  go_upto_region 6 with fail
  clear hx7 k0 k1 k2 k3 k4 kf0 kf1 kf2 kf3 kf4
  go_wp2_with fail
  refine (unhide H11 _ (unhide S7)).mono ?_
  rintro e w8 ⟨ov8, v8, rfl, hO8, hR8, hb8⟩
  obtain ⟨pq, pc, rfl⟩ := own_form hO8
  obtain ⟨d1, d2, d3, d4, d5, d6, d7, d8, d9, d10, d11, d12, rfl⟩ := hR8.parts
  rw [← unhide Hrk2] at hR8
  rw [← unhide Hrk2]
  have HA8 := hide ((unhide HA7).keep hb8)
  have HB8 := hide ((unhide HB7).keep hb8)
  have HP8 := hide (own_keep (unhide HO7) hb8)
  have HQ8 := hide ((unhide HR7).keep hb8)
  have S8 := hide (btrans (unhide S7) hb8)
  have HO8 := hide hO8
  have HR8 := hide hR8
  clear hb8 hO8 hR8 H11 HA7 HB7 HO7 HR7 S7
  obtain ⟨-, ⟨k0, k1, k2, k3, k4⟩, kf⟩ := unhide HB8
  have kf0 := kf 0 (by decide)
  have kf1 := kf 1 (by decide)
  have kf2 := kf 2 (by decide)
  have kf3 := kf 3 (by decide)
  have kf4 := kf 4 (by decide)
  clear kf
  obtain ⟨x9, hx9, hK9, hL9⟩ : ∃ x9, put27 w8 bb (.slice d1 d2 d3) (.slice d4 d5 d6) (.slice d7 d8 d9) (.slice d10 d12 d11) rk2 = x9 ∧ KB x9 bb (.slice d1 d2 d3) (.slice d4 d5 d6) (.slice d7 d8 d9) (.slice d10 d12 d11) rk2 ∧ Kept (fun i => i = bb) w8 x9 := ⟨_, rfl, (unhide HB8).put _ _ _ _ _, put27_kept _ _ _ _ _ _ _⟩
  unfold put27 at hx9
  have tB : ∀ i, i = bb → Tg w8 i 27 := fun i e => e ▸ (unhide HB8).1.2
  have HB9 := hide hK9
  have HA9 := hide ((unhide HA8).kept hL9 (by have := unhide Hbb; omega))
  have HO9 := hide (own_kept (unhide HO8) hL9 (fun i e t => tg_not (tB i e) (by decide) t))
  have HP9 := hide (own_kept (unhide HP8) hL9 (fun i e t => tg_not (tB i e) (by decide) t))
  have HSame := hide (same_any ((unhide HQ8).kept27 hL9 tB) ((unhide HR8).kept27 hL9 tB) (unhide HF2))
  have S9 := hide (Kept.back (unhide S8) hL9 (unhide S8).size (fun i e => by have := unhide Hab; have := unhide Hbb; omega))
  clear hK9 hL9 tB HA8 HB8 HO8 HR8 HP8 HQ8 S8
  go_upto_region 7 with fail
  clear hx9 k0 k1 k2 k3 k4 kf0 kf1 kf2 kf3 kf4
  obtain ⟨-, ⟨k0, k1, k2, k3, k4⟩, -⟩ := unhide HA9
  obtain ⟨-, ⟨j0, j1, j2, j3, j4⟩, -⟩ := unhide HB9
  go_wp2_with fail
  refine (unhide HSame).mono ?_
  rintro e w10 ⟨rfl, hb10⟩
  have HO10 := hide (own_keep (unhide HO9) hb10)
  have HP10 := hide (own_keep (unhide HP9) hb10)
  have S10 := hide (btrans (unhide S9) hb10)
  clear hb10 HSame HA9 HB9 HO9 HP9 S9 k0 k1 k2 k3 k4 j0 j1 j2 j3 j4
  have gz : (z != z) = false := by simp
  have gm : ((m : Int) != (m : Int)) = false := by simp
  go_wp2
  go_loopw [67] (fun i wr => ∃ x : Nat, x ≤ m ∧ i = .int .i64 x ∧ Below w10.heap.size w10 wr) (fun i _ => m - (intOf i).toNat)
  case atStart => exact ⟨0, Nat.zero_le _, rfl, Below.refl _ _⟩
  case round =>
    obtain ⟨k, hx, rfl, hB⟩ := hrel
    have HB := hide hB
    clear hB
    by_cases hlt : k < m
    · have q1 : (k : Int) < (m : Int) := by omega
      have q2 : (0 : Int) ≤ (k : Int) := by omega
      obtain ⟨g1, rfl, e1⟩ := row_at (own_keep (unhide HO10) (unhide HB)) hlt
      obtain ⟨g2, rfl, e2⟩ := row_at (own_keep (unhide HP10) (unhide HB)) hlt
      generalize g k = er at *
      have hv : (er != er) = false := by simp
      go_wp2_with fail
      go_quiet (fail)
      go_wp2
      go_roundw
      case rel => exact ⟨k + 1, by omega, by go_num, (unhide HB).trans (Joins.below_draws _ _ _)⟩
      case measure => simp [intOf]; omega
    · obtain rfl : m = k := by omega
      have cl : ¬ ((m : Int) < (m : Int)) := by omega
      go_wp2
      go_ret
      exact ⟨rfl, btrans (unhide S10) (unhide HB)⟩
theorem runs_any (n : Int) (W : World) (q : Option Addr) (l c : Nat) (f : Nat → Sx) (hs : Sc W q l f) (hl : l * 40 + 4096 ≤ 140737488355328) : LawIs 3 #[.int .i64 n, .slice q l c] W := by
  by_cases h : n < 1 ∨ 128 < n
  · refine runs_core (m := 0) (g := fun _ => 0) (K1 := k0) (K2 := k0) (x := 3) (y := 0) (z := 3) (by omega) (fun V _ => ?_) (fun V _ => ?_) (fun V _ => ?_) (fun V _ => ?_) Fit.zero Fit.zero
    · exact (run_new n V q l c h).mono (by rintro e w ⟨rfl, hb⟩; exact ⟨_, rfl, KR.zero _ _, hb⟩)
    · exact (rrun_new n V q l c h).mono (by rintro e w ⟨rfl, hb⟩; exact ⟨_, rfl, KR.zero _ _, hb⟩)
    · exact (knit_new n V q l c h).mono (by rintro e w ⟨rfl, hb⟩; exact ⟨_, _, rfl, World.ownsRow_nil _ _ _ _, KR.zero _ _, hb⟩)
    · exact (rknit_new n V q l c h).mono (by rintro e w ⟨rfl, hb⟩; exact ⟨_, _, rfl, World.ownsRow_nil _ _ _ _, KR.zero _ _, hb⟩)
  · obtain ⟨N, rfl⟩ : ∃ N : Nat, n = N := ⟨n.toNat, by omega⟩
    have h1 : 1 ≤ N := by omega
    have hN : N ≤ 128 := by omega
    have hf := Fit.of (N := N) (Iv.kn N f l) (Th.kn N f l) hN
    have k10 : ∀ V, Below W.heap.size W V → KnitIs 10 #[.int .i64 (N : Int), .slice q l c] (tell N (knS N f l)) 0 l (erS N f) V := fun V hV => (knit_ok (c := c) h1 hN (hs.keep hV) hl).mono (by rintro e w ⟨ov, v, rfl, ho, hr, hb⟩; exact ⟨ov, v, rfl, own_le ho (Nat.zero_le _), hr.le (Nat.zero_le _), hb⟩)
    have k11 : ∀ V, Below W.heap.size W V → KnitIs 11 #[.int .i64 (N : Int), .slice q l c] (tell N (knS N f l)) 0 l (erS N f) V := fun V hV => (rknit_ok (c := c) h1 hN (hs.keep hV) hl).mono (by rintro e w ⟨ov, v, rfl, ho, hr, hb⟩; exact ⟨ov, v, rfl, own_le ho (Nat.zero_le _), hr, hb⟩)
    have first : (∀ i, i < l → erS N f i = 0) ∨ ∃ k, k < l ∧ (∀ i, i < k → erS N f i = 0) ∧ erS N f k ≠ 0 := by
      clear k10 k11 hf hs hl
      induction l with
      | zero => exact .inl (fun i hi => by omega)
      | succ l ih =>
        rcases ih with a | ⟨k, a1, a2, a3⟩
        · by_cases e : erS N f l = 0
          · exact .inl (fun i hi => by rcases Nat.lt_or_ge i l with b | b; exact a i b; rw [show i = l by omega]; exact e)
          · exact .inr ⟨l, by omega, a, e⟩
        · exact .inr ⟨k, by omega, a2, a3⟩
    rcases first with ha | ⟨k, hk, ha, hb⟩
    · refine runs_core (x := 0) (y := 0) hl (fun V hV => ?_) (fun V hV => ?_) k10 k11 hf hf
      · exact (run_ok (c := c) h1 hN (hs.keep hV) hl ha).mono (by rintro e w ⟨v, rfl, hr, hb⟩; exact ⟨v, rfl, hr.le (Nat.zero_le _), hb⟩)
      · exact (rrun_ok (c := c) h1 hN (hs.keep hV) hl ha).mono (by rintro e w ⟨v, rfl, hr, hb⟩; exact ⟨v, rfl, hr, hb⟩)
    · refine runs_core (x := erS N f k) (y := (k : Int)) hl (K1 := k0) (fun V hV => ?_) (fun V hV => ?_) k10 k11 Fit.zero hf
      · exact (run_bad (c := c) h1 hN (hs.keep hV) hl k hk ha hb).mono (by rintro e w ⟨rfl, hb⟩; exact ⟨_, rfl, KR.zero _ _, hb⟩)
      · exact (rrun_bad (c := c) h1 hN (hs.keep hV) hl k hk ha hb).mono (by rintro e w ⟨rfl, hb⟩; exact ⟨_, rfl, KR.zero _ _, hb⟩)
end Go.Proofs.Ytnolblcfafdnpaa
