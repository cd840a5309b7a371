/-
  What is the same is told to be.
-/
import Derived.Test.YtancniamgfppiaaStC
namespace Go.Proofs.Ytancniamgfppiaa
open Go.RowKit

theorem draws (w : World) (a b : Nat) : (w.drewN a).drewN b = w.drewN (a + b) := by simp [World.drewN, Nat.add_assoc]
theorem drew_one (w : World) : w.drew = w.drewN 1 := rfl
theorem drew_zero (w : World) : w = w.drewN 0 := rfl
/-- it is true, and only numbers were drawn -/
def Yes (F : Nat) (args : Array Value) (W : World) : Prop := Calls Try.prog F args W fun e w' => e = .returned (.bool true) ∧ ∃ k, w' = W.drewN k

set_option maxRecDepth 100000 in
set_option maxHeartbeats 2000000 in
theorem same_nums {W : World} {B C : Nat} {v u : Value} {xs : List Nat} (k1 : NR W B v xs) (k2 : NR W C u xs) (hl : xs.length ≤ 100000) : Yes 22 #[v, u] W := by
  unfold Yes
  obtain ⟨q1, c1, e1⟩ := k1.form
  obtain ⟨q2, c2, e2⟩ := k2.form
  have H1 := hide (fun x (hx : x < xs.length) => k1.at hx)
  have H2 := hide (fun x (hx : x < xs.length) => k2.at hx)
  subst e1 e2
  clear k1 k2
  have hne : ((xs.length : Int) != (xs.length : Int)) = false := by simp
  obtain ⟨n, hn⟩ : ∃ n, n = xs.length := ⟨_, rfl⟩
  rw [← hn] at hne hl
  rw [← hn]
  have Hn := hide hn
  clear hn
  go_enter Try.func22, Try.ntmps22
  go_wp2
  go_loopw [13] (fun i wr => ∃ x k : Nat, x ≤ n ∧ i = .int .i64 x ∧ wr = W.drewN k) (fun i _ => n - (intOf i).toNat)
  case atStart => exact ⟨0, 0, Nat.zero_le _, rfl, rfl⟩
  case round =>
    obtain ⟨x, k, hx, rfl, rfl⟩ := hrel
    by_cases hlt : x < n
    · have p0 : (x : Int) < (n : Int) := by omega
      have p1 : (0 : Int) ≤ (x : Int) := by omega
      have hx' : x < xs.length := by rw [← unhide Hn]; exact hlt
      obtain ⟨g1, d1, f1, a1⟩ := unhide H1 x hx'
      obtain ⟨g2, d2, f2, a2⟩ := unhide H2 x hx'
      simp only [Value.slice.injEq] at f1 f2
      obtain ⟨rfl, -, rfl⟩ := f1
      obtain ⟨rfl, -, rfl⟩ := f2
      generalize xs[x] = y at *
      have hv : ((y : Int) != (y : Int)) = false := by simp
      clear hx'
      go_wp2_with fail
      go_quiet (fail)
      go_wp2
      go_roundw
      case rel => exact ⟨x + 1, _, by omega, by go_num, rfl⟩
      case measure => simp [intOf]; omega
    · obtain rfl : n = x := by omega
      have cl : ¬ ((n : Int) < (n : Int)) := by omega
      go_wp2
      go_ret
      exact ⟨rfl, k, rfl⟩
theorem LR.at {W : World} {B j : Nat} {v : Value} {xss : List (List Nat)} (h : LR W B v xss) (hj : j < xss.length) : ∃ g cap u, v = .slice (some ⟨g, 0, none⟩) xss.length cap ∧ W.cell? ⟨g, j, none⟩ = some u ∧ NR W B u xss[j] := by
  rcases h with ⟨-, h⟩ | ⟨q, cap, f, h1, h2, -, h4⟩
  · rw [h] at hj; simp at hj
  · exact ⟨q, cap, f j, h1, (h2.2 j hj).1, h4 j _ (List.getElem?_eq_getElem hj)⟩
theorem LR.frm {W : World} {B : Nat} {v : Value} {xss : List (List Nat)} (k : LR W B v xss) : ∃ q c, v = .slice q xss.length c := by
  rcases k with ⟨k, h⟩ | ⟨q, cap, h, k1, -⟩
  · rw [h]; exact ⟨_, _, k⟩
  · exact ⟨_, _, k1⟩
theorem LPR.frm {W : World} {B : Nat} {v : Value} {ls : List (Int × List Nat)} (k : LPR W B v ls) : ∃ q c, v = .slice q ls.length c := by
  rcases k with ⟨k, h⟩ | ⟨q, cap, c, h, k1, -⟩
  · rw [h]; exact ⟨_, _, k⟩
  · exact ⟨_, _, k1⟩
theorem LPR.at {W : World} {B j : Nat} {v : Value} {ls : List (Int × List Nat)} (h : LPR W B v ls) (hj : j < ls.length) : ∃ g cap u, v = .slice (some ⟨g, 0, none⟩) ls.length cap ∧ W.cell? ⟨g, j * 2, none⟩ = some (.int .i64 ls[j].1) ∧ W.cell? ⟨g, j * 2 + 1, none⟩ = some u ∧ NR W B u ls[j].2 := by
  rcases h with ⟨-, h⟩ | ⟨q, cap, c, f, h1, h2, -, h4⟩
  · rw [h] at hj; simp at hj
  · have := h4 j _ (List.getElem?_eq_getElem hj)
    exact ⟨q, cap, f j, h1, by rw [← this.1]; exact (h2.2 j hj).1, (h2.2 j hj).2.1, this.2⟩

set_option maxRecDepth 100000 in
set_option maxHeartbeats 2000000 in
theorem same_lists {W : World} {B C : Nat} {v u : Value} {xss : List (List Nat)} (k1 : LR W B v xss) (k2 : LR W C u xss) (hl : xss.length ≤ 128) (h8 : ∀ x ∈ xss, x.length ≤ 8) : Ans 23 #[v, u] W (.bool true) := by
  unfold Ans
  obtain ⟨q1, c1, e1⟩ := k1.frm
  obtain ⟨q2, c2, e2⟩ := k2.frm
  have H1 := hide (fun V (hV : Below W.heap.size W V) x (hx : x < xss.length) => (k1.keep hV).at hx)
  have H2 := hide (fun V (hV : Below W.heap.size W V) x (hx : x < xss.length) => (k2.keep hV).at hx)
  have H8 := hide h8
  subst e1 e2
  clear k1 k2 h8
  have hne : ((xss.length : Int) != (xss.length : Int)) = false := by simp
  obtain ⟨n, hn⟩ : ∃ n, n = xss.length := ⟨_, rfl⟩
  rw [← hn] at hne hl
  rw [← hn]
  have Hn := hide hn
  clear hn
  go_enter Try.func23, Try.ntmps23
  go_wp2
  go_loopw [13] (fun i wr => ∃ x : Nat, x ≤ n ∧ i = .int .i64 x ∧ Below W.heap.size W wr) (fun i _ => n - (intOf i).toNat)
  case atStart => exact ⟨0, Nat.zero_le _, rfl, Below.refl _ _⟩
  case round =>
    obtain ⟨x, hx, rfl, hb⟩ := hrel
    by_cases hlt : x < n
    · have p0 : (x : Int) < (n : Int) := by omega
      have p1 : (0 : Int) ≤ (x : Int) := by omega
      have hx' : x < xss.length := by rw [← unhide Hn]; exact hlt
      obtain ⟨g1, d1, u1, f1, a1, r1⟩ := unhide H1 wr hb x hx'
      obtain ⟨g2, d2, u2, f2, a2, r2⟩ := unhide H2 wr hb x hx'
      simp only [Value.slice.injEq] at f1 f2
      obtain ⟨rfl, -, rfl⟩ := f1
      obtain ⟨rfl, -, rfl⟩ := f2
      have h8 := unhide H8 _ (List.getElem_mem hx')
      have HS := hide (show ∀ j, Yes 22 #[u1, u2] (wr.drewN j) from fun j => same_nums (r1.keep (Joins.below_draws _ _ j)) (r2.keep (Joins.below_draws _ _ j)) (by omega))
      have Hb := hide hb
      clear hb
      unfold Yes at HS
      obtain ⟨s1, t1, rfl⟩ := r1.form
      obtain ⟨s2, t2, rfl⟩ := r2.form
      clear r1 r2 h8
      generalize (xss[x]).length = y at *
      clear hx'
      go_wp2_with fail
      go_quiet (first | (go_at_call 22; exact Calls.quiet_of (unhide HS _)))
      go_wp2
      go_roundw
      case rel => exact ⟨x + 1, by omega, by go_num, (unhide Hb).trans (Joins.below_draws _ _ _)⟩
      case measure => simp [intOf]; omega
    · obtain rfl : n = x := by omega
      have cl : ¬ ((n : Int) < (n : Int)) := by omega
      go_wp2
      go_ret
      exact ⟨rfl, hb⟩

theorem box27 (W : World) (v0 v1 v2 v3 : Value) (r : Int) (u0 u1 u2 u3 : Value) (t : Int) : KB ((W.alloc (.cells #[v0, v1, v2, v3, .int .i64 r] 29)).alloc (.cells #[u0, u1, u2, u3, .int .i64 t] 29)) (W.heap.size + 1) u0 u1 u2 u3 t := by
  have := KB.new (W.alloc (.cells #[v0, v1, v2, v3, .int .i64 r] 29)) u0 u1 u2 u3 t
  simpa using this
/-- what is told is not too great -/
def Fit (k : Kn) : Prop := k.loops.length ≤ 4096 ∧ k.loose.length ≤ 100000 ∧ k.front.length ≤ 128 ∧ k.back.length ≤ 128 ∧ (∀ x ∈ k.front, x.length ≤ 8) ∧ (∀ x ∈ k.back, x.length ≤ 8) ∧ ∀ x ∈ k.loops, x.2.length ≤ 8
theorem Fit.of {N : Nat} {s : St} (hI : Iv s) (hT : Th s) (hN : N ≤ 128) : Fit (tell N s) := by
  obtain ⟨i1, i2, i3, i4, -, -⟩ := hI
  refine ⟨by show s.loops.length ≤ 4096; omega, by show s.loose.length ≤ 100000; omega, by simpa [tell] using hN, by simpa [tell] using hN, fun x hx => ?_, fun x hx => ?_, hT⟩
  · obtain ⟨j, -, rfl⟩ := List.mem_map.1 hx
    exact i4 0 j
  · obtain ⟨j, -, rfl⟩ := List.mem_map.1 hx
    exact i4 1 j
theorem Fit.zero : Fit k0 := ⟨by simp [k0], by simp [k0], by simp [k0], by simp [k0], fun x hx => by simp [k0] at hx, fun x hx => by simp [k0] at hx, fun x hx => by simp [k0] at hx⟩

set_option maxRecDepth 100000 in
set_option maxHeartbeats 4000000 in
theorem same_any {W : World} {B C : Nat} {v u : Value} {k : Kn} (k1 : KR W B v k) (k2 : KR W C u k) (hf : Fit k) : Calls Try.prog 9 #[v, u] W fun e w' => e = .returned (.bool true) ∧ Below W.heap.size W w' := by
  obtain ⟨v1, v2, v3, v4, rfl, p1, p2, p3, p4⟩ := k1
  obtain ⟨u1, u2, u3, u4, rfl, q1, q2, q3, q4⟩ := k2
  obtain ⟨m1, m2, m3, m4, m5, m6, m7⟩ := hf
  obtain ⟨va, vb, hv1⟩ := p1.frm
  obtain ⟨vc, vd, hv2⟩ := p2.frm
  obtain ⟨ve, vf, hv3⟩ := p3.frm
  obtain ⟨vg, vh, hv4⟩ := p4.form
  obtain ⟨ua, ub, hu1⟩ := q1.frm
  obtain ⟨uc, ud, hu2⟩ := q2.frm
  obtain ⟨ue, uf, hu3⟩ := q3.frm
  obtain ⟨ug, uh, hu4⟩ := q4.form
  have HA := hide (fun (V : World) (hV : Below W.heap.size W V) => same_nums (p4.keep hV) (q4.keep hV) m2)
  have HB := hide (fun (V : World) (hV : Below W.heap.size W V) => same_lists (p2.keep hV) (q2.keep hV) m3 m5)
  have HC := hide (fun (V : World) (hV : Below W.heap.size W V) => same_lists (p3.keep hV) (q3.keep hV) m4 m6)
  have HP := hide (fun (V : World) (hV : Below W.heap.size W V) x (hx : x < k.loops.length) => (p1.keep hV).at hx)
  have HQ := hide (fun (V : World) (hV : Below W.heap.size W V) x (hx : x < k.loops.length) => (q1.keep hV).at hx)
  have H7 := hide m7
  unfold Yes at HA
  unfold Ans at HB HC
  subst hv1 hv2 hv3 hv4 hu1 hu2 hu3 hu4
  clear p1 p2 p3 p4 q1 q2 q3 q4 m2 m3 m4 m5 m6 m7
  obtain ⟨n, hn⟩ : ∃ n, n = k.loops.length := ⟨_, rfl⟩
  have Hn := hide hn
  rw [← hn] at m1
  rw [← hn]
  clear hn
  have hne : ((n : Int) != (n : Int)) = false := by simp
  have hrr : (k.rack != k.rack) = false := by simp
  generalize k.rack = rk at *
  generalize k.front.length = nf at *
  generalize k.back.length = nb at *
  generalize k.loose.length = no at *
  have B0 := hide (btrans (bnew W (.cells #[.slice va n vb, .slice vc nf vd, .slice ve nb vf, .slice vg no vh, .int .i64 rk] 29)) (bnew _ (.cells #[.slice ua n ub, .slice uc nf ud, .slice ue nb uf, .slice ug no uh, .int .i64 rk] 29)))
  have HX := hide ((KB.new W (.slice va n vb) (.slice vc nf vd) (.slice ve nb vf) (.slice vg no vh) rk).keep (bnew _ (.cells #[.slice ua n ub, .slice uc nf ud, .slice ue nb uf, .slice ug no uh, .int .i64 rk] 29)))
  have HY := hide (box27 W (.slice va n vb) (.slice vc nf vd) (.slice ve nb vf) (.slice vg no vh) rk (.slice ua n ub) (.slice uc nf ud) (.slice ue nb uf) (.slice ug no uh) rk)
  go_enter Try.func9, Try.ntmps9
  go_upto_region 1 with fail
  generalize (W.alloc (.cells #[.slice va n vb, .slice vc nf vd, .slice ve nb vf, .slice vg no vh, .int .i64 rk] 29)).alloc (.cells #[.slice ua n ub, .slice uc nf ud, .slice ue nb uf, .slice ug no uh, .int .i64 rk] 29) = w0 at *
  obtain ⟨b2, hb2⟩ : ∃ b, b = W.heap.size + 1 := ⟨_, rfl⟩
  rw [← hb2] at HY
  rw [← hb2]
  clear hb2
  obtain ⟨b1, hb1⟩ : ∃ b, b = W.heap.size := ⟨_, rfl⟩
  rw [← hb1] at HX
  rw [← hb1]
  clear hb1
  obtain ⟨-, ⟨x0, x1, x2, x3, x4⟩, -⟩ := unhide HX
  obtain ⟨-, ⟨y0, y1, y2, y3, y4⟩, -⟩ := unhide HY
  go_wp2_with fail
  refine (unhide HA _ (unhide B0)).mono ?_
  rintro e w1 ⟨rfl, a1, rfl⟩
  go_wp2_with fail
  refine (unhide HB _ ((unhide B0).trans (Joins.below_draws _ _ _))).mono ?_
  rintro e w2 ⟨rfl, hb2⟩
  have T2 := hide (btrans (Joins.below_draws w0.heap.size w0 a1) hb2)
  clear hb2 x0 x1 x2 x3 x4 y0 y1 y2 y3 y4
  obtain ⟨-, ⟨x0, x1, x2, x3, x4⟩, -⟩ := (unhide HX).keep (unhide T2)
  obtain ⟨-, ⟨y0, y1, y2, y3, y4⟩, -⟩ := (unhide HY).keep (unhide T2)
  go_wp2_with fail
  refine (unhide HC _ (btrans (unhide B0) (unhide T2))).mono ?_
  rintro e w3 ⟨rfl, hb3⟩
  have T3 := hide (btrans (unhide T2) hb3)
  clear hb3 x0 x1 x2 x3 x4 y0 y1 y2 y3 y4
  obtain ⟨-, ⟨x0, x1, x2, x3, x4⟩, -⟩ := (unhide HX).keep (unhide T3)
  go_wp2
  go_loopw [47] (fun i wr => ∃ x : Nat, x ≤ n ∧ i = .int .i64 x ∧ Below w0.heap.size w0 wr) (fun i _ => n - (intOf i).toNat)
  case atStart => exact ⟨0, Nat.zero_le _, rfl, unhide T3⟩
  case round =>
    clear HA HB HC x0 x1 x2 x3 x4
    obtain ⟨x, hx, rfl, hb⟩ := hrel
    obtain ⟨-, ⟨x0, x1, x2, x3, x4⟩, -⟩ := (unhide HX).keep hb
    obtain ⟨-, ⟨y0, y1, y2, y3, y4⟩, -⟩ := (unhide HY).keep hb
    have Hb := hide hb
    clear hb
    by_cases hlt : x < n
    · have p0 : (x : Int) < (n : Int) := by omega
      have p1 : (0 : Int) ≤ (x : Int) := by omega
      have hx' : x < k.loops.length := by rw [← unhide Hn]; exact hlt
      obtain ⟨g1, d1, t1, f1, c1, a1, r1⟩ := unhide HP wr (btrans (unhide B0) (unhide Hb)) x hx'
      obtain ⟨g2, d2, t2, f2, c2, a2, r2⟩ := unhide HQ wr (btrans (unhide B0) (unhide Hb)) x hx'
      simp only [Value.slice.injEq] at f1 f2
      obtain ⟨rfl, -, rfl⟩ := f1
      obtain ⟨rfl, -, rfl⟩ := f2
      have h8 := unhide H7 _ (List.getElem_mem hx')
      have HS := hide (show ∀ i, Yes 22 #[t1, t2] (wr.drewN i) from fun i => same_nums (r1.keep (Joins.below_draws _ _ i)) (r2.keep (Joins.below_draws _ _ i)) (by omega))
      unfold Yes at HS
      obtain ⟨s1, o1, rfl⟩ := r1.form
      obtain ⟨s2, o2, rfl⟩ := r2.form
      clear r1 r2 h8
      generalize (k.loops[x]).2.length = y at *
      generalize (k.loops[x]).1 = z at *
      have hz : (z != z) = false := by simp
      clear hx'
      go_wp2_with fail
      go_quiet (first | (go_at_call 22; exact Calls.quiet_of (unhide HS _)))
      go_wp2
      go_roundw
      case rel => exact ⟨x + 1, by omega, by go_num, (unhide Hb).trans (Joins.below_draws _ _ _)⟩
      case measure => simp [intOf]; omega
    · obtain rfl : n = x := by omega
      have cl : ¬ ((n : Int) < (n : Int)) := by omega
      go_wp2
      go_ret
      exact ⟨rfl, btrans (unhide B0) (unhide Hb)⟩
end Go.Proofs.Ytancniamgfppiaa
