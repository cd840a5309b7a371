/-
  The document's Wrong.
-/
import Derived.Test.YtancniamgfppiaaRfB
namespace Go.Proofs.Ytancniamgfppiaa
open Go.RowKit

theorem two44 (W : World) (o : Obj) (dk bd nd ca tt : Int) : XB ((W.alloc o).alloc (.cells #[.int .i64 dk, .int .i64 bd, .int .i64 nd, .int .i64 ca, .int .i64 tt] 24)) (W.heap.size + 1) ⟨dk, bd, nd, ca, tt⟩ := by
  have := XB.new (W.alloc o) ⟨dk, bd, nd, ca, tt⟩
  simpa using this
set_option maxRecDepth 100000 in
set_option maxHeartbeats 2000000 in
theorem rw_lo {W : World} {N : Nat} {q1 q2 q3 : Option Addr} {m1 c1 m2 c2 m3 c3 : Nat} {rk : Int} {dn : Nat} (dk bd nd ca tt : Int) (h : dk < 1) : Ans 51 #[rsV N (.slice q1 m1 c1) (.slice q2 m2 c2) (.slice q3 m3 c3) rk dn, .agg #[.int .i64 dk, .int .i64 bd, .int .i64 nd, .int .i64 ca, .int .i64 tt]] W (.int .i64 1) := by
  unfold Ans
  have B0 := hide (btrans (bnew W (.cells #[.int .i64 (N : Int), .slice q1 m1 c1, .slice q2 m2 c2, .slice q3 m3 c3, .int .i64 rk, .int .i64 (dn : Int)] 87)) (bnew _ (.cells #[.int .i64 dk, .int .i64 bd, .int .i64 nd, .int .i64 ca, .int .i64 tt] 24)))
  have HSB := hide ((SB.new W N (.slice q1 m1 c1) (.slice q2 m2 c2) (.slice q3 m3 c3) rk dn).keep (bnew _ (.cells #[.int .i64 dk, .int .i64 bd, .int .i64 nd, .int .i64 ca, .int .i64 tt] 24)))
  have HX := hide (two44 W (.cells #[.int .i64 (N : Int), .slice q1 m1 c1, .slice q2 m2 c2, .slice q3 m3 c3, .int .i64 rk, .int .i64 (dn : Int)] 87) dk bd nd ca tt)
  go_enter Try.func51, Try.ntmps51
  go_upto_region 1 with fail
  generalize ((W.alloc (.cells #[.int .i64 (N : Int), .slice q1 m1 c1, .slice q2 m2 c2, .slice q3 m3 c3, .int .i64 rk, .int .i64 (dn : Int)] 87)).alloc (.cells #[.int .i64 dk, .int .i64 bd, .int .i64 nd, .int .i64 ca, .int .i64 tt] 24)) = w0 at *
  obtain ⟨-, ⟨s0', s1', s2', s3', s4', s5'⟩, -⟩ := unhide HSB
  obtain ⟨-, x0, x1, x2, x3, x4⟩ := unhide HX
  have T0 := hide (Below.refl w0.heap.size w0)
  go_wp2
  go_ret
  exact ⟨rfl, btrans (unhide B0) (unhide T0)⟩

set_option maxRecDepth 100000 in
set_option maxHeartbeats 2000000 in
theorem rw_hi {W : World} {N : Nat} {q1 q2 q3 : Option Addr} {m1 c1 m2 c2 m3 c3 : Nat} {rk : Int} {dn : Nat} (dk bd nd ca tt : Int) (h1 : ¬ dk < 1) (h : 6 < dk) : Ans 51 #[rsV N (.slice q1 m1 c1) (.slice q2 m2 c2) (.slice q3 m3 c3) rk dn, .agg #[.int .i64 dk, .int .i64 bd, .int .i64 nd, .int .i64 ca, .int .i64 tt]] W (.int .i64 1) := by
  unfold Ans
  have B0 := hide (btrans (bnew W (.cells #[.int .i64 (N : Int), .slice q1 m1 c1, .slice q2 m2 c2, .slice q3 m3 c3, .int .i64 rk, .int .i64 (dn : Int)] 87)) (bnew _ (.cells #[.int .i64 dk, .int .i64 bd, .int .i64 nd, .int .i64 ca, .int .i64 tt] 24)))
  have HSB := hide ((SB.new W N (.slice q1 m1 c1) (.slice q2 m2 c2) (.slice q3 m3 c3) rk dn).keep (bnew _ (.cells #[.int .i64 dk, .int .i64 bd, .int .i64 nd, .int .i64 ca, .int .i64 tt] 24)))
  have HX := hide (two44 W (.cells #[.int .i64 (N : Int), .slice q1 m1 c1, .slice q2 m2 c2, .slice q3 m3 c3, .int .i64 rk, .int .i64 (dn : Int)] 87) dk bd nd ca tt)
  have g_h1 : decide (dk < 1) = false := by simpa using h1
  go_enter Try.func51, Try.ntmps51
  go_upto_region 1 with fail
  generalize ((W.alloc (.cells #[.int .i64 (N : Int), .slice q1 m1 c1, .slice q2 m2 c2, .slice q3 m3 c3, .int .i64 rk, .int .i64 (dn : Int)] 87)).alloc (.cells #[.int .i64 dk, .int .i64 bd, .int .i64 nd, .int .i64 ca, .int .i64 tt] 24)) = w0 at *
  obtain ⟨-, ⟨s0', s1', s2', s3', s4', s5'⟩, -⟩ := unhide HSB
  obtain ⟨-, x0, x1, x2, x3, x4⟩ := unhide HX
  have T0 := hide (Below.refl w0.heap.size w0)
  go_wp2
  go_ret
  exact ⟨rfl, btrans (unhide B0) (unhide T0)⟩

set_option maxRecDepth 100000 in
set_option maxHeartbeats 2000000 in
theorem rw_much {W : World} {N : Nat} {q1 q2 q3 : Option Addr} {m1 c1 m2 c2 m3 c3 : Nat} {rk : Int} {dn : Nat} (dk bd nd ca tt : Int) (h1 : ¬ dk < 1) (h2 : ¬ 6 < dk) (h : 4096 ≤ dn) : Ans 51 #[rsV N (.slice q1 m1 c1) (.slice q2 m2 c2) (.slice q3 m3 c3) rk dn, .agg #[.int .i64 dk, .int .i64 bd, .int .i64 nd, .int .i64 ca, .int .i64 tt]] W (.int .i64 4) := by
  unfold Ans
  have B0 := hide (btrans (bnew W (.cells #[.int .i64 (N : Int), .slice q1 m1 c1, .slice q2 m2 c2, .slice q3 m3 c3, .int .i64 rk, .int .i64 (dn : Int)] 87)) (bnew _ (.cells #[.int .i64 dk, .int .i64 bd, .int .i64 nd, .int .i64 ca, .int .i64 tt] 24)))
  have HSB := hide ((SB.new W N (.slice q1 m1 c1) (.slice q2 m2 c2) (.slice q3 m3 c3) rk dn).keep (bnew _ (.cells #[.int .i64 dk, .int .i64 bd, .int .i64 nd, .int .i64 ca, .int .i64 tt] 24)))
  have HX := hide (two44 W (.cells #[.int .i64 (N : Int), .slice q1 m1 c1, .slice q2 m2 c2, .slice q3 m3 c3, .int .i64 rk, .int .i64 (dn : Int)] 87) dk bd nd ca tt)
  have g_h1 : decide (dk < 1) = false := by simpa using h1
  have g_h2 : decide (6 < dk) = false := by simpa using h2
  have h' : (4096 : Int) ≤ (dn : Int) := by omega
  go_enter Try.func51, Try.ntmps51
  go_upto_region 1 with fail
  generalize ((W.alloc (.cells #[.int .i64 (N : Int), .slice q1 m1 c1, .slice q2 m2 c2, .slice q3 m3 c3, .int .i64 rk, .int .i64 (dn : Int)] 87)).alloc (.cells #[.int .i64 dk, .int .i64 bd, .int .i64 nd, .int .i64 ca, .int .i64 tt] 24)) = w0 at *
  obtain ⟨-, ⟨s0', s1', s2', s3', s4', s5'⟩, -⟩ := unhide HSB
  obtain ⟨-, x0, x1, x2, x3, x4⟩ := unhide HX
  have T0 := hide (Below.refl w0.heap.size w0)
  go_wp2
  go_ret
  exact ⟨rfl, btrans (unhide B0) (unhide T0)⟩

set_option maxRecDepth 100000 in
set_option maxHeartbeats 2000000 in
theorem rw_r1 {W : World} {N : Nat} {q1 q2 q3 : Option Addr} {m1 c1 m2 c2 m3 c3 : Nat} {rk : Int} {dn : Nat} (bd nd ca tt : Int) (h3 : ¬ 4096 ≤ dn) (h : 4 < tt) : Ans 51 #[rsV N (.slice q1 m1 c1) (.slice q2 m2 c2) (.slice q3 m3 c3) rk dn, .agg #[.int .i64 6, .int .i64 bd, .int .i64 nd, .int .i64 ca, .int .i64 tt]] W (.int .i64 3) := by
  unfold Ans
  have B0 := hide (btrans (bnew W (.cells #[.int .i64 (N : Int), .slice q1 m1 c1, .slice q2 m2 c2, .slice q3 m3 c3, .int .i64 rk, .int .i64 (dn : Int)] 87)) (bnew _ (.cells #[.int .i64 6, .int .i64 bd, .int .i64 nd, .int .i64 ca, .int .i64 tt] 24)))
  have HSB := hide ((SB.new W N (.slice q1 m1 c1) (.slice q2 m2 c2) (.slice q3 m3 c3) rk dn).keep (bnew _ (.cells #[.int .i64 6, .int .i64 bd, .int .i64 nd, .int .i64 ca, .int .i64 tt] 24)))
  have HX := hide (two44 W (.cells #[.int .i64 (N : Int), .slice q1 m1 c1, .slice q2 m2 c2, .slice q3 m3 c3, .int .i64 rk, .int .i64 (dn : Int)] 87) 6 bd nd ca tt)
  have h3' : ¬ ((4096 : Int) ≤ (dn : Int)) := by omega
  have g3 : decide ((4096 : Int) ≤ (dn : Int)) = false := by simpa using h3'
  go_enter Try.func51, Try.ntmps51
  go_upto_region 1 with fail
  generalize ((W.alloc (.cells #[.int .i64 (N : Int), .slice q1 m1 c1, .slice q2 m2 c2, .slice q3 m3 c3, .int .i64 rk, .int .i64 (dn : Int)] 87)).alloc (.cells #[.int .i64 6, .int .i64 bd, .int .i64 nd, .int .i64 ca, .int .i64 tt] 24)) = w0 at *
  obtain ⟨-, ⟨s0', s1', s2', s3', s4', s5'⟩, -⟩ := unhide HSB
  obtain ⟨-, x0, x1, x2, x3, x4⟩ := unhide HX
  have T0 := hide (Below.refl w0.heap.size w0)
  go_wp2
  go_ret
  exact ⟨rfl, btrans (unhide B0) (unhide T0)⟩

set_option maxRecDepth 100000 in
set_option maxHeartbeats 2000000 in
theorem rw_r2 {W : World} {N : Nat} {q1 q2 q3 : Option Addr} {m1 c1 m2 c2 m3 c3 : Nat} {rk : Int} {dn : Nat} (bd nd ca tt : Int) (h3 : ¬ 4096 ≤ dn) (h4 : ¬ 4 < tt) (h : tt < -4) : Ans 51 #[rsV N (.slice q1 m1 c1) (.slice q2 m2 c2) (.slice q3 m3 c3) rk dn, .agg #[.int .i64 6, .int .i64 bd, .int .i64 nd, .int .i64 ca, .int .i64 tt]] W (.int .i64 3) := by
  unfold Ans
  have B0 := hide (btrans (bnew W (.cells #[.int .i64 (N : Int), .slice q1 m1 c1, .slice q2 m2 c2, .slice q3 m3 c3, .int .i64 rk, .int .i64 (dn : Int)] 87)) (bnew _ (.cells #[.int .i64 6, .int .i64 bd, .int .i64 nd, .int .i64 ca, .int .i64 tt] 24)))
  have HSB := hide ((SB.new W N (.slice q1 m1 c1) (.slice q2 m2 c2) (.slice q3 m3 c3) rk dn).keep (bnew _ (.cells #[.int .i64 6, .int .i64 bd, .int .i64 nd, .int .i64 ca, .int .i64 tt] 24)))
  have HX := hide (two44 W (.cells #[.int .i64 (N : Int), .slice q1 m1 c1, .slice q2 m2 c2, .slice q3 m3 c3, .int .i64 rk, .int .i64 (dn : Int)] 87) 6 bd nd ca tt)
  have h3' : ¬ ((4096 : Int) ≤ (dn : Int)) := by omega
  have g3 : decide ((4096 : Int) ≤ (dn : Int)) = false := by simpa using h3'
  have g_h4 : decide (4 < tt) = false := by simpa using h4
  go_enter Try.func51, Try.ntmps51
  go_upto_region 1 with fail
  generalize ((W.alloc (.cells #[.int .i64 (N : Int), .slice q1 m1 c1, .slice q2 m2 c2, .slice q3 m3 c3, .int .i64 rk, .int .i64 (dn : Int)] 87)).alloc (.cells #[.int .i64 6, .int .i64 bd, .int .i64 nd, .int .i64 ca, .int .i64 tt] 24)) = w0 at *
  obtain ⟨-, ⟨s0', s1', s2', s3', s4', s5'⟩, -⟩ := unhide HSB
  obtain ⟨-, x0, x1, x2, x3, x4⟩ := unhide HX
  have T0 := hide (Below.refl w0.heap.size w0)
  go_wp2
  go_ret
  exact ⟨rfl, btrans (unhide B0) (unhide T0)⟩

set_option maxRecDepth 100000 in
set_option maxHeartbeats 2000000 in
theorem rw_r3 {W : World} {N : Nat} {q1 q2 q3 : Option Addr} {m1 c1 m2 c2 m3 c3 : Nat} {rk : Int} {dn : Nat} (bd nd ca tt : Int) (h3 : ¬ 4096 ≤ dn) (h4 : ¬ 4 < tt) (h : ¬ tt < -4) : Ans 51 #[rsV N (.slice q1 m1 c1) (.slice q2 m2 c2) (.slice q3 m3 c3) rk dn, .agg #[.int .i64 6, .int .i64 bd, .int .i64 nd, .int .i64 ca, .int .i64 tt]] W (.int .i64 0) := by
  unfold Ans
  have B0 := hide (btrans (bnew W (.cells #[.int .i64 (N : Int), .slice q1 m1 c1, .slice q2 m2 c2, .slice q3 m3 c3, .int .i64 rk, .int .i64 (dn : Int)] 87)) (bnew _ (.cells #[.int .i64 6, .int .i64 bd, .int .i64 nd, .int .i64 ca, .int .i64 tt] 24)))
  have HSB := hide ((SB.new W N (.slice q1 m1 c1) (.slice q2 m2 c2) (.slice q3 m3 c3) rk dn).keep (bnew _ (.cells #[.int .i64 6, .int .i64 bd, .int .i64 nd, .int .i64 ca, .int .i64 tt] 24)))
  have HX := hide (two44 W (.cells #[.int .i64 (N : Int), .slice q1 m1 c1, .slice q2 m2 c2, .slice q3 m3 c3, .int .i64 rk, .int .i64 (dn : Int)] 87) 6 bd nd ca tt)
  have h3' : ¬ ((4096 : Int) ≤ (dn : Int)) := by omega
  have g3 : decide ((4096 : Int) ≤ (dn : Int)) = false := by simpa using h3'
  have g_h4 : decide (4 < tt) = false := by simpa using h4
  have g_h : decide (tt < -4) = false := by simpa using h
  go_enter Try.func51, Try.ntmps51
  go_upto_region 1 with fail
  generalize ((W.alloc (.cells #[.int .i64 (N : Int), .slice q1 m1 c1, .slice q2 m2 c2, .slice q3 m3 c3, .int .i64 rk, .int .i64 (dn : Int)] 87)).alloc (.cells #[.int .i64 6, .int .i64 bd, .int .i64 nd, .int .i64 ca, .int .i64 tt] 24)) = w0 at *
  obtain ⟨-, ⟨s0', s1', s2', s3', s4', s5'⟩, -⟩ := unhide HSB
  obtain ⟨-, x0, x1, x2, x3, x4⟩ := unhide HX
  have T0 := hide (Below.refl w0.heap.size w0)
  go_wp2
  go_ret
  exact ⟨rfl, btrans (unhide B0) (unhide T0)⟩

set_option maxRecDepth 100000 in
set_option maxHeartbeats 2000000 in
theorem rw_bed {W : World} {N : Nat} {q1 q2 q3 : Option Addr} {m1 c1 m2 c2 m3 c3 : Nat} {rk : Int} {dn : Nat} (dk bd nd ca tt : Int) (h1 : ¬ dk < 1) (h2 : ¬ 6 < dk) (h3 : ¬ 4096 ≤ dn) (h6 : dk ≠ 6) (hb0 : bd ≠ 0) (hb1 : bd ≠ 1) : Ans 51 #[rsV N (.slice q1 m1 c1) (.slice q2 m2 c2) (.slice q3 m3 c3) rk dn, .agg #[.int .i64 dk, .int .i64 bd, .int .i64 nd, .int .i64 ca, .int .i64 tt]] W (.int .i64 3) := by
  unfold Ans
  have B0 := hide (btrans (bnew W (.cells #[.int .i64 (N : Int), .slice q1 m1 c1, .slice q2 m2 c2, .slice q3 m3 c3, .int .i64 rk, .int .i64 (dn : Int)] 87)) (bnew _ (.cells #[.int .i64 dk, .int .i64 bd, .int .i64 nd, .int .i64 ca, .int .i64 tt] 24)))
  have HSB := hide ((SB.new W N (.slice q1 m1 c1) (.slice q2 m2 c2) (.slice q3 m3 c3) rk dn).keep (bnew _ (.cells #[.int .i64 dk, .int .i64 bd, .int .i64 nd, .int .i64 ca, .int .i64 tt] 24)))
  have HX := hide (two44 W (.cells #[.int .i64 (N : Int), .slice q1 m1 c1, .slice q2 m2 c2, .slice q3 m3 c3, .int .i64 rk, .int .i64 (dn : Int)] 87) dk bd nd ca tt)
  have g_h1 : decide (dk < 1) = false := by simpa using h1
  have g_h2 : decide (6 < dk) = false := by simpa using h2
  have h3' : ¬ ((4096 : Int) ≤ (dn : Int)) := by omega
  have g3 : decide ((4096 : Int) ≤ (dn : Int)) = false := by simpa using h3'
  have g6 : (dk == 6) = false := by simpa using h6
  clear h6
  have b0 : (bd != 0) = true := by simpa using hb0
  have b1 : (bd != 1) = true := by simpa using hb1
  clear hb0 hb1
  go_enter Try.func51, Try.ntmps51
  go_upto_region 1 with fail
  generalize ((W.alloc (.cells #[.int .i64 (N : Int), .slice q1 m1 c1, .slice q2 m2 c2, .slice q3 m3 c3, .int .i64 rk, .int .i64 (dn : Int)] 87)).alloc (.cells #[.int .i64 dk, .int .i64 bd, .int .i64 nd, .int .i64 ca, .int .i64 tt] 24)) = w0 at *
  obtain ⟨-, ⟨s0', s1', s2', s3', s4', s5'⟩, -⟩ := unhide HSB
  obtain ⟨-, x0, x1, x2, x3, x4⟩ := unhide HX
  have T0 := hide (Below.refl w0.heap.size w0)
  go_wp2
  go_ret
  exact ⟨rfl, btrans (unhide B0) (unhide T0)⟩

end Go.Proofs.Ytancniamgfppiaa
