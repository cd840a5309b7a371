/-
  The document's Wrong, at the front bed.
-/
import Derived.Test.YtancniamgfppiaaRfC
namespace Go.Proofs.Ytancniamgfppiaa
open Go.RowKit

set_option maxRecDepth 100000 in
set_option maxHeartbeats 2000000 in
theorem rw_n1_0 {W : World} {N : Nat} {q1 q2 q3 : Option Addr} {m1 c1 m2 c2 m3 c3 : Nat} {rk : Int} {dn : Nat} (dk nd ca tt : Int) (h1 : ¬ dk < 1) (h2 : ¬ 6 < dk) (h3 : ¬ 4096 ≤ dn) (h6 : dk ≠ 6) (h : nd < 0) : Ans 51 #[rsV N (.slice q1 m1 c1) (.slice q2 m2 c2) (.slice q3 m3 c3) rk dn, .agg #[.int .i64 dk, .int .i64 0, .int .i64 nd, .int .i64 ca, .int .i64 tt]] W (.int .i64 3) := by
  unfold Ans
  have B0 := hide (btrans (bnew W (.cells #[.int .i64 (N : Int), .slice q1 m1 c1, .slice q2 m2 c2, .slice q3 m3 c3, .int .i64 rk, .int .i64 (dn : Int)] 87)) (bnew _ (.cells #[.int .i64 dk, .int .i64 0, .int .i64 nd, .int .i64 ca, .int .i64 tt] 24)))
  have HSB := hide ((SB.new W N (.slice q1 m1 c1) (.slice q2 m2 c2) (.slice q3 m3 c3) rk dn).keep (bnew _ (.cells #[.int .i64 dk, .int .i64 0, .int .i64 nd, .int .i64 ca, .int .i64 tt] 24)))
  have HX := hide (two44 W (.cells #[.int .i64 (N : Int), .slice q1 m1 c1, .slice q2 m2 c2, .slice q3 m3 c3, .int .i64 rk, .int .i64 (dn : Int)] 87) dk 0 nd ca tt)
  have g_h1 : decide (dk < 1) = false := by simpa using h1
  have g_h2 : decide (6 < dk) = false := by simpa using h2
  have h3' : ¬ ((4096 : Int) ≤ (dn : Int)) := by omega
  have g3 : decide ((4096 : Int) ≤ (dn : Int)) = false := by simpa using h3'
  have g6 : (dk == 6) = false := by simpa using h6
  clear h6
  go_enter Try.func51, Try.ntmps51
  go_upto_region 1 with fail
  generalize ((W.alloc (.cells #[.int .i64 (N : Int), .slice q1 m1 c1, .slice q2 m2 c2, .slice q3 m3 c3, .int .i64 rk, .int .i64 (dn : Int)] 87)).alloc (.cells #[.int .i64 dk, .int .i64 0, .int .i64 nd, .int .i64 ca, .int .i64 tt] 24)) = w0 at *
  obtain ⟨-, ⟨s0', s1', s2', s3', s4', s5'⟩, -⟩ := unhide HSB
  obtain ⟨-, x0, x1, x2, x3, x4⟩ := unhide HX
  have T0 := hide (Below.refl w0.heap.size w0)
  go_wp2
  go_ret
  exact ⟨rfl, btrans (unhide B0) (unhide T0)⟩

set_option maxRecDepth 100000 in
set_option maxHeartbeats 2000000 in
theorem rw_n2_0 {W : World} {N : Nat} {q1 q2 q3 : Option Addr} {m1 c1 m2 c2 m3 c3 : Nat} {rk : Int} {dn : Nat} (dk nd ca tt : Int) (h1 : ¬ dk < 1) (h2 : ¬ 6 < dk) (h3 : ¬ 4096 ≤ dn) (h6 : dk ≠ 6) (hn : ¬ nd < 0) (h : (N : Int) ≤ nd) : Ans 51 #[rsV N (.slice q1 m1 c1) (.slice q2 m2 c2) (.slice q3 m3 c3) rk dn, .agg #[.int .i64 dk, .int .i64 0, .int .i64 nd, .int .i64 ca, .int .i64 tt]] W (.int .i64 3) := by
  unfold Ans
  have B0 := hide (btrans (bnew W (.cells #[.int .i64 (N : Int), .slice q1 m1 c1, .slice q2 m2 c2, .slice q3 m3 c3, .int .i64 rk, .int .i64 (dn : Int)] 87)) (bnew _ (.cells #[.int .i64 dk, .int .i64 0, .int .i64 nd, .int .i64 ca, .int .i64 tt] 24)))
  have HSB := hide ((SB.new W N (.slice q1 m1 c1) (.slice q2 m2 c2) (.slice q3 m3 c3) rk dn).keep (bnew _ (.cells #[.int .i64 dk, .int .i64 0, .int .i64 nd, .int .i64 ca, .int .i64 tt] 24)))
  have HX := hide (two44 W (.cells #[.int .i64 (N : Int), .slice q1 m1 c1, .slice q2 m2 c2, .slice q3 m3 c3, .int .i64 rk, .int .i64 (dn : Int)] 87) dk 0 nd ca tt)
  have g_h1 : decide (dk < 1) = false := by simpa using h1
  have g_h2 : decide (6 < dk) = false := by simpa using h2
  have h3' : ¬ ((4096 : Int) ≤ (dn : Int)) := by omega
  have g3 : decide ((4096 : Int) ≤ (dn : Int)) = false := by simpa using h3'
  have g6 : (dk == 6) = false := by simpa using h6
  clear h6
  have g_hn : decide (nd < 0) = false := by simpa using hn
  go_enter Try.func51, Try.ntmps51
  go_upto_region 1 with fail
  generalize ((W.alloc (.cells #[.int .i64 (N : Int), .slice q1 m1 c1, .slice q2 m2 c2, .slice q3 m3 c3, .int .i64 rk, .int .i64 (dn : Int)] 87)).alloc (.cells #[.int .i64 dk, .int .i64 0, .int .i64 nd, .int .i64 ca, .int .i64 tt] 24)) = w0 at *
  obtain ⟨-, ⟨s0', s1', s2', s3', s4', s5'⟩, -⟩ := unhide HSB
  obtain ⟨-, x0, x1, x2, x3, x4⟩ := unhide HX
  have T0 := hide (Below.refl w0.heap.size w0)
  go_wp2
  go_ret
  exact ⟨rfl, btrans (unhide B0) (unhide T0)⟩

set_option maxRecDepth 100000 in
set_option maxHeartbeats 2000000 in
theorem rw_c1_1_0 {W : World} {N : Nat} {q1 q2 q3 : Option Addr} {m1 c1 m2 c2 m3 c3 : Nat} {rk : Int} {dn : Nat} {l : List (Nat × Nat × Nat)} (n : Nat) (ca tt : Int) (hh : HR W 0 (.slice q2 m2 c2) l) (hl : l.length ≤ 4096) (h3 : ¬ 4096 ≤ dn) (hn : n < N) (hN : N ≤ 128) (r1 : -4 ≤ rk) (r2 : rk ≤ 4) (h : ca < 0) : Ans 51 #[rsV N (.slice q1 m1 c1) (.slice q2 m2 c2) (.slice q3 m3 c3) rk dn, .agg #[.int .i64 1, .int .i64 0, .int .i64 n, .int .i64 ca, .int .i64 tt]] W (.int .i64 3) := by
  unfold Ans
  have u1_ := And.intro hl (And.intro hN (And.intro r1 r2))
  have u2_ := hh
  clear u1_ u2_
  have B0 := hide (btrans (bnew W (.cells #[.int .i64 (N : Int), .slice q1 m1 c1, .slice q2 m2 c2, .slice q3 m3 c3, .int .i64 rk, .int .i64 (dn : Int)] 87)) (bnew _ (.cells #[.int .i64 1, .int .i64 0, .int .i64 n, .int .i64 ca, .int .i64 tt] 24)))
  have HSB := hide ((SB.new W N (.slice q1 m1 c1) (.slice q2 m2 c2) (.slice q3 m3 c3) rk dn).keep (bnew _ (.cells #[.int .i64 1, .int .i64 0, .int .i64 n, .int .i64 ca, .int .i64 tt] 24)))
  have HX := hide (two44 W (.cells #[.int .i64 (N : Int), .slice q1 m1 c1, .slice q2 m2 c2, .slice q3 m3 c3, .int .i64 rk, .int .i64 (dn : Int)] 87) 1 0 n ca tt)
  have h3' : ¬ ((4096 : Int) ≤ (dn : Int)) := by omega
  have g3 : decide ((4096 : Int) ≤ (dn : Int)) = false := by simpa using h3'
  have n1 : ¬ ((n : Int) < 0) := by omega
  have n2 : decide ((n : Int) < 0) = false := by simp
  have n3 : ¬ ((N : Int) ≤ (n : Int)) := by omega
  have n4 : decide ((N : Int) ≤ (n : Int)) = false := by simpa using n3
  go_enter Try.func51, Try.ntmps51
  go_upto_region 1 with fail
  generalize ((W.alloc (.cells #[.int .i64 (N : Int), .slice q1 m1 c1, .slice q2 m2 c2, .slice q3 m3 c3, .int .i64 rk, .int .i64 (dn : Int)] 87)).alloc (.cells #[.int .i64 1, .int .i64 0, .int .i64 n, .int .i64 ca, .int .i64 tt] 24)) = w0 at *
  obtain ⟨-, ⟨s0', s1', s2', s3', s4', s5'⟩, -⟩ := unhide HSB
  obtain ⟨-, x0, x1, x2, x3, x4⟩ := unhide HX
  have T0 := hide (Below.refl w0.heap.size w0)
  go_wp2
  go_ret
  exact ⟨rfl, btrans (unhide B0) (unhide T0)⟩

set_option maxRecDepth 100000 in
set_option maxHeartbeats 2000000 in
theorem rw_c2_1_0 {W : World} {N : Nat} {q1 q2 q3 : Option Addr} {m1 c1 m2 c2 m3 c3 : Nat} {rk : Int} {dn : Nat} {l : List (Nat × Nat × Nat)} (n : Nat) (ca tt : Int) (hh : HR W 0 (.slice q2 m2 c2) l) (hl : l.length ≤ 4096) (h3 : ¬ 4096 ≤ dn) (hn : n < N) (hN : N ≤ 128) (r1 : -4 ≤ rk) (r2 : rk ≤ 4) (h0 : ¬ ca < 0) (h : 7 < ca) : Ans 51 #[rsV N (.slice q1 m1 c1) (.slice q2 m2 c2) (.slice q3 m3 c3) rk dn, .agg #[.int .i64 1, .int .i64 0, .int .i64 n, .int .i64 ca, .int .i64 tt]] W (.int .i64 3) := by
  unfold Ans
  have u1_ := And.intro hl (And.intro hN (And.intro r1 r2))
  have u2_ := hh
  clear u1_ u2_
  have B0 := hide (btrans (bnew W (.cells #[.int .i64 (N : Int), .slice q1 m1 c1, .slice q2 m2 c2, .slice q3 m3 c3, .int .i64 rk, .int .i64 (dn : Int)] 87)) (bnew _ (.cells #[.int .i64 1, .int .i64 0, .int .i64 n, .int .i64 ca, .int .i64 tt] 24)))
  have HSB := hide ((SB.new W N (.slice q1 m1 c1) (.slice q2 m2 c2) (.slice q3 m3 c3) rk dn).keep (bnew _ (.cells #[.int .i64 1, .int .i64 0, .int .i64 n, .int .i64 ca, .int .i64 tt] 24)))
  have HX := hide (two44 W (.cells #[.int .i64 (N : Int), .slice q1 m1 c1, .slice q2 m2 c2, .slice q3 m3 c3, .int .i64 rk, .int .i64 (dn : Int)] 87) 1 0 n ca tt)
  have h3' : ¬ ((4096 : Int) ≤ (dn : Int)) := by omega
  have g3 : decide ((4096 : Int) ≤ (dn : Int)) = false := by simpa using h3'
  have n1 : ¬ ((n : Int) < 0) := by omega
  have n2 : decide ((n : Int) < 0) = false := by simp
  have n3 : ¬ ((N : Int) ≤ (n : Int)) := by omega
  have n4 : decide ((N : Int) ≤ (n : Int)) = false := by simpa using n3
  have g_h0 : decide (ca < 0) = false := by simpa using h0
  go_enter Try.func51, Try.ntmps51
  go_upto_region 1 with fail
  generalize ((W.alloc (.cells #[.int .i64 (N : Int), .slice q1 m1 c1, .slice q2 m2 c2, .slice q3 m3 c3, .int .i64 rk, .int .i64 (dn : Int)] 87)).alloc (.cells #[.int .i64 1, .int .i64 0, .int .i64 n, .int .i64 ca, .int .i64 tt] 24)) = w0 at *
  obtain ⟨-, ⟨s0', s1', s2', s3', s4', s5'⟩, -⟩ := unhide HSB
  obtain ⟨-, x0, x1, x2, x3, x4⟩ := unhide HX
  have T0 := hide (Below.refl w0.heap.size w0)
  go_wp2
  go_ret
  exact ⟨rfl, btrans (unhide B0) (unhide T0)⟩

set_option maxRecDepth 100000 in
set_option maxHeartbeats 2000000 in
theorem rw_c1_2_0 {W : World} {N : Nat} {q1 q2 q3 : Option Addr} {m1 c1 m2 c2 m3 c3 : Nat} {rk : Int} {dn : Nat} {l : List (Nat × Nat × Nat)} (n : Nat) (ca tt : Int) (hh : HR W 0 (.slice q2 m2 c2) l) (hl : l.length ≤ 4096) (h3 : ¬ 4096 ≤ dn) (hn : n < N) (hN : N ≤ 128) (r1 : -4 ≤ rk) (r2 : rk ≤ 4) (h : ca < 0) : Ans 51 #[rsV N (.slice q1 m1 c1) (.slice q2 m2 c2) (.slice q3 m3 c3) rk dn, .agg #[.int .i64 2, .int .i64 0, .int .i64 n, .int .i64 ca, .int .i64 tt]] W (.int .i64 3) := by
  unfold Ans
  have u1_ := And.intro hl (And.intro hN (And.intro r1 r2))
  have u2_ := hh
  clear u1_ u2_
  have B0 := hide (btrans (bnew W (.cells #[.int .i64 (N : Int), .slice q1 m1 c1, .slice q2 m2 c2, .slice q3 m3 c3, .int .i64 rk, .int .i64 (dn : Int)] 87)) (bnew _ (.cells #[.int .i64 2, .int .i64 0, .int .i64 n, .int .i64 ca, .int .i64 tt] 24)))
  have HSB := hide ((SB.new W N (.slice q1 m1 c1) (.slice q2 m2 c2) (.slice q3 m3 c3) rk dn).keep (bnew _ (.cells #[.int .i64 2, .int .i64 0, .int .i64 n, .int .i64 ca, .int .i64 tt] 24)))
  have HX := hide (two44 W (.cells #[.int .i64 (N : Int), .slice q1 m1 c1, .slice q2 m2 c2, .slice q3 m3 c3, .int .i64 rk, .int .i64 (dn : Int)] 87) 2 0 n ca tt)
  have h3' : ¬ ((4096 : Int) ≤ (dn : Int)) := by omega
  have g3 : decide ((4096 : Int) ≤ (dn : Int)) = false := by simpa using h3'
  have n1 : ¬ ((n : Int) < 0) := by omega
  have n2 : decide ((n : Int) < 0) = false := by simp
  have n3 : ¬ ((N : Int) ≤ (n : Int)) := by omega
  have n4 : decide ((N : Int) ≤ (n : Int)) = false := by simpa using n3
  go_enter Try.func51, Try.ntmps51
  go_upto_region 1 with fail
  generalize ((W.alloc (.cells #[.int .i64 (N : Int), .slice q1 m1 c1, .slice q2 m2 c2, .slice q3 m3 c3, .int .i64 rk, .int .i64 (dn : Int)] 87)).alloc (.cells #[.int .i64 2, .int .i64 0, .int .i64 n, .int .i64 ca, .int .i64 tt] 24)) = w0 at *
  obtain ⟨-, ⟨s0', s1', s2', s3', s4', s5'⟩, -⟩ := unhide HSB
  obtain ⟨-, x0, x1, x2, x3, x4⟩ := unhide HX
  have T0 := hide (Below.refl w0.heap.size w0)
  go_wp2
  go_ret
  exact ⟨rfl, btrans (unhide B0) (unhide T0)⟩

set_option maxRecDepth 100000 in
set_option maxHeartbeats 2000000 in
theorem rw_c2_2_0 {W : World} {N : Nat} {q1 q2 q3 : Option Addr} {m1 c1 m2 c2 m3 c3 : Nat} {rk : Int} {dn : Nat} {l : List (Nat × Nat × Nat)} (n : Nat) (ca tt : Int) (hh : HR W 0 (.slice q2 m2 c2) l) (hl : l.length ≤ 4096) (h3 : ¬ 4096 ≤ dn) (hn : n < N) (hN : N ≤ 128) (r1 : -4 ≤ rk) (r2 : rk ≤ 4) (h0 : ¬ ca < 0) (h : 7 < ca) : Ans 51 #[rsV N (.slice q1 m1 c1) (.slice q2 m2 c2) (.slice q3 m3 c3) rk dn, .agg #[.int .i64 2, .int .i64 0, .int .i64 n, .int .i64 ca, .int .i64 tt]] W (.int .i64 3) := by
  unfold Ans
  have u1_ := And.intro hl (And.intro hN (And.intro r1 r2))
  have u2_ := hh
  clear u1_ u2_
  have B0 := hide (btrans (bnew W (.cells #[.int .i64 (N : Int), .slice q1 m1 c1, .slice q2 m2 c2, .slice q3 m3 c3, .int .i64 rk, .int .i64 (dn : Int)] 87)) (bnew _ (.cells #[.int .i64 2, .int .i64 0, .int .i64 n, .int .i64 ca, .int .i64 tt] 24)))
  have HSB := hide ((SB.new W N (.slice q1 m1 c1) (.slice q2 m2 c2) (.slice q3 m3 c3) rk dn).keep (bnew _ (.cells #[.int .i64 2, .int .i64 0, .int .i64 n, .int .i64 ca, .int .i64 tt] 24)))
  have HX := hide (two44 W (.cells #[.int .i64 (N : Int), .slice q1 m1 c1, .slice q2 m2 c2, .slice q3 m3 c3, .int .i64 rk, .int .i64 (dn : Int)] 87) 2 0 n ca tt)
  have h3' : ¬ ((4096 : Int) ≤ (dn : Int)) := by omega
  have g3 : decide ((4096 : Int) ≤ (dn : Int)) = false := by simpa using h3'
  have n1 : ¬ ((n : Int) < 0) := by omega
  have n2 : decide ((n : Int) < 0) = false := by simp
  have n3 : ¬ ((N : Int) ≤ (n : Int)) := by omega
  have n4 : decide ((N : Int) ≤ (n : Int)) = false := by simpa using n3
  have g_h0 : decide (ca < 0) = false := by simpa using h0
  go_enter Try.func51, Try.ntmps51
  go_upto_region 1 with fail
  generalize ((W.alloc (.cells #[.int .i64 (N : Int), .slice q1 m1 c1, .slice q2 m2 c2, .slice q3 m3 c3, .int .i64 rk, .int .i64 (dn : Int)] 87)).alloc (.cells #[.int .i64 2, .int .i64 0, .int .i64 n, .int .i64 ca, .int .i64 tt] 24)) = w0 at *
  obtain ⟨-, ⟨s0', s1', s2', s3', s4', s5'⟩, -⟩ := unhide HSB
  obtain ⟨-, x0, x1, x2, x3, x4⟩ := unhide HX
  have T0 := hide (Below.refl w0.heap.size w0)
  go_wp2
  go_ret
  exact ⟨rfl, btrans (unhide B0) (unhide T0)⟩

set_option maxRecDepth 100000 in
set_option maxHeartbeats 2000000 in
theorem rw_c1_3_0 {W : World} {N : Nat} {q1 q2 q3 : Option Addr} {m1 c1 m2 c2 m3 c3 : Nat} {rk : Int} {dn : Nat} {l : List (Nat × Nat × Nat)} (n : Nat) (ca tt : Int) (hh : HR W 0 (.slice q2 m2 c2) l) (hl : l.length ≤ 4096) (h3 : ¬ 4096 ≤ dn) (hn : n < N) (hN : N ≤ 128) (r1 : -4 ≤ rk) (r2 : rk ≤ 4) (h : ca < 0) : Ans 51 #[rsV N (.slice q1 m1 c1) (.slice q2 m2 c2) (.slice q3 m3 c3) rk dn, .agg #[.int .i64 3, .int .i64 0, .int .i64 n, .int .i64 ca, .int .i64 tt]] W (.int .i64 3) := by
  unfold Ans
  have u1_ := And.intro hl (And.intro hN (And.intro r1 r2))
  have u2_ := hh
  clear u1_ u2_
  have B0 := hide (btrans (bnew W (.cells #[.int .i64 (N : Int), .slice q1 m1 c1, .slice q2 m2 c2, .slice q3 m3 c3, .int .i64 rk, .int .i64 (dn : Int)] 87)) (bnew _ (.cells #[.int .i64 3, .int .i64 0, .int .i64 n, .int .i64 ca, .int .i64 tt] 24)))
  have HSB := hide ((SB.new W N (.slice q1 m1 c1) (.slice q2 m2 c2) (.slice q3 m3 c3) rk dn).keep (bnew _ (.cells #[.int .i64 3, .int .i64 0, .int .i64 n, .int .i64 ca, .int .i64 tt] 24)))
  have HX := hide (two44 W (.cells #[.int .i64 (N : Int), .slice q1 m1 c1, .slice q2 m2 c2, .slice q3 m3 c3, .int .i64 rk, .int .i64 (dn : Int)] 87) 3 0 n ca tt)
  have h3' : ¬ ((4096 : Int) ≤ (dn : Int)) := by omega
  have g3 : decide ((4096 : Int) ≤ (dn : Int)) = false := by simpa using h3'
  have n1 : ¬ ((n : Int) < 0) := by omega
  have n2 : decide ((n : Int) < 0) = false := by simp
  have n3 : ¬ ((N : Int) ≤ (n : Int)) := by omega
  have n4 : decide ((N : Int) ≤ (n : Int)) = false := by simpa using n3
  go_enter Try.func51, Try.ntmps51
  go_upto_region 1 with fail
  generalize ((W.alloc (.cells #[.int .i64 (N : Int), .slice q1 m1 c1, .slice q2 m2 c2, .slice q3 m3 c3, .int .i64 rk, .int .i64 (dn : Int)] 87)).alloc (.cells #[.int .i64 3, .int .i64 0, .int .i64 n, .int .i64 ca, .int .i64 tt] 24)) = w0 at *
  obtain ⟨-, ⟨s0', s1', s2', s3', s4', s5'⟩, -⟩ := unhide HSB
  obtain ⟨-, x0, x1, x2, x3, x4⟩ := unhide HX
  have T0 := hide (Below.refl w0.heap.size w0)
  go_wp2
  go_ret
  exact ⟨rfl, btrans (unhide B0) (unhide T0)⟩

set_option maxRecDepth 100000 in
set_option maxHeartbeats 2000000 in
theorem rw_c2_3_0 {W : World} {N : Nat} {q1 q2 q3 : Option Addr} {m1 c1 m2 c2 m3 c3 : Nat} {rk : Int} {dn : Nat} {l : List (Nat × Nat × Nat)} (n : Nat) (ca tt : Int) (hh : HR W 0 (.slice q2 m2 c2) l) (hl : l.length ≤ 4096) (h3 : ¬ 4096 ≤ dn) (hn : n < N) (hN : N ≤ 128) (r1 : -4 ≤ rk) (r2 : rk ≤ 4) (h0 : ¬ ca < 0) (h : 7 < ca) : Ans 51 #[rsV N (.slice q1 m1 c1) (.slice q2 m2 c2) (.slice q3 m3 c3) rk dn, .agg #[.int .i64 3, .int .i64 0, .int .i64 n, .int .i64 ca, .int .i64 tt]] W (.int .i64 3) := by
  unfold Ans
  have u1_ := And.intro hl (And.intro hN (And.intro r1 r2))
  have u2_ := hh
  clear u1_ u2_
  have B0 := hide (btrans (bnew W (.cells #[.int .i64 (N : Int), .slice q1 m1 c1, .slice q2 m2 c2, .slice q3 m3 c3, .int .i64 rk, .int .i64 (dn : Int)] 87)) (bnew _ (.cells #[.int .i64 3, .int .i64 0, .int .i64 n, .int .i64 ca, .int .i64 tt] 24)))
  have HSB := hide ((SB.new W N (.slice q1 m1 c1) (.slice q2 m2 c2) (.slice q3 m3 c3) rk dn).keep (bnew _ (.cells #[.int .i64 3, .int .i64 0, .int .i64 n, .int .i64 ca, .int .i64 tt] 24)))
  have HX := hide (two44 W (.cells #[.int .i64 (N : Int), .slice q1 m1 c1, .slice q2 m2 c2, .slice q3 m3 c3, .int .i64 rk, .int .i64 (dn : Int)] 87) 3 0 n ca tt)
  have h3' : ¬ ((4096 : Int) ≤ (dn : Int)) := by omega
  have g3 : decide ((4096 : Int) ≤ (dn : Int)) = false := by simpa using h3'
  have n1 : ¬ ((n : Int) < 0) := by omega
  have n2 : decide ((n : Int) < 0) = false := by simp
  have n3 : ¬ ((N : Int) ≤ (n : Int)) := by omega
  have n4 : decide ((N : Int) ≤ (n : Int)) = false := by simpa using n3
  have g_h0 : decide (ca < 0) = false := by simpa using h0
  go_enter Try.func51, Try.ntmps51
  go_upto_region 1 with fail
  generalize ((W.alloc (.cells #[.int .i64 (N : Int), .slice q1 m1 c1, .slice q2 m2 c2, .slice q3 m3 c3, .int .i64 rk, .int .i64 (dn : Int)] 87)).alloc (.cells #[.int .i64 3, .int .i64 0, .int .i64 n, .int .i64 ca, .int .i64 tt] 24)) = w0 at *
  obtain ⟨-, ⟨s0', s1', s2', s3', s4', s5'⟩, -⟩ := unhide HSB
  obtain ⟨-, x0, x1, x2, x3, x4⟩ := unhide HX
  have T0 := hide (Below.refl w0.heap.size w0)
  go_wp2
  go_ret
  exact ⟨rfl, btrans (unhide B0) (unhide T0)⟩

set_option maxRecDepth 100000 in
set_option maxHeartbeats 2000000 in
theorem rw_k0_0 {W : World} {N : Nat} {q1 q2 q3 : Option Addr} {m1 c1 m2 c2 m3 c3 : Nat} {rk : Int} {dn : Nat} {l : List (Nat × Nat × Nat)} (n : Nat) (ca tt : Int) (hh : HR W 0 (.slice q2 m2 c2) l) (hl : l.length ≤ 4096) (h3 : ¬ 4096 ≤ dn) (hn : n < N) (hN : N ≤ 128) (r1 : -4 ≤ rk) (r2 : rk ≤ 4) (hc1 : ¬ ca < 0) (hc2 : ¬ 7 < ca) (ho : (onL l 0 n).length = 0) : Ans 51 #[rsV N (.slice q1 m1 c1) (.slice q2 m2 c2) (.slice q3 m3 c3) rk dn, .agg #[.int .i64 1, .int .i64 0, .int .i64 n, .int .i64 ca, .int .i64 tt]] W (.int .i64 6) := by
  unfold Ans
  have u1_ := And.intro hl (And.intro hN (And.intro r1 r2))
  have u2_ := hh
  clear u1_ u2_
  have B0 := hide (btrans (bnew W (.cells #[.int .i64 (N : Int), .slice q1 m1 c1, .slice q2 m2 c2, .slice q3 m3 c3, .int .i64 rk, .int .i64 (dn : Int)] 87)) (bnew _ (.cells #[.int .i64 1, .int .i64 0, .int .i64 n, .int .i64 ca, .int .i64 tt] 24)))
  have HSB := hide ((SB.new W N (.slice q1 m1 c1) (.slice q2 m2 c2) (.slice q3 m3 c3) rk dn).keep (bnew _ (.cells #[.int .i64 1, .int .i64 0, .int .i64 n, .int .i64 ca, .int .i64 tt] 24)))
  have HX := hide (two44 W (.cells #[.int .i64 (N : Int), .slice q1 m1 c1, .slice q2 m2 c2, .slice q3 m3 c3, .int .i64 rk, .int .i64 (dn : Int)] 87) 1 0 n ca tt)
  have h3' : ¬ ((4096 : Int) ≤ (dn : Int)) := by omega
  have g3 : decide ((4096 : Int) ≤ (dn : Int)) = false := by simpa using h3'
  have n1 : ¬ ((n : Int) < 0) := by omega
  have n2 : decide ((n : Int) < 0) = false := by simp
  have n3 : ¬ ((N : Int) ≤ (n : Int)) := by omega
  have n4 : decide ((N : Int) ≤ (n : Int)) = false := by simpa using n3
  have g_hc1 : decide (ca < 0) = false := by simpa using hc1
  have g_hc2 : decide (7 < ca) = false := by simpa using hc2
  have ho1 : (((onL l 0 n).length : Int) == 0) = true := by simp [ho]
  clear ho
  have HOn := hide (fun V (hV : Below ((W.alloc (.cells #[.int .i64 (N : Int), .slice q1 m1 c1, .slice q2 m2 c2, .slice q3 m3 c3, .int .i64 rk, .int .i64 (dn : Int)] 87)).alloc (.cells #[.int .i64 1, .int .i64 0, .int .i64 n, .int .i64 ca, .int .i64 tt] 24)).heap.size ((W.alloc (.cells #[.int .i64 (N : Int), .slice q1 m1 c1, .slice q2 m2 c2, .slice q3 m3 c3, .int .i64 rk, .int .i64 (dn : Int)] 87)).alloc (.cells #[.int .i64 1, .int .i64 0, .int .i64 n, .int .i64 ca, .int .i64 tt] 24)) V) => on_any (N := N) (lv := .slice q1 m1 c1) (sv := .slice q3 m3 c3) (rk := rk) (dn := dn) (hh.keep (btrans (unhide B0) hV)) hl 0 n)
  go_enter Try.func51, Try.ntmps51
  go_upto_region 1 with fail
  generalize ((W.alloc (.cells #[.int .i64 (N : Int), .slice q1 m1 c1, .slice q2 m2 c2, .slice q3 m3 c3, .int .i64 rk, .int .i64 (dn : Int)] 87)).alloc (.cells #[.int .i64 1, .int .i64 0, .int .i64 n, .int .i64 ca, .int .i64 tt] 24)) = w0 at *
  obtain ⟨-, ⟨s0', s1', s2', s3', s4', s5'⟩, -⟩ := unhide HSB
  obtain ⟨-, x0, x1, x2, x3, x4⟩ := unhide HX
  have T0 := hide (Below.refl w0.heap.size w0)
  go_wp2_with fail
  refine (unhide HOn _ (unhide T0)).mono ?_
  rintro e w1 ⟨v1, rfl, hv1, hb1⟩
  obtain ⟨oq, oc, rfl⟩ := hv1.form
  have T1 := hide (btrans (unhide T0) hb1)
  clear hv1 hb1 s0' s1' s2' s3' s4' s5' x0 x1 x2 x3 x4
  obtain ⟨-, ⟨s0', s1', s2', s3', s4', s5'⟩, -⟩ := (unhide HSB).keep (unhide T1)
  obtain ⟨-, x0, x1, x2, x3, x4⟩ := (unhide HX).keep (unhide T1)
  generalize (onL l 0 n).length = on at *
  go_wp2
  go_ret
  exact ⟨rfl, btrans (unhide B0) (unhide T1)⟩

set_option maxRecDepth 100000 in
set_option maxHeartbeats 2000000 in
theorem rw_k1_0 {W : World} {N : Nat} {q1 q2 q3 : Option Addr} {m1 c1 m2 c2 m3 c3 : Nat} {rk : Int} {dn : Nat} {l : List (Nat × Nat × Nat)} (n : Nat) (ca tt : Int) (hh : HR W 0 (.slice q2 m2 c2) l) (hl : l.length ≤ 4096) (h3 : ¬ 4096 ≤ dn) (hn : n < N) (hN : N ≤ 128) (r1 : -4 ≤ rk) (r2 : rk ≤ 4) (hc1 : ¬ ca < 0) (hc2 : ¬ 7 < ca) (ho : (onL l 0 n).length ≠ 0) : Ans 51 #[rsV N (.slice q1 m1 c1) (.slice q2 m2 c2) (.slice q3 m3 c3) rk dn, .agg #[.int .i64 1, .int .i64 0, .int .i64 n, .int .i64 ca, .int .i64 tt]] W (.int .i64 0) := by
  unfold Ans
  have u1_ := And.intro hl (And.intro hN (And.intro r1 r2))
  have u2_ := hh
  clear u1_ u2_
  have B0 := hide (btrans (bnew W (.cells #[.int .i64 (N : Int), .slice q1 m1 c1, .slice q2 m2 c2, .slice q3 m3 c3, .int .i64 rk, .int .i64 (dn : Int)] 87)) (bnew _ (.cells #[.int .i64 1, .int .i64 0, .int .i64 n, .int .i64 ca, .int .i64 tt] 24)))
  have HSB := hide ((SB.new W N (.slice q1 m1 c1) (.slice q2 m2 c2) (.slice q3 m3 c3) rk dn).keep (bnew _ (.cells #[.int .i64 1, .int .i64 0, .int .i64 n, .int .i64 ca, .int .i64 tt] 24)))
  have HX := hide (two44 W (.cells #[.int .i64 (N : Int), .slice q1 m1 c1, .slice q2 m2 c2, .slice q3 m3 c3, .int .i64 rk, .int .i64 (dn : Int)] 87) 1 0 n ca tt)
  have h3' : ¬ ((4096 : Int) ≤ (dn : Int)) := by omega
  have g3 : decide ((4096 : Int) ≤ (dn : Int)) = false := by simpa using h3'
  have n1 : ¬ ((n : Int) < 0) := by omega
  have n2 : decide ((n : Int) < 0) = false := by simp
  have n3 : ¬ ((N : Int) ≤ (n : Int)) := by omega
  have n4 : decide ((N : Int) ≤ (n : Int)) = false := by simpa using n3
  have g_hc1 : decide (ca < 0) = false := by simpa using hc1
  have g_hc2 : decide (7 < ca) = false := by simpa using hc2
  have ho1 : (((onL l 0 n).length : Int) == 0) = false := by simpa using ho
  clear ho
  have HOn := hide (fun V (hV : Below ((W.alloc (.cells #[.int .i64 (N : Int), .slice q1 m1 c1, .slice q2 m2 c2, .slice q3 m3 c3, .int .i64 rk, .int .i64 (dn : Int)] 87)).alloc (.cells #[.int .i64 1, .int .i64 0, .int .i64 n, .int .i64 ca, .int .i64 tt] 24)).heap.size ((W.alloc (.cells #[.int .i64 (N : Int), .slice q1 m1 c1, .slice q2 m2 c2, .slice q3 m3 c3, .int .i64 rk, .int .i64 (dn : Int)] 87)).alloc (.cells #[.int .i64 1, .int .i64 0, .int .i64 n, .int .i64 ca, .int .i64 tt] 24)) V) => on_any (N := N) (lv := .slice q1 m1 c1) (sv := .slice q3 m3 c3) (rk := rk) (dn := dn) (hh.keep (btrans (unhide B0) hV)) hl 0 n)
  go_enter Try.func51, Try.ntmps51
  go_upto_region 1 with fail
  generalize ((W.alloc (.cells #[.int .i64 (N : Int), .slice q1 m1 c1, .slice q2 m2 c2, .slice q3 m3 c3, .int .i64 rk, .int .i64 (dn : Int)] 87)).alloc (.cells #[.int .i64 1, .int .i64 0, .int .i64 n, .int .i64 ca, .int .i64 tt] 24)) = w0 at *
  obtain ⟨-, ⟨s0', s1', s2', s3', s4', s5'⟩, -⟩ := unhide HSB
  obtain ⟨-, x0, x1, x2, x3, x4⟩ := unhide HX
  have T0 := hide (Below.refl w0.heap.size w0)
  go_wp2_with fail
  refine (unhide HOn _ (unhide T0)).mono ?_
  rintro e w1 ⟨v1, rfl, hv1, hb1⟩
  obtain ⟨oq, oc, rfl⟩ := hv1.form
  have T1 := hide (btrans (unhide T0) hb1)
  clear hv1 hb1 s0' s1' s2' s3' s4' s5' x0 x1 x2 x3 x4
  obtain ⟨-, ⟨s0', s1', s2', s3', s4', s5'⟩, -⟩ := (unhide HSB).keep (unhide T1)
  obtain ⟨-, x0, x1, x2, x3, x4⟩ := (unhide HX).keep (unhide T1)
  generalize (onL l 0 n).length = on at *
  go_wp2
  go_ret
  exact ⟨rfl, btrans (unhide B0) (unhide T1)⟩

set_option maxRecDepth 100000 in
set_option maxHeartbeats 2000000 in
theorem rw_t0_0 {W : World} {N : Nat} {q1 q2 q3 : Option Addr} {m1 c1 m2 c2 m3 c3 : Nat} {rk : Int} {dn : Nat} {l : List (Nat × Nat × Nat)} (n : Nat) (ca tt : Int) (hh : HR W 0 (.slice q2 m2 c2) l) (hl : l.length ≤ 4096) (h3 : ¬ 4096 ≤ dn) (hn : n < N) (hN : N ≤ 128) (r1 : -4 ≤ rk) (r2 : rk ≤ 4) (hc1 : ¬ ca < 0) (hc2 : ¬ 7 < ca) (ho : 8 ≤ (onL l 0 n).length) : Ans 51 #[rsV N (.slice q1 m1 c1) (.slice q2 m2 c2) (.slice q3 m3 c3) rk dn, .agg #[.int .i64 2, .int .i64 0, .int .i64 n, .int .i64 ca, .int .i64 tt]] W (.int .i64 5) := by
  unfold Ans
  have u1_ := And.intro hl (And.intro hN (And.intro r1 r2))
  have u2_ := hh
  clear u1_ u2_
  have B0 := hide (btrans (bnew W (.cells #[.int .i64 (N : Int), .slice q1 m1 c1, .slice q2 m2 c2, .slice q3 m3 c3, .int .i64 rk, .int .i64 (dn : Int)] 87)) (bnew _ (.cells #[.int .i64 2, .int .i64 0, .int .i64 n, .int .i64 ca, .int .i64 tt] 24)))
  have HSB := hide ((SB.new W N (.slice q1 m1 c1) (.slice q2 m2 c2) (.slice q3 m3 c3) rk dn).keep (bnew _ (.cells #[.int .i64 2, .int .i64 0, .int .i64 n, .int .i64 ca, .int .i64 tt] 24)))
  have HX := hide (two44 W (.cells #[.int .i64 (N : Int), .slice q1 m1 c1, .slice q2 m2 c2, .slice q3 m3 c3, .int .i64 rk, .int .i64 (dn : Int)] 87) 2 0 n ca tt)
  have h3' : ¬ ((4096 : Int) ≤ (dn : Int)) := by omega
  have g3 : decide ((4096 : Int) ≤ (dn : Int)) = false := by simpa using h3'
  have n1 : ¬ ((n : Int) < 0) := by omega
  have n2 : decide ((n : Int) < 0) = false := by simp
  have n3 : ¬ ((N : Int) ≤ (n : Int)) := by omega
  have n4 : decide ((N : Int) ≤ (n : Int)) = false := by simpa using n3
  have g_hc1 : decide (ca < 0) = false := by simpa using hc1
  have g_hc2 : decide (7 < ca) = false := by simpa using hc2
  have ho1 : (8 : Int) ≤ ((onL l 0 n).length : Int) := by omega
  have HOn := hide (fun V (hV : Below ((W.alloc (.cells #[.int .i64 (N : Int), .slice q1 m1 c1, .slice q2 m2 c2, .slice q3 m3 c3, .int .i64 rk, .int .i64 (dn : Int)] 87)).alloc (.cells #[.int .i64 2, .int .i64 0, .int .i64 n, .int .i64 ca, .int .i64 tt] 24)).heap.size ((W.alloc (.cells #[.int .i64 (N : Int), .slice q1 m1 c1, .slice q2 m2 c2, .slice q3 m3 c3, .int .i64 rk, .int .i64 (dn : Int)] 87)).alloc (.cells #[.int .i64 2, .int .i64 0, .int .i64 n, .int .i64 ca, .int .i64 tt] 24)) V) => on_any (N := N) (lv := .slice q1 m1 c1) (sv := .slice q3 m3 c3) (rk := rk) (dn := dn) (hh.keep (btrans (unhide B0) hV)) hl 0 n)
  go_enter Try.func51, Try.ntmps51
  go_upto_region 1 with fail
  generalize ((W.alloc (.cells #[.int .i64 (N : Int), .slice q1 m1 c1, .slice q2 m2 c2, .slice q3 m3 c3, .int .i64 rk, .int .i64 (dn : Int)] 87)).alloc (.cells #[.int .i64 2, .int .i64 0, .int .i64 n, .int .i64 ca, .int .i64 tt] 24)) = w0 at *
  obtain ⟨-, ⟨s0', s1', s2', s3', s4', s5'⟩, -⟩ := unhide HSB
  obtain ⟨-, x0, x1, x2, x3, x4⟩ := unhide HX
  have T0 := hide (Below.refl w0.heap.size w0)
  go_wp2_with fail
  refine (unhide HOn _ (unhide T0)).mono ?_
  rintro e w1 ⟨v1, rfl, hv1, hb1⟩
  obtain ⟨oq, oc, rfl⟩ := hv1.form
  have T1 := hide (btrans (unhide T0) hb1)
  clear hv1 hb1 s0' s1' s2' s3' s4' s5' x0 x1 x2 x3 x4
  obtain ⟨-, ⟨s0', s1', s2', s3', s4', s5'⟩, -⟩ := (unhide HSB).keep (unhide T1)
  obtain ⟨-, x0, x1, x2, x3, x4⟩ := (unhide HX).keep (unhide T1)
  generalize (onL l 0 n).length = on at *
  go_wp2
  go_ret
  exact ⟨rfl, btrans (unhide B0) (unhide T1)⟩

set_option maxRecDepth 100000 in
set_option maxHeartbeats 2000000 in
theorem rw_t1_0 {W : World} {N : Nat} {q1 q2 q3 : Option Addr} {m1 c1 m2 c2 m3 c3 : Nat} {rk : Int} {dn : Nat} {l : List (Nat × Nat × Nat)} (n : Nat) (ca tt : Int) (hh : HR W 0 (.slice q2 m2 c2) l) (hl : l.length ≤ 4096) (h3 : ¬ 4096 ≤ dn) (hn : n < N) (hN : N ≤ 128) (r1 : -4 ≤ rk) (r2 : rk ≤ 4) (hc1 : ¬ ca < 0) (hc2 : ¬ 7 < ca) (ho : ¬ 8 ≤ (onL l 0 n).length) : Ans 51 #[rsV N (.slice q1 m1 c1) (.slice q2 m2 c2) (.slice q3 m3 c3) rk dn, .agg #[.int .i64 2, .int .i64 0, .int .i64 n, .int .i64 ca, .int .i64 tt]] W (.int .i64 0) := by
  unfold Ans
  have u1_ := And.intro hl (And.intro hN (And.intro r1 r2))
  have u2_ := hh
  clear u1_ u2_
  have B0 := hide (btrans (bnew W (.cells #[.int .i64 (N : Int), .slice q1 m1 c1, .slice q2 m2 c2, .slice q3 m3 c3, .int .i64 rk, .int .i64 (dn : Int)] 87)) (bnew _ (.cells #[.int .i64 2, .int .i64 0, .int .i64 n, .int .i64 ca, .int .i64 tt] 24)))
  have HSB := hide ((SB.new W N (.slice q1 m1 c1) (.slice q2 m2 c2) (.slice q3 m3 c3) rk dn).keep (bnew _ (.cells #[.int .i64 2, .int .i64 0, .int .i64 n, .int .i64 ca, .int .i64 tt] 24)))
  have HX := hide (two44 W (.cells #[.int .i64 (N : Int), .slice q1 m1 c1, .slice q2 m2 c2, .slice q3 m3 c3, .int .i64 rk, .int .i64 (dn : Int)] 87) 2 0 n ca tt)
  have h3' : ¬ ((4096 : Int) ≤ (dn : Int)) := by omega
  have g3 : decide ((4096 : Int) ≤ (dn : Int)) = false := by simpa using h3'
  have n1 : ¬ ((n : Int) < 0) := by omega
  have n2 : decide ((n : Int) < 0) = false := by simp
  have n3 : ¬ ((N : Int) ≤ (n : Int)) := by omega
  have n4 : decide ((N : Int) ≤ (n : Int)) = false := by simpa using n3
  have g_hc1 : decide (ca < 0) = false := by simpa using hc1
  have g_hc2 : decide (7 < ca) = false := by simpa using hc2
  have ho1 : ¬ ((8 : Int) ≤ ((onL l 0 n).length : Int)) := by omega
  have ho2 : decide ((8 : Int) ≤ ((onL l 0 n).length : Int)) = false := by simpa using ho1
  have HOn := hide (fun V (hV : Below ((W.alloc (.cells #[.int .i64 (N : Int), .slice q1 m1 c1, .slice q2 m2 c2, .slice q3 m3 c3, .int .i64 rk, .int .i64 (dn : Int)] 87)).alloc (.cells #[.int .i64 2, .int .i64 0, .int .i64 n, .int .i64 ca, .int .i64 tt] 24)).heap.size ((W.alloc (.cells #[.int .i64 (N : Int), .slice q1 m1 c1, .slice q2 m2 c2, .slice q3 m3 c3, .int .i64 rk, .int .i64 (dn : Int)] 87)).alloc (.cells #[.int .i64 2, .int .i64 0, .int .i64 n, .int .i64 ca, .int .i64 tt] 24)) V) => on_any (N := N) (lv := .slice q1 m1 c1) (sv := .slice q3 m3 c3) (rk := rk) (dn := dn) (hh.keep (btrans (unhide B0) hV)) hl 0 n)
  go_enter Try.func51, Try.ntmps51
  go_upto_region 1 with fail
  generalize ((W.alloc (.cells #[.int .i64 (N : Int), .slice q1 m1 c1, .slice q2 m2 c2, .slice q3 m3 c3, .int .i64 rk, .int .i64 (dn : Int)] 87)).alloc (.cells #[.int .i64 2, .int .i64 0, .int .i64 n, .int .i64 ca, .int .i64 tt] 24)) = w0 at *
  obtain ⟨-, ⟨s0', s1', s2', s3', s4', s5'⟩, -⟩ := unhide HSB
  obtain ⟨-, x0, x1, x2, x3, x4⟩ := unhide HX
  have T0 := hide (Below.refl w0.heap.size w0)
  go_wp2_with fail
  refine (unhide HOn _ (unhide T0)).mono ?_
  rintro e w1 ⟨v1, rfl, hv1, hb1⟩
  obtain ⟨oq, oc, rfl⟩ := hv1.form
  have T1 := hide (btrans (unhide T0) hb1)
  clear hv1 hb1 s0' s1' s2' s3' s4' s5' x0 x1 x2 x3 x4
  obtain ⟨-, ⟨s0', s1', s2', s3', s4', s5'⟩, -⟩ := (unhide HSB).keep (unhide T1)
  obtain ⟨-, x0, x1, x2, x3, x4⟩ := (unhide HX).keep (unhide T1)
  generalize (onL l 0 n).length = on at *
  go_wp2
  go_ret
  exact ⟨rfl, btrans (unhide B0) (unhide T1)⟩

set_option maxRecDepth 100000 in
set_option maxHeartbeats 2000000 in
theorem rw_m_0 {W : World} {N : Nat} {q1 q2 q3 : Option Addr} {m1 c1 m2 c2 m3 c3 : Nat} {rk : Int} {dn : Nat} {l : List (Nat × Nat × Nat)} (n : Nat) (ca tt : Int) (hh : HR W 0 (.slice q2 m2 c2) l) (hl : l.length ≤ 4096) (h3 : ¬ 4096 ≤ dn) (hn : n < N) (hN : N ≤ 128) (r1 : -4 ≤ rk) (r2 : rk ≤ 4) (hc1 : ¬ ca < 0) (hc2 : ¬ 7 < ca) : Ans 51 #[rsV N (.slice q1 m1 c1) (.slice q2 m2 c2) (.slice q3 m3 c3) rk dn, .agg #[.int .i64 3, .int .i64 0, .int .i64 n, .int .i64 ca, .int .i64 tt]] W (.int .i64 0) := by
  unfold Ans
  have u1_ := And.intro hl (And.intro hN (And.intro r1 r2))
  have u2_ := hh
  clear u1_ u2_
  have B0 := hide (btrans (bnew W (.cells #[.int .i64 (N : Int), .slice q1 m1 c1, .slice q2 m2 c2, .slice q3 m3 c3, .int .i64 rk, .int .i64 (dn : Int)] 87)) (bnew _ (.cells #[.int .i64 3, .int .i64 0, .int .i64 n, .int .i64 ca, .int .i64 tt] 24)))
  have HSB := hide ((SB.new W N (.slice q1 m1 c1) (.slice q2 m2 c2) (.slice q3 m3 c3) rk dn).keep (bnew _ (.cells #[.int .i64 3, .int .i64 0, .int .i64 n, .int .i64 ca, .int .i64 tt] 24)))
  have HX := hide (two44 W (.cells #[.int .i64 (N : Int), .slice q1 m1 c1, .slice q2 m2 c2, .slice q3 m3 c3, .int .i64 rk, .int .i64 (dn : Int)] 87) 3 0 n ca tt)
  have h3' : ¬ ((4096 : Int) ≤ (dn : Int)) := by omega
  have g3 : decide ((4096 : Int) ≤ (dn : Int)) = false := by simpa using h3'
  have n1 : ¬ ((n : Int) < 0) := by omega
  have n2 : decide ((n : Int) < 0) = false := by simp
  have n3 : ¬ ((N : Int) ≤ (n : Int)) := by omega
  have n4 : decide ((N : Int) ≤ (n : Int)) = false := by simpa using n3
  have g_hc1 : decide (ca < 0) = false := by simpa using hc1
  have g_hc2 : decide (7 < ca) = false := by simpa using hc2
  have HOn := hide (fun V (hV : Below ((W.alloc (.cells #[.int .i64 (N : Int), .slice q1 m1 c1, .slice q2 m2 c2, .slice q3 m3 c3, .int .i64 rk, .int .i64 (dn : Int)] 87)).alloc (.cells #[.int .i64 3, .int .i64 0, .int .i64 n, .int .i64 ca, .int .i64 tt] 24)).heap.size ((W.alloc (.cells #[.int .i64 (N : Int), .slice q1 m1 c1, .slice q2 m2 c2, .slice q3 m3 c3, .int .i64 rk, .int .i64 (dn : Int)] 87)).alloc (.cells #[.int .i64 3, .int .i64 0, .int .i64 n, .int .i64 ca, .int .i64 tt] 24)) V) => on_any (N := N) (lv := .slice q1 m1 c1) (sv := .slice q3 m3 c3) (rk := rk) (dn := dn) (hh.keep (btrans (unhide B0) hV)) hl 0 n)
  go_enter Try.func51, Try.ntmps51
  go_upto_region 1 with fail
  generalize ((W.alloc (.cells #[.int .i64 (N : Int), .slice q1 m1 c1, .slice q2 m2 c2, .slice q3 m3 c3, .int .i64 rk, .int .i64 (dn : Int)] 87)).alloc (.cells #[.int .i64 3, .int .i64 0, .int .i64 n, .int .i64 ca, .int .i64 tt] 24)) = w0 at *
  obtain ⟨-, ⟨s0', s1', s2', s3', s4', s5'⟩, -⟩ := unhide HSB
  obtain ⟨-, x0, x1, x2, x3, x4⟩ := unhide HX
  have T0 := hide (Below.refl w0.heap.size w0)
  go_wp2_with fail
  refine (unhide HOn _ (unhide T0)).mono ?_
  rintro e w1 ⟨v1, rfl, hv1, hb1⟩
  obtain ⟨oq, oc, rfl⟩ := hv1.form
  have T1 := hide (btrans (unhide T0) hb1)
  clear hv1 hb1 s0' s1' s2' s3' s4' s5' x0 x1 x2 x3 x4
  obtain ⟨-, ⟨s0', s1', s2', s3', s4', s5'⟩, -⟩ := (unhide HSB).keep (unhide T1)
  obtain ⟨-, x0, x1, x2, x3, x4⟩ := (unhide HX).keep (unhide T1)
  generalize (onL l 0 n).length = on at *
  go_wp2
  go_ret
  exact ⟨rfl, btrans (unhide B0) (unhide T1)⟩

set_option maxRecDepth 100000 in
set_option maxHeartbeats 2000000 in
theorem rw_d0_0 {W : World} {N : Nat} {q1 q2 q3 : Option Addr} {m1 c1 m2 c2 m3 c3 : Nat} {rk : Int} {dn : Nat} {l : List (Nat × Nat × Nat)} (n : Nat) (ca tt : Int) (hh : HR W 0 (.slice q2 m2 c2) l) (hl : l.length ≤ 4096) (h3 : ¬ 4096 ≤ dn) (hn : n < N) (hN : N ≤ 128) (r1 : -4 ≤ rk) (r2 : rk ≤ 4) (ho : (onL l 0 n).length = 0) : Ans 51 #[rsV N (.slice q1 m1 c1) (.slice q2 m2 c2) (.slice q3 m3 c3) rk dn, .agg #[.int .i64 5, .int .i64 0, .int .i64 n, .int .i64 ca, .int .i64 tt]] W (.int .i64 6) := by
  unfold Ans
  have u1_ := And.intro hl (And.intro hN (And.intro r1 r2))
  have u2_ := hh
  clear u1_ u2_
  have B0 := hide (btrans (bnew W (.cells #[.int .i64 (N : Int), .slice q1 m1 c1, .slice q2 m2 c2, .slice q3 m3 c3, .int .i64 rk, .int .i64 (dn : Int)] 87)) (bnew _ (.cells #[.int .i64 5, .int .i64 0, .int .i64 n, .int .i64 ca, .int .i64 tt] 24)))
  have HSB := hide ((SB.new W N (.slice q1 m1 c1) (.slice q2 m2 c2) (.slice q3 m3 c3) rk dn).keep (bnew _ (.cells #[.int .i64 5, .int .i64 0, .int .i64 n, .int .i64 ca, .int .i64 tt] 24)))
  have HX := hide (two44 W (.cells #[.int .i64 (N : Int), .slice q1 m1 c1, .slice q2 m2 c2, .slice q3 m3 c3, .int .i64 rk, .int .i64 (dn : Int)] 87) 5 0 n ca tt)
  have h3' : ¬ ((4096 : Int) ≤ (dn : Int)) := by omega
  have g3 : decide ((4096 : Int) ≤ (dn : Int)) = false := by simpa using h3'
  have n1 : ¬ ((n : Int) < 0) := by omega
  have n2 : decide ((n : Int) < 0) = false := by simp
  have n3 : ¬ ((N : Int) ≤ (n : Int)) := by omega
  have n4 : decide ((N : Int) ≤ (n : Int)) = false := by simpa using n3
  have ho1 : (((onL l 0 n).length : Int) == 0) = true := by simp [ho]
  clear ho
  have HOn := hide (fun V (hV : Below ((W.alloc (.cells #[.int .i64 (N : Int), .slice q1 m1 c1, .slice q2 m2 c2, .slice q3 m3 c3, .int .i64 rk, .int .i64 (dn : Int)] 87)).alloc (.cells #[.int .i64 5, .int .i64 0, .int .i64 n, .int .i64 ca, .int .i64 tt] 24)).heap.size ((W.alloc (.cells #[.int .i64 (N : Int), .slice q1 m1 c1, .slice q2 m2 c2, .slice q3 m3 c3, .int .i64 rk, .int .i64 (dn : Int)] 87)).alloc (.cells #[.int .i64 5, .int .i64 0, .int .i64 n, .int .i64 ca, .int .i64 tt] 24)) V) => on_any (N := N) (lv := .slice q1 m1 c1) (sv := .slice q3 m3 c3) (rk := rk) (dn := dn) (hh.keep (btrans (unhide B0) hV)) hl 0 n)
  go_enter Try.func51, Try.ntmps51
  go_upto_region 1 with fail
  generalize ((W.alloc (.cells #[.int .i64 (N : Int), .slice q1 m1 c1, .slice q2 m2 c2, .slice q3 m3 c3, .int .i64 rk, .int .i64 (dn : Int)] 87)).alloc (.cells #[.int .i64 5, .int .i64 0, .int .i64 n, .int .i64 ca, .int .i64 tt] 24)) = w0 at *
  obtain ⟨-, ⟨s0', s1', s2', s3', s4', s5'⟩, -⟩ := unhide HSB
  obtain ⟨-, x0, x1, x2, x3, x4⟩ := unhide HX
  have T0 := hide (Below.refl w0.heap.size w0)
  go_wp2_with fail
  refine (unhide HOn _ (unhide T0)).mono ?_
  rintro e w1 ⟨v1, rfl, hv1, hb1⟩
  obtain ⟨oq, oc, rfl⟩ := hv1.form
  have T1 := hide (btrans (unhide T0) hb1)
  clear hv1 hb1 s0' s1' s2' s3' s4' s5' x0 x1 x2 x3 x4
  obtain ⟨-, ⟨s0', s1', s2', s3', s4', s5'⟩, -⟩ := (unhide HSB).keep (unhide T1)
  obtain ⟨-, x0, x1, x2, x3, x4⟩ := (unhide HX).keep (unhide T1)
  generalize (onL l 0 n).length = on at *
  go_wp2
  go_ret
  exact ⟨rfl, btrans (unhide B0) (unhide T1)⟩

set_option maxRecDepth 100000 in
set_option maxHeartbeats 2000000 in
theorem rw_d1_0 {W : World} {N : Nat} {q1 q2 q3 : Option Addr} {m1 c1 m2 c2 m3 c3 : Nat} {rk : Int} {dn : Nat} {l : List (Nat × Nat × Nat)} (n : Nat) (ca tt : Int) (hh : HR W 0 (.slice q2 m2 c2) l) (hl : l.length ≤ 4096) (h3 : ¬ 4096 ≤ dn) (hn : n < N) (hN : N ≤ 128) (r1 : -4 ≤ rk) (r2 : rk ≤ 4) (ho : (onL l 0 n).length ≠ 0) : Ans 51 #[rsV N (.slice q1 m1 c1) (.slice q2 m2 c2) (.slice q3 m3 c3) rk dn, .agg #[.int .i64 5, .int .i64 0, .int .i64 n, .int .i64 ca, .int .i64 tt]] W (.int .i64 0) := by
  unfold Ans
  have u1_ := And.intro hl (And.intro hN (And.intro r1 r2))
  have u2_ := hh
  clear u1_ u2_
  have B0 := hide (btrans (bnew W (.cells #[.int .i64 (N : Int), .slice q1 m1 c1, .slice q2 m2 c2, .slice q3 m3 c3, .int .i64 rk, .int .i64 (dn : Int)] 87)) (bnew _ (.cells #[.int .i64 5, .int .i64 0, .int .i64 n, .int .i64 ca, .int .i64 tt] 24)))
  have HSB := hide ((SB.new W N (.slice q1 m1 c1) (.slice q2 m2 c2) (.slice q3 m3 c3) rk dn).keep (bnew _ (.cells #[.int .i64 5, .int .i64 0, .int .i64 n, .int .i64 ca, .int .i64 tt] 24)))
  have HX := hide (two44 W (.cells #[.int .i64 (N : Int), .slice q1 m1 c1, .slice q2 m2 c2, .slice q3 m3 c3, .int .i64 rk, .int .i64 (dn : Int)] 87) 5 0 n ca tt)
  have h3' : ¬ ((4096 : Int) ≤ (dn : Int)) := by omega
  have g3 : decide ((4096 : Int) ≤ (dn : Int)) = false := by simpa using h3'
  have n1 : ¬ ((n : Int) < 0) := by omega
  have n2 : decide ((n : Int) < 0) = false := by simp
  have n3 : ¬ ((N : Int) ≤ (n : Int)) := by omega
  have n4 : decide ((N : Int) ≤ (n : Int)) = false := by simpa using n3
  have ho1 : (((onL l 0 n).length : Int) == 0) = false := by simpa using ho
  clear ho
  have HOn := hide (fun V (hV : Below ((W.alloc (.cells #[.int .i64 (N : Int), .slice q1 m1 c1, .slice q2 m2 c2, .slice q3 m3 c3, .int .i64 rk, .int .i64 (dn : Int)] 87)).alloc (.cells #[.int .i64 5, .int .i64 0, .int .i64 n, .int .i64 ca, .int .i64 tt] 24)).heap.size ((W.alloc (.cells #[.int .i64 (N : Int), .slice q1 m1 c1, .slice q2 m2 c2, .slice q3 m3 c3, .int .i64 rk, .int .i64 (dn : Int)] 87)).alloc (.cells #[.int .i64 5, .int .i64 0, .int .i64 n, .int .i64 ca, .int .i64 tt] 24)) V) => on_any (N := N) (lv := .slice q1 m1 c1) (sv := .slice q3 m3 c3) (rk := rk) (dn := dn) (hh.keep (btrans (unhide B0) hV)) hl 0 n)
  go_enter Try.func51, Try.ntmps51
  go_upto_region 1 with fail
  generalize ((W.alloc (.cells #[.int .i64 (N : Int), .slice q1 m1 c1, .slice q2 m2 c2, .slice q3 m3 c3, .int .i64 rk, .int .i64 (dn : Int)] 87)).alloc (.cells #[.int .i64 5, .int .i64 0, .int .i64 n, .int .i64 ca, .int .i64 tt] 24)) = w0 at *
  obtain ⟨-, ⟨s0', s1', s2', s3', s4', s5'⟩, -⟩ := unhide HSB
  obtain ⟨-, x0, x1, x2, x3, x4⟩ := unhide HX
  have T0 := hide (Below.refl w0.heap.size w0)
  go_wp2_with fail
  refine (unhide HOn _ (unhide T0)).mono ?_
  rintro e w1 ⟨v1, rfl, hv1, hb1⟩
  obtain ⟨oq, oc, rfl⟩ := hv1.form
  have T1 := hide (btrans (unhide T0) hb1)
  clear hv1 hb1 s0' s1' s2' s3' s4' s5' x0 x1 x2 x3 x4
  obtain ⟨-, ⟨s0', s1', s2', s3', s4', s5'⟩, -⟩ := (unhide HSB).keep (unhide T1)
  obtain ⟨-, x0, x1, x2, x3, x4⟩ := (unhide HX).keep (unhide T1)
  generalize (onL l 0 n).length = on at *
  go_wp2
  go_ret
  exact ⟨rfl, btrans (unhide B0) (unhide T1)⟩

set_option maxRecDepth 100000 in
set_option maxHeartbeats 2000000 in
theorem rw_v1_0 {W : World} {N : Nat} {q1 q2 q3 : Option Addr} {m1 c1 m2 c2 m3 c3 : Nat} {rk : Int} {dn : Nat} {l : List (Nat × Nat × Nat)} (n : Nat) (ca tt : Int) (hh : HR W 0 (.slice q2 m2 c2) l) (hl : l.length ≤ 4096) (h3 : ¬ 4096 ≤ dn) (hn : n < N) (hN : N ≤ 128) (r1 : -4 ≤ rk) (r2 : rk ≤ 4) (hf : fcN rk 0 n < 0) : Ans 51 #[rsV N (.slice q1 m1 c1) (.slice q2 m2 c2) (.slice q3 m3 c3) rk dn, .agg #[.int .i64 4, .int .i64 0, .int .i64 n, .int .i64 ca, .int .i64 tt]] W (.int .i64 3) := by
  unfold Ans
  have u1_ := And.intro hl (And.intro hN (And.intro r1 r2))
  have u2_ := hh
  clear u1_ u2_
  have B0 := hide (btrans (bnew W (.cells #[.int .i64 (N : Int), .slice q1 m1 c1, .slice q2 m2 c2, .slice q3 m3 c3, .int .i64 rk, .int .i64 (dn : Int)] 87)) (bnew _ (.cells #[.int .i64 4, .int .i64 0, .int .i64 n, .int .i64 ca, .int .i64 tt] 24)))
  have HSB := hide ((SB.new W N (.slice q1 m1 c1) (.slice q2 m2 c2) (.slice q3 m3 c3) rk dn).keep (bnew _ (.cells #[.int .i64 4, .int .i64 0, .int .i64 n, .int .i64 ca, .int .i64 tt] 24)))
  have HX := hide (two44 W (.cells #[.int .i64 (N : Int), .slice q1 m1 c1, .slice q2 m2 c2, .slice q3 m3 c3, .int .i64 rk, .int .i64 (dn : Int)] 87) 4 0 n ca tt)
  have h3' : ¬ ((4096 : Int) ≤ (dn : Int)) := by omega
  have g3 : decide ((4096 : Int) ≤ (dn : Int)) = false := by simpa using h3'
  have n1 : ¬ ((n : Int) < 0) := by omega
  have n2 : decide ((n : Int) < 0) = false := by simp
  have n3 : ¬ ((N : Int) ≤ (n : Int)) := by omega
  have n4 : decide ((N : Int) ≤ (n : Int)) = false := by simpa using n3
  have HFc := hide (fun V => rfacing_any (W := V) (N := N) (lv := .slice q1 m1 c1) (hv := .slice q2 m2 c2) (sv := .slice q3 m3 c3) (rk := rk) (dn := dn) (b := 0) (n := n) (by omega) r1 r2 (by omega) ⟨_, _, _, rfl⟩ ⟨_, _, _, rfl⟩ ⟨_, _, _, rfl⟩)
  rw [show (((0 : Nat) : Int)) = 0 from rfl] at HFc
  obtain ⟨fc, hfc⟩ : ∃ fc, fc = fcN rk 0 n := ⟨_, rfl⟩
  rw [← hfc] at HFc hf
  clear hfc
  have HOn := hide (fun V (hV : Below ((W.alloc (.cells #[.int .i64 (N : Int), .slice q1 m1 c1, .slice q2 m2 c2, .slice q3 m3 c3, .int .i64 rk, .int .i64 (dn : Int)] 87)).alloc (.cells #[.int .i64 4, .int .i64 0, .int .i64 n, .int .i64 ca, .int .i64 tt] 24)).heap.size ((W.alloc (.cells #[.int .i64 (N : Int), .slice q1 m1 c1, .slice q2 m2 c2, .slice q3 m3 c3, .int .i64 rk, .int .i64 (dn : Int)] 87)).alloc (.cells #[.int .i64 4, .int .i64 0, .int .i64 n, .int .i64 ca, .int .i64 tt] 24)) V) => on_any (N := N) (lv := .slice q1 m1 c1) (sv := .slice q3 m3 c3) (rk := rk) (dn := dn) (hh.keep (btrans (unhide B0) hV)) hl 0 n)
  go_enter Try.func51, Try.ntmps51
  go_upto_region 1 with fail
  generalize ((W.alloc (.cells #[.int .i64 (N : Int), .slice q1 m1 c1, .slice q2 m2 c2, .slice q3 m3 c3, .int .i64 rk, .int .i64 (dn : Int)] 87)).alloc (.cells #[.int .i64 4, .int .i64 0, .int .i64 n, .int .i64 ca, .int .i64 tt] 24)) = w0 at *
  obtain ⟨-, ⟨s0', s1', s2', s3', s4', s5'⟩, -⟩ := unhide HSB
  obtain ⟨-, x0, x1, x2, x3, x4⟩ := unhide HX
  have T0 := hide (Below.refl w0.heap.size w0)
  go_wp2_with fail
  refine (unhide HOn _ (unhide T0)).mono ?_
  rintro e w1 ⟨v1, rfl, hv1, hb1⟩
  obtain ⟨oq, oc, rfl⟩ := hv1.form
  have T1 := hide (btrans (unhide T0) hb1)
  clear hv1 hb1 s0' s1' s2' s3' s4' s5' x0 x1 x2 x3 x4
  obtain ⟨-, ⟨s0', s1', s2', s3', s4', s5'⟩, -⟩ := (unhide HSB).keep (unhide T1)
  obtain ⟨-, x0, x1, x2, x3, x4⟩ := (unhide HX).keep (unhide T1)
  generalize (onL l 0 n).length = on at *
  go_wp2_with fail
  refine (unhide HFc _).mono ?_
  rintro e w2 ⟨rfl, hb2⟩
  have T2 := hide (btrans (unhide T1) hb2)
  clear hb2 s0' s1' s2' s3' s4' s5' x0 x1 x2 x3 x4
  obtain ⟨-, ⟨s0', s1', s2', s3', s4', s5'⟩, -⟩ := (unhide HSB).keep (unhide T2)
  obtain ⟨-, x0, x1, x2, x3, x4⟩ := (unhide HX).keep (unhide T2)
  go_wp2
  go_ret
  exact ⟨rfl, btrans (unhide B0) (unhide T2)⟩

set_option maxRecDepth 100000 in
set_option maxHeartbeats 2000000 in
theorem rw_v2_0 {W : World} {N : Nat} {q1 q2 q3 : Option Addr} {m1 c1 m2 c2 m3 c3 : Nat} {rk : Int} {dn : Nat} {l : List (Nat × Nat × Nat)} (n : Nat) (ca tt : Int) (hh : HR W 0 (.slice q2 m2 c2) l) (hl : l.length ≤ 4096) (h3 : ¬ 4096 ≤ dn) (hn : n < N) (hN : N ≤ 128) (r1 : -4 ≤ rk) (r2 : rk ≤ 4) (hf0 : ¬ fcN rk 0 n < 0) (hf : (N : Int) ≤ fcN rk 0 n) : Ans 51 #[rsV N (.slice q1 m1 c1) (.slice q2 m2 c2) (.slice q3 m3 c3) rk dn, .agg #[.int .i64 4, .int .i64 0, .int .i64 n, .int .i64 ca, .int .i64 tt]] W (.int .i64 3) := by
  unfold Ans
  have u1_ := And.intro hl (And.intro hN (And.intro r1 r2))
  have u2_ := hh
  clear u1_ u2_
  have B0 := hide (btrans (bnew W (.cells #[.int .i64 (N : Int), .slice q1 m1 c1, .slice q2 m2 c2, .slice q3 m3 c3, .int .i64 rk, .int .i64 (dn : Int)] 87)) (bnew _ (.cells #[.int .i64 4, .int .i64 0, .int .i64 n, .int .i64 ca, .int .i64 tt] 24)))
  have HSB := hide ((SB.new W N (.slice q1 m1 c1) (.slice q2 m2 c2) (.slice q3 m3 c3) rk dn).keep (bnew _ (.cells #[.int .i64 4, .int .i64 0, .int .i64 n, .int .i64 ca, .int .i64 tt] 24)))
  have HX := hide (two44 W (.cells #[.int .i64 (N : Int), .slice q1 m1 c1, .slice q2 m2 c2, .slice q3 m3 c3, .int .i64 rk, .int .i64 (dn : Int)] 87) 4 0 n ca tt)
  have h3' : ¬ ((4096 : Int) ≤ (dn : Int)) := by omega
  have g3 : decide ((4096 : Int) ≤ (dn : Int)) = false := by simpa using h3'
  have n1 : ¬ ((n : Int) < 0) := by omega
  have n2 : decide ((n : Int) < 0) = false := by simp
  have n3 : ¬ ((N : Int) ≤ (n : Int)) := by omega
  have n4 : decide ((N : Int) ≤ (n : Int)) = false := by simpa using n3
  have HFc := hide (fun V => rfacing_any (W := V) (N := N) (lv := .slice q1 m1 c1) (hv := .slice q2 m2 c2) (sv := .slice q3 m3 c3) (rk := rk) (dn := dn) (b := 0) (n := n) (by omega) r1 r2 (by omega) ⟨_, _, _, rfl⟩ ⟨_, _, _, rfl⟩ ⟨_, _, _, rfl⟩)
  rw [show (((0 : Nat) : Int)) = 0 from rfl] at HFc
  obtain ⟨fc, hfc⟩ : ∃ fc, fc = fcN rk 0 n := ⟨_, rfl⟩
  rw [← hfc] at HFc hf hf0
  clear hfc
  have g_hf0 : decide (fc < 0) = false := by simpa using hf0
  have HOn := hide (fun V (hV : Below ((W.alloc (.cells #[.int .i64 (N : Int), .slice q1 m1 c1, .slice q2 m2 c2, .slice q3 m3 c3, .int .i64 rk, .int .i64 (dn : Int)] 87)).alloc (.cells #[.int .i64 4, .int .i64 0, .int .i64 n, .int .i64 ca, .int .i64 tt] 24)).heap.size ((W.alloc (.cells #[.int .i64 (N : Int), .slice q1 m1 c1, .slice q2 m2 c2, .slice q3 m3 c3, .int .i64 rk, .int .i64 (dn : Int)] 87)).alloc (.cells #[.int .i64 4, .int .i64 0, .int .i64 n, .int .i64 ca, .int .i64 tt] 24)) V) => on_any (N := N) (lv := .slice q1 m1 c1) (sv := .slice q3 m3 c3) (rk := rk) (dn := dn) (hh.keep (btrans (unhide B0) hV)) hl 0 n)
  go_enter Try.func51, Try.ntmps51
  go_upto_region 1 with fail
  generalize ((W.alloc (.cells #[.int .i64 (N : Int), .slice q1 m1 c1, .slice q2 m2 c2, .slice q3 m3 c3, .int .i64 rk, .int .i64 (dn : Int)] 87)).alloc (.cells #[.int .i64 4, .int .i64 0, .int .i64 n, .int .i64 ca, .int .i64 tt] 24)) = w0 at *
  obtain ⟨-, ⟨s0', s1', s2', s3', s4', s5'⟩, -⟩ := unhide HSB
  obtain ⟨-, x0, x1, x2, x3, x4⟩ := unhide HX
  have T0 := hide (Below.refl w0.heap.size w0)
  go_wp2_with fail
  refine (unhide HOn _ (unhide T0)).mono ?_
  rintro e w1 ⟨v1, rfl, hv1, hb1⟩
  obtain ⟨oq, oc, rfl⟩ := hv1.form
  have T1 := hide (btrans (unhide T0) hb1)
  clear hv1 hb1 s0' s1' s2' s3' s4' s5' x0 x1 x2 x3 x4
  obtain ⟨-, ⟨s0', s1', s2', s3', s4', s5'⟩, -⟩ := (unhide HSB).keep (unhide T1)
  obtain ⟨-, x0, x1, x2, x3, x4⟩ := (unhide HX).keep (unhide T1)
  generalize (onL l 0 n).length = on at *
  go_wp2_with fail
  refine (unhide HFc _).mono ?_
  rintro e w2 ⟨rfl, hb2⟩
  have T2 := hide (btrans (unhide T1) hb2)
  clear hb2 s0' s1' s2' s3' s4' s5' x0 x1 x2 x3 x4
  obtain ⟨-, ⟨s0', s1', s2', s3', s4', s5'⟩, -⟩ := (unhide HSB).keep (unhide T2)
  obtain ⟨-, x0, x1, x2, x3, x4⟩ := (unhide HX).keep (unhide T2)
  go_wp2
  go_ret
  exact ⟨rfl, btrans (unhide B0) (unhide T2)⟩

set_option maxRecDepth 100000 in
set_option maxHeartbeats 2000000 in
theorem rw_v3_0 {W : World} {N : Nat} {q1 q2 q3 : Option Addr} {m1 c1 m2 c2 m3 c3 : Nat} {rk : Int} {dn : Nat} {l : List (Nat × Nat × Nat)} (n : Nat) (ca tt : Int) (hh : HR W 0 (.slice q2 m2 c2) l) (hl : l.length ≤ 4096) (h3 : ¬ 4096 ≤ dn) (hn : n < N) (hN : N ≤ 128) (r1 : -4 ≤ rk) (r2 : rk ≤ 4) (hf0 : ¬ fcN rk 0 n < 0) (hf : ¬ (N : Int) ≤ fcN rk 0 n) (ho : (onL l 0 n).length = 0) : Ans 51 #[rsV N (.slice q1 m1 c1) (.slice q2 m2 c2) (.slice q3 m3 c3) rk dn, .agg #[.int .i64 4, .int .i64 0, .int .i64 n, .int .i64 ca, .int .i64 tt]] W (.int .i64 6) := by
  unfold Ans
  have u1_ := And.intro hl (And.intro hN (And.intro r1 r2))
  have u2_ := hh
  clear u1_ u2_
  have B0 := hide (btrans (bnew W (.cells #[.int .i64 (N : Int), .slice q1 m1 c1, .slice q2 m2 c2, .slice q3 m3 c3, .int .i64 rk, .int .i64 (dn : Int)] 87)) (bnew _ (.cells #[.int .i64 4, .int .i64 0, .int .i64 n, .int .i64 ca, .int .i64 tt] 24)))
  have HSB := hide ((SB.new W N (.slice q1 m1 c1) (.slice q2 m2 c2) (.slice q3 m3 c3) rk dn).keep (bnew _ (.cells #[.int .i64 4, .int .i64 0, .int .i64 n, .int .i64 ca, .int .i64 tt] 24)))
  have HX := hide (two44 W (.cells #[.int .i64 (N : Int), .slice q1 m1 c1, .slice q2 m2 c2, .slice q3 m3 c3, .int .i64 rk, .int .i64 (dn : Int)] 87) 4 0 n ca tt)
  have h3' : ¬ ((4096 : Int) ≤ (dn : Int)) := by omega
  have g3 : decide ((4096 : Int) ≤ (dn : Int)) = false := by simpa using h3'
  have n1 : ¬ ((n : Int) < 0) := by omega
  have n2 : decide ((n : Int) < 0) = false := by simp
  have n3 : ¬ ((N : Int) ≤ (n : Int)) := by omega
  have n4 : decide ((N : Int) ≤ (n : Int)) = false := by simpa using n3
  have HFc := hide (fun V => rfacing_any (W := V) (N := N) (lv := .slice q1 m1 c1) (hv := .slice q2 m2 c2) (sv := .slice q3 m3 c3) (rk := rk) (dn := dn) (b := 0) (n := n) (by omega) r1 r2 (by omega) ⟨_, _, _, rfl⟩ ⟨_, _, _, rfl⟩ ⟨_, _, _, rfl⟩)
  rw [show (((0 : Nat) : Int)) = 0 from rfl] at HFc
  obtain ⟨fc, hfc⟩ : ∃ fc, fc = fcN rk 0 n := ⟨_, rfl⟩
  rw [← hfc] at HFc hf hf0
  clear hfc
  have g_hf0 : decide (fc < 0) = false := by simpa using hf0
  have g_hf : decide ((N : Int) ≤ fc) = false := by simpa using hf
  have ho2 : ¬ ((0 : Int) < ((onL l 0 n).length : Int)) := by omega
  have ho3 : decide ((0 : Int) < ((onL l 0 n).length : Int)) = false := by simpa using ho2
  have ho4 : ¬ (0 < (onL l 0 n).length) := by omega
  have ho1 : (((onL l 0 n).length : Int) == 0) = true := by simp [ho]
  clear ho
  have HOn := hide (fun V (hV : Below ((W.alloc (.cells #[.int .i64 (N : Int), .slice q1 m1 c1, .slice q2 m2 c2, .slice q3 m3 c3, .int .i64 rk, .int .i64 (dn : Int)] 87)).alloc (.cells #[.int .i64 4, .int .i64 0, .int .i64 n, .int .i64 ca, .int .i64 tt] 24)).heap.size ((W.alloc (.cells #[.int .i64 (N : Int), .slice q1 m1 c1, .slice q2 m2 c2, .slice q3 m3 c3, .int .i64 rk, .int .i64 (dn : Int)] 87)).alloc (.cells #[.int .i64 4, .int .i64 0, .int .i64 n, .int .i64 ca, .int .i64 tt] 24)) V) => on_any (N := N) (lv := .slice q1 m1 c1) (sv := .slice q3 m3 c3) (rk := rk) (dn := dn) (hh.keep (btrans (unhide B0) hV)) hl 0 n)
  go_enter Try.func51, Try.ntmps51
  go_upto_region 1 with fail
  generalize ((W.alloc (.cells #[.int .i64 (N : Int), .slice q1 m1 c1, .slice q2 m2 c2, .slice q3 m3 c3, .int .i64 rk, .int .i64 (dn : Int)] 87)).alloc (.cells #[.int .i64 4, .int .i64 0, .int .i64 n, .int .i64 ca, .int .i64 tt] 24)) = w0 at *
  obtain ⟨-, ⟨s0', s1', s2', s3', s4', s5'⟩, -⟩ := unhide HSB
  obtain ⟨-, x0, x1, x2, x3, x4⟩ := unhide HX
  have T0 := hide (Below.refl w0.heap.size w0)
  go_wp2_with fail
  refine (unhide HOn _ (unhide T0)).mono ?_
  rintro e w1 ⟨v1, rfl, hv1, hb1⟩
  obtain ⟨oq, oc, rfl⟩ := hv1.form
  have T1 := hide (btrans (unhide T0) hb1)
  clear hv1 hb1 s0' s1' s2' s3' s4' s5' x0 x1 x2 x3 x4
  obtain ⟨-, ⟨s0', s1', s2', s3', s4', s5'⟩, -⟩ := (unhide HSB).keep (unhide T1)
  obtain ⟨-, x0, x1, x2, x3, x4⟩ := (unhide HX).keep (unhide T1)
  generalize (onL l 0 n).length = on at *
  go_wp2_with fail
  refine (unhide HFc _).mono ?_
  rintro e w2 ⟨rfl, hb2⟩
  have T2 := hide (btrans (unhide T1) hb2)
  clear hb2 s0' s1' s2' s3' s4' s5' x0 x1 x2 x3 x4
  obtain ⟨-, ⟨s0', s1', s2', s3', s4', s5'⟩, -⟩ := (unhide HSB).keep (unhide T2)
  obtain ⟨-, x0, x1, x2, x3, x4⟩ := (unhide HX).keep (unhide T2)
  go_wp2
  go_ret
  exact ⟨rfl, btrans (unhide B0) (unhide T2)⟩

set_option maxRecDepth 100000 in
set_option maxHeartbeats 2000000 in
theorem rw_v4_0 {W : World} {N : Nat} {q1 q2 q3 : Option Addr} {m1 c1 m2 c2 m3 c3 : Nat} {rk : Int} {dn : Nat} {l : List (Nat × Nat × Nat)} (n : Nat) (ca tt : Int) (hh : HR W 0 (.slice q2 m2 c2) l) (hl : l.length ≤ 4096) (h3 : ¬ 4096 ≤ dn) (hn : n < N) (hN : N ≤ 128) (r1 : -4 ≤ rk) (r2 : rk ≤ 4) (hf0 : ¬ fcN rk 0 n < 0) (hf : ¬ (N : Int) ≤ fcN rk 0 n) (ho : (onL l 0 n).length ≠ 0) (hs : 8 < (onL l 0 n).length + (onL l 1 (fcN rk 0 n)).length) : Ans 51 #[rsV N (.slice q1 m1 c1) (.slice q2 m2 c2) (.slice q3 m3 c3) rk dn, .agg #[.int .i64 4, .int .i64 0, .int .i64 n, .int .i64 ca, .int .i64 tt]] W (.int .i64 5) := by
  unfold Ans
  have u1_ := And.intro hl (And.intro hN (And.intro r1 r2))
  have u2_ := hh
  clear u1_ u2_
  have B0 := hide (btrans (bnew W (.cells #[.int .i64 (N : Int), .slice q1 m1 c1, .slice q2 m2 c2, .slice q3 m3 c3, .int .i64 rk, .int .i64 (dn : Int)] 87)) (bnew _ (.cells #[.int .i64 4, .int .i64 0, .int .i64 n, .int .i64 ca, .int .i64 tt] 24)))
  have HSB := hide ((SB.new W N (.slice q1 m1 c1) (.slice q2 m2 c2) (.slice q3 m3 c3) rk dn).keep (bnew _ (.cells #[.int .i64 4, .int .i64 0, .int .i64 n, .int .i64 ca, .int .i64 tt] 24)))
  have HX := hide (two44 W (.cells #[.int .i64 (N : Int), .slice q1 m1 c1, .slice q2 m2 c2, .slice q3 m3 c3, .int .i64 rk, .int .i64 (dn : Int)] 87) 4 0 n ca tt)
  have h3' : ¬ ((4096 : Int) ≤ (dn : Int)) := by omega
  have g3 : decide ((4096 : Int) ≤ (dn : Int)) = false := by simpa using h3'
  have n1 : ¬ ((n : Int) < 0) := by omega
  have n2 : decide ((n : Int) < 0) = false := by simp
  have n3 : ¬ ((N : Int) ≤ (n : Int)) := by omega
  have n4 : decide ((N : Int) ≤ (n : Int)) = false := by simpa using n3
  have HFc := hide (fun V => rfacing_any (W := V) (N := N) (lv := .slice q1 m1 c1) (hv := .slice q2 m2 c2) (sv := .slice q3 m3 c3) (rk := rk) (dn := dn) (b := 0) (n := n) (by omega) r1 r2 (by omega) ⟨_, _, _, rfl⟩ ⟨_, _, _, rfl⟩ ⟨_, _, _, rfl⟩)
  rw [show (((0 : Nat) : Int)) = 0 from rfl] at HFc
  obtain ⟨fc, hfc⟩ : ∃ fc, fc = fcN rk 0 n := ⟨_, rfl⟩
  rw [← hfc] at HFc hf hf0 hs
  clear hfc
  have g_hf0 : decide (fc < 0) = false := by simpa using hf0
  have g_hf : decide ((N : Int) ≤ fc) = false := by simpa using hf
  have ho2 : (0 : Int) < ((onL l 0 n).length : Int) := by omega
  have ho4 : 0 < (onL l 0 n).length := by omega
  have ho1 : (((onL l 0 n).length : Int) == 0) = false := by simpa using ho
  clear ho
  have lo1 : (onL l 0 n).length ≤ 4096 := by have := tk_len l 0 n; omega
  have lo2 : (onL l 1 fc).length ≤ 4096 := by have := tk_len l 1 fc; omega
  have hs1 : (8 : Int) < ((onL l 0 n).length : Int) + ((onL l 1 fc).length : Int) := by omega
  have HOn := hide (fun V (hV : Below ((W.alloc (.cells #[.int .i64 (N : Int), .slice q1 m1 c1, .slice q2 m2 c2, .slice q3 m3 c3, .int .i64 rk, .int .i64 (dn : Int)] 87)).alloc (.cells #[.int .i64 4, .int .i64 0, .int .i64 n, .int .i64 ca, .int .i64 tt] 24)).heap.size ((W.alloc (.cells #[.int .i64 (N : Int), .slice q1 m1 c1, .slice q2 m2 c2, .slice q3 m3 c3, .int .i64 rk, .int .i64 (dn : Int)] 87)).alloc (.cells #[.int .i64 4, .int .i64 0, .int .i64 n, .int .i64 ca, .int .i64 tt] 24)) V) => on_any (N := N) (lv := .slice q1 m1 c1) (sv := .slice q3 m3 c3) (rk := rk) (dn := dn) (hh.keep (btrans (unhide B0) hV)) hl 0 n)
  have HOf := hide (fun V (hV : Below ((W.alloc (.cells #[.int .i64 (N : Int), .slice q1 m1 c1, .slice q2 m2 c2, .slice q3 m3 c3, .int .i64 rk, .int .i64 (dn : Int)] 87)).alloc (.cells #[.int .i64 4, .int .i64 0, .int .i64 n, .int .i64 ca, .int .i64 tt] 24)).heap.size ((W.alloc (.cells #[.int .i64 (N : Int), .slice q1 m1 c1, .slice q2 m2 c2, .slice q3 m3 c3, .int .i64 rk, .int .i64 (dn : Int)] 87)).alloc (.cells #[.int .i64 4, .int .i64 0, .int .i64 n, .int .i64 ca, .int .i64 tt] 24)) V) => on_any (N := N) (lv := .slice q1 m1 c1) (sv := .slice q3 m3 c3) (rk := rk) (dn := dn) (hh.keep (btrans (unhide B0) hV)) hl 1 fc)
  go_enter Try.func51, Try.ntmps51
  go_upto_region 1 with fail
  generalize ((W.alloc (.cells #[.int .i64 (N : Int), .slice q1 m1 c1, .slice q2 m2 c2, .slice q3 m3 c3, .int .i64 rk, .int .i64 (dn : Int)] 87)).alloc (.cells #[.int .i64 4, .int .i64 0, .int .i64 n, .int .i64 ca, .int .i64 tt] 24)) = w0 at *
  obtain ⟨-, ⟨s0', s1', s2', s3', s4', s5'⟩, -⟩ := unhide HSB
  obtain ⟨-, x0, x1, x2, x3, x4⟩ := unhide HX
  have T0 := hide (Below.refl w0.heap.size w0)
  go_wp2_with fail
  refine (unhide HOn _ (unhide T0)).mono ?_
  rintro e w1 ⟨v1, rfl, hv1, hb1⟩
  obtain ⟨oq, oc, rfl⟩ := hv1.form
  have T1 := hide (btrans (unhide T0) hb1)
  clear hv1 hb1 s0' s1' s2' s3' s4' s5' x0 x1 x2 x3 x4
  obtain ⟨-, ⟨s0', s1', s2', s3', s4', s5'⟩, -⟩ := (unhide HSB).keep (unhide T1)
  obtain ⟨-, x0, x1, x2, x3, x4⟩ := (unhide HX).keep (unhide T1)
  generalize (onL l 0 n).length = on at *
  go_wp2_with fail
  refine (unhide HFc _).mono ?_
  rintro e w2 ⟨rfl, hb2⟩
  have T2 := hide (btrans (unhide T1) hb2)
  clear hb2 s0' s1' s2' s3' s4' s5' x0 x1 x2 x3 x4
  obtain ⟨-, ⟨s0', s1', s2', s3', s4', s5'⟩, -⟩ := (unhide HSB).keep (unhide T2)
  obtain ⟨-, x0, x1, x2, x3, x4⟩ := (unhide HX).keep (unhide T2)
  go_wp2_with fail
  refine (unhide HOf _ (unhide T2)).mono ?_
  rintro e w3 ⟨v3, rfl, hv3, hb3⟩
  obtain ⟨pq, pc, rfl⟩ := hv3.form
  have T3 := hide (btrans (unhide T2) hb3)
  clear hv3 hb3 s0' s1' s2' s3' s4' s5' x0 x1 x2 x3 x4
  obtain ⟨-, ⟨s0', s1', s2', s3', s4', s5'⟩, -⟩ := (unhide HSB).keep (unhide T3)
  obtain ⟨-, x0, x1, x2, x3, x4⟩ := (unhide HX).keep (unhide T3)
  generalize (onL l 1 fc).length = of at *
  go_wp2
  go_ret
  exact ⟨rfl, btrans (unhide B0) (unhide T3)⟩

set_option maxRecDepth 100000 in
set_option maxHeartbeats 2000000 in
theorem rw_v5_0 {W : World} {N : Nat} {q1 q2 q3 : Option Addr} {m1 c1 m2 c2 m3 c3 : Nat} {rk : Int} {dn : Nat} {l : List (Nat × Nat × Nat)} (n : Nat) (ca tt : Int) (hh : HR W 0 (.slice q2 m2 c2) l) (hl : l.length ≤ 4096) (h3 : ¬ 4096 ≤ dn) (hn : n < N) (hN : N ≤ 128) (r1 : -4 ≤ rk) (r2 : rk ≤ 4) (hf0 : ¬ fcN rk 0 n < 0) (hf : ¬ (N : Int) ≤ fcN rk 0 n) (ho : (onL l 0 n).length ≠ 0) (hs : ¬ 8 < (onL l 0 n).length + (onL l 1 (fcN rk 0 n)).length) : Ans 51 #[rsV N (.slice q1 m1 c1) (.slice q2 m2 c2) (.slice q3 m3 c3) rk dn, .agg #[.int .i64 4, .int .i64 0, .int .i64 n, .int .i64 ca, .int .i64 tt]] W (.int .i64 0) := by
  unfold Ans
  have u1_ := And.intro hl (And.intro hN (And.intro r1 r2))
  have u2_ := hh
  clear u1_ u2_
  have B0 := hide (btrans (bnew W (.cells #[.int .i64 (N : Int), .slice q1 m1 c1, .slice q2 m2 c2, .slice q3 m3 c3, .int .i64 rk, .int .i64 (dn : Int)] 87)) (bnew _ (.cells #[.int .i64 4, .int .i64 0, .int .i64 n, .int .i64 ca, .int .i64 tt] 24)))
  have HSB := hide ((SB.new W N (.slice q1 m1 c1) (.slice q2 m2 c2) (.slice q3 m3 c3) rk dn).keep (bnew _ (.cells #[.int .i64 4, .int .i64 0, .int .i64 n, .int .i64 ca, .int .i64 tt] 24)))
  have HX := hide (two44 W (.cells #[.int .i64 (N : Int), .slice q1 m1 c1, .slice q2 m2 c2, .slice q3 m3 c3, .int .i64 rk, .int .i64 (dn : Int)] 87) 4 0 n ca tt)
  have h3' : ¬ ((4096 : Int) ≤ (dn : Int)) := by omega
  have g3 : decide ((4096 : Int) ≤ (dn : Int)) = false := by simpa using h3'
  have n1 : ¬ ((n : Int) < 0) := by omega
  have n2 : decide ((n : Int) < 0) = false := by simp
  have n3 : ¬ ((N : Int) ≤ (n : Int)) := by omega
  have n4 : decide ((N : Int) ≤ (n : Int)) = false := by simpa using n3
  have HFc := hide (fun V => rfacing_any (W := V) (N := N) (lv := .slice q1 m1 c1) (hv := .slice q2 m2 c2) (sv := .slice q3 m3 c3) (rk := rk) (dn := dn) (b := 0) (n := n) (by omega) r1 r2 (by omega) ⟨_, _, _, rfl⟩ ⟨_, _, _, rfl⟩ ⟨_, _, _, rfl⟩)
  rw [show (((0 : Nat) : Int)) = 0 from rfl] at HFc
  obtain ⟨fc, hfc⟩ : ∃ fc, fc = fcN rk 0 n := ⟨_, rfl⟩
  rw [← hfc] at HFc hf hf0 hs
  clear hfc
  have g_hf0 : decide (fc < 0) = false := by simpa using hf0
  have g_hf : decide ((N : Int) ≤ fc) = false := by simpa using hf
  have ho2 : (0 : Int) < ((onL l 0 n).length : Int) := by omega
  have ho4 : 0 < (onL l 0 n).length := by omega
  have ho1 : (((onL l 0 n).length : Int) == 0) = false := by simpa using ho
  clear ho
  have lo1 : (onL l 0 n).length ≤ 4096 := by have := tk_len l 0 n; omega
  have lo2 : (onL l 1 fc).length ≤ 4096 := by have := tk_len l 1 fc; omega
  have hs1 : ¬ ((8 : Int) < ((onL l 0 n).length : Int) + ((onL l 1 fc).length : Int)) := by omega
  have hs2 : decide ((8 : Int) < ((onL l 0 n).length : Int) + ((onL l 1 fc).length : Int)) = false := by simpa using hs1
  have HOn := hide (fun V (hV : Below ((W.alloc (.cells #[.int .i64 (N : Int), .slice q1 m1 c1, .slice q2 m2 c2, .slice q3 m3 c3, .int .i64 rk, .int .i64 (dn : Int)] 87)).alloc (.cells #[.int .i64 4, .int .i64 0, .int .i64 n, .int .i64 ca, .int .i64 tt] 24)).heap.size ((W.alloc (.cells #[.int .i64 (N : Int), .slice q1 m1 c1, .slice q2 m2 c2, .slice q3 m3 c3, .int .i64 rk, .int .i64 (dn : Int)] 87)).alloc (.cells #[.int .i64 4, .int .i64 0, .int .i64 n, .int .i64 ca, .int .i64 tt] 24)) V) => on_any (N := N) (lv := .slice q1 m1 c1) (sv := .slice q3 m3 c3) (rk := rk) (dn := dn) (hh.keep (btrans (unhide B0) hV)) hl 0 n)
  have HOf := hide (fun V (hV : Below ((W.alloc (.cells #[.int .i64 (N : Int), .slice q1 m1 c1, .slice q2 m2 c2, .slice q3 m3 c3, .int .i64 rk, .int .i64 (dn : Int)] 87)).alloc (.cells #[.int .i64 4, .int .i64 0, .int .i64 n, .int .i64 ca, .int .i64 tt] 24)).heap.size ((W.alloc (.cells #[.int .i64 (N : Int), .slice q1 m1 c1, .slice q2 m2 c2, .slice q3 m3 c3, .int .i64 rk, .int .i64 (dn : Int)] 87)).alloc (.cells #[.int .i64 4, .int .i64 0, .int .i64 n, .int .i64 ca, .int .i64 tt] 24)) V) => on_any (N := N) (lv := .slice q1 m1 c1) (sv := .slice q3 m3 c3) (rk := rk) (dn := dn) (hh.keep (btrans (unhide B0) hV)) hl 1 fc)
  go_enter Try.func51, Try.ntmps51
  go_upto_region 1 with fail
  generalize ((W.alloc (.cells #[.int .i64 (N : Int), .slice q1 m1 c1, .slice q2 m2 c2, .slice q3 m3 c3, .int .i64 rk, .int .i64 (dn : Int)] 87)).alloc (.cells #[.int .i64 4, .int .i64 0, .int .i64 n, .int .i64 ca, .int .i64 tt] 24)) = w0 at *
  obtain ⟨-, ⟨s0', s1', s2', s3', s4', s5'⟩, -⟩ := unhide HSB
  obtain ⟨-, x0, x1, x2, x3, x4⟩ := unhide HX
  have T0 := hide (Below.refl w0.heap.size w0)
  go_wp2_with fail
  refine (unhide HOn _ (unhide T0)).mono ?_
  rintro e w1 ⟨v1, rfl, hv1, hb1⟩
  obtain ⟨oq, oc, rfl⟩ := hv1.form
  have T1 := hide (btrans (unhide T0) hb1)
  clear hv1 hb1 s0' s1' s2' s3' s4' s5' x0 x1 x2 x3 x4
  obtain ⟨-, ⟨s0', s1', s2', s3', s4', s5'⟩, -⟩ := (unhide HSB).keep (unhide T1)
  obtain ⟨-, x0, x1, x2, x3, x4⟩ := (unhide HX).keep (unhide T1)
  generalize (onL l 0 n).length = on at *
  go_wp2_with fail
  refine (unhide HFc _).mono ?_
  rintro e w2 ⟨rfl, hb2⟩
  have T2 := hide (btrans (unhide T1) hb2)
  clear hb2 s0' s1' s2' s3' s4' s5' x0 x1 x2 x3 x4
  obtain ⟨-, ⟨s0', s1', s2', s3', s4', s5'⟩, -⟩ := (unhide HSB).keep (unhide T2)
  obtain ⟨-, x0, x1, x2, x3, x4⟩ := (unhide HX).keep (unhide T2)
  go_wp2_with fail
  refine (unhide HOf _ (unhide T2)).mono ?_
  rintro e w3 ⟨v3, rfl, hv3, hb3⟩
  obtain ⟨pq, pc, rfl⟩ := hv3.form
  have T3 := hide (btrans (unhide T2) hb3)
  clear hv3 hb3 s0' s1' s2' s3' s4' s5' x0 x1 x2 x3 x4
  obtain ⟨-, ⟨s0', s1', s2', s3', s4', s5'⟩, -⟩ := (unhide HSB).keep (unhide T3)
  obtain ⟨-, x0, x1, x2, x3, x4⟩ := (unhide HX).keep (unhide T3)
  generalize (onL l 1 fc).length = of at *
  go_wp2
  go_ret
  exact ⟨rfl, btrans (unhide B0) (unhide T3)⟩

end Go.Proofs.Ytancniamgfppiaa
