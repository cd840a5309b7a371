/-
  wrong: why a stitch is refused.
-/
import Derived.Test.YtancniamgfppiaaMaD
namespace Go.Proofs.Ytancniamgfppiaa
open Go.RowKit

set_option maxRecDepth 100000 in
set_option maxHeartbeats 1000000 in
theorem wr_lo {B : Nat} {W : World} {m N : Nat} {s : St} {g : Mg} (k : MB B W m N s g) (x : Sx) (h : x.dk < 1) : Ans 41 #[mp m, sxV x] W (.int .i64 1) := by
  unfold Ans
  have B0 := hide (bnew W (.cells #[.int .i64 x.dk, .int .i64 x.bed, .int .i64 x.ndl, .int .i64 x.car, .int .i64 x.tt] 24))
  have HX := hide (XB.new W x)
  have HK := hide (k.keep (unhide B0))
  clear k
  go_enter Try.func41, Try.ntmps41
  go_upto_region 1 with fail
  generalize W.alloc (.cells #[.int .i64 x.dk, .int .i64 x.bed, .int .i64 x.ndl, .int .i64 x.car, .int .i64 x.tt] 24) = w0 at *
  have T0 := hide (Below.refl w0.heap.size w0)
  obtain ⟨-, x0, x1, x2, x3, x4⟩ := unhide HX
  have c5 := (unhide HK).box.2.1.2.2.2.2.2
  go_wp2
  go_ret
  exact ⟨rfl, btrans (unhide B0) (unhide T0)⟩

set_option maxRecDepth 100000 in
set_option maxHeartbeats 1000000 in
theorem wr_hi {B : Nat} {W : World} {m N : Nat} {s : St} {g : Mg} (k : MB B W m N s g) (x : Sx) (h1 : ¬ x.dk < 1) (h : 6 < x.dk) : Ans 41 #[mp m, sxV x] W (.int .i64 1) := by
  unfold Ans
  have B0 := hide (bnew W (.cells #[.int .i64 x.dk, .int .i64 x.bed, .int .i64 x.ndl, .int .i64 x.car, .int .i64 x.tt] 24))
  have HX := hide (XB.new W x)
  have HK := hide (k.keep (unhide B0))
  clear k
  have g_h1 : decide (x.dk < 1) = false := by simpa using h1
  go_enter Try.func41, Try.ntmps41
  go_upto_region 1 with fail
  generalize W.alloc (.cells #[.int .i64 x.dk, .int .i64 x.bed, .int .i64 x.ndl, .int .i64 x.car, .int .i64 x.tt] 24) = w0 at *
  have T0 := hide (Below.refl w0.heap.size w0)
  obtain ⟨-, x0, x1, x2, x3, x4⟩ := unhide HX
  have c5 := (unhide HK).box.2.1.2.2.2.2.2
  go_wp2
  go_ret
  exact ⟨rfl, btrans (unhide B0) (unhide T0)⟩

set_option maxRecDepth 100000 in
set_option maxHeartbeats 1000000 in
theorem wr_much {B : Nat} {W : World} {m N : Nat} {s : St} {g : Mg} (k : MB B W m N s g) (x : Sx) (h1 : ¬ x.dk < 1) (h2 : ¬ 6 < x.dk) (h : 4096 ≤ s.done) : Ans 41 #[mp m, sxV x] W (.int .i64 4) := by
  unfold Ans
  have B0 := hide (bnew W (.cells #[.int .i64 x.dk, .int .i64 x.bed, .int .i64 x.ndl, .int .i64 x.car, .int .i64 x.tt] 24))
  have HX := hide (XB.new W x)
  have HK := hide (k.keep (unhide B0))
  have g_h1 : decide (x.dk < 1) = false := by simpa using h1
  have g_h2 : decide (6 < x.dk) = false := by simpa using h2
  have h' : (4096 : Int) ≤ (s.done : Int) := by omega
  clear k
  go_enter Try.func41, Try.ntmps41
  go_upto_region 1 with fail
  generalize W.alloc (.cells #[.int .i64 x.dk, .int .i64 x.bed, .int .i64 x.ndl, .int .i64 x.car, .int .i64 x.tt] 24) = w0 at *
  have T0 := hide (Below.refl w0.heap.size w0)
  obtain ⟨-, x0, x1, x2, x3, x4⟩ := unhide HX
  have c5 := (unhide HK).box.2.1.2.2.2.2.2
  go_wp2
  go_ret
  exact ⟨rfl, btrans (unhide B0) (unhide T0)⟩

set_option maxRecDepth 100000 in
set_option maxHeartbeats 1000000 in
theorem wr_rack {B : Nat} {W : World} {m N : Nat} {s : St} {g : Mg} (k : MB B W m N s g) (x : Sx) (h1 : ¬ x.dk < 1) (h2 : ¬ 6 < x.dk) (h3 : ¬ 4096 ≤ s.done) (h6 : x.dk = 6) : Ans 41 #[mp m, sxV x] W (.int .i64 (raE x.tt)) := by
  unfold Ans
  have B0 := hide (bnew W (.cells #[.int .i64 x.dk, .int .i64 x.bed, .int .i64 x.ndl, .int .i64 x.car, .int .i64 x.tt] 24))
  have HX := hide (XB.new W x)
  have HK := hide (k.keep (unhide B0))
  have g_h1 : decide (x.dk < 1) = false := by simpa using h1
  have g_h2 : decide (6 < x.dk) = false := by simpa using h2
  have h3' : ¬ ((4096 : Int) ≤ (s.done : Int)) := by omega
  have g3 : decide ((4096 : Int) ≤ (s.done : Int)) = false := by simpa using h3'
  clear h3
  have g6 : (x.dk == 6) = true := by simp [h6]
  have HRk := hide (fun V => rack_any x.tt V)
  clear k h6
  go_enter Try.func41, Try.ntmps41
  go_upto_region 1 with fail
  generalize W.alloc (.cells #[.int .i64 x.dk, .int .i64 x.bed, .int .i64 x.ndl, .int .i64 x.car, .int .i64 x.tt] 24) = w0 at *
  have T0 := hide (Below.refl w0.heap.size w0)
  obtain ⟨-, x0, x1, x2, x3, x4⟩ := unhide HX
  have c5 := (unhide HK).box.2.1.2.2.2.2.2
  go_wp2_with fail
  refine (unhide HRk _).mono ?_
  rintro e w1 ⟨rfl, rfl⟩
  go_wp2
  go_ret
  exact ⟨rfl, btrans (unhide B0) (unhide T0)⟩

set_option maxRecDepth 100000 in
set_option maxHeartbeats 1000000 in
theorem wr_has {B : Nat} {W : World} {m N : Nat} {s : St} {g : Mg} (k : MB B W m N s g) (x : Sx) (h1 : ¬ x.dk < 1) (h2 : ¬ 6 < x.dk) (h3 : ¬ 4096 ≤ s.done) (h6 : x.dk ≠ 6) (h : hasB N x.bed x.ndl = false) : Ans 41 #[mp m, sxV x] W (.int .i64 3) := by
  unfold Ans
  have B0 := hide (bnew W (.cells #[.int .i64 x.dk, .int .i64 x.bed, .int .i64 x.ndl, .int .i64 x.car, .int .i64 x.tt] 24))
  have HX := hide (XB.new W x)
  have HK := hide (k.keep (unhide B0))
  have g_h1 : decide (x.dk < 1) = false := by simpa using h1
  have g_h2 : decide (6 < x.dk) = false := by simpa using h2
  have h3' : ¬ ((4096 : Int) ≤ (s.done : Int)) := by omega
  have g3 : decide ((4096 : Int) ≤ (s.done : Int)) = false := by simpa using h3'
  clear h3
  have g6 : (x.dk == 6) = false := by simpa using h6
  have HH := hide (fun V (hV : Below (W.alloc (.cells #[.int .i64 x.dk, .int .i64 x.bed, .int .i64 x.ndl, .int .i64 x.car, .int .i64 x.tt] 24)).heap.size (W.alloc (.cells #[.int .i64 x.dk, .int .i64 x.bed, .int .i64 x.ndl, .int .i64 x.car, .int .i64 x.tt] 24)) V) => has_any ((unhide HK).keep hV) x.bed x.ndl)
  unfold Ans at HH
  clear h6
  rw [h] at HH
  clear k h
  go_enter Try.func41, Try.ntmps41
  go_upto_region 1 with fail
  generalize W.alloc (.cells #[.int .i64 x.dk, .int .i64 x.bed, .int .i64 x.ndl, .int .i64 x.car, .int .i64 x.tt] 24) = w0 at *
  have T0 := hide (Below.refl w0.heap.size w0)
  obtain ⟨-, x0, x1, x2, x3, x4⟩ := unhide HX
  have c5 := (unhide HK).box.2.1.2.2.2.2.2
  go_wp2_with fail
  refine (unhide HH _ (unhide T0)).mono ?_
  rintro e w1 ⟨rfl, hb1⟩
  have T1 := hide (btrans (unhide T0) hb1)
  clear hb1 x0 x1 x2 x3 x4
  obtain ⟨-, x0, x1, x2, x3, x4⟩ := (unhide HX).keep (unhide T1)
  go_wp2
  go_ret
  exact ⟨rfl, btrans (unhide B0) (unhide T1)⟩

set_option maxRecDepth 100000 in
set_option maxHeartbeats 1000000 in
theorem wr_car1 {B : Nat} {W : World} {m N : Nat} {s : St} {g : Mg} (k : MB B W m N s g) (x : Sx) (h1 : ¬ x.dk < 1) (h2 : ¬ 6 < x.dk) (h3 : ¬ 4096 ≤ s.done) (h6 : x.dk ≠ 6) (hh : hasB N x.bed x.ndl = true) (hu : usB x.dk = true) (h : x.car < 0) : Ans 41 #[mp m, sxV x] W (.int .i64 3) := by
  unfold Ans
  have B0 := hide (bnew W (.cells #[.int .i64 x.dk, .int .i64 x.bed, .int .i64 x.ndl, .int .i64 x.car, .int .i64 x.tt] 24))
  have HX := hide (XB.new W x)
  have HK := hide (k.keep (unhide B0))
  have g_h1 : decide (x.dk < 1) = false := by simpa using h1
  have g_h2 : decide (6 < x.dk) = false := by simpa using h2
  have h3' : ¬ ((4096 : Int) ≤ (s.done : Int)) := by omega
  have g3 : decide ((4096 : Int) ≤ (s.done : Int)) = false := by simpa using h3'
  clear h3
  have g6 : (x.dk == 6) = false := by simpa using h6
  have HH := hide (fun V (hV : Below (W.alloc (.cells #[.int .i64 x.dk, .int .i64 x.bed, .int .i64 x.ndl, .int .i64 x.car, .int .i64 x.tt] 24)).heap.size (W.alloc (.cells #[.int .i64 x.dk, .int .i64 x.bed, .int .i64 x.ndl, .int .i64 x.car, .int .i64 x.tt] 24)) V) => has_any ((unhide HK).keep hV) x.bed x.ndl)
  unfold Ans at HH
  clear h6
  rw [hh] at HH
  have HU := hide (fun V => uses_any x.dk V)
  rw [hu] at HU
  clear k hh hu
  go_enter Try.func41, Try.ntmps41
  go_upto_region 1 with fail
  generalize W.alloc (.cells #[.int .i64 x.dk, .int .i64 x.bed, .int .i64 x.ndl, .int .i64 x.car, .int .i64 x.tt] 24) = w0 at *
  have T0 := hide (Below.refl w0.heap.size w0)
  obtain ⟨-, x0, x1, x2, x3, x4⟩ := unhide HX
  have c5 := (unhide HK).box.2.1.2.2.2.2.2
  go_wp2_with fail
  refine (unhide HH _ (unhide T0)).mono ?_
  rintro e w1 ⟨rfl, hb1⟩
  have T1 := hide (btrans (unhide T0) hb1)
  clear hb1 x0 x1 x2 x3 x4
  obtain ⟨-, x0, x1, x2, x3, x4⟩ := (unhide HX).keep (unhide T1)
  go_wp2_with fail
  refine (unhide HU _).mono ?_
  rintro e w2 ⟨rfl, rfl⟩
  go_wp2
  go_ret
  exact ⟨rfl, btrans (unhide B0) (unhide T1)⟩

set_option maxRecDepth 100000 in
set_option maxHeartbeats 1000000 in
theorem wr_car2 {B : Nat} {W : World} {m N : Nat} {s : St} {g : Mg} (k : MB B W m N s g) (x : Sx) (h1 : ¬ x.dk < 1) (h2 : ¬ 6 < x.dk) (h3 : ¬ 4096 ≤ s.done) (h6 : x.dk ≠ 6) (hh : hasB N x.bed x.ndl = true) (hu : usB x.dk = true) (h0 : ¬ x.car < 0) (h : 8 ≤ x.car) : Ans 41 #[mp m, sxV x] W (.int .i64 3) := by
  unfold Ans
  have B0 := hide (bnew W (.cells #[.int .i64 x.dk, .int .i64 x.bed, .int .i64 x.ndl, .int .i64 x.car, .int .i64 x.tt] 24))
  have HX := hide (XB.new W x)
  have HK := hide (k.keep (unhide B0))
  have g_h1 : decide (x.dk < 1) = false := by simpa using h1
  have g_h2 : decide (6 < x.dk) = false := by simpa using h2
  have h3' : ¬ ((4096 : Int) ≤ (s.done : Int)) := by omega
  have g3 : decide ((4096 : Int) ≤ (s.done : Int)) = false := by simpa using h3'
  clear h3
  have g6 : (x.dk == 6) = false := by simpa using h6
  have HH := hide (fun V (hV : Below (W.alloc (.cells #[.int .i64 x.dk, .int .i64 x.bed, .int .i64 x.ndl, .int .i64 x.car, .int .i64 x.tt] 24)).heap.size (W.alloc (.cells #[.int .i64 x.dk, .int .i64 x.bed, .int .i64 x.ndl, .int .i64 x.car, .int .i64 x.tt] 24)) V) => has_any ((unhide HK).keep hV) x.bed x.ndl)
  unfold Ans at HH
  clear h6
  rw [hh] at HH
  have HU := hide (fun V => uses_any x.dk V)
  rw [hu] at HU
  clear k hh hu
  have g_h0 : decide (x.car < 0) = false := by simpa using h0
  go_enter Try.func41, Try.ntmps41
  go_upto_region 1 with fail
  generalize W.alloc (.cells #[.int .i64 x.dk, .int .i64 x.bed, .int .i64 x.ndl, .int .i64 x.car, .int .i64 x.tt] 24) = w0 at *
  have T0 := hide (Below.refl w0.heap.size w0)
  obtain ⟨-, x0, x1, x2, x3, x4⟩ := unhide HX
  have c5 := (unhide HK).box.2.1.2.2.2.2.2
  go_wp2_with fail
  refine (unhide HH _ (unhide T0)).mono ?_
  rintro e w1 ⟨rfl, hb1⟩
  have T1 := hide (btrans (unhide T0) hb1)
  clear hb1 x0 x1 x2 x3 x4
  obtain ⟨-, x0, x1, x2, x3, x4⟩ := (unhide HX).keep (unhide T1)
  go_wp2_with fail
  refine (unhide HU _).mono ?_
  rintro e w2 ⟨rfl, rfl⟩
  go_wp2
  go_ret
  exact ⟨rfl, btrans (unhide B0) (unhide T1)⟩

set_option maxRecDepth 100000 in
set_option maxHeartbeats 1000000 in
theorem wr_uses {B : Nat} {W : World} {m N : Nat} {s : St} {g : Mg} (k : MB B W m N s g) (x : Sx) (h1 : ¬ x.dk < 1) (h2 : ¬ 6 < x.dk) (h3 : ¬ 4096 ≤ s.done) (h6 : x.dk ≠ 6) (hh : hasB N x.bed x.ndl = true) (hI : Iv s) (hN : N ≤ 128) (hu : usB x.dk = true) (h0 : ¬ x.car < 0) (h9 : ¬ 8 ≤ x.car) : Ans 41 #[mp m, sxV x] W (.int .i64 (wnE N s x.dk x.bed.toNat x.ndl.toNat)) := by
  unfold Ans
  have B0 := hide (bnew W (.cells #[.int .i64 x.dk, .int .i64 x.bed, .int .i64 x.ndl, .int .i64 x.car, .int .i64 x.tt] 24))
  have HX := hide (XB.new W x)
  have HK := hide (k.keep (unhide B0))
  have g_h1 : decide (x.dk < 1) = false := by simpa using h1
  have g_h2 : decide (6 < x.dk) = false := by simpa using h2
  have h3' : ¬ ((4096 : Int) ≤ (s.done : Int)) := by omega
  have g3 : decide ((4096 : Int) ≤ (s.done : Int)) = false := by simpa using h3'
  clear h3
  have g6 : (x.dk == 6) = false := by simpa using h6
  have HH := hide (fun V (hV : Below (W.alloc (.cells #[.int .i64 x.dk, .int .i64 x.bed, .int .i64 x.ndl, .int .i64 x.car, .int .i64 x.tt] 24)).heap.size (W.alloc (.cells #[.int .i64 x.dk, .int .i64 x.bed, .int .i64 x.ndl, .int .i64 x.car, .int .i64 x.tt] 24)) V) => has_any ((unhide HK).keep hV) x.bed x.ndl)
  unfold Ans at HH
  clear h6
  rw [hh] at HH
  have HU := hide (fun V => uses_any x.dk V)
  rw [hu] at HU
  clear hu
  have g_h0 : decide (x.car < 0) = false := by simpa using h0
  have g_h9 : decide (8 ≤ x.car) = false := by simpa using h9
  have hh' := (hasB_iff _ _ _).1 hh
  obtain ⟨b, hbb⟩ : ∃ b : Nat, x.bed = b := ⟨x.bed.toNat, by omega⟩
  obtain ⟨n, hnn⟩ : ∃ n : Nat, x.ndl = n := ⟨x.ndl.toNat, by omega⟩
  have HW := hide (fun V (hV : Below (W.alloc (.cells #[.int .i64 x.dk, .int .i64 x.bed, .int .i64 x.ndl, .int .i64 x.car, .int .i64 x.tt] 24)).heap.size (W.alloc (.cells #[.int .i64 x.dk, .int .i64 x.bed, .int .i64 x.ndl, .int .i64 x.car, .int .i64 x.tt] 24)) V) => wn_any ((unhide HK).keep hV) hI hN (b := b) (n := n) (by omega) (by omega) x.dk)
  have eb : x.bed.toNat = b := by omega
  have en : x.ndl.toNat = n := by omega
  rw [eb, en]
  rw [← hbb, ← hnn] at HW
  unfold Ans at HW
  clear eb en hbb hnn hh' hI hN hh k
  go_enter Try.func41, Try.ntmps41
  go_upto_region 1 with fail
  generalize W.alloc (.cells #[.int .i64 x.dk, .int .i64 x.bed, .int .i64 x.ndl, .int .i64 x.car, .int .i64 x.tt] 24) = w0 at *
  have T0 := hide (Below.refl w0.heap.size w0)
  obtain ⟨-, x0, x1, x2, x3, x4⟩ := unhide HX
  have c5 := (unhide HK).box.2.1.2.2.2.2.2
  go_wp2_with fail
  refine (unhide HH _ (unhide T0)).mono ?_
  rintro e w1 ⟨rfl, hb1⟩
  have T1 := hide (btrans (unhide T0) hb1)
  clear hb1 x0 x1 x2 x3 x4
  obtain ⟨-, x0, x1, x2, x3, x4⟩ := (unhide HX).keep (unhide T1)
  go_wp2_with fail
  refine (unhide HU _).mono ?_
  rintro e w2 ⟨rfl, rfl⟩
  go_wp2_with fail
  refine (unhide HW _ (unhide T1)).mono ?_
  rintro e w3 ⟨rfl, hb3⟩
  have T3 := hide (btrans (unhide T1) hb3)
  clear hb3 x0 x1 x2 x3 x4
  obtain ⟨-, x0, x1, x2, x3, x4⟩ := (unhide HX).keep (unhide T3)
  go_wp2
  go_ret
  exact ⟨rfl, btrans (unhide B0) (unhide T3)⟩

set_option maxRecDepth 100000 in
set_option maxHeartbeats 1000000 in
theorem wr_not {B : Nat} {W : World} {m N : Nat} {s : St} {g : Mg} (k : MB B W m N s g) (x : Sx) (h1 : ¬ x.dk < 1) (h2 : ¬ 6 < x.dk) (h3 : ¬ 4096 ≤ s.done) (h6 : x.dk ≠ 6) (hh : hasB N x.bed x.ndl = true) (hI : Iv s) (hN : N ≤ 128) (hu : usB x.dk = false) : Ans 41 #[mp m, sxV x] W (.int .i64 (wnE N s x.dk x.bed.toNat x.ndl.toNat)) := by
  unfold Ans
  have B0 := hide (bnew W (.cells #[.int .i64 x.dk, .int .i64 x.bed, .int .i64 x.ndl, .int .i64 x.car, .int .i64 x.tt] 24))
  have HX := hide (XB.new W x)
  have HK := hide (k.keep (unhide B0))
  have g_h1 : decide (x.dk < 1) = false := by simpa using h1
  have g_h2 : decide (6 < x.dk) = false := by simpa using h2
  have h3' : ¬ ((4096 : Int) ≤ (s.done : Int)) := by omega
  have g3 : decide ((4096 : Int) ≤ (s.done : Int)) = false := by simpa using h3'
  clear h3
  have g6 : (x.dk == 6) = false := by simpa using h6
  have HH := hide (fun V (hV : Below (W.alloc (.cells #[.int .i64 x.dk, .int .i64 x.bed, .int .i64 x.ndl, .int .i64 x.car, .int .i64 x.tt] 24)).heap.size (W.alloc (.cells #[.int .i64 x.dk, .int .i64 x.bed, .int .i64 x.ndl, .int .i64 x.car, .int .i64 x.tt] 24)) V) => has_any ((unhide HK).keep hV) x.bed x.ndl)
  unfold Ans at HH
  clear h6
  rw [hh] at HH
  have HU := hide (fun V => uses_any x.dk V)
  rw [hu] at HU
  clear hu
  have hh' := (hasB_iff _ _ _).1 hh
  obtain ⟨b, hbb⟩ : ∃ b : Nat, x.bed = b := ⟨x.bed.toNat, by omega⟩
  obtain ⟨n, hnn⟩ : ∃ n : Nat, x.ndl = n := ⟨x.ndl.toNat, by omega⟩
  have HW := hide (fun V (hV : Below (W.alloc (.cells #[.int .i64 x.dk, .int .i64 x.bed, .int .i64 x.ndl, .int .i64 x.car, .int .i64 x.tt] 24)).heap.size (W.alloc (.cells #[.int .i64 x.dk, .int .i64 x.bed, .int .i64 x.ndl, .int .i64 x.car, .int .i64 x.tt] 24)) V) => wn_any ((unhide HK).keep hV) hI hN (b := b) (n := n) (by omega) (by omega) x.dk)
  have eb : x.bed.toNat = b := by omega
  have en : x.ndl.toNat = n := by omega
  rw [eb, en]
  rw [← hbb, ← hnn] at HW
  unfold Ans at HW
  clear eb en hbb hnn hh' hI hN hh k
  go_enter Try.func41, Try.ntmps41
  go_upto_region 1 with fail
  generalize W.alloc (.cells #[.int .i64 x.dk, .int .i64 x.bed, .int .i64 x.ndl, .int .i64 x.car, .int .i64 x.tt] 24) = w0 at *
  have T0 := hide (Below.refl w0.heap.size w0)
  obtain ⟨-, x0, x1, x2, x3, x4⟩ := unhide HX
  have c5 := (unhide HK).box.2.1.2.2.2.2.2
  go_wp2_with fail
  refine (unhide HH _ (unhide T0)).mono ?_
  rintro e w1 ⟨rfl, hb1⟩
  have T1 := hide (btrans (unhide T0) hb1)
  clear hb1 x0 x1 x2 x3 x4
  obtain ⟨-, x0, x1, x2, x3, x4⟩ := (unhide HX).keep (unhide T1)
  go_wp2_with fail
  refine (unhide HU _).mono ?_
  rintro e w2 ⟨rfl, rfl⟩
  go_wp2_with fail
  refine (unhide HW _ (unhide T1)).mono ?_
  rintro e w3 ⟨rfl, hb3⟩
  have T3 := hide (btrans (unhide T1) hb3)
  clear hb3 x0 x1 x2 x3 x4
  obtain ⟨-, x0, x1, x2, x3, x4⟩ := (unhide HX).keep (unhide T3)
  go_wp2
  go_ret
  exact ⟨rfl, btrans (unhide B0) (unhide T3)⟩

theorem wrong_any {B : Nat} {W : World} {m N : Nat} {s : St} {g : Mg} (k : MB B W m N s g) (hI : Iv s) (hN : N ≤ 128) (x : Sx) : Ans 41 #[mp m, sxV x] W (.int .i64 (wrE N s x)) := by
  unfold wrE
  by_cases h1 : x.dk < 1
  · rw [if_pos (.inl h1)]; exact wr_lo k x h1
  by_cases h2 : 6 < x.dk
  · rw [if_pos (.inr h2)]; exact wr_hi k x h1 h2
  rw [if_neg (by omega)]
  by_cases h3 : 4096 ≤ s.done
  · rw [if_pos h3]; exact wr_much k x h1 h2 h3
  rw [if_neg h3]
  by_cases h6 : x.dk = 6
  · rw [if_pos h6]; exact wr_rack k x h1 h2 h3 h6
  rw [if_neg h6]
  cases hh : hasB N x.bed x.ndl with
  | false => rw [if_pos rfl]; exact wr_has k x h1 h2 h3 h6 hh
  | true =>
    rw [if_neg (by simp)]
    cases hu : usB x.dk with
    | false => rw [if_neg (by simp)]; exact wr_not k x h1 h2 h3 h6 hh hI hN hu
    | true =>
      by_cases h0 : x.car < 0
      · rw [if_pos ⟨rfl, .inl h0⟩]; exact wr_car1 k x h1 h2 h3 h6 hh hu h0
      by_cases h9 : 8 ≤ x.car
      · rw [if_pos ⟨rfl, .inr h9⟩]; exact wr_car2 k x h1 h2 h3 h6 hh hu h0 h9
      rw [if_neg (by omega)]
      exact wr_uses k x h1 h2 h3 h6 hh hI hN hu h0 h9
end Go.Proofs.Ytancniamgfppiaa
