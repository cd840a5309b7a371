/-
  wrongNeedle, wrong: why a stitch is refused.
-/
import Derived.Test.YtancniamgfppiaaMaC
namespace Go.Proofs.Ytancniamgfppiaa
open Go.RowKit

set_option maxRecDepth 100000 in
set_option maxHeartbeats 1000000 in
theorem wn4_face {B : Nat} {W : World} {m N : Nat} {s : St} {g : Mg} (k : MB B W m N s g) (hI : Iv s) (hN : N ≤ 128) {b n : Nat} (hb : b < 2) (hn : n < N) (hf : hasB N (fcB b) (fcN s.rack b n) = false) : Ans 57 #[mp m, .int .i64 4, plV b n] W (.int .i64 3) := by
  unfold Ans
  have B0 := hide (bnew W (.cells #[.int .i64 b, .int .i64 n] 75))
  have HP := hide (PB.new W b n)
  have HK := hide (k.keep (unhide B0))
  have HN := hide (fun V => needs_any 4 V)
  have HF := hide (fun V (hV : Below (W.alloc (.cells #[.int .i64 b, .int .i64 n] 75)).heap.size (W.alloc (.cells #[.int .i64 b, .int .i64 n] 75)) V) => facing_any ((unhide HK).keep hV) hI hN hb hn)
  have HG := hide (fun V (hV : Below (W.alloc (.cells #[.int .i64 b, .int .i64 n] 75)).heap.size (W.alloc (.cells #[.int .i64 b, .int .i64 n] 75)) V) => has_any ((unhide HK).keep hV) (fcB b) (fcN s.rack b n))
  have HH := hide (fun V (hV : Below (W.alloc (.cells #[.int .i64 b, .int .i64 n] 75)).heap.size (W.alloc (.cells #[.int .i64 b, .int .i64 n] 75)) V) => held_any ((unhide HK).keep hV) hb hn)
  have hne : neB 4 = true := rfl
  rw [hne] at HN
  clear hne
  unfold Ans at HF HG HH
  rw [hf] at HG
  clear k hf
  generalize fcN s.rack b n = fc at *
  generalize ((fcB b : Nat) : Int) = fb at *
  go_enter Try.func57, Try.ntmps57
  go_upto_region 1 with fail
  generalize W.alloc (.cells #[.int .i64 b, .int .i64 n] 75) = w0 at *
  have T0 := hide (Below.refl w0.heap.size w0)
  obtain ⟨-, p0, p1⟩ := unhide HP
  go_wp2_with fail
  refine (unhide HF _ (unhide T0)).mono ?_
  rintro e w1 ⟨rfl, h1⟩
  have T1 := hide (btrans (unhide T0) h1)
  clear h1
  clear p0 p1
  go_wp2_with fail
  refine (unhide HG _ (unhide T1)).mono ?_
  rintro e w2 ⟨rfl, h2⟩
  have T2 := hide (btrans (unhide T1) h2)
  clear h2
  go_wp2
  go_ret
  exact ⟨rfl, btrans (unhide B0) (unhide T2)⟩

set_option maxRecDepth 100000 in
set_option maxHeartbeats 1000000 in
theorem wn4_none {B : Nat} {W : World} {m N : Nat} {s : St} {g : Mg} (k : MB B W m N s g) (hI : Iv s) (hN : N ≤ 128) {b n : Nat} (hb : b < 2) (hn : n < N) (hf : hasB N (fcB b) (fcN s.rack b n) = true) (hl : (s.on b n).length = 0) : Ans 57 #[mp m, .int .i64 4, plV b n] W (.int .i64 6) := by
  unfold Ans
  have B0 := hide (bnew W (.cells #[.int .i64 b, .int .i64 n] 75))
  have HP := hide (PB.new W b n)
  have HK := hide (k.keep (unhide B0))
  have HN := hide (fun V => needs_any 4 V)
  have HF := hide (fun V (hV : Below (W.alloc (.cells #[.int .i64 b, .int .i64 n] 75)).heap.size (W.alloc (.cells #[.int .i64 b, .int .i64 n] 75)) V) => facing_any ((unhide HK).keep hV) hI hN hb hn)
  have HG := hide (fun V (hV : Below (W.alloc (.cells #[.int .i64 b, .int .i64 n] 75)).heap.size (W.alloc (.cells #[.int .i64 b, .int .i64 n] 75)) V) => has_any ((unhide HK).keep hV) (fcB b) (fcN s.rack b n))
  have HH := hide (fun V (hV : Below (W.alloc (.cells #[.int .i64 b, .int .i64 n] 75)).heap.size (W.alloc (.cells #[.int .i64 b, .int .i64 n] 75)) V) => held_any ((unhide HK).keep hV) hb hn)
  have hne : neB 4 = true := rfl
  rw [hne] at HN
  clear hne
  unfold Ans at HF HG HH
  rw [hf] at HG
  rw [hl] at HH
  clear k hf hl
  generalize fcN s.rack b n = fc at *
  generalize ((fcB b : Nat) : Int) = fb at *
  go_enter Try.func57, Try.ntmps57
  go_upto_region 1 with fail
  generalize W.alloc (.cells #[.int .i64 b, .int .i64 n] 75) = w0 at *
  have T0 := hide (Below.refl w0.heap.size w0)
  obtain ⟨-, p0, p1⟩ := unhide HP
  go_wp2_with fail
  refine (unhide HF _ (unhide T0)).mono ?_
  rintro e w1 ⟨rfl, h1⟩
  have T1 := hide (btrans (unhide T0) h1)
  clear h1
  clear p0 p1
  go_wp2_with fail
  refine (unhide HG _ (unhide T1)).mono ?_
  rintro e w2 ⟨rfl, h2⟩
  have T2 := hide (btrans (unhide T1) h2)
  clear h2
  obtain ⟨-, p0, p1⟩ := (unhide HP).keep (unhide T2)
  go_wp2_with fail
  refine (unhide HN _).mono ?_
  rintro e wn ⟨rfl, rfl⟩
  go_wp2_with fail
  refine (unhide HH _ (unhide T2)).mono ?_
  rintro e w3 ⟨rfl, h3⟩
  have T3 := hide (btrans (unhide T2) h3)
  clear h3
  go_wp2
  go_ret
  exact ⟨rfl, btrans (unhide B0) (unhide T3)⟩

set_option maxRecDepth 100000 in
set_option maxHeartbeats 1000000 in
theorem wn4_many {B : Nat} {W : World} {m N : Nat} {s : St} {g : Mg} (k : MB B W m N s g) (hI : Iv s) (hN : N ≤ 128) {b n : Nat} (hb : b < 2) (hn : n < N) (hf : hasB N (fcB b) (fcN s.rack b n) = true) (hl : (s.on b n).length ≠ 0) (hw : 8 < whN s 4 b n) : Ans 57 #[mp m, .int .i64 4, plV b n] W (.int .i64 5) := by
  unfold Ans
  have B0 := hide (bnew W (.cells #[.int .i64 b, .int .i64 n] 75))
  have HP := hide (PB.new W b n)
  have HK := hide (k.keep (unhide B0))
  have HN := hide (fun V => needs_any 4 V)
  have HF := hide (fun V (hV : Below (W.alloc (.cells #[.int .i64 b, .int .i64 n] 75)).heap.size (W.alloc (.cells #[.int .i64 b, .int .i64 n] 75)) V) => facing_any ((unhide HK).keep hV) hI hN hb hn)
  have HG := hide (fun V (hV : Below (W.alloc (.cells #[.int .i64 b, .int .i64 n] 75)).heap.size (W.alloc (.cells #[.int .i64 b, .int .i64 n] 75)) V) => has_any ((unhide HK).keep hV) (fcB b) (fcN s.rack b n))
  have HH := hide (fun V (hV : Below (W.alloc (.cells #[.int .i64 b, .int .i64 n] 75)).heap.size (W.alloc (.cells #[.int .i64 b, .int .i64 n] 75)) V) => held_any ((unhide HK).keep hV) hb hn)
  have hne : neB 4 = true := rfl
  rw [hne] at HN
  clear hne
  have HW := hide (fun V (hV : Below (W.alloc (.cells #[.int .i64 b, .int .i64 n] 75)).heap.size (W.alloc (.cells #[.int .i64 b, .int .i64 n] 75)) V) => will_any ((unhide HK).keep hV) hI hN hb hn 4 (fun _ => hf))
  unfold Ans at HF HG HH HW
  obtain ⟨wh, hwh⟩ : ∃ wh, wh = whN s 4 b n := ⟨_, rfl⟩
  rw [← hwh] at HW hw
  have hw2 : (8 : Int) < (wh : Int) := by omega
  rw [hf] at HG
  clear k hf hwh hw
  obtain ⟨ln, hln⟩ : ∃ ln, ln = (s.on b n).length := ⟨_, rfl⟩
  rw [← hln] at HH hl
  have hl2 : ((ln : Int) == 0) = false := by simp; omega
  clear hln hl
  generalize fcN s.rack b n = fc at *
  generalize ((fcB b : Nat) : Int) = fb at *
  go_enter Try.func57, Try.ntmps57
  go_upto_region 1 with fail
  generalize W.alloc (.cells #[.int .i64 b, .int .i64 n] 75) = w0 at *
  have T0 := hide (Below.refl w0.heap.size w0)
  obtain ⟨-, p0, p1⟩ := unhide HP
  go_wp2_with fail
  refine (unhide HF _ (unhide T0)).mono ?_
  rintro e w1 ⟨rfl, h1⟩
  have T1 := hide (btrans (unhide T0) h1)
  clear h1
  clear p0 p1
  go_wp2_with fail
  refine (unhide HG _ (unhide T1)).mono ?_
  rintro e w2 ⟨rfl, h2⟩
  have T2 := hide (btrans (unhide T1) h2)
  clear h2
  obtain ⟨-, p0, p1⟩ := (unhide HP).keep (unhide T2)
  go_wp2_with fail
  refine (unhide HN _).mono ?_
  rintro e wn ⟨rfl, rfl⟩
  go_wp2_with fail
  refine (unhide HH _ (unhide T2)).mono ?_
  rintro e w3 ⟨rfl, h3⟩
  have T3 := hide (btrans (unhide T2) h3)
  clear h3
  clear p0 p1
  obtain ⟨-, p0, p1⟩ := (unhide HP).keep (unhide T3)
  go_wp2_with fail
  refine (unhide HW _ (unhide T3)).mono ?_
  rintro e w4 ⟨rfl, h4'⟩
  have T4 := hide (btrans (unhide T3) h4')
  clear h4'
  go_wp2
  go_ret
  exact ⟨rfl, btrans (unhide B0) (unhide T4)⟩

set_option maxRecDepth 100000 in
set_option maxHeartbeats 1000000 in
theorem wn4_ok {B : Nat} {W : World} {m N : Nat} {s : St} {g : Mg} (k : MB B W m N s g) (hI : Iv s) (hN : N ≤ 128) {b n : Nat} (hb : b < 2) (hn : n < N) (hf : hasB N (fcB b) (fcN s.rack b n) = true) (hl : (s.on b n).length ≠ 0) (hw : ¬ 8 < whN s 4 b n) : Ans 57 #[mp m, .int .i64 4, plV b n] W (.int .i64 0) := by
  unfold Ans
  have B0 := hide (bnew W (.cells #[.int .i64 b, .int .i64 n] 75))
  have HP := hide (PB.new W b n)
  have HK := hide (k.keep (unhide B0))
  have HN := hide (fun V => needs_any 4 V)
  have HF := hide (fun V (hV : Below (W.alloc (.cells #[.int .i64 b, .int .i64 n] 75)).heap.size (W.alloc (.cells #[.int .i64 b, .int .i64 n] 75)) V) => facing_any ((unhide HK).keep hV) hI hN hb hn)
  have HG := hide (fun V (hV : Below (W.alloc (.cells #[.int .i64 b, .int .i64 n] 75)).heap.size (W.alloc (.cells #[.int .i64 b, .int .i64 n] 75)) V) => has_any ((unhide HK).keep hV) (fcB b) (fcN s.rack b n))
  have HH := hide (fun V (hV : Below (W.alloc (.cells #[.int .i64 b, .int .i64 n] 75)).heap.size (W.alloc (.cells #[.int .i64 b, .int .i64 n] 75)) V) => held_any ((unhide HK).keep hV) hb hn)
  have hne : neB 4 = true := rfl
  rw [hne] at HN
  clear hne
  have HW := hide (fun V (hV : Below (W.alloc (.cells #[.int .i64 b, .int .i64 n] 75)).heap.size (W.alloc (.cells #[.int .i64 b, .int .i64 n] 75)) V) => will_any ((unhide HK).keep hV) hI hN hb hn 4 (fun _ => hf))
  unfold Ans at HF HG HH HW
  obtain ⟨wh, hwh⟩ : ∃ wh, wh = whN s 4 b n := ⟨_, rfl⟩
  rw [← hwh] at HW hw
  have hw2 : ¬ ((8 : Int) < (wh : Int)) := by omega
  rw [hf] at HG
  clear k hf hwh hw
  obtain ⟨ln, hln⟩ : ∃ ln, ln = (s.on b n).length := ⟨_, rfl⟩
  rw [← hln] at HH hl
  have hl2 : ((ln : Int) == 0) = false := by simp; omega
  clear hln hl
  generalize fcN s.rack b n = fc at *
  generalize ((fcB b : Nat) : Int) = fb at *
  go_enter Try.func57, Try.ntmps57
  go_upto_region 1 with fail
  generalize W.alloc (.cells #[.int .i64 b, .int .i64 n] 75) = w0 at *
  have T0 := hide (Below.refl w0.heap.size w0)
  obtain ⟨-, p0, p1⟩ := unhide HP
  go_wp2_with fail
  refine (unhide HF _ (unhide T0)).mono ?_
  rintro e w1 ⟨rfl, h1⟩
  have T1 := hide (btrans (unhide T0) h1)
  clear h1
  clear p0 p1
  go_wp2_with fail
  refine (unhide HG _ (unhide T1)).mono ?_
  rintro e w2 ⟨rfl, h2⟩
  have T2 := hide (btrans (unhide T1) h2)
  clear h2
  obtain ⟨-, p0, p1⟩ := (unhide HP).keep (unhide T2)
  go_wp2_with fail
  refine (unhide HN _).mono ?_
  rintro e wn ⟨rfl, rfl⟩
  go_wp2_with fail
  refine (unhide HH _ (unhide T2)).mono ?_
  rintro e w3 ⟨rfl, h3⟩
  have T3 := hide (btrans (unhide T2) h3)
  clear h3
  clear p0 p1
  obtain ⟨-, p0, p1⟩ := (unhide HP).keep (unhide T3)
  go_wp2_with fail
  refine (unhide HW _ (unhide T3)).mono ?_
  rintro e w4 ⟨rfl, h4'⟩
  have T4 := hide (btrans (unhide T3) h4')
  clear h4'
  go_wp2
  go_ret
  exact ⟨rfl, btrans (unhide B0) (unhide T4)⟩

set_option maxRecDepth 100000 in
set_option maxHeartbeats 1000000 in
theorem wn_none {B : Nat} {W : World} {m N : Nat} {s : St} {g : Mg} (k : MB B W m N s g) (hI : Iv s) (hN : N ≤ 128) {b n : Nat} (hb : b < 2) (hn : n < N) (d : Int) (h4 : d ≠ 4) (hne : neB d = true) (hl : (s.on b n).length = 0) : Ans 57 #[mp m, .int .i64 d, plV b n] W (.int .i64 6) := by
  unfold Ans
  have B0 := hide (bnew W (.cells #[.int .i64 b, .int .i64 n] 75))
  have HP := hide (PB.new W b n)
  have HK := hide (k.keep (unhide B0))
  have HN := hide (fun V => needs_any d V)
  have HF := hide (fun V (hV : Below (W.alloc (.cells #[.int .i64 b, .int .i64 n] 75)).heap.size (W.alloc (.cells #[.int .i64 b, .int .i64 n] 75)) V) => facing_any ((unhide HK).keep hV) hI hN hb hn)
  have HG := hide (fun V (hV : Below (W.alloc (.cells #[.int .i64 b, .int .i64 n] 75)).heap.size (W.alloc (.cells #[.int .i64 b, .int .i64 n] 75)) V) => has_any ((unhide HK).keep hV) (fcB b) (fcN s.rack b n))
  have HH := hide (fun V (hV : Below (W.alloc (.cells #[.int .i64 b, .int .i64 n] 75)).heap.size (W.alloc (.cells #[.int .i64 b, .int .i64 n] 75)) V) => held_any ((unhide HK).keep hV) hb hn)
  unfold Ans at HF HG HH
  rw [hne] at HN
  rw [hl] at HH
  have g4 : (d == 4) = false := by simpa using h4
  clear k hl hne h4 HF HG
  go_enter Try.func57, Try.ntmps57
  go_upto_region 1 with fail
  generalize W.alloc (.cells #[.int .i64 b, .int .i64 n] 75) = w0 at *
  have T0 := hide (Below.refl w0.heap.size w0)
  obtain ⟨-, p0, p1⟩ := unhide HP
  go_wp2_with fail
  refine (unhide HN _).mono ?_
  rintro e wn ⟨rfl, rfl⟩
  go_wp2_with fail
  refine (unhide HH _ (unhide T0)).mono ?_
  rintro e w3 ⟨rfl, h3⟩
  have T3 := hide (btrans (unhide T0) h3)
  clear h3
  go_wp2
  go_ret
  exact ⟨rfl, btrans (unhide B0) (unhide T3)⟩

set_option maxRecDepth 100000 in
set_option maxHeartbeats 1000000 in
theorem wn_true_many {B : Nat} {W : World} {m N : Nat} {s : St} {g : Mg} (k : MB B W m N s g) (hI : Iv s) (hN : N ≤ 128) {b n : Nat} (hb : b < 2) (hn : n < N) (d : Int) (h4 : d ≠ 4) (hne : neB d = true) (hl : (s.on b n).length ≠ 0) (hw : 8 < whN s d b n) : Ans 57 #[mp m, .int .i64 d, plV b n] W (.int .i64 5) := by
  unfold Ans
  have B0 := hide (bnew W (.cells #[.int .i64 b, .int .i64 n] 75))
  have HP := hide (PB.new W b n)
  have HK := hide (k.keep (unhide B0))
  have HN := hide (fun V => needs_any d V)
  have HF := hide (fun V (hV : Below (W.alloc (.cells #[.int .i64 b, .int .i64 n] 75)).heap.size (W.alloc (.cells #[.int .i64 b, .int .i64 n] 75)) V) => facing_any ((unhide HK).keep hV) hI hN hb hn)
  have HG := hide (fun V (hV : Below (W.alloc (.cells #[.int .i64 b, .int .i64 n] 75)).heap.size (W.alloc (.cells #[.int .i64 b, .int .i64 n] 75)) V) => has_any ((unhide HK).keep hV) (fcB b) (fcN s.rack b n))
  have HH := hide (fun V (hV : Below (W.alloc (.cells #[.int .i64 b, .int .i64 n] 75)).heap.size (W.alloc (.cells #[.int .i64 b, .int .i64 n] 75)) V) => held_any ((unhide HK).keep hV) hb hn)
  have HW := hide (fun V (hV : Below (W.alloc (.cells #[.int .i64 b, .int .i64 n] 75)).heap.size (W.alloc (.cells #[.int .i64 b, .int .i64 n] 75)) V) => will_any ((unhide HK).keep hV) hI hN hb hn d (fun q => absurd q h4))
  unfold Ans at HF HG HH HW
  obtain ⟨wh, hwh⟩ : ∃ wh, wh = whN s d b n := ⟨_, rfl⟩
  rw [← hwh] at HW hw
  have hw2 : (8 : Int) < (wh : Int) := by omega
  rw [hne] at HN
  clear k hwh hw
  have g4 : (d == 4) = false := by simpa using h4
  clear h4 HF HG hne
  obtain ⟨ln, hln⟩ : ∃ ln, ln = (s.on b n).length := ⟨_, rfl⟩
  rw [← hln] at HH hl
  have hl2 : ((ln : Int) == 0) = false := by simp; omega
  clear hln hl
  go_enter Try.func57, Try.ntmps57
  go_upto_region 1 with fail
  generalize W.alloc (.cells #[.int .i64 b, .int .i64 n] 75) = w0 at *
  have T0 := hide (Below.refl w0.heap.size w0)
  obtain ⟨-, p0, p1⟩ := unhide HP
  go_wp2_with fail
  refine (unhide HN _).mono ?_
  rintro e wn ⟨rfl, rfl⟩
  go_wp2_with fail
  refine (unhide HH _ (unhide T0)).mono ?_
  rintro e w3 ⟨rfl, h3⟩
  have T3 := hide (btrans (unhide T0) h3)
  clear h3
  clear p0 p1
  obtain ⟨-, p0, p1⟩ := (unhide HP).keep (unhide T3)
  go_wp2_with fail
  refine (unhide HW _ (unhide T3)).mono ?_
  rintro e w4 ⟨rfl, h4'⟩
  have T4 := hide (btrans (unhide T3) h4')
  clear h4'
  go_wp2
  go_ret
  exact ⟨rfl, btrans (unhide B0) (unhide T4)⟩

set_option maxRecDepth 100000 in
set_option maxHeartbeats 1000000 in
theorem wn_true_ok {B : Nat} {W : World} {m N : Nat} {s : St} {g : Mg} (k : MB B W m N s g) (hI : Iv s) (hN : N ≤ 128) {b n : Nat} (hb : b < 2) (hn : n < N) (d : Int) (h4 : d ≠ 4) (hne : neB d = true) (hl : (s.on b n).length ≠ 0) (hw : ¬ 8 < whN s d b n) : Ans 57 #[mp m, .int .i64 d, plV b n] W (.int .i64 0) := by
  unfold Ans
  have B0 := hide (bnew W (.cells #[.int .i64 b, .int .i64 n] 75))
  have HP := hide (PB.new W b n)
  have HK := hide (k.keep (unhide B0))
  have HN := hide (fun V => needs_any d V)
  have HF := hide (fun V (hV : Below (W.alloc (.cells #[.int .i64 b, .int .i64 n] 75)).heap.size (W.alloc (.cells #[.int .i64 b, .int .i64 n] 75)) V) => facing_any ((unhide HK).keep hV) hI hN hb hn)
  have HG := hide (fun V (hV : Below (W.alloc (.cells #[.int .i64 b, .int .i64 n] 75)).heap.size (W.alloc (.cells #[.int .i64 b, .int .i64 n] 75)) V) => has_any ((unhide HK).keep hV) (fcB b) (fcN s.rack b n))
  have HH := hide (fun V (hV : Below (W.alloc (.cells #[.int .i64 b, .int .i64 n] 75)).heap.size (W.alloc (.cells #[.int .i64 b, .int .i64 n] 75)) V) => held_any ((unhide HK).keep hV) hb hn)
  have HW := hide (fun V (hV : Below (W.alloc (.cells #[.int .i64 b, .int .i64 n] 75)).heap.size (W.alloc (.cells #[.int .i64 b, .int .i64 n] 75)) V) => will_any ((unhide HK).keep hV) hI hN hb hn d (fun q => absurd q h4))
  unfold Ans at HF HG HH HW
  obtain ⟨wh, hwh⟩ : ∃ wh, wh = whN s d b n := ⟨_, rfl⟩
  rw [← hwh] at HW hw
  have hw2 : ¬ ((8 : Int) < (wh : Int)) := by omega
  rw [hne] at HN
  clear k hwh hw
  have g4 : (d == 4) = false := by simpa using h4
  clear h4 HF HG hne
  obtain ⟨ln, hln⟩ : ∃ ln, ln = (s.on b n).length := ⟨_, rfl⟩
  rw [← hln] at HH hl
  have hl2 : ((ln : Int) == 0) = false := by simp; omega
  clear hln hl
  go_enter Try.func57, Try.ntmps57
  go_upto_region 1 with fail
  generalize W.alloc (.cells #[.int .i64 b, .int .i64 n] 75) = w0 at *
  have T0 := hide (Below.refl w0.heap.size w0)
  obtain ⟨-, p0, p1⟩ := unhide HP
  go_wp2_with fail
  refine (unhide HN _).mono ?_
  rintro e wn ⟨rfl, rfl⟩
  go_wp2_with fail
  refine (unhide HH _ (unhide T0)).mono ?_
  rintro e w3 ⟨rfl, h3⟩
  have T3 := hide (btrans (unhide T0) h3)
  clear h3
  clear p0 p1
  obtain ⟨-, p0, p1⟩ := (unhide HP).keep (unhide T3)
  go_wp2_with fail
  refine (unhide HW _ (unhide T3)).mono ?_
  rintro e w4 ⟨rfl, h4'⟩
  have T4 := hide (btrans (unhide T3) h4')
  clear h4'
  go_wp2
  go_ret
  exact ⟨rfl, btrans (unhide B0) (unhide T4)⟩

set_option maxRecDepth 100000 in
set_option maxHeartbeats 1000000 in
theorem wn_false_many {B : Nat} {W : World} {m N : Nat} {s : St} {g : Mg} (k : MB B W m N s g) (hI : Iv s) (hN : N ≤ 128) {b n : Nat} (hb : b < 2) (hn : n < N) (d : Int) (h4 : d ≠ 4) (hne : neB d = false) (hw : 8 < whN s d b n) : Ans 57 #[mp m, .int .i64 d, plV b n] W (.int .i64 5) := by
  unfold Ans
  have B0 := hide (bnew W (.cells #[.int .i64 b, .int .i64 n] 75))
  have HP := hide (PB.new W b n)
  have HK := hide (k.keep (unhide B0))
  have HN := hide (fun V => needs_any d V)
  have HF := hide (fun V (hV : Below (W.alloc (.cells #[.int .i64 b, .int .i64 n] 75)).heap.size (W.alloc (.cells #[.int .i64 b, .int .i64 n] 75)) V) => facing_any ((unhide HK).keep hV) hI hN hb hn)
  have HG := hide (fun V (hV : Below (W.alloc (.cells #[.int .i64 b, .int .i64 n] 75)).heap.size (W.alloc (.cells #[.int .i64 b, .int .i64 n] 75)) V) => has_any ((unhide HK).keep hV) (fcB b) (fcN s.rack b n))
  have HH := hide (fun V (hV : Below (W.alloc (.cells #[.int .i64 b, .int .i64 n] 75)).heap.size (W.alloc (.cells #[.int .i64 b, .int .i64 n] 75)) V) => held_any ((unhide HK).keep hV) hb hn)
  have HW := hide (fun V (hV : Below (W.alloc (.cells #[.int .i64 b, .int .i64 n] 75)).heap.size (W.alloc (.cells #[.int .i64 b, .int .i64 n] 75)) V) => will_any ((unhide HK).keep hV) hI hN hb hn d (fun q => absurd q h4))
  unfold Ans at HF HG HH HW
  obtain ⟨wh, hwh⟩ : ∃ wh, wh = whN s d b n := ⟨_, rfl⟩
  rw [← hwh] at HW hw
  have hw2 : (8 : Int) < (wh : Int) := by omega
  rw [hne] at HN
  clear k hwh hw
  have g4 : (d == 4) = false := by simpa using h4
  clear h4 HF HG hne
  go_enter Try.func57, Try.ntmps57
  go_upto_region 1 with fail
  generalize W.alloc (.cells #[.int .i64 b, .int .i64 n] 75) = w0 at *
  have T0 := hide (Below.refl w0.heap.size w0)
  obtain ⟨-, p0, p1⟩ := unhide HP
  go_wp2_with fail
  refine (unhide HN _).mono ?_
  rintro e wn ⟨rfl, rfl⟩
  go_wp2_with fail
  refine (unhide HW _ (unhide T0)).mono ?_
  rintro e w4 ⟨rfl, h4'⟩
  have T4 := hide (btrans (unhide T0) h4')
  clear h4'
  go_wp2
  go_ret
  exact ⟨rfl, btrans (unhide B0) (unhide T4)⟩

set_option maxRecDepth 100000 in
set_option maxHeartbeats 1000000 in
theorem wn_false_ok {B : Nat} {W : World} {m N : Nat} {s : St} {g : Mg} (k : MB B W m N s g) (hI : Iv s) (hN : N ≤ 128) {b n : Nat} (hb : b < 2) (hn : n < N) (d : Int) (h4 : d ≠ 4) (hne : neB d = false) (hw : ¬ 8 < whN s d b n) : Ans 57 #[mp m, .int .i64 d, plV b n] W (.int .i64 0) := by
  unfold Ans
  have B0 := hide (bnew W (.cells #[.int .i64 b, .int .i64 n] 75))
  have HP := hide (PB.new W b n)
  have HK := hide (k.keep (unhide B0))
  have HN := hide (fun V => needs_any d V)
  have HF := hide (fun V (hV : Below (W.alloc (.cells #[.int .i64 b, .int .i64 n] 75)).heap.size (W.alloc (.cells #[.int .i64 b, .int .i64 n] 75)) V) => facing_any ((unhide HK).keep hV) hI hN hb hn)
  have HG := hide (fun V (hV : Below (W.alloc (.cells #[.int .i64 b, .int .i64 n] 75)).heap.size (W.alloc (.cells #[.int .i64 b, .int .i64 n] 75)) V) => has_any ((unhide HK).keep hV) (fcB b) (fcN s.rack b n))
  have HH := hide (fun V (hV : Below (W.alloc (.cells #[.int .i64 b, .int .i64 n] 75)).heap.size (W.alloc (.cells #[.int .i64 b, .int .i64 n] 75)) V) => held_any ((unhide HK).keep hV) hb hn)
  have HW := hide (fun V (hV : Below (W.alloc (.cells #[.int .i64 b, .int .i64 n] 75)).heap.size (W.alloc (.cells #[.int .i64 b, .int .i64 n] 75)) V) => will_any ((unhide HK).keep hV) hI hN hb hn d (fun q => absurd q h4))
  unfold Ans at HF HG HH HW
  obtain ⟨wh, hwh⟩ : ∃ wh, wh = whN s d b n := ⟨_, rfl⟩
  rw [← hwh] at HW hw
  have hw2 : ¬ ((8 : Int) < (wh : Int)) := by omega
  rw [hne] at HN
  clear k hwh hw
  have g4 : (d == 4) = false := by simpa using h4
  clear h4 HF HG hne
  go_enter Try.func57, Try.ntmps57
  go_upto_region 1 with fail
  generalize W.alloc (.cells #[.int .i64 b, .int .i64 n] 75) = w0 at *
  have T0 := hide (Below.refl w0.heap.size w0)
  obtain ⟨-, p0, p1⟩ := unhide HP
  go_wp2_with fail
  refine (unhide HN _).mono ?_
  rintro e wn ⟨rfl, rfl⟩
  go_wp2_with fail
  refine (unhide HW _ (unhide T0)).mono ?_
  rintro e w4 ⟨rfl, h4'⟩
  have T4 := hide (btrans (unhide T0) h4')
  clear h4'
  go_wp2
  go_ret
  exact ⟨rfl, btrans (unhide B0) (unhide T4)⟩

theorem wn_any {B : Nat} {W : World} {m N : Nat} {s : St} {g : Mg} (k : MB B W m N s g) (hI : Iv s) (hN : N ≤ 128) {b n : Nat} (hb : b < 2) (hn : n < N) (d : Int) : Ans 57 #[mp m, .int .i64 d, plV b n] W (.int .i64 (wnE N s d b n)) := by
  unfold wnE
  by_cases h4 : d = 4
  · subst h4
    have hne : neB 4 = true := rfl
    cases hf : hasB N (fcB b) (fcN s.rack b n) with
    | false => rw [if_pos ⟨rfl, rfl⟩]; exact wn4_face k hI hN hb hn hf
    | true =>
      rw [if_neg (by simp)]
      by_cases hl : (s.on b n).length = 0
      · rw [if_pos ⟨hne, hl⟩]; exact wn4_none k hI hN hb hn hf hl
      · rw [if_neg (fun q => hl q.2)]
        by_cases hw : 8 < whN s 4 b n
        · rw [if_pos hw]; exact wn4_many k hI hN hb hn hf hl hw
        · rw [if_neg hw]; exact wn4_ok k hI hN hb hn hf hl hw
  · rw [if_neg (fun q => h4 q.1)]
    cases hne : neB d with
    | true =>
      by_cases hl : (s.on b n).length = 0
      · rw [if_pos ⟨rfl, hl⟩]; exact wn_none k hI hN hb hn d h4 hne hl
      · rw [if_neg (fun q => hl q.2)]
        by_cases hw : 8 < whN s d b n
        · rw [if_pos hw]; exact wn_true_many k hI hN hb hn d h4 hne hl hw
        · rw [if_neg hw]; exact wn_true_ok k hI hN hb hn d h4 hne hl hw
    | false =>
      rw [if_neg (by simp)]
      by_cases hw : 8 < whN s d b n
      · rw [if_pos hw]; exact wn_false_many k hI hN hb hn d h4 hne hw
      · rw [if_neg hw]; exact wn_false_ok k hI hN hb hn d h4 hne hw
end Go.Proofs.Ytancniamgfppiaa
