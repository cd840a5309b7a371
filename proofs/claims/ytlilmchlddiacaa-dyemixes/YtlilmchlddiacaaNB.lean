/-
  The reference: Nearest, each against all.
-/
import Derived.Test.YtlilmchlddiacaaNM
namespace Go.Proofs.Ytlilmchlddiacaa
open Go.RowKit

theorem g21_0 {a0 a1 a2 a3 a4 a5 a6 a7 a8 a9 a10 a11 a12 a13 a14 a15 a16 a17 a18 a19 a20 : Oper} : (#[a0, a1, a2, a3, a4, a5, a6, a7, a8, a9, a10, a11, a12, a13, a14, a15, a16, a17, a18, a19, a20] : Array Oper)[0]? = some a0 := rfl
theorem g21_1 {a0 a1 a2 a3 a4 a5 a6 a7 a8 a9 a10 a11 a12 a13 a14 a15 a16 a17 a18 a19 a20 : Oper} : (#[a0, a1, a2, a3, a4, a5, a6, a7, a8, a9, a10, a11, a12, a13, a14, a15, a16, a17, a18, a19, a20] : Array Oper)[1]? = some a1 := rfl
theorem g21_2 {a0 a1 a2 a3 a4 a5 a6 a7 a8 a9 a10 a11 a12 a13 a14 a15 a16 a17 a18 a19 a20 : Oper} : (#[a0, a1, a2, a3, a4, a5, a6, a7, a8, a9, a10, a11, a12, a13, a14, a15, a16, a17, a18, a19, a20] : Array Oper)[2]? = some a2 := rfl
theorem g21_3 {a0 a1 a2 a3 a4 a5 a6 a7 a8 a9 a10 a11 a12 a13 a14 a15 a16 a17 a18 a19 a20 : Oper} : (#[a0, a1, a2, a3, a4, a5, a6, a7, a8, a9, a10, a11, a12, a13, a14, a15, a16, a17, a18, a19, a20] : Array Oper)[3]? = some a3 := rfl
theorem g21_4 {a0 a1 a2 a3 a4 a5 a6 a7 a8 a9 a10 a11 a12 a13 a14 a15 a16 a17 a18 a19 a20 : Oper} : (#[a0, a1, a2, a3, a4, a5, a6, a7, a8, a9, a10, a11, a12, a13, a14, a15, a16, a17, a18, a19, a20] : Array Oper)[4]? = some a4 := rfl
theorem g21_5 {a0 a1 a2 a3 a4 a5 a6 a7 a8 a9 a10 a11 a12 a13 a14 a15 a16 a17 a18 a19 a20 : Oper} : (#[a0, a1, a2, a3, a4, a5, a6, a7, a8, a9, a10, a11, a12, a13, a14, a15, a16, a17, a18, a19, a20] : Array Oper)[5]? = some a5 := rfl
theorem g21_6 {a0 a1 a2 a3 a4 a5 a6 a7 a8 a9 a10 a11 a12 a13 a14 a15 a16 a17 a18 a19 a20 : Oper} : (#[a0, a1, a2, a3, a4, a5, a6, a7, a8, a9, a10, a11, a12, a13, a14, a15, a16, a17, a18, a19, a20] : Array Oper)[6]? = some a6 := rfl
theorem g21_7 {a0 a1 a2 a3 a4 a5 a6 a7 a8 a9 a10 a11 a12 a13 a14 a15 a16 a17 a18 a19 a20 : Oper} : (#[a0, a1, a2, a3, a4, a5, a6, a7, a8, a9, a10, a11, a12, a13, a14, a15, a16, a17, a18, a19, a20] : Array Oper)[7]? = some a7 := rfl
theorem g21_8 {a0 a1 a2 a3 a4 a5 a6 a7 a8 a9 a10 a11 a12 a13 a14 a15 a16 a17 a18 a19 a20 : Oper} : (#[a0, a1, a2, a3, a4, a5, a6, a7, a8, a9, a10, a11, a12, a13, a14, a15, a16, a17, a18, a19, a20] : Array Oper)[8]? = some a8 := rfl
theorem g21_9 {a0 a1 a2 a3 a4 a5 a6 a7 a8 a9 a10 a11 a12 a13 a14 a15 a16 a17 a18 a19 a20 : Oper} : (#[a0, a1, a2, a3, a4, a5, a6, a7, a8, a9, a10, a11, a12, a13, a14, a15, a16, a17, a18, a19, a20] : Array Oper)[9]? = some a9 := rfl
theorem g21_10 {a0 a1 a2 a3 a4 a5 a6 a7 a8 a9 a10 a11 a12 a13 a14 a15 a16 a17 a18 a19 a20 : Oper} : (#[a0, a1, a2, a3, a4, a5, a6, a7, a8, a9, a10, a11, a12, a13, a14, a15, a16, a17, a18, a19, a20] : Array Oper)[10]? = some a10 := rfl
theorem g21_11 {a0 a1 a2 a3 a4 a5 a6 a7 a8 a9 a10 a11 a12 a13 a14 a15 a16 a17 a18 a19 a20 : Oper} : (#[a0, a1, a2, a3, a4, a5, a6, a7, a8, a9, a10, a11, a12, a13, a14, a15, a16, a17, a18, a19, a20] : Array Oper)[11]? = some a11 := rfl
theorem g21_12 {a0 a1 a2 a3 a4 a5 a6 a7 a8 a9 a10 a11 a12 a13 a14 a15 a16 a17 a18 a19 a20 : Oper} : (#[a0, a1, a2, a3, a4, a5, a6, a7, a8, a9, a10, a11, a12, a13, a14, a15, a16, a17, a18, a19, a20] : Array Oper)[12]? = some a12 := rfl
theorem g21_13 {a0 a1 a2 a3 a4 a5 a6 a7 a8 a9 a10 a11 a12 a13 a14 a15 a16 a17 a18 a19 a20 : Oper} : (#[a0, a1, a2, a3, a4, a5, a6, a7, a8, a9, a10, a11, a12, a13, a14, a15, a16, a17, a18, a19, a20] : Array Oper)[13]? = some a13 := rfl
theorem g21_14 {a0 a1 a2 a3 a4 a5 a6 a7 a8 a9 a10 a11 a12 a13 a14 a15 a16 a17 a18 a19 a20 : Oper} : (#[a0, a1, a2, a3, a4, a5, a6, a7, a8, a9, a10, a11, a12, a13, a14, a15, a16, a17, a18, a19, a20] : Array Oper)[14]? = some a14 := rfl
theorem g21_15 {a0 a1 a2 a3 a4 a5 a6 a7 a8 a9 a10 a11 a12 a13 a14 a15 a16 a17 a18 a19 a20 : Oper} : (#[a0, a1, a2, a3, a4, a5, a6, a7, a8, a9, a10, a11, a12, a13, a14, a15, a16, a17, a18, a19, a20] : Array Oper)[15]? = some a15 := rfl
theorem g21_16 {a0 a1 a2 a3 a4 a5 a6 a7 a8 a9 a10 a11 a12 a13 a14 a15 a16 a17 a18 a19 a20 : Oper} : (#[a0, a1, a2, a3, a4, a5, a6, a7, a8, a9, a10, a11, a12, a13, a14, a15, a16, a17, a18, a19, a20] : Array Oper)[16]? = some a16 := rfl
theorem g21_17 {a0 a1 a2 a3 a4 a5 a6 a7 a8 a9 a10 a11 a12 a13 a14 a15 a16 a17 a18 a19 a20 : Oper} : (#[a0, a1, a2, a3, a4, a5, a6, a7, a8, a9, a10, a11, a12, a13, a14, a15, a16, a17, a18, a19, a20] : Array Oper)[17]? = some a17 := rfl
theorem g21_18 {a0 a1 a2 a3 a4 a5 a6 a7 a8 a9 a10 a11 a12 a13 a14 a15 a16 a17 a18 a19 a20 : Oper} : (#[a0, a1, a2, a3, a4, a5, a6, a7, a8, a9, a10, a11, a12, a13, a14, a15, a16, a17, a18, a19, a20] : Array Oper)[18]? = some a18 := rfl
theorem g21_19 {a0 a1 a2 a3 a4 a5 a6 a7 a8 a9 a10 a11 a12 a13 a14 a15 a16 a17 a18 a19 a20 : Oper} : (#[a0, a1, a2, a3, a4, a5, a6, a7, a8, a9, a10, a11, a12, a13, a14, a15, a16, a17, a18, a19, a20] : Array Oper)[19]? = some a19 := rfl
theorem g21_20 {a0 a1 a2 a3 a4 a5 a6 a7 a8 a9 a10 a11 a12 a13 a14 a15 a16 a17 a18 a19 a20 : Oper} : (#[a0, a1, a2, a3, a4, a5, a6, a7, a8, a9, a10, a11, a12, a13, a14, a15, a16, a17, a18, a19, a20] : Array Oper)[20]? = some a20 := rfl

set_option maxRecDepth 100000 in
set_option maxHeartbeats 4000000 in
theorem rnear_many (n cap : Nat) (q : Option Addr) (p : Nat → Nat) (h : ¬ (1 ≤ n ∧ n ≤ 256)) (W : World) : AnsN 11 #[.slice q n cap, pvV p] W 0 5 := by
  unfold AnsN pvV
  have hst := stF
  have HF0 := hide (FR.new W p 26)
  have Hb0 := hide (bnew W (.cells #[.float .f64 (p 0), .float .f64 (p 1), .float .f64 (p 2)] 26))
  obtain ⟨n3, hn3⟩ : ∃ n3, W.heap.size = n3 := ⟨_, rfl⟩
  have Hn3 := hide hn3
  go_enter Try.func11, Try.ntmps11
  go_upto_region 1 with fail
  generalize W.alloc (.cells #[.float .f64 (p 0), .float .f64 (p 1), .float .f64 (p 2)] 26) = w1 at *
  rw [hn3] at HF0
  try rw [hn3]
  clear hn3
  by_cases c1 : (n : Int) < 1
  · have c1' : decide ((n : Int) < 1) = true := decide_eq_true c1
    clear h
    go_wp2
    exact bodyPost_ret (v := .tuple #[.int .i64 0, .int .i64 5]) (by simp [results, Try.results11, go_sem]) rfl ⟨rfl, unhide Hb0⟩
  · have c1' : decide ((n : Int) < 1) = false := decide_eq_false c1
    have c2 : 256 < (n : Int) := by omega
    have c2' : decide (256 < (n : Int)) = true := decide_eq_true c2
    clear h
    go_wp2
    exact bodyPost_ret (v := .tuple #[.int .i64 0, .int .i64 5]) (by simp [results, Try.results11, go_sem]) rfl ⟨rfl, unhide Hb0⟩

set_option maxRecDepth 100000 in
set_option maxHeartbeats 4000000 in
theorem rnear_unfair (n cap : Nat) (q : Option Addr) (p : Nat → Nat) (hn1 : 1 ≤ n) (hn2 : n ≤ 256) (hp : faB p = false) (W : World) : AnsN 11 #[.slice q n cap, pvV p] W 0 3 := by
  have c1 : ¬ ((n : Int) < 1) := by omega
  have c1' : decide ((n : Int) < 1) = false := decide_eq_false c1
  have c2 : ¬ (256 < (n : Int)) := by omega
  have c2' : decide (256 < (n : Int)) = false := decide_eq_false c2
  unfold AnsN pvV
  have hst := stF
  have HF0 := hide (FR.new W p 26)
  have Hb0 := hide (bnew W (.cells #[.float .f64 (p 0), .float .f64 (p 1), .float .f64 (p 2)] 26))
  obtain ⟨n3, hn3⟩ : ∃ n3, W.heap.size = n3 := ⟨_, rfl⟩
  have Hn3 := hide hn3
  go_enter Try.func11, Try.ntmps11
  go_upto_region 1 with fail
  generalize W.alloc (.cells #[.float .f64 (p 0), .float .f64 (p 1), .float .f64 (p 2)] 26) = w1 at *
  rw [hn3] at HF0
  try rw [hn3]
  clear hn3
  have a0 := ((unhide HF0).2 0 (by omega)).1
  have a1 := ((unhide HF0).2 1 (by omega)).1
  have a2 := ((unhide HF0).2 2 (by omega)).1
  go_wp2_with fail
  refine (rfair_any p _).mono ?_
  rintro e w2 ⟨rfl, hb2⟩
  have HP4 := hide ((unhide HF0).keep hb2)
  have Hb4 := hide (btrans (unhide Hb0) hb2)
  clear hb2 Hb0 a0 a1 a2 HF0
  rw [hp]
  go_wp2
  exact bodyPost_ret (v := .tuple #[.int .i64 0, .int .i64 3]) (by simp [results, Try.results11, go_sem]) rfl ⟨rfl, unhide Hb4⟩

set_option maxRecDepth 100000 in
set_option maxHeartbeats 4000000 in
theorem rnear_bad (n m cap : Nat) (q : Option Addr) (d : Nat → Nat → Nat) (p : Nat → Nat) (hn1 : 1 ≤ n) (hn2 : n ≤ 256) (hp : faB p = true) (hm : m < n) (h : ∀ i, i < m → faB (d i) = true) (h0 : faB (d m) = false) (W : World) (hD : Dy W q n d) : AnsN 11 #[.slice q n cap, pvV p] W 0 3 := by
  have HD := hide hD
  have H := hide h
  have H0 := hide h0
  clear hD h h0
  have c1 : ¬ ((n : Int) < 1) := by omega
  have c1' : decide ((n : Int) < 1) = false := decide_eq_false c1
  have c2 : ¬ (256 < (n : Int)) := by omega
  have c2' : decide (256 < (n : Int)) = false := decide_eq_false c2
  unfold AnsN pvV
  have hst := stF
  have HF0 := hide (FR.new W p 26)
  have Hb0 := hide (bnew W (.cells #[.float .f64 (p 0), .float .f64 (p 1), .float .f64 (p 2)] 26))
  obtain ⟨n3, hn3⟩ : ∃ n3, W.heap.size = n3 := ⟨_, rfl⟩
  have Hn3 := hide hn3
  go_enter Try.func11, Try.ntmps11
  go_upto_region 1 with fail
  generalize W.alloc (.cells #[.float .f64 (p 0), .float .f64 (p 1), .float .f64 (p 2)] 26) = w1 at *
  rw [hn3] at HF0
  try rw [hn3]
  clear hn3
  have a0 := ((unhide HF0).2 0 (by omega)).1
  have a1 := ((unhide HF0).2 1 (by omega)).1
  have a2 := ((unhide HF0).2 2 (by omega)).1
  go_wp2_with fail
  refine (rfair_any p _).mono ?_
  rintro e w2 ⟨rfl, hb2⟩
  have HP4 := hide ((unhide HF0).keep hb2)
  have Hb4 := hide (btrans (unhide Hb0) hb2)
  clear hb2 Hb0 a0 a1 a2 HF0
  rw [hp]
  have Hp := hide hp
  clear hp
  go_wp2
  go_loopw [26] (fun i wr => ∃ x : Nat, x ≤ m ∧ i = .int .i64 (x : Int) ∧ FR wr n3 p ∧ Below W.heap.size W wr) (fun i _ => n - (intOf i).toNat)
  case atStart => exact ⟨0, by omega, rfl, unhide HP4, unhide Hb4⟩
  case round =>
    clear HP4 Hb4
    obtain ⟨x, hx, rfl, hP, hb⟩ := hrel
    by_cases hlt : x < m
    · skip
      obtain ⟨ad0, oo, rfl, k0, k1, k2⟩ := ((unhide HD).keep hb).at (x := x) (by omega)
      have q0 : (x : Int) < (n : Int) := by omega
      have q1 : (0 : Int) ≤ (x : Int) := by omega
      have HB := hide (FR.new wr (d x) 26)
      have HP1 := hide (hP.keep (bnew wr (.cells #[.float .f64 (d x 0), .float .f64 (d x 1), .float .f64 (d x 2)] 26)))
      have Hb1 := hide (bal (o := .cells #[.float .f64 (d x 0), .float .f64 (d x 1), .float .f64 (d x 2)] 26) hb)
      clear hP hb
      go_upto_region 8 with fail
      generalize wr.alloc (.cells #[.float .f64 (d x 0), .float .f64 (d x 1), .float .f64 (d x 2)] 26) = w3 at *
      generalize wr.heap.size = n10 at *
      clear k0 k1 k2
      have i0 := ((unhide HB).2 0 (by omega)).1
      have i1 := ((unhide HB).2 1 (by omega)).1
      have i2 := ((unhide HB).2 2 (by omega)).1
      go_wp2_with fail
      refine (rfair_any (d x) _).mono ?_
      rintro e w4 ⟨rfl, hb4⟩
      have HP4 := hide ((unhide HP1).keep hb4)
      have Hb4 := hide (btrans (unhide Hb1) hb4)
      clear hb4 i0 i1 i2 HB HP1 Hb1
      rw [unhide H x (by omega)]
      go_wp2
      go_roundw
      case rel => exact ⟨x + 1, by omega, by go_num, unhide HP4, unhide Hb4⟩
      case measure => simp [intOf]; omega
    · obtain rfl : m = x := by omega
      obtain ⟨ad0, oo, rfl, k0, k1, k2⟩ := ((unhide HD).keep hb).at (x := m) (by omega)
      have q0 : (m : Int) < (n : Int) := by omega
      have q1 : (0 : Int) ≤ (m : Int) := by omega
      have HB := hide (FR.new wr (d m) 26)
      have HP1 := hide (hP.keep (bnew wr (.cells #[.float .f64 (d m 0), .float .f64 (d m 1), .float .f64 (d m 2)] 26)))
      have Hb1 := hide (bal (o := .cells #[.float .f64 (d m 0), .float .f64 (d m 1), .float .f64 (d m 2)] 26) hb)
      clear hP hb
      go_upto_region 8 with fail
      generalize wr.alloc (.cells #[.float .f64 (d m 0), .float .f64 (d m 1), .float .f64 (d m 2)] 26) = w3 at *
      generalize wr.heap.size = n10 at *
      clear k0 k1 k2
      have i0 := ((unhide HB).2 0 (by omega)).1
      have i1 := ((unhide HB).2 1 (by omega)).1
      have i2 := ((unhide HB).2 2 (by omega)).1
      go_wp2_with fail
      refine (rfair_any (d m) _).mono ?_
      rintro e w4 ⟨rfl, hb4⟩
      have HP4 := hide ((unhide HP1).keep hb4)
      have Hb4 := hide (btrans (unhide Hb1) hb4)
      clear hb4 i0 i1 i2 HB HP1 Hb1
      rw [unhide H0]
      clear H0 H HD HP4
      go_wp2
      exact bodyPost_ret (v := .tuple #[.int .i64 0, .int .i64 3]) (by simp [results, Try.results11, go_sem]) rfl ⟨rfl, unhide Hb4⟩

set_option maxRecDepth 100000 in
set_option maxHeartbeats 4000000 in
theorem rnear_ok (n K cap : Nat) (q : Option Addr) (d : Nat → Nat → Nat) (p : Nat → Nat) (hn1 : 1 ≤ n) (hn2 : n ≤ 256) (hp : faB p = true) (h : ∀ i, i < n → faB (d i) = true) (hK : IsNear n (fv d p) K) (W : World) (hD : Dy W q n d) : AnsN 11 #[.slice q n cap, pvV p] W K 0 := by
  have HD := hide hD
  have H := hide h
  have HK := hide hK
  have hKn := hK.1
  clear hD h hK
  have c1 : ¬ ((n : Int) < 1) := by omega
  have c1' : decide ((n : Int) < 1) = false := decide_eq_false c1
  have c2 : ¬ (256 < (n : Int)) := by omega
  have c2' : decide (256 < (n : Int)) = false := decide_eq_false c2
  unfold AnsN pvV
  have hst := stF
  have HF0 := hide (FR.new W p 26)
  have Hb0 := hide (bnew W (.cells #[.float .f64 (p 0), .float .f64 (p 1), .float .f64 (p 2)] 26))
  obtain ⟨n3, hn3⟩ : ∃ n3, W.heap.size = n3 := ⟨_, rfl⟩
  have Hn3 := hide hn3
  go_enter Try.func11, Try.ntmps11
  go_upto_region 1 with fail
  generalize W.alloc (.cells #[.float .f64 (p 0), .float .f64 (p 1), .float .f64 (p 2)] 26) = w1 at *
  rw [hn3] at HF0
  try rw [hn3]
  clear hn3
  have a0 := ((unhide HF0).2 0 (by omega)).1
  have a1 := ((unhide HF0).2 1 (by omega)).1
  have a2 := ((unhide HF0).2 2 (by omega)).1
  go_wp2_with fail
  refine (rfair_any p _).mono ?_
  rintro e w2 ⟨rfl, hb2⟩
  have HP4 := hide ((unhide HF0).keep hb2)
  have Hb4 := hide (btrans (unhide Hb0) hb2)
  clear hb2 Hb0 a0 a1 a2 HF0
  rw [hp]
  have Hp := hide hp
  clear hp
  go_wp2
  go_loopw [26] (fun i wr => ∃ x : Nat, x ≤ n ∧ i = .int .i64 (x : Int) ∧ FR wr n3 p ∧ Below W.heap.size W wr) (fun i _ => n - (intOf i).toNat)
  case atStart => exact ⟨0, by omega, rfl, unhide HP4, unhide Hb4⟩
  case round =>
    clear HP4 Hb4
    obtain ⟨x, hx, rfl, hP, hb⟩ := hrel
    by_cases hlt : x < n
    · skip
      obtain ⟨ad0, oo, rfl, k0, k1, k2⟩ := ((unhide HD).keep hb).at (x := x) (by omega)
      have q0 : (x : Int) < (n : Int) := by omega
      have q1 : (0 : Int) ≤ (x : Int) := by omega
      have HB := hide (FR.new wr (d x) 26)
      have HP1 := hide (hP.keep (bnew wr (.cells #[.float .f64 (d x 0), .float .f64 (d x 1), .float .f64 (d x 2)] 26)))
      have Hb1 := hide (bal (o := .cells #[.float .f64 (d x 0), .float .f64 (d x 1), .float .f64 (d x 2)] 26) hb)
      clear hP hb
      go_upto_region 8 with fail
      generalize wr.alloc (.cells #[.float .f64 (d x 0), .float .f64 (d x 1), .float .f64 (d x 2)] 26) = w3 at *
      generalize wr.heap.size = n10 at *
      clear k0 k1 k2
      have i0 := ((unhide HB).2 0 (by omega)).1
      have i1 := ((unhide HB).2 1 (by omega)).1
      have i2 := ((unhide HB).2 2 (by omega)).1
      go_wp2_with fail
      refine (rfair_any (d x) _).mono ?_
      rintro e w4 ⟨rfl, hb4⟩
      have HP4 := hide ((unhide HP1).keep hb4)
      have Hb4 := hide (btrans (unhide Hb1) hb4)
      clear hb4 i0 i1 i2 HB HP1 Hb1
      rw [unhide H x (by omega)]
      go_wp2
      go_roundw
      case rel => exact ⟨x + 1, by omega, by go_num, unhide HP4, unhide Hb4⟩
      case measure => simp [intOf]; omega
    · obtain rfl : n = x := by omega
      have cl : ¬ ((n : Int) < (n : Int)) := by omega
      have HP4 := hide hP
      have Hb4 := hide hb
      clear hP hb
      go_wp2
      clear cl
      go_loopw [36] (fun i wr => ∃ x : Nat, x ≤ K ∧ i = .int .i64 (x : Int) ∧ FR wr n3 p ∧ Below W.heap.size W wr) (fun i _ => n - (intOf i).toNat)
      case atStart => exact ⟨0, by omega, rfl, unhide HP4, unhide Hb4⟩
      case round =>
        clear HP4 Hb4
        obtain ⟨x, hx, rfl, hP, hb⟩ := hrel
        obtain ⟨ad0, oo, rfl, k0, k1, k2⟩ := ((unhide HD).keep hb).at (x := x) (by omega)
        have q0 : (x : Int) < (n : Int) := by omega
        have q1 : (0 : Int) ≤ (x : Int) := by omega
        have HB := hide (FR.new wr (d x) 26)
        have HP1 := hide (hP.keep (bnew wr (.cells #[.float .f64 (d x 0), .float .f64 (d x 1), .float .f64 (d x 2)] 26)))
        have Hb1 := hide (bal (o := .cells #[.float .f64 (d x 0), .float .f64 (d x 1), .float .f64 (d x 2)] 26) hb)
        clear hP hb
        go_upto_region 14 with fail
        generalize wr.alloc (.cells #[.float .f64 (d x 0), .float .f64 (d x 1), .float .f64 (d x 2)] 26) = w3 at *
        generalize wr.heap.size = n9 at *
        clear k0 k1 k2
        go_wp2
        clear q0 q1
        go_loopw [10, 43] (fun b i wr => ∃ y : Nat, y ≤ n ∧ i = .int .i64 (y : Int) ∧ b = .bool (bst (fv d p) x y) ∧ FR wr n9 (d x) ∧ FR wr n3 p ∧ Below W.heap.size W wr) (fun _ i _ => n - (intOf i).toNat)
        case atStart => exact ⟨0, by omega, rfl, rfl, unhide HB, unhide HP1, unhide Hb1⟩
        case round =>
          clear HB HP1 Hb1
          obtain ⟨y, hy, rfl, rfl, hX, hP, hb⟩ := hrel
          by_cases hlt : y < n
          · obtain ⟨ad1, o1, hq, k0, k1, k2⟩ := ((unhide HD).keep hb).at (x := y) (by omega)
            cases hq
            have q0 : (y : Int) < (n : Int) := by omega
            have q1 : (0 : Int) ≤ (y : Int) := by omega
            have hG12 := FR.new wr (d y) 26
            have hG9 := hX.keep (bnew wr (.cells #[.float .f64 (d y 0), .float .f64 (d y 1), .float .f64 (d y 2)] 26))
            have hG3 := hP.keep (bnew wr (.cells #[.float .f64 (d y 0), .float .f64 (d y 1), .float .f64 (d y 2)] 26))
            have Hb5 := hide (bal (o := .cells #[.float .f64 (d y 0), .float .f64 (d y 1), .float .f64 (d y 2)] 26) hb)
            clear hP hb hX
            go_upto_region 18 with fail
            generalize wr.alloc (.cells #[.float .f64 (d y 0), .float .f64 (d y 1), .float .f64 (d y 2)] 26) = w5 at *
            generalize wr.heap.size = n12 at *
            clear k0 k1 k2
            have HFy := hide (fr_at (unhide H y (by omega)) (unhide Hp)).1
            have HFx := hide (fr_at (unhide H x (by omega)) (unhide Hp)).1
            have ho3 := ord_at (unhide Hp) (unhide H y (by omega)) (unhide H x (by omega))
            by_cases hyx : y < x
            · have cy : (y : Int) < (x : Int) := by omega
              have cy' : decide ((y : Int) < (x : Int)) = true := decide_eq_true cy
              rcases ho3 with ⟨ho, hl⟩ | ⟨ho, hl⟩ | ⟨ho, hl⟩
              · skip
                have Hbt := hide (show bt (fv d p) x y = true by unfold bt; rw [decide_eq_true hyx, decide_eq_true (show fv d p y ≤ fv d p x by omega)]; simp)
                clear hl
                refine wp_region_noPanic ?_
                refine wp_region_held_drew (S := fun V => Below w5.drew.heap.size w5.drew V) (by kernel_rfl) (Below.refl _ _) ?_
                intro _
                replace hG9 := hG9.keep (bdrew w5)
                replace hG12 := hG12.keep (bdrew w5)
                replace hG3 := hG3.keep (bdrew w5)
                have hb5 := btrans (unhide Hb5) (bdrew w5)
                clear Hb5
                generalize w5.drew = w8 at *
                have hbc : Below w8.heap.size w8 w8 := Below.refl _ _
                refine wpAnyH_take (i := 0) (oi := _) (v := .int .i64 (y : Int)) g21_0 (by kernel_rfl) (by kernel_rfl) (by kernel_rfl) (fun _ _ _ h => h) (Or.inl ⟨by rfl, ?_⟩) (by assumption) ?_
                · intro V hSw
                  try dsimp only at hSw
                  go_simp
                simp only [Act.put, List.setIfInBounds_toArray, List.set_cons_zero, List.set_cons_succ]
                refine wpAnyH_take (i := 1) (oi := _) (v := .int .i64 (x : Int)) g21_1 (by kernel_rfl) (by kernel_rfl) (by kernel_rfl) (fun _ _ _ h => h) (Or.inl ⟨by rfl, ?_⟩) (by assumption) ?_
                · intro V hSw
                  try dsimp only at hSw
                  go_simp
                simp only [Act.put, List.setIfInBounds_toArray, List.set_cons_zero, List.set_cons_succ]
                refine wpAnyH_take (i := 2) (oi := _) (v := .bool true) g21_2 (by kernel_rfl) (by kernel_rfl) (by kernel_rfl) (fun _ _ _ h => h) (Or.inl ⟨by rfl, ?_⟩) (by assumption) ?_
                · intro V hSw
                  try dsimp only at hSw
                  go_simp
                simp only [Act.put, List.setIfInBounds_toArray, List.set_cons_zero, List.set_cons_succ]
                refine wpAnyH_take (i := 3) (oi := _) (v := .bool true) g21_3 (by kernel_rfl) (by kernel_rfl) (by kernel_rfl) (fun _ _ _ h => h) (Or.inl ⟨by rfl, ?_⟩) (by assumption) ?_
                · intro V hSw
                  try dsimp only at hSw
                  go_simp
                simp only [Act.put, List.setIfInBounds_toArray, List.set_cons_zero, List.set_cons_succ]
                refine wpAnyH_take (i := 4) (oi := _) (v := .agg #[.float .f64 (d y 0), .float .f64 (d y 1), .float .f64 (d y 2)]) g21_4 (by kernel_rfl) (by kernel_rfl) (by kernel_rfl) (fun _ _ _ h => h) (Or.inl ⟨by rfl, ?_⟩) (by assumption) ?_
                · intro V hSw
                  try dsimp only at hSw
                  have hG := (hG12).keep hSw
                  have g0 := (hG.2 0 (by omega)).1
                  have g1 := (hG.2 1 (by omega)).1
                  have g2 := (hG.2 2 (by omega)).1
                  go_simp
                simp only [Act.put, List.setIfInBounds_toArray, List.set_cons_zero, List.set_cons_succ]
                refine wpAnyH_take (i := 5) (oi := _) (v := .agg #[.float .f64 (p 0), .float .f64 (p 1), .float .f64 (p 2)]) g21_5 (by kernel_rfl) (by kernel_rfl) (by kernel_rfl) (fun _ _ _ h => h) (Or.inl ⟨by rfl, ?_⟩) (by assumption) ?_
                · intro V hSw
                  try dsimp only at hSw
                  have hG := (hG3).keep hSw
                  have g0 := (hG.2 0 (by omega)).1
                  have g1 := (hG.2 1 (by omega)).1
                  have g2 := (hG.2 2 (by omega)).1
                  go_simp
                simp only [Act.put, List.setIfInBounds_toArray, List.set_cons_zero, List.set_cons_succ]
                refine wpAnyH_take (i := 7) (oi := _) (v := .agg #[.float .f64 (d x 0), .float .f64 (d x 1), .float .f64 (d x 2)]) g21_7 (by kernel_rfl) (by kernel_rfl) (by kernel_rfl) (fun _ _ _ h => h) (Or.inl ⟨by rfl, ?_⟩) (by assumption) ?_
                · intro V hSw
                  try dsimp only at hSw
                  have hG := (hG9).keep hSw
                  have g0 := (hG.2 0 (by omega)).1
                  have g1 := (hG.2 1 (by omega)).1
                  have g2 := (hG.2 2 (by omega)).1
                  go_simp
                simp only [Act.put, List.setIfInBounds_toArray, List.set_cons_zero, List.set_cons_succ]
                refine wpAnyH_take (i := 8) (oi := _) (v := .agg #[.float .f64 (p 0), .float .f64 (p 1), .float .f64 (p 2)]) g21_8 (by kernel_rfl) (by kernel_rfl) (by kernel_rfl) (fun _ _ _ h => h) (Or.inl ⟨by rfl, ?_⟩) (by assumption) ?_
                · intro V hSw
                  try dsimp only at hSw
                  have hG := (hG3).keep hSw
                  have g0 := (hG.2 0 (by omega)).1
                  have g1 := (hG.2 1 (by omega)).1
                  have g2 := (hG.2 2 (by omega)).1
                  go_simp
                simp only [Act.put, List.setIfInBounds_toArray, List.set_cons_zero, List.set_cons_succ]
                refine wpAnyH_ready (rs := [6]) (by kernel_rfl) (by simp) ?_
                refine AllReadyH.cons (o := _) g21_6 (fun K hK => ?_) AllReadyH.nil
                go_simp
                refine (rfar_any (d y) p _ _ _ _ (unhide HFy) _).mono ?_
                rintro e wa ⟨rfl, hbq⟩
                replace hbc := btrans hbc hbq
                clear hbq
                refine hK.out _ _ (hbc) (fun _ => ?_)
                clear hK K
                refine wpAnyH_ready (rs := [9]) (by kernel_rfl) (by simp) ?_
                refine AllReadyH.cons (o := _) g21_9 (fun K hK => ?_) AllReadyH.nil
                go_simp
                refine (rfar_any (d x) p _ _ _ _ (unhide HFx) _).mono ?_
                rintro e wb ⟨rfl, hbq⟩
                replace hbc := btrans hbc hbq
                clear hbq
                refine hK.out _ _ (hbc) (fun _ => ?_)
                clear hK K
                refine wpAnyH_take (i := 10) (oi := _) (v := .bool true) g21_10 (by kernel_rfl) (by kernel_rfl) (by kernel_rfl) (fun _ _ _ h => h) (Or.inl ⟨by rfl, ?_⟩) (by assumption) ?_
                · intro V hSw
                  try dsimp only at hSw
                  go_simp
                simp only [Act.put, List.setIfInBounds_toArray, List.set_cons_zero, List.set_cons_succ]
                refine wpAnyH_take (i := 11) (oi := _) (v := .bool true) g21_11 (by kernel_rfl) (by kernel_rfl) (by kernel_rfl) (fun _ _ _ h => h) (Or.inl ⟨by rfl, ?_⟩) (by assumption) ?_
                · intro V hSw
                  try dsimp only at hSw
                  go_simp
                simp only [Act.put, List.setIfInBounds_toArray, List.set_cons_zero, List.set_cons_succ]
                refine wpAnyH_take (i := 12) (oi := _) (v := .bool true) g21_12 (by kernel_rfl) (by kernel_rfl) (by kernel_rfl) (fun _ _ _ h => h) (Or.inl ⟨by rfl, ?_⟩) (by assumption) ?_
                · intro V hSw
                  try dsimp only at hSw
                  go_simp
                simp only [Act.put, List.setIfInBounds_toArray, List.set_cons_zero, List.set_cons_succ]
                refine wpAnyH_take (i := 13) (oi := _) (v := undef) g21_13 (by kernel_rfl) (by kernel_rfl) (by kernel_rfl) (fun _ _ _ h => h) (Or.inr ⟨by rfl, rfl⟩) (by assumption) ?_
                simp only [Act.put, List.setIfInBounds_toArray, List.set_cons_zero, List.set_cons_succ]
                refine wpAnyH_take (i := 14) (oi := _) (v := undef) g21_14 (by kernel_rfl) (by kernel_rfl) (by kernel_rfl) (fun _ _ _ h => h) (Or.inr ⟨by rfl, rfl⟩) (by assumption) ?_
                simp only [Act.put, List.setIfInBounds_toArray, List.set_cons_zero, List.set_cons_succ]
                refine wpAnyH_take (i := 15) (oi := _) (v := undef) g21_15 (by kernel_rfl) (by kernel_rfl) (by kernel_rfl) (fun _ _ _ h => h) (Or.inr ⟨by rfl, rfl⟩) (by assumption) ?_
                simp only [Act.put, List.setIfInBounds_toArray, List.set_cons_zero, List.set_cons_succ]
                refine wpAnyH_take (i := 16) (oi := _) (v := undef) g21_16 (by kernel_rfl) (by kernel_rfl) (by kernel_rfl) (fun _ _ _ h => h) (Or.inr ⟨by rfl, rfl⟩) (by assumption) ?_
                simp only [Act.put, List.setIfInBounds_toArray, List.set_cons_zero, List.set_cons_succ]
                refine wpAnyH_take (i := 17) (oi := _) (v := undef) g21_17 (by kernel_rfl) (by kernel_rfl) (by kernel_rfl) (fun _ _ _ h => h) (Or.inr ⟨by rfl, rfl⟩) (by assumption) ?_
                simp only [Act.put, List.setIfInBounds_toArray, List.set_cons_zero, List.set_cons_succ]
                refine wpAnyH_take (i := 18) (oi := _) (v := undef) g21_18 (by kernel_rfl) (by kernel_rfl) (by kernel_rfl) (fun _ _ _ h => h) (Or.inr ⟨by rfl, rfl⟩) (by assumption) ?_
                simp only [Act.put, List.setIfInBounds_toArray, List.set_cons_zero, List.set_cons_succ]
                refine wpAnyH_take (i := 19) (oi := _) (v := undef) g21_19 (by kernel_rfl) (by kernel_rfl) (by kernel_rfl) (fun _ _ _ h => h) (Or.inr ⟨by rfl, rfl⟩) (by assumption) ?_
                simp only [Act.put, List.setIfInBounds_toArray, List.set_cons_zero, List.set_cons_succ]
                refine wpAnyH_take (i := 20) (oi := _) (v := .bool true) g21_20 (by kernel_rfl) (by kernel_rfl) (by kernel_rfl) (fun _ _ _ h => h) (Or.inl ⟨by rfl, ?_⟩) (by assumption) ?_
                · intro V hSw
                  try dsimp only at hSw
                  go_simp
                simp only [Act.put, List.setIfInBounds_toArray, List.set_cons_zero, List.set_cons_succ]
                refine wpAnyH_done (by kernel_rfl) ?_ _
                refine NoPanic.normal ?_
                have HG9 := hide (hG9.keep hbc)
                have HG3 := hide (hG3.keep hbc)
                have Hbn := hide (btrans hb5 hbc)
                clear hG9 hG12 hG3 hb5 hbc HFx HFy
                go_wp2
                go_roundw
                case rel => exact ⟨y + 1, by omega, by go_num, by rw [show bst (fv d p) x (y + 1) = false by rw [bst, unhide Hbt]; simp], unhide HG9, unhide HG3, unhide Hbn⟩
                case measure => simp [intOf]; omega
              · skip
                have Hbt := hide (show bt (fv d p) x y = true by unfold bt; rw [decide_eq_true hyx, decide_eq_true (show fv d p y ≤ fv d p x by omega)]; simp)
                clear hl
                refine wp_region_noPanic ?_
                refine wp_region_held_drew (S := fun V => Below w5.drew.heap.size w5.drew V) (by kernel_rfl) (Below.refl _ _) ?_
                intro _
                replace hG9 := hG9.keep (bdrew w5)
                replace hG12 := hG12.keep (bdrew w5)
                replace hG3 := hG3.keep (bdrew w5)
                have hb5 := btrans (unhide Hb5) (bdrew w5)
                clear Hb5
                generalize w5.drew = w8 at *
                have hbc : Below w8.heap.size w8 w8 := Below.refl _ _
                refine wpAnyH_take (i := 0) (oi := _) (v := .int .i64 (y : Int)) g21_0 (by kernel_rfl) (by kernel_rfl) (by kernel_rfl) (fun _ _ _ h => h) (Or.inl ⟨by rfl, ?_⟩) (by assumption) ?_
                · intro V hSw
                  try dsimp only at hSw
                  go_simp
                simp only [Act.put, List.setIfInBounds_toArray, List.set_cons_zero, List.set_cons_succ]
                refine wpAnyH_take (i := 1) (oi := _) (v := .int .i64 (x : Int)) g21_1 (by kernel_rfl) (by kernel_rfl) (by kernel_rfl) (fun _ _ _ h => h) (Or.inl ⟨by rfl, ?_⟩) (by assumption) ?_
                · intro V hSw
                  try dsimp only at hSw
                  go_simp
                simp only [Act.put, List.setIfInBounds_toArray, List.set_cons_zero, List.set_cons_succ]
                refine wpAnyH_take (i := 2) (oi := _) (v := .bool true) g21_2 (by kernel_rfl) (by kernel_rfl) (by kernel_rfl) (fun _ _ _ h => h) (Or.inl ⟨by rfl, ?_⟩) (by assumption) ?_
                · intro V hSw
                  try dsimp only at hSw
                  go_simp
                simp only [Act.put, List.setIfInBounds_toArray, List.set_cons_zero, List.set_cons_succ]
                refine wpAnyH_take (i := 3) (oi := _) (v := .bool true) g21_3 (by kernel_rfl) (by kernel_rfl) (by kernel_rfl) (fun _ _ _ h => h) (Or.inl ⟨by rfl, ?_⟩) (by assumption) ?_
                · intro V hSw
                  try dsimp only at hSw
                  go_simp
                simp only [Act.put, List.setIfInBounds_toArray, List.set_cons_zero, List.set_cons_succ]
                refine wpAnyH_take (i := 4) (oi := _) (v := .agg #[.float .f64 (d y 0), .float .f64 (d y 1), .float .f64 (d y 2)]) g21_4 (by kernel_rfl) (by kernel_rfl) (by kernel_rfl) (fun _ _ _ h => h) (Or.inl ⟨by rfl, ?_⟩) (by assumption) ?_
                · intro V hSw
                  try dsimp only at hSw
                  have hG := (hG12).keep hSw
                  have g0 := (hG.2 0 (by omega)).1
                  have g1 := (hG.2 1 (by omega)).1
                  have g2 := (hG.2 2 (by omega)).1
                  go_simp
                simp only [Act.put, List.setIfInBounds_toArray, List.set_cons_zero, List.set_cons_succ]
                refine wpAnyH_take (i := 5) (oi := _) (v := .agg #[.float .f64 (p 0), .float .f64 (p 1), .float .f64 (p 2)]) g21_5 (by kernel_rfl) (by kernel_rfl) (by kernel_rfl) (fun _ _ _ h => h) (Or.inl ⟨by rfl, ?_⟩) (by assumption) ?_
                · intro V hSw
                  try dsimp only at hSw
                  have hG := (hG3).keep hSw
                  have g0 := (hG.2 0 (by omega)).1
                  have g1 := (hG.2 1 (by omega)).1
                  have g2 := (hG.2 2 (by omega)).1
                  go_simp
                simp only [Act.put, List.setIfInBounds_toArray, List.set_cons_zero, List.set_cons_succ]
                refine wpAnyH_take (i := 7) (oi := _) (v := .agg #[.float .f64 (d x 0), .float .f64 (d x 1), .float .f64 (d x 2)]) g21_7 (by kernel_rfl) (by kernel_rfl) (by kernel_rfl) (fun _ _ _ h => h) (Or.inl ⟨by rfl, ?_⟩) (by assumption) ?_
                · intro V hSw
                  try dsimp only at hSw
                  have hG := (hG9).keep hSw
                  have g0 := (hG.2 0 (by omega)).1
                  have g1 := (hG.2 1 (by omega)).1
                  have g2 := (hG.2 2 (by omega)).1
                  go_simp
                simp only [Act.put, List.setIfInBounds_toArray, List.set_cons_zero, List.set_cons_succ]
                refine wpAnyH_take (i := 8) (oi := _) (v := .agg #[.float .f64 (p 0), .float .f64 (p 1), .float .f64 (p 2)]) g21_8 (by kernel_rfl) (by kernel_rfl) (by kernel_rfl) (fun _ _ _ h => h) (Or.inl ⟨by rfl, ?_⟩) (by assumption) ?_
                · intro V hSw
                  try dsimp only at hSw
                  have hG := (hG3).keep hSw
                  have g0 := (hG.2 0 (by omega)).1
                  have g1 := (hG.2 1 (by omega)).1
                  have g2 := (hG.2 2 (by omega)).1
                  go_simp
                simp only [Act.put, List.setIfInBounds_toArray, List.set_cons_zero, List.set_cons_succ]
                refine wpAnyH_ready (rs := [6]) (by kernel_rfl) (by simp) ?_
                refine AllReadyH.cons (o := _) g21_6 (fun K hK => ?_) AllReadyH.nil
                go_simp
                refine (rfar_any (d y) p _ _ _ _ (unhide HFy) _).mono ?_
                rintro e wa ⟨rfl, hbq⟩
                replace hbc := btrans hbc hbq
                clear hbq
                refine hK.out _ _ (hbc) (fun _ => ?_)
                clear hK K
                refine wpAnyH_ready (rs := [9]) (by kernel_rfl) (by simp) ?_
                refine AllReadyH.cons (o := _) g21_9 (fun K hK => ?_) AllReadyH.nil
                go_simp
                refine (rfar_any (d x) p _ _ _ _ (unhide HFx) _).mono ?_
                rintro e wb ⟨rfl, hbq⟩
                replace hbc := btrans hbc hbq
                clear hbq
                refine hK.out _ _ (hbc) (fun _ => ?_)
                clear hK K
                refine wpAnyH_take (i := 10) (oi := _) (v := .bool true) g21_10 (by kernel_rfl) (by kernel_rfl) (by kernel_rfl) (fun _ _ _ h => h) (Or.inl ⟨by rfl, ?_⟩) (by assumption) ?_
                · intro V hSw
                  try dsimp only at hSw
                  go_simp
                simp only [Act.put, List.setIfInBounds_toArray, List.set_cons_zero, List.set_cons_succ]
                refine wpAnyH_take (i := 11) (oi := _) (v := .bool true) g21_11 (by kernel_rfl) (by kernel_rfl) (by kernel_rfl) (fun _ _ _ h => h) (Or.inl ⟨by rfl, ?_⟩) (by assumption) ?_
                · intro V hSw
                  try dsimp only at hSw
                  go_simp
                simp only [Act.put, List.setIfInBounds_toArray, List.set_cons_zero, List.set_cons_succ]
                refine wpAnyH_take (i := 12) (oi := _) (v := .bool true) g21_12 (by kernel_rfl) (by kernel_rfl) (by kernel_rfl) (fun _ _ _ h => h) (Or.inl ⟨by rfl, ?_⟩) (by assumption) ?_
                · intro V hSw
                  try dsimp only at hSw
                  go_simp
                simp only [Act.put, List.setIfInBounds_toArray, List.set_cons_zero, List.set_cons_succ]
                refine wpAnyH_take (i := 13) (oi := _) (v := undef) g21_13 (by kernel_rfl) (by kernel_rfl) (by kernel_rfl) (fun _ _ _ h => h) (Or.inr ⟨by rfl, rfl⟩) (by assumption) ?_
                simp only [Act.put, List.setIfInBounds_toArray, List.set_cons_zero, List.set_cons_succ]
                refine wpAnyH_take (i := 14) (oi := _) (v := undef) g21_14 (by kernel_rfl) (by kernel_rfl) (by kernel_rfl) (fun _ _ _ h => h) (Or.inr ⟨by rfl, rfl⟩) (by assumption) ?_
                simp only [Act.put, List.setIfInBounds_toArray, List.set_cons_zero, List.set_cons_succ]
                refine wpAnyH_take (i := 15) (oi := _) (v := undef) g21_15 (by kernel_rfl) (by kernel_rfl) (by kernel_rfl) (fun _ _ _ h => h) (Or.inr ⟨by rfl, rfl⟩) (by assumption) ?_
                simp only [Act.put, List.setIfInBounds_toArray, List.set_cons_zero, List.set_cons_succ]
                refine wpAnyH_take (i := 16) (oi := _) (v := undef) g21_16 (by kernel_rfl) (by kernel_rfl) (by kernel_rfl) (fun _ _ _ h => h) (Or.inr ⟨by rfl, rfl⟩) (by assumption) ?_
                simp only [Act.put, List.setIfInBounds_toArray, List.set_cons_zero, List.set_cons_succ]
                refine wpAnyH_take (i := 17) (oi := _) (v := undef) g21_17 (by kernel_rfl) (by kernel_rfl) (by kernel_rfl) (fun _ _ _ h => h) (Or.inr ⟨by rfl, rfl⟩) (by assumption) ?_
                simp only [Act.put, List.setIfInBounds_toArray, List.set_cons_zero, List.set_cons_succ]
                refine wpAnyH_take (i := 18) (oi := _) (v := undef) g21_18 (by kernel_rfl) (by kernel_rfl) (by kernel_rfl) (fun _ _ _ h => h) (Or.inr ⟨by rfl, rfl⟩) (by assumption) ?_
                simp only [Act.put, List.setIfInBounds_toArray, List.set_cons_zero, List.set_cons_succ]
                refine wpAnyH_take (i := 19) (oi := _) (v := undef) g21_19 (by kernel_rfl) (by kernel_rfl) (by kernel_rfl) (fun _ _ _ h => h) (Or.inr ⟨by rfl, rfl⟩) (by assumption) ?_
                simp only [Act.put, List.setIfInBounds_toArray, List.set_cons_zero, List.set_cons_succ]
                refine wpAnyH_take (i := 20) (oi := _) (v := .bool true) g21_20 (by kernel_rfl) (by kernel_rfl) (by kernel_rfl) (fun _ _ _ h => h) (Or.inl ⟨by rfl, ?_⟩) (by assumption) ?_
                · intro V hSw
                  try dsimp only at hSw
                  go_simp
                simp only [Act.put, List.setIfInBounds_toArray, List.set_cons_zero, List.set_cons_succ]
                refine wpAnyH_done (by kernel_rfl) ?_ _
                refine NoPanic.normal ?_
                have HG9 := hide (hG9.keep hbc)
                have HG3 := hide (hG3.keep hbc)
                have Hbn := hide (btrans hb5 hbc)
                clear hG9 hG12 hG3 hb5 hbc HFx HFy
                go_wp2
                go_roundw
                case rel => exact ⟨y + 1, by omega, by go_num, by rw [show bst (fv d p) x (y + 1) = false by rw [bst, unhide Hbt]; simp], unhide HG9, unhide HG3, unhide Hbn⟩
                case measure => simp [intOf]; omega
              · skip
                have Hbt := hide (show bt (fv d p) x y = false by unfold bt; rw [decide_eq_false (show ¬ fv d p y ≤ fv d p x by omega), decide_eq_false (show ¬ fv d p y < fv d p x by omega)]; simp)
                clear hl
                refine wp_region_noPanic ?_
                refine wp_region_held_drew (S := fun V => Below w5.drew.heap.size w5.drew V) (by kernel_rfl) (Below.refl _ _) ?_
                intro _
                replace hG9 := hG9.keep (bdrew w5)
                replace hG12 := hG12.keep (bdrew w5)
                replace hG3 := hG3.keep (bdrew w5)
                have hb5 := btrans (unhide Hb5) (bdrew w5)
                clear Hb5
                generalize w5.drew = w8 at *
                have hbc : Below w8.heap.size w8 w8 := Below.refl _ _
                refine wpAnyH_take (i := 0) (oi := _) (v := .int .i64 (y : Int)) g21_0 (by kernel_rfl) (by kernel_rfl) (by kernel_rfl) (fun _ _ _ h => h) (Or.inl ⟨by rfl, ?_⟩) (by assumption) ?_
                · intro V hSw
                  try dsimp only at hSw
                  go_simp
                simp only [Act.put, List.setIfInBounds_toArray, List.set_cons_zero, List.set_cons_succ]
                refine wpAnyH_take (i := 1) (oi := _) (v := .int .i64 (x : Int)) g21_1 (by kernel_rfl) (by kernel_rfl) (by kernel_rfl) (fun _ _ _ h => h) (Or.inl ⟨by rfl, ?_⟩) (by assumption) ?_
                · intro V hSw
                  try dsimp only at hSw
                  go_simp
                simp only [Act.put, List.setIfInBounds_toArray, List.set_cons_zero, List.set_cons_succ]
                refine wpAnyH_take (i := 2) (oi := _) (v := .bool true) g21_2 (by kernel_rfl) (by kernel_rfl) (by kernel_rfl) (fun _ _ _ h => h) (Or.inl ⟨by rfl, ?_⟩) (by assumption) ?_
                · intro V hSw
                  try dsimp only at hSw
                  go_simp
                simp only [Act.put, List.setIfInBounds_toArray, List.set_cons_zero, List.set_cons_succ]
                refine wpAnyH_take (i := 3) (oi := _) (v := .bool true) g21_3 (by kernel_rfl) (by kernel_rfl) (by kernel_rfl) (fun _ _ _ h => h) (Or.inl ⟨by rfl, ?_⟩) (by assumption) ?_
                · intro V hSw
                  try dsimp only at hSw
                  go_simp
                simp only [Act.put, List.setIfInBounds_toArray, List.set_cons_zero, List.set_cons_succ]
                refine wpAnyH_take (i := 4) (oi := _) (v := .agg #[.float .f64 (d y 0), .float .f64 (d y 1), .float .f64 (d y 2)]) g21_4 (by kernel_rfl) (by kernel_rfl) (by kernel_rfl) (fun _ _ _ h => h) (Or.inl ⟨by rfl, ?_⟩) (by assumption) ?_
                · intro V hSw
                  try dsimp only at hSw
                  have hG := (hG12).keep hSw
                  have g0 := (hG.2 0 (by omega)).1
                  have g1 := (hG.2 1 (by omega)).1
                  have g2 := (hG.2 2 (by omega)).1
                  go_simp
                simp only [Act.put, List.setIfInBounds_toArray, List.set_cons_zero, List.set_cons_succ]
                refine wpAnyH_take (i := 5) (oi := _) (v := .agg #[.float .f64 (p 0), .float .f64 (p 1), .float .f64 (p 2)]) g21_5 (by kernel_rfl) (by kernel_rfl) (by kernel_rfl) (fun _ _ _ h => h) (Or.inl ⟨by rfl, ?_⟩) (by assumption) ?_
                · intro V hSw
                  try dsimp only at hSw
                  have hG := (hG3).keep hSw
                  have g0 := (hG.2 0 (by omega)).1
                  have g1 := (hG.2 1 (by omega)).1
                  have g2 := (hG.2 2 (by omega)).1
                  go_simp
                simp only [Act.put, List.setIfInBounds_toArray, List.set_cons_zero, List.set_cons_succ]
                refine wpAnyH_take (i := 7) (oi := _) (v := .agg #[.float .f64 (d x 0), .float .f64 (d x 1), .float .f64 (d x 2)]) g21_7 (by kernel_rfl) (by kernel_rfl) (by kernel_rfl) (fun _ _ _ h => h) (Or.inl ⟨by rfl, ?_⟩) (by assumption) ?_
                · intro V hSw
                  try dsimp only at hSw
                  have hG := (hG9).keep hSw
                  have g0 := (hG.2 0 (by omega)).1
                  have g1 := (hG.2 1 (by omega)).1
                  have g2 := (hG.2 2 (by omega)).1
                  go_simp
                simp only [Act.put, List.setIfInBounds_toArray, List.set_cons_zero, List.set_cons_succ]
                refine wpAnyH_take (i := 8) (oi := _) (v := .agg #[.float .f64 (p 0), .float .f64 (p 1), .float .f64 (p 2)]) g21_8 (by kernel_rfl) (by kernel_rfl) (by kernel_rfl) (fun _ _ _ h => h) (Or.inl ⟨by rfl, ?_⟩) (by assumption) ?_
                · intro V hSw
                  try dsimp only at hSw
                  have hG := (hG3).keep hSw
                  have g0 := (hG.2 0 (by omega)).1
                  have g1 := (hG.2 1 (by omega)).1
                  have g2 := (hG.2 2 (by omega)).1
                  go_simp
                simp only [Act.put, List.setIfInBounds_toArray, List.set_cons_zero, List.set_cons_succ]
                refine wpAnyH_ready (rs := [6]) (by kernel_rfl) (by simp) ?_
                refine AllReadyH.cons (o := _) g21_6 (fun K hK => ?_) AllReadyH.nil
                go_simp
                refine (rfar_any (d y) p _ _ _ _ (unhide HFy) _).mono ?_
                rintro e wa ⟨rfl, hbq⟩
                replace hbc := btrans hbc hbq
                clear hbq
                refine hK.out _ _ (hbc) (fun _ => ?_)
                clear hK K
                refine wpAnyH_ready (rs := [9]) (by kernel_rfl) (by simp) ?_
                refine AllReadyH.cons (o := _) g21_9 (fun K hK => ?_) AllReadyH.nil
                go_simp
                refine (rfar_any (d x) p _ _ _ _ (unhide HFx) _).mono ?_
                rintro e wb ⟨rfl, hbq⟩
                replace hbc := btrans hbc hbq
                clear hbq
                refine hK.out _ _ (hbc) (fun _ => ?_)
                clear hK K
                refine wpAnyH_take (i := 10) (oi := _) (v := .bool false) g21_10 (by kernel_rfl) (by kernel_rfl) (by kernel_rfl) (fun _ _ _ h => h) (Or.inl ⟨by rfl, ?_⟩) (by assumption) ?_
                · intro V hSw
                  try dsimp only at hSw
                  go_simp
                simp only [Act.put, List.setIfInBounds_toArray, List.set_cons_zero, List.set_cons_succ]
                refine wpAnyH_take (i := 11) (oi := _) (v := .bool false) g21_11 (by kernel_rfl) (by kernel_rfl) (by kernel_rfl) (fun _ _ _ h => h) (Or.inl ⟨by rfl, ?_⟩) (by assumption) ?_
                · intro V hSw
                  try dsimp only at hSw
                  go_simp
                simp only [Act.put, List.setIfInBounds_toArray, List.set_cons_zero, List.set_cons_succ]
                refine wpAnyH_take (i := 12) (oi := _) (v := .bool false) g21_12 (by kernel_rfl) (by kernel_rfl) (by kernel_rfl) (fun _ _ _ h => h) (Or.inl ⟨by rfl, ?_⟩) (by assumption) ?_
                · intro V hSw
                  try dsimp only at hSw
                  go_simp
                simp only [Act.put, List.setIfInBounds_toArray, List.set_cons_zero, List.set_cons_succ]
                refine wpAnyH_take (i := 13) (oi := _) (v := .agg #[.float .f64 (d y 0), .float .f64 (d y 1), .float .f64 (d y 2)]) g21_13 (by kernel_rfl) (by kernel_rfl) (by kernel_rfl) (fun _ _ _ h => h) (Or.inl ⟨by rfl, ?_⟩) (by assumption) ?_
                · intro V hSw
                  try dsimp only at hSw
                  have hG := (hG12).keep hSw
                  have g0 := (hG.2 0 (by omega)).1
                  have g1 := (hG.2 1 (by omega)).1
                  have g2 := (hG.2 2 (by omega)).1
                  go_simp
                simp only [Act.put, List.setIfInBounds_toArray, List.set_cons_zero, List.set_cons_succ]
                refine wpAnyH_take (i := 14) (oi := _) (v := .agg #[.float .f64 (p 0), .float .f64 (p 1), .float .f64 (p 2)]) g21_14 (by kernel_rfl) (by kernel_rfl) (by kernel_rfl) (fun _ _ _ h => h) (Or.inl ⟨by rfl, ?_⟩) (by assumption) ?_
                · intro V hSw
                  try dsimp only at hSw
                  have hG := (hG3).keep hSw
                  have g0 := (hG.2 0 (by omega)).1
                  have g1 := (hG.2 1 (by omega)).1
                  have g2 := (hG.2 2 (by omega)).1
                  go_simp
                simp only [Act.put, List.setIfInBounds_toArray, List.set_cons_zero, List.set_cons_succ]
                refine wpAnyH_take (i := 16) (oi := _) (v := .agg #[.float .f64 (d x 0), .float .f64 (d x 1), .float .f64 (d x 2)]) g21_16 (by kernel_rfl) (by kernel_rfl) (by kernel_rfl) (fun _ _ _ h => h) (Or.inl ⟨by rfl, ?_⟩) (by assumption) ?_
                · intro V hSw
                  try dsimp only at hSw
                  have hG := (hG9).keep hSw
                  have g0 := (hG.2 0 (by omega)).1
                  have g1 := (hG.2 1 (by omega)).1
                  have g2 := (hG.2 2 (by omega)).1
                  go_simp
                simp only [Act.put, List.setIfInBounds_toArray, List.set_cons_zero, List.set_cons_succ]
                refine wpAnyH_take (i := 17) (oi := _) (v := .agg #[.float .f64 (p 0), .float .f64 (p 1), .float .f64 (p 2)]) g21_17 (by kernel_rfl) (by kernel_rfl) (by kernel_rfl) (fun _ _ _ h => h) (Or.inl ⟨by rfl, ?_⟩) (by assumption) ?_
                · intro V hSw
                  try dsimp only at hSw
                  have hG := (hG3).keep hSw
                  have g0 := (hG.2 0 (by omega)).1
                  have g1 := (hG.2 1 (by omega)).1
                  have g2 := (hG.2 2 (by omega)).1
                  go_simp
                simp only [Act.put, List.setIfInBounds_toArray, List.set_cons_zero, List.set_cons_succ]
                refine wpAnyH_ready (rs := [15]) (by kernel_rfl) (by simp) ?_
                refine AllReadyH.cons (o := _) g21_15 (fun K hK => ?_) AllReadyH.nil
                go_simp
                refine (rfar_any (d y) p _ _ _ _ (unhide HFy) _).mono ?_
                rintro e wc ⟨rfl, hbq⟩
                replace hbc := btrans hbc hbq
                clear hbq
                refine hK.out _ _ (hbc) (fun _ => ?_)
                clear hK K
                refine wpAnyH_ready (rs := [18]) (by kernel_rfl) (by simp) ?_
                refine AllReadyH.cons (o := _) g21_18 (fun K hK => ?_) AllReadyH.nil
                go_simp
                refine (rfar_any (d x) p _ _ _ _ (unhide HFx) _).mono ?_
                rintro e wd ⟨rfl, hbq⟩
                replace hbc := btrans hbc hbq
                clear hbq
                refine hK.out _ _ (hbc) (fun _ => ?_)
                clear hK K
                refine wpAnyH_take (i := 19) (oi := _) (v := .bool false) g21_19 (by kernel_rfl) (by kernel_rfl) (by kernel_rfl) (fun _ _ _ h => h) (Or.inl ⟨by rfl, ?_⟩) (by assumption) ?_
                · intro V hSw
                  try dsimp only at hSw
                  go_simp
                simp only [Act.put, List.setIfInBounds_toArray, List.set_cons_zero, List.set_cons_succ]
                refine wpAnyH_take (i := 20) (oi := _) (v := .bool false) g21_20 (by kernel_rfl) (by kernel_rfl) (by kernel_rfl) (fun _ _ _ h => h) (Or.inl ⟨by rfl, ?_⟩) (by assumption) ?_
                · intro V hSw
                  try dsimp only at hSw
                  go_simp
                simp only [Act.put, List.setIfInBounds_toArray, List.set_cons_zero, List.set_cons_succ]
                refine wpAnyH_done (by kernel_rfl) ?_ _
                refine NoPanic.normal ?_
                have HG9 := hide (hG9.keep hbc)
                have HG3 := hide (hG3.keep hbc)
                have Hbn := hide (btrans hb5 hbc)
                clear hG9 hG12 hG3 hb5 hbc HFx HFy
                go_wp2
                go_roundw
                case rel => exact ⟨y + 1, by omega, by go_num, by rw [show bst (fv d p) x (y + 1) = bst (fv d p) x y by rw [bst, unhide Hbt]; simp], unhide HG9, unhide HG3, unhide Hbn⟩
                case measure => simp [intOf]; omega
            · have cy : ¬ (y : Int) < (x : Int) := by omega
              have cy' : decide ((y : Int) < (x : Int)) = false := decide_eq_false cy
              rcases ho3 with ⟨ho, hl⟩ | ⟨ho, hl⟩ | ⟨ho, hl⟩
              · skip
                have Hbt := hide (show bt (fv d p) x y = true by unfold bt; rw [decide_eq_true hl]; simp)
                clear hl
                refine wp_region_noPanic ?_
                refine wp_region_held_drew (S := fun V => Below w5.drew.heap.size w5.drew V) (by kernel_rfl) (Below.refl _ _) ?_
                intro _
                replace hG9 := hG9.keep (bdrew w5)
                replace hG12 := hG12.keep (bdrew w5)
                replace hG3 := hG3.keep (bdrew w5)
                have hb5 := btrans (unhide Hb5) (bdrew w5)
                clear Hb5
                generalize w5.drew = w8 at *
                have hbc : Below w8.heap.size w8 w8 := Below.refl _ _
                refine wpAnyH_take (i := 0) (oi := _) (v := .int .i64 (y : Int)) g21_0 (by kernel_rfl) (by kernel_rfl) (by kernel_rfl) (fun _ _ _ h => h) (Or.inl ⟨by rfl, ?_⟩) (by assumption) ?_
                · intro V hSw
                  try dsimp only at hSw
                  go_simp
                simp only [Act.put, List.setIfInBounds_toArray, List.set_cons_zero, List.set_cons_succ]
                refine wpAnyH_take (i := 1) (oi := _) (v := .int .i64 (x : Int)) g21_1 (by kernel_rfl) (by kernel_rfl) (by kernel_rfl) (fun _ _ _ h => h) (Or.inl ⟨by rfl, ?_⟩) (by assumption) ?_
                · intro V hSw
                  try dsimp only at hSw
                  go_simp
                simp only [Act.put, List.setIfInBounds_toArray, List.set_cons_zero, List.set_cons_succ]
                refine wpAnyH_take (i := 2) (oi := _) (v := .bool false) g21_2 (by kernel_rfl) (by kernel_rfl) (by kernel_rfl) (fun _ _ _ h => h) (Or.inl ⟨by rfl, ?_⟩) (by assumption) ?_
                · intro V hSw
                  try dsimp only at hSw
                  go_simp
                simp only [Act.put, List.setIfInBounds_toArray, List.set_cons_zero, List.set_cons_succ]
                refine wpAnyH_take (i := 3) (oi := _) (v := .bool false) g21_3 (by kernel_rfl) (by kernel_rfl) (by kernel_rfl) (fun _ _ _ h => h) (Or.inl ⟨by rfl, ?_⟩) (by assumption) ?_
                · intro V hSw
                  try dsimp only at hSw
                  go_simp
                simp only [Act.put, List.setIfInBounds_toArray, List.set_cons_zero, List.set_cons_succ]
                refine wpAnyH_take (i := 4) (oi := _) (v := undef) g21_4 (by kernel_rfl) (by kernel_rfl) (by kernel_rfl) (fun _ _ _ h => h) (Or.inr ⟨by rfl, rfl⟩) (by assumption) ?_
                simp only [Act.put, List.setIfInBounds_toArray, List.set_cons_zero, List.set_cons_succ]
                refine wpAnyH_take (i := 5) (oi := _) (v := undef) g21_5 (by kernel_rfl) (by kernel_rfl) (by kernel_rfl) (fun _ _ _ h => h) (Or.inr ⟨by rfl, rfl⟩) (by assumption) ?_
                simp only [Act.put, List.setIfInBounds_toArray, List.set_cons_zero, List.set_cons_succ]
                refine wpAnyH_take (i := 6) (oi := _) (v := undef) g21_6 (by kernel_rfl) (by kernel_rfl) (by kernel_rfl) (fun _ _ _ h => h) (Or.inr ⟨by rfl, rfl⟩) (by assumption) ?_
                simp only [Act.put, List.setIfInBounds_toArray, List.set_cons_zero, List.set_cons_succ]
                refine wpAnyH_take (i := 7) (oi := _) (v := undef) g21_7 (by kernel_rfl) (by kernel_rfl) (by kernel_rfl) (fun _ _ _ h => h) (Or.inr ⟨by rfl, rfl⟩) (by assumption) ?_
                simp only [Act.put, List.setIfInBounds_toArray, List.set_cons_zero, List.set_cons_succ]
                refine wpAnyH_take (i := 8) (oi := _) (v := undef) g21_8 (by kernel_rfl) (by kernel_rfl) (by kernel_rfl) (fun _ _ _ h => h) (Or.inr ⟨by rfl, rfl⟩) (by assumption) ?_
                simp only [Act.put, List.setIfInBounds_toArray, List.set_cons_zero, List.set_cons_succ]
                refine wpAnyH_take (i := 9) (oi := _) (v := undef) g21_9 (by kernel_rfl) (by kernel_rfl) (by kernel_rfl) (fun _ _ _ h => h) (Or.inr ⟨by rfl, rfl⟩) (by assumption) ?_
                simp only [Act.put, List.setIfInBounds_toArray, List.set_cons_zero, List.set_cons_succ]
                refine wpAnyH_take (i := 10) (oi := _) (v := undef) g21_10 (by kernel_rfl) (by kernel_rfl) (by kernel_rfl) (fun _ _ _ h => h) (Or.inr ⟨by rfl, rfl⟩) (by assumption) ?_
                simp only [Act.put, List.setIfInBounds_toArray, List.set_cons_zero, List.set_cons_succ]
                refine wpAnyH_take (i := 11) (oi := _) (v := .bool false) g21_11 (by kernel_rfl) (by kernel_rfl) (by kernel_rfl) (fun _ _ _ h => h) (Or.inl ⟨by rfl, ?_⟩) (by assumption) ?_
                · intro V hSw
                  try dsimp only at hSw
                  go_simp
                simp only [Act.put, List.setIfInBounds_toArray, List.set_cons_zero, List.set_cons_succ]
                refine wpAnyH_take (i := 12) (oi := _) (v := .bool false) g21_12 (by kernel_rfl) (by kernel_rfl) (by kernel_rfl) (fun _ _ _ h => h) (Or.inl ⟨by rfl, ?_⟩) (by assumption) ?_
                · intro V hSw
                  try dsimp only at hSw
                  go_simp
                simp only [Act.put, List.setIfInBounds_toArray, List.set_cons_zero, List.set_cons_succ]
                refine wpAnyH_take (i := 13) (oi := _) (v := .agg #[.float .f64 (d y 0), .float .f64 (d y 1), .float .f64 (d y 2)]) g21_13 (by kernel_rfl) (by kernel_rfl) (by kernel_rfl) (fun _ _ _ h => h) (Or.inl ⟨by rfl, ?_⟩) (by assumption) ?_
                · intro V hSw
                  try dsimp only at hSw
                  have hG := (hG12).keep hSw
                  have g0 := (hG.2 0 (by omega)).1
                  have g1 := (hG.2 1 (by omega)).1
                  have g2 := (hG.2 2 (by omega)).1
                  go_simp
                simp only [Act.put, List.setIfInBounds_toArray, List.set_cons_zero, List.set_cons_succ]
                refine wpAnyH_take (i := 14) (oi := _) (v := .agg #[.float .f64 (p 0), .float .f64 (p 1), .float .f64 (p 2)]) g21_14 (by kernel_rfl) (by kernel_rfl) (by kernel_rfl) (fun _ _ _ h => h) (Or.inl ⟨by rfl, ?_⟩) (by assumption) ?_
                · intro V hSw
                  try dsimp only at hSw
                  have hG := (hG3).keep hSw
                  have g0 := (hG.2 0 (by omega)).1
                  have g1 := (hG.2 1 (by omega)).1
                  have g2 := (hG.2 2 (by omega)).1
                  go_simp
                simp only [Act.put, List.setIfInBounds_toArray, List.set_cons_zero, List.set_cons_succ]
                refine wpAnyH_take (i := 16) (oi := _) (v := .agg #[.float .f64 (d x 0), .float .f64 (d x 1), .float .f64 (d x 2)]) g21_16 (by kernel_rfl) (by kernel_rfl) (by kernel_rfl) (fun _ _ _ h => h) (Or.inl ⟨by rfl, ?_⟩) (by assumption) ?_
                · intro V hSw
                  try dsimp only at hSw
                  have hG := (hG9).keep hSw
                  have g0 := (hG.2 0 (by omega)).1
                  have g1 := (hG.2 1 (by omega)).1
                  have g2 := (hG.2 2 (by omega)).1
                  go_simp
                simp only [Act.put, List.setIfInBounds_toArray, List.set_cons_zero, List.set_cons_succ]
                refine wpAnyH_take (i := 17) (oi := _) (v := .agg #[.float .f64 (p 0), .float .f64 (p 1), .float .f64 (p 2)]) g21_17 (by kernel_rfl) (by kernel_rfl) (by kernel_rfl) (fun _ _ _ h => h) (Or.inl ⟨by rfl, ?_⟩) (by assumption) ?_
                · intro V hSw
                  try dsimp only at hSw
                  have hG := (hG3).keep hSw
                  have g0 := (hG.2 0 (by omega)).1
                  have g1 := (hG.2 1 (by omega)).1
                  have g2 := (hG.2 2 (by omega)).1
                  go_simp
                simp only [Act.put, List.setIfInBounds_toArray, List.set_cons_zero, List.set_cons_succ]
                refine wpAnyH_ready (rs := [15]) (by kernel_rfl) (by simp) ?_
                refine AllReadyH.cons (o := _) g21_15 (fun K hK => ?_) AllReadyH.nil
                go_simp
                refine (rfar_any (d y) p _ _ _ _ (unhide HFy) _).mono ?_
                rintro e wc ⟨rfl, hbq⟩
                replace hbc := btrans hbc hbq
                clear hbq
                refine hK.out _ _ (hbc) (fun _ => ?_)
                clear hK K
                refine wpAnyH_ready (rs := [18]) (by kernel_rfl) (by simp) ?_
                refine AllReadyH.cons (o := _) g21_18 (fun K hK => ?_) AllReadyH.nil
                go_simp
                refine (rfar_any (d x) p _ _ _ _ (unhide HFx) _).mono ?_
                rintro e wd ⟨rfl, hbq⟩
                replace hbc := btrans hbc hbq
                clear hbq
                refine hK.out _ _ (hbc) (fun _ => ?_)
                clear hK K
                refine wpAnyH_take (i := 19) (oi := _) (v := .bool true) g21_19 (by kernel_rfl) (by kernel_rfl) (by kernel_rfl) (fun _ _ _ h => h) (Or.inl ⟨by rfl, ?_⟩) (by assumption) ?_
                · intro V hSw
                  try dsimp only at hSw
                  go_simp
                simp only [Act.put, List.setIfInBounds_toArray, List.set_cons_zero, List.set_cons_succ]
                refine wpAnyH_take (i := 20) (oi := _) (v := .bool true) g21_20 (by kernel_rfl) (by kernel_rfl) (by kernel_rfl) (fun _ _ _ h => h) (Or.inl ⟨by rfl, ?_⟩) (by assumption) ?_
                · intro V hSw
                  try dsimp only at hSw
                  go_simp
                simp only [Act.put, List.setIfInBounds_toArray, List.set_cons_zero, List.set_cons_succ]
                refine wpAnyH_done (by kernel_rfl) ?_ _
                refine NoPanic.normal ?_
                have HG9 := hide (hG9.keep hbc)
                have HG3 := hide (hG3.keep hbc)
                have Hbn := hide (btrans hb5 hbc)
                clear hG9 hG12 hG3 hb5 hbc HFx HFy
                go_wp2
                go_roundw
                case rel => exact ⟨y + 1, by omega, by go_num, by rw [show bst (fv d p) x (y + 1) = false by rw [bst, unhide Hbt]; simp], unhide HG9, unhide HG3, unhide Hbn⟩
                case measure => simp [intOf]; omega
              · skip
                have Hbt := hide (show bt (fv d p) x y = false by unfold bt; rw [decide_eq_false hyx, decide_eq_false (show ¬ fv d p y < fv d p x by omega)]; simp)
                clear hl
                refine wp_region_noPanic ?_
                refine wp_region_held_drew (S := fun V => Below w5.drew.heap.size w5.drew V) (by kernel_rfl) (Below.refl _ _) ?_
                intro _
                replace hG9 := hG9.keep (bdrew w5)
                replace hG12 := hG12.keep (bdrew w5)
                replace hG3 := hG3.keep (bdrew w5)
                have hb5 := btrans (unhide Hb5) (bdrew w5)
                clear Hb5
                generalize w5.drew = w8 at *
                have hbc : Below w8.heap.size w8 w8 := Below.refl _ _
                refine wpAnyH_take (i := 0) (oi := _) (v := .int .i64 (y : Int)) g21_0 (by kernel_rfl) (by kernel_rfl) (by kernel_rfl) (fun _ _ _ h => h) (Or.inl ⟨by rfl, ?_⟩) (by assumption) ?_
                · intro V hSw
                  try dsimp only at hSw
                  go_simp
                simp only [Act.put, List.setIfInBounds_toArray, List.set_cons_zero, List.set_cons_succ]
                refine wpAnyH_take (i := 1) (oi := _) (v := .int .i64 (x : Int)) g21_1 (by kernel_rfl) (by kernel_rfl) (by kernel_rfl) (fun _ _ _ h => h) (Or.inl ⟨by rfl, ?_⟩) (by assumption) ?_
                · intro V hSw
                  try dsimp only at hSw
                  go_simp
                simp only [Act.put, List.setIfInBounds_toArray, List.set_cons_zero, List.set_cons_succ]
                refine wpAnyH_take (i := 2) (oi := _) (v := .bool false) g21_2 (by kernel_rfl) (by kernel_rfl) (by kernel_rfl) (fun _ _ _ h => h) (Or.inl ⟨by rfl, ?_⟩) (by assumption) ?_
                · intro V hSw
                  try dsimp only at hSw
                  go_simp
                simp only [Act.put, List.setIfInBounds_toArray, List.set_cons_zero, List.set_cons_succ]
                refine wpAnyH_take (i := 3) (oi := _) (v := .bool false) g21_3 (by kernel_rfl) (by kernel_rfl) (by kernel_rfl) (fun _ _ _ h => h) (Or.inl ⟨by rfl, ?_⟩) (by assumption) ?_
                · intro V hSw
                  try dsimp only at hSw
                  go_simp
                simp only [Act.put, List.setIfInBounds_toArray, List.set_cons_zero, List.set_cons_succ]
                refine wpAnyH_take (i := 4) (oi := _) (v := undef) g21_4 (by kernel_rfl) (by kernel_rfl) (by kernel_rfl) (fun _ _ _ h => h) (Or.inr ⟨by rfl, rfl⟩) (by assumption) ?_
                simp only [Act.put, List.setIfInBounds_toArray, List.set_cons_zero, List.set_cons_succ]
                refine wpAnyH_take (i := 5) (oi := _) (v := undef) g21_5 (by kernel_rfl) (by kernel_rfl) (by kernel_rfl) (fun _ _ _ h => h) (Or.inr ⟨by rfl, rfl⟩) (by assumption) ?_
                simp only [Act.put, List.setIfInBounds_toArray, List.set_cons_zero, List.set_cons_succ]
                refine wpAnyH_take (i := 6) (oi := _) (v := undef) g21_6 (by kernel_rfl) (by kernel_rfl) (by kernel_rfl) (fun _ _ _ h => h) (Or.inr ⟨by rfl, rfl⟩) (by assumption) ?_
                simp only [Act.put, List.setIfInBounds_toArray, List.set_cons_zero, List.set_cons_succ]
                refine wpAnyH_take (i := 7) (oi := _) (v := undef) g21_7 (by kernel_rfl) (by kernel_rfl) (by kernel_rfl) (fun _ _ _ h => h) (Or.inr ⟨by rfl, rfl⟩) (by assumption) ?_
                simp only [Act.put, List.setIfInBounds_toArray, List.set_cons_zero, List.set_cons_succ]
                refine wpAnyH_take (i := 8) (oi := _) (v := undef) g21_8 (by kernel_rfl) (by kernel_rfl) (by kernel_rfl) (fun _ _ _ h => h) (Or.inr ⟨by rfl, rfl⟩) (by assumption) ?_
                simp only [Act.put, List.setIfInBounds_toArray, List.set_cons_zero, List.set_cons_succ]
                refine wpAnyH_take (i := 9) (oi := _) (v := undef) g21_9 (by kernel_rfl) (by kernel_rfl) (by kernel_rfl) (fun _ _ _ h => h) (Or.inr ⟨by rfl, rfl⟩) (by assumption) ?_
                simp only [Act.put, List.setIfInBounds_toArray, List.set_cons_zero, List.set_cons_succ]
                refine wpAnyH_take (i := 10) (oi := _) (v := undef) g21_10 (by kernel_rfl) (by kernel_rfl) (by kernel_rfl) (fun _ _ _ h => h) (Or.inr ⟨by rfl, rfl⟩) (by assumption) ?_
                simp only [Act.put, List.setIfInBounds_toArray, List.set_cons_zero, List.set_cons_succ]
                refine wpAnyH_take (i := 11) (oi := _) (v := .bool false) g21_11 (by kernel_rfl) (by kernel_rfl) (by kernel_rfl) (fun _ _ _ h => h) (Or.inl ⟨by rfl, ?_⟩) (by assumption) ?_
                · intro V hSw
                  try dsimp only at hSw
                  go_simp
                simp only [Act.put, List.setIfInBounds_toArray, List.set_cons_zero, List.set_cons_succ]
                refine wpAnyH_take (i := 12) (oi := _) (v := .bool false) g21_12 (by kernel_rfl) (by kernel_rfl) (by kernel_rfl) (fun _ _ _ h => h) (Or.inl ⟨by rfl, ?_⟩) (by assumption) ?_
                · intro V hSw
                  try dsimp only at hSw
                  go_simp
                simp only [Act.put, List.setIfInBounds_toArray, List.set_cons_zero, List.set_cons_succ]
                refine wpAnyH_take (i := 13) (oi := _) (v := .agg #[.float .f64 (d y 0), .float .f64 (d y 1), .float .f64 (d y 2)]) g21_13 (by kernel_rfl) (by kernel_rfl) (by kernel_rfl) (fun _ _ _ h => h) (Or.inl ⟨by rfl, ?_⟩) (by assumption) ?_
                · intro V hSw
                  try dsimp only at hSw
                  have hG := (hG12).keep hSw
                  have g0 := (hG.2 0 (by omega)).1
                  have g1 := (hG.2 1 (by omega)).1
                  have g2 := (hG.2 2 (by omega)).1
                  go_simp
                simp only [Act.put, List.setIfInBounds_toArray, List.set_cons_zero, List.set_cons_succ]
                refine wpAnyH_take (i := 14) (oi := _) (v := .agg #[.float .f64 (p 0), .float .f64 (p 1), .float .f64 (p 2)]) g21_14 (by kernel_rfl) (by kernel_rfl) (by kernel_rfl) (fun _ _ _ h => h) (Or.inl ⟨by rfl, ?_⟩) (by assumption) ?_
                · intro V hSw
                  try dsimp only at hSw
                  have hG := (hG3).keep hSw
                  have g0 := (hG.2 0 (by omega)).1
                  have g1 := (hG.2 1 (by omega)).1
                  have g2 := (hG.2 2 (by omega)).1
                  go_simp
                simp only [Act.put, List.setIfInBounds_toArray, List.set_cons_zero, List.set_cons_succ]
                refine wpAnyH_take (i := 16) (oi := _) (v := .agg #[.float .f64 (d x 0), .float .f64 (d x 1), .float .f64 (d x 2)]) g21_16 (by kernel_rfl) (by kernel_rfl) (by kernel_rfl) (fun _ _ _ h => h) (Or.inl ⟨by rfl, ?_⟩) (by assumption) ?_
                · intro V hSw
                  try dsimp only at hSw
                  have hG := (hG9).keep hSw
                  have g0 := (hG.2 0 (by omega)).1
                  have g1 := (hG.2 1 (by omega)).1
                  have g2 := (hG.2 2 (by omega)).1
                  go_simp
                simp only [Act.put, List.setIfInBounds_toArray, List.set_cons_zero, List.set_cons_succ]
                refine wpAnyH_take (i := 17) (oi := _) (v := .agg #[.float .f64 (p 0), .float .f64 (p 1), .float .f64 (p 2)]) g21_17 (by kernel_rfl) (by kernel_rfl) (by kernel_rfl) (fun _ _ _ h => h) (Or.inl ⟨by rfl, ?_⟩) (by assumption) ?_
                · intro V hSw
                  try dsimp only at hSw
                  have hG := (hG3).keep hSw
                  have g0 := (hG.2 0 (by omega)).1
                  have g1 := (hG.2 1 (by omega)).1
                  have g2 := (hG.2 2 (by omega)).1
                  go_simp
                simp only [Act.put, List.setIfInBounds_toArray, List.set_cons_zero, List.set_cons_succ]
                refine wpAnyH_ready (rs := [15]) (by kernel_rfl) (by simp) ?_
                refine AllReadyH.cons (o := _) g21_15 (fun K hK => ?_) AllReadyH.nil
                go_simp
                refine (rfar_any (d y) p _ _ _ _ (unhide HFy) _).mono ?_
                rintro e wc ⟨rfl, hbq⟩
                replace hbc := btrans hbc hbq
                clear hbq
                refine hK.out _ _ (hbc) (fun _ => ?_)
                clear hK K
                refine wpAnyH_ready (rs := [18]) (by kernel_rfl) (by simp) ?_
                refine AllReadyH.cons (o := _) g21_18 (fun K hK => ?_) AllReadyH.nil
                go_simp
                refine (rfar_any (d x) p _ _ _ _ (unhide HFx) _).mono ?_
                rintro e wd ⟨rfl, hbq⟩
                replace hbc := btrans hbc hbq
                clear hbq
                refine hK.out _ _ (hbc) (fun _ => ?_)
                clear hK K
                refine wpAnyH_take (i := 19) (oi := _) (v := .bool false) g21_19 (by kernel_rfl) (by kernel_rfl) (by kernel_rfl) (fun _ _ _ h => h) (Or.inl ⟨by rfl, ?_⟩) (by assumption) ?_
                · intro V hSw
                  try dsimp only at hSw
                  go_simp
                simp only [Act.put, List.setIfInBounds_toArray, List.set_cons_zero, List.set_cons_succ]
                refine wpAnyH_take (i := 20) (oi := _) (v := .bool false) g21_20 (by kernel_rfl) (by kernel_rfl) (by kernel_rfl) (fun _ _ _ h => h) (Or.inl ⟨by rfl, ?_⟩) (by assumption) ?_
                · intro V hSw
                  try dsimp only at hSw
                  go_simp
                simp only [Act.put, List.setIfInBounds_toArray, List.set_cons_zero, List.set_cons_succ]
                refine wpAnyH_done (by kernel_rfl) ?_ _
                refine NoPanic.normal ?_
                have HG9 := hide (hG9.keep hbc)
                have HG3 := hide (hG3.keep hbc)
                have Hbn := hide (btrans hb5 hbc)
                clear hG9 hG12 hG3 hb5 hbc HFx HFy
                go_wp2
                go_roundw
                case rel => exact ⟨y + 1, by omega, by go_num, by rw [show bst (fv d p) x (y + 1) = bst (fv d p) x y by rw [bst, unhide Hbt]; simp], unhide HG9, unhide HG3, unhide Hbn⟩
                case measure => simp [intOf]; omega
              · skip
                have Hbt := hide (show bt (fv d p) x y = false by unfold bt; rw [decide_eq_false hyx, decide_eq_false (show ¬ fv d p y < fv d p x by omega)]; simp)
                clear hl
                refine wp_region_noPanic ?_
                refine wp_region_held_drew (S := fun V => Below w5.drew.heap.size w5.drew V) (by kernel_rfl) (Below.refl _ _) ?_
                intro _
                replace hG9 := hG9.keep (bdrew w5)
                replace hG12 := hG12.keep (bdrew w5)
                replace hG3 := hG3.keep (bdrew w5)
                have hb5 := btrans (unhide Hb5) (bdrew w5)
                clear Hb5
                generalize w5.drew = w8 at *
                have hbc : Below w8.heap.size w8 w8 := Below.refl _ _
                refine wpAnyH_take (i := 0) (oi := _) (v := .int .i64 (y : Int)) g21_0 (by kernel_rfl) (by kernel_rfl) (by kernel_rfl) (fun _ _ _ h => h) (Or.inl ⟨by rfl, ?_⟩) (by assumption) ?_
                · intro V hSw
                  try dsimp only at hSw
                  go_simp
                simp only [Act.put, List.setIfInBounds_toArray, List.set_cons_zero, List.set_cons_succ]
                refine wpAnyH_take (i := 1) (oi := _) (v := .int .i64 (x : Int)) g21_1 (by kernel_rfl) (by kernel_rfl) (by kernel_rfl) (fun _ _ _ h => h) (Or.inl ⟨by rfl, ?_⟩) (by assumption) ?_
                · intro V hSw
                  try dsimp only at hSw
                  go_simp
                simp only [Act.put, List.setIfInBounds_toArray, List.set_cons_zero, List.set_cons_succ]
                refine wpAnyH_take (i := 2) (oi := _) (v := .bool false) g21_2 (by kernel_rfl) (by kernel_rfl) (by kernel_rfl) (fun _ _ _ h => h) (Or.inl ⟨by rfl, ?_⟩) (by assumption) ?_
                · intro V hSw
                  try dsimp only at hSw
                  go_simp
                simp only [Act.put, List.setIfInBounds_toArray, List.set_cons_zero, List.set_cons_succ]
                refine wpAnyH_take (i := 3) (oi := _) (v := .bool false) g21_3 (by kernel_rfl) (by kernel_rfl) (by kernel_rfl) (fun _ _ _ h => h) (Or.inl ⟨by rfl, ?_⟩) (by assumption) ?_
                · intro V hSw
                  try dsimp only at hSw
                  go_simp
                simp only [Act.put, List.setIfInBounds_toArray, List.set_cons_zero, List.set_cons_succ]
                refine wpAnyH_take (i := 4) (oi := _) (v := undef) g21_4 (by kernel_rfl) (by kernel_rfl) (by kernel_rfl) (fun _ _ _ h => h) (Or.inr ⟨by rfl, rfl⟩) (by assumption) ?_
                simp only [Act.put, List.setIfInBounds_toArray, List.set_cons_zero, List.set_cons_succ]
                refine wpAnyH_take (i := 5) (oi := _) (v := undef) g21_5 (by kernel_rfl) (by kernel_rfl) (by kernel_rfl) (fun _ _ _ h => h) (Or.inr ⟨by rfl, rfl⟩) (by assumption) ?_
                simp only [Act.put, List.setIfInBounds_toArray, List.set_cons_zero, List.set_cons_succ]
                refine wpAnyH_take (i := 6) (oi := _) (v := undef) g21_6 (by kernel_rfl) (by kernel_rfl) (by kernel_rfl) (fun _ _ _ h => h) (Or.inr ⟨by rfl, rfl⟩) (by assumption) ?_
                simp only [Act.put, List.setIfInBounds_toArray, List.set_cons_zero, List.set_cons_succ]
                refine wpAnyH_take (i := 7) (oi := _) (v := undef) g21_7 (by kernel_rfl) (by kernel_rfl) (by kernel_rfl) (fun _ _ _ h => h) (Or.inr ⟨by rfl, rfl⟩) (by assumption) ?_
                simp only [Act.put, List.setIfInBounds_toArray, List.set_cons_zero, List.set_cons_succ]
                refine wpAnyH_take (i := 8) (oi := _) (v := undef) g21_8 (by kernel_rfl) (by kernel_rfl) (by kernel_rfl) (fun _ _ _ h => h) (Or.inr ⟨by rfl, rfl⟩) (by assumption) ?_
                simp only [Act.put, List.setIfInBounds_toArray, List.set_cons_zero, List.set_cons_succ]
                refine wpAnyH_take (i := 9) (oi := _) (v := undef) g21_9 (by kernel_rfl) (by kernel_rfl) (by kernel_rfl) (fun _ _ _ h => h) (Or.inr ⟨by rfl, rfl⟩) (by assumption) ?_
                simp only [Act.put, List.setIfInBounds_toArray, List.set_cons_zero, List.set_cons_succ]
                refine wpAnyH_take (i := 10) (oi := _) (v := undef) g21_10 (by kernel_rfl) (by kernel_rfl) (by kernel_rfl) (fun _ _ _ h => h) (Or.inr ⟨by rfl, rfl⟩) (by assumption) ?_
                simp only [Act.put, List.setIfInBounds_toArray, List.set_cons_zero, List.set_cons_succ]
                refine wpAnyH_take (i := 11) (oi := _) (v := .bool false) g21_11 (by kernel_rfl) (by kernel_rfl) (by kernel_rfl) (fun _ _ _ h => h) (Or.inl ⟨by rfl, ?_⟩) (by assumption) ?_
                · intro V hSw
                  try dsimp only at hSw
                  go_simp
                simp only [Act.put, List.setIfInBounds_toArray, List.set_cons_zero, List.set_cons_succ]
                refine wpAnyH_take (i := 12) (oi := _) (v := .bool false) g21_12 (by kernel_rfl) (by kernel_rfl) (by kernel_rfl) (fun _ _ _ h => h) (Or.inl ⟨by rfl, ?_⟩) (by assumption) ?_
                · intro V hSw
                  try dsimp only at hSw
                  go_simp
                simp only [Act.put, List.setIfInBounds_toArray, List.set_cons_zero, List.set_cons_succ]
                refine wpAnyH_take (i := 13) (oi := _) (v := .agg #[.float .f64 (d y 0), .float .f64 (d y 1), .float .f64 (d y 2)]) g21_13 (by kernel_rfl) (by kernel_rfl) (by kernel_rfl) (fun _ _ _ h => h) (Or.inl ⟨by rfl, ?_⟩) (by assumption) ?_
                · intro V hSw
                  try dsimp only at hSw
                  have hG := (hG12).keep hSw
                  have g0 := (hG.2 0 (by omega)).1
                  have g1 := (hG.2 1 (by omega)).1
                  have g2 := (hG.2 2 (by omega)).1
                  go_simp
                simp only [Act.put, List.setIfInBounds_toArray, List.set_cons_zero, List.set_cons_succ]
                refine wpAnyH_take (i := 14) (oi := _) (v := .agg #[.float .f64 (p 0), .float .f64 (p 1), .float .f64 (p 2)]) g21_14 (by kernel_rfl) (by kernel_rfl) (by kernel_rfl) (fun _ _ _ h => h) (Or.inl ⟨by rfl, ?_⟩) (by assumption) ?_
                · intro V hSw
                  try dsimp only at hSw
                  have hG := (hG3).keep hSw
                  have g0 := (hG.2 0 (by omega)).1
                  have g1 := (hG.2 1 (by omega)).1
                  have g2 := (hG.2 2 (by omega)).1
                  go_simp
                simp only [Act.put, List.setIfInBounds_toArray, List.set_cons_zero, List.set_cons_succ]
                refine wpAnyH_take (i := 16) (oi := _) (v := .agg #[.float .f64 (d x 0), .float .f64 (d x 1), .float .f64 (d x 2)]) g21_16 (by kernel_rfl) (by kernel_rfl) (by kernel_rfl) (fun _ _ _ h => h) (Or.inl ⟨by rfl, ?_⟩) (by assumption) ?_
                · intro V hSw
                  try dsimp only at hSw
                  have hG := (hG9).keep hSw
                  have g0 := (hG.2 0 (by omega)).1
                  have g1 := (hG.2 1 (by omega)).1
                  have g2 := (hG.2 2 (by omega)).1
                  go_simp
                simp only [Act.put, List.setIfInBounds_toArray, List.set_cons_zero, List.set_cons_succ]
                refine wpAnyH_take (i := 17) (oi := _) (v := .agg #[.float .f64 (p 0), .float .f64 (p 1), .float .f64 (p 2)]) g21_17 (by kernel_rfl) (by kernel_rfl) (by kernel_rfl) (fun _ _ _ h => h) (Or.inl ⟨by rfl, ?_⟩) (by assumption) ?_
                · intro V hSw
                  try dsimp only at hSw
                  have hG := (hG3).keep hSw
                  have g0 := (hG.2 0 (by omega)).1
                  have g1 := (hG.2 1 (by omega)).1
                  have g2 := (hG.2 2 (by omega)).1
                  go_simp
                simp only [Act.put, List.setIfInBounds_toArray, List.set_cons_zero, List.set_cons_succ]
                refine wpAnyH_ready (rs := [15]) (by kernel_rfl) (by simp) ?_
                refine AllReadyH.cons (o := _) g21_15 (fun K hK => ?_) AllReadyH.nil
                go_simp
                refine (rfar_any (d y) p _ _ _ _ (unhide HFy) _).mono ?_
                rintro e wc ⟨rfl, hbq⟩
                replace hbc := btrans hbc hbq
                clear hbq
                refine hK.out _ _ (hbc) (fun _ => ?_)
                clear hK K
                refine wpAnyH_ready (rs := [18]) (by kernel_rfl) (by simp) ?_
                refine AllReadyH.cons (o := _) g21_18 (fun K hK => ?_) AllReadyH.nil
                go_simp
                refine (rfar_any (d x) p _ _ _ _ (unhide HFx) _).mono ?_
                rintro e wd ⟨rfl, hbq⟩
                replace hbc := btrans hbc hbq
                clear hbq
                refine hK.out _ _ (hbc) (fun _ => ?_)
                clear hK K
                refine wpAnyH_take (i := 19) (oi := _) (v := .bool false) g21_19 (by kernel_rfl) (by kernel_rfl) (by kernel_rfl) (fun _ _ _ h => h) (Or.inl ⟨by rfl, ?_⟩) (by assumption) ?_
                · intro V hSw
                  try dsimp only at hSw
                  go_simp
                simp only [Act.put, List.setIfInBounds_toArray, List.set_cons_zero, List.set_cons_succ]
                refine wpAnyH_take (i := 20) (oi := _) (v := .bool false) g21_20 (by kernel_rfl) (by kernel_rfl) (by kernel_rfl) (fun _ _ _ h => h) (Or.inl ⟨by rfl, ?_⟩) (by assumption) ?_
                · intro V hSw
                  try dsimp only at hSw
                  go_simp
                simp only [Act.put, List.setIfInBounds_toArray, List.set_cons_zero, List.set_cons_succ]
                refine wpAnyH_done (by kernel_rfl) ?_ _
                refine NoPanic.normal ?_
                have HG9 := hide (hG9.keep hbc)
                have HG3 := hide (hG3.keep hbc)
                have Hbn := hide (btrans hb5 hbc)
                clear hG9 hG12 hG3 hb5 hbc HFx HFy
                go_wp2
                go_roundw
                case rel => exact ⟨y + 1, by omega, by go_num, by rw [show bst (fv d p) x (y + 1) = bst (fv d p) x y by rw [bst, unhide Hbt]; simp], unhide HG9, unhide HG3, unhide Hbn⟩
                case measure => simp [intOf]; omega
          · obtain rfl : n = y := by omega
            have cl : ¬ ((n : Int) < (n : Int)) := by omega
            have HP9 := hide hP
            have Hb9 := hide hb
            clear hP hb hX
            by_cases hxK : x < K
            · rw [bst_false (unhide HK) hxK]
              go_wp2
              go_roundw
              case rel => exact ⟨x + 1, by omega, by go_num, unhide HP9, unhide Hb9⟩
              case measure => simp [intOf]; omega
            · obtain rfl : K = x := by omega
              rw [bst_true (unhide HK) n (Nat.le_refl _)]
              clear HK H HD Hp HP9
              go_wp2
              exact bodyPost_ret (v := .tuple #[.int .i64 (K : Int), .int .i64 0]) (by simp [results, Try.results11, go_sem]) rfl ⟨rfl, unhide Hb9⟩

theorem nearR_any {n k : Nat} {d : Nat → Nat → Nat} {p : Nat → Nat} {er : Int} (h : NearIs n d p k er) (cap : Nat) (q : Option Addr) (W : World) (hD : Dy W q n d) : AnsN 11 #[.slice q n cap, pvV p] W k er := by
  rcases h with ⟨h, rfl, rfl⟩ | ⟨hn, hp, rfl, rfl⟩ | ⟨hn, hp, ⟨j, hj, h1, h2⟩, rfl, rfl⟩ | ⟨hn, hp, h1, h2, rfl⟩
  · exact rnear_many n cap q p h W
  · exact rnear_unfair n cap q p hn.1 hn.2 hp W
  · exact rnear_bad n j cap q d p hn.1 hn.2 hp hj h1 h2 W hD
  · exact rnear_ok n k cap q d p hn.1 hn.2 hp h1 h2 W hD
end Go.Proofs.Ytlilmchlddiacaa
