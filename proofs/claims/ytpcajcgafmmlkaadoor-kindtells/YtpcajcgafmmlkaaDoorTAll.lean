/-
  The document's answer, chapter 4: Twice, shifted, Step and Line.
-/
import Derived.Test.YtpcajcgafmmlkaaDoorRT
import Derived.Test.YtpcajcgafmmlkaaDoorKindMM
import Derived.Deep.QuietTactic
import Derived.BigQuiet
import Derived.Maps.AppendAt
namespace Go.Proofs.YtpcajcgafmmlkaaDoor
open Go.RowKit

theorem g15_0 {a0 a1 a2 a3 a4 a5 a6 a7 a8 a9 a10 a11 a12 a13 a14 : Oper} : (#[a0, a1, a2, a3, a4, a5, a6, a7, a8, a9, a10, a11, a12, a13, a14] : Array Oper)[0]? = some a0 := rfl
theorem g15_1 {a0 a1 a2 a3 a4 a5 a6 a7 a8 a9 a10 a11 a12 a13 a14 : Oper} : (#[a0, a1, a2, a3, a4, a5, a6, a7, a8, a9, a10, a11, a12, a13, a14] : Array Oper)[1]? = some a1 := rfl
theorem g15_2 {a0 a1 a2 a3 a4 a5 a6 a7 a8 a9 a10 a11 a12 a13 a14 : Oper} : (#[a0, a1, a2, a3, a4, a5, a6, a7, a8, a9, a10, a11, a12, a13, a14] : Array Oper)[2]? = some a2 := rfl
theorem g15_3 {a0 a1 a2 a3 a4 a5 a6 a7 a8 a9 a10 a11 a12 a13 a14 : Oper} : (#[a0, a1, a2, a3, a4, a5, a6, a7, a8, a9, a10, a11, a12, a13, a14] : Array Oper)[3]? = some a3 := rfl
theorem g15_4 {a0 a1 a2 a3 a4 a5 a6 a7 a8 a9 a10 a11 a12 a13 a14 : Oper} : (#[a0, a1, a2, a3, a4, a5, a6, a7, a8, a9, a10, a11, a12, a13, a14] : Array Oper)[4]? = some a4 := rfl
theorem g15_5 {a0 a1 a2 a3 a4 a5 a6 a7 a8 a9 a10 a11 a12 a13 a14 : Oper} : (#[a0, a1, a2, a3, a4, a5, a6, a7, a8, a9, a10, a11, a12, a13, a14] : Array Oper)[5]? = some a5 := rfl
theorem g15_6 {a0 a1 a2 a3 a4 a5 a6 a7 a8 a9 a10 a11 a12 a13 a14 : Oper} : (#[a0, a1, a2, a3, a4, a5, a6, a7, a8, a9, a10, a11, a12, a13, a14] : Array Oper)[6]? = some a6 := rfl
theorem g15_7 {a0 a1 a2 a3 a4 a5 a6 a7 a8 a9 a10 a11 a12 a13 a14 : Oper} : (#[a0, a1, a2, a3, a4, a5, a6, a7, a8, a9, a10, a11, a12, a13, a14] : Array Oper)[7]? = some a7 := rfl
theorem g15_8 {a0 a1 a2 a3 a4 a5 a6 a7 a8 a9 a10 a11 a12 a13 a14 : Oper} : (#[a0, a1, a2, a3, a4, a5, a6, a7, a8, a9, a10, a11, a12, a13, a14] : Array Oper)[8]? = some a8 := rfl
theorem g15_9 {a0 a1 a2 a3 a4 a5 a6 a7 a8 a9 a10 a11 a12 a13 a14 : Oper} : (#[a0, a1, a2, a3, a4, a5, a6, a7, a8, a9, a10, a11, a12, a13, a14] : Array Oper)[9]? = some a9 := rfl
theorem g15_10 {a0 a1 a2 a3 a4 a5 a6 a7 a8 a9 a10 a11 a12 a13 a14 : Oper} : (#[a0, a1, a2, a3, a4, a5, a6, a7, a8, a9, a10, a11, a12, a13, a14] : Array Oper)[10]? = some a10 := rfl
theorem g15_11 {a0 a1 a2 a3 a4 a5 a6 a7 a8 a9 a10 a11 a12 a13 a14 : Oper} : (#[a0, a1, a2, a3, a4, a5, a6, a7, a8, a9, a10, a11, a12, a13, a14] : Array Oper)[11]? = some a11 := rfl
theorem g15_12 {a0 a1 a2 a3 a4 a5 a6 a7 a8 a9 a10 a11 a12 a13 a14 : Oper} : (#[a0, a1, a2, a3, a4, a5, a6, a7, a8, a9, a10, a11, a12, a13, a14] : Array Oper)[12]? = some a12 := rfl
theorem g15_13 {a0 a1 a2 a3 a4 a5 a6 a7 a8 a9 a10 a11 a12 a13 a14 : Oper} : (#[a0, a1, a2, a3, a4, a5, a6, a7, a8, a9, a10, a11, a12, a13, a14] : Array Oper)[13]? = some a13 := rfl
theorem g15_14 {a0 a1 a2 a3 a4 a5 a6 a7 a8 a9 a10 a11 a12 a13 a14 : Oper} : (#[a0, a1, a2, a3, a4, a5, a6, a7, a8, a9, a10, a11, a12, a13, a14] : Array Oper)[14]? = some a14 := rfl

set_option maxHeartbeats 1000000 in
theorem twice_any (g t : Int) (f : Bool) (x y T : Int) (F : Bool) (u v : Int) (W : World) (H : ThenIs g t f x y t f x y T F u v) :
    Calls Tryd.prog 32 #[.int .i64 g, .agg #[.int .i64 t, .bool f, .int .i64 x, .int .i64 y]] W fun e w' => e = .returned (.agg #[.int .i64 T, .bool F, .int .i64 u, .int .i64 v]) ∧ Below W.heap.size W w' := by
  have HT := hide H
  clear H
  go_enter Tryd.func32, Tryd.ntmps32
  go_wp2_with fail
  refine (unhide HT _).mono ?_
  rintro e w1 ⟨rfl, hb⟩
  have R0 := OwnM.new (W.alloc (.cells #[.int .i64 t, .bool f, .int .i64 x, .int .i64 y] 41)) 0 false 0 0 41
  simp only [World.size_alloc] at R0
  have r := (R0.keep hb).2
  have S1 := btrans (bal (bal (Below.refl W.heap.size W))) hb
  clear R0 hb
  go_wp2
  exact bodyPost_ret (v := .agg #[.int .i64 T, .bool F, .int .i64 u, .int .i64 v]) (by simp [results, Tryd.results32, go_sem, r]) rfl ⟨rfl, bset (bset (bset (bset S1 (by dsimp only; omega)) (by dsimp only; omega)) (by dsimp only; omega)) (by dsimp only; omega)⟩

set_option maxHeartbeats 1000000 in
theorem shifted_any (n t : Int) (f : Bool) (x y a b : Int) (W : World) (hn : 0 ≤ n ∧ n ≤ 24) (hx : -1000 ≤ x ∧ x ≤ 1000) (hy : -1000 ≤ y ∧ y ≤ 1000) (ha : -5 ≤ a ∧ a ≤ 5) (hb : -5 ≤ b ∧ b ≤ 5) :
    Calls Tryd.prog 15 #[.int .i64 n, .agg #[.int .i64 t, .bool f, .int .i64 x, .int .i64 y], .int .i64 a, .int .i64 b] W fun e w' => e = .returned (.agg #[.int .i64 t, .bool f, .int .i64 (x + n * a), .int .i64 (y + n * b)]) ∧ Below W.heap.size W w' := by
  have m1 : -120 ≤ n * a ∧ n * a ≤ 120 := by
    have l1 := Int.mul_le_mul_of_nonneg_left ha.2 hn.1
    have l2 := Int.mul_le_mul_of_nonneg_left ha.1 hn.1
    omega
  have m2 : -120 ≤ n * b ∧ n * b ≤ 120 := by
    have l1 := Int.mul_le_mul_of_nonneg_left hb.2 hn.1
    have l2 := Int.mul_le_mul_of_nonneg_left hb.1 hn.1
    omega
  have S1 := bal (o := .cells #[.int .i64 0, .bool false, .int .i64 0, .int .i64 0] 41) (bal (o := .cells #[.int .i64 t, .bool f, .int .i64 x, .int .i64 y] 41) (Below.refl W.heap.size W))
  go_enter Tryd.func15, Tryd.ntmps15
  go_wp2
  exact bodyPost_ret (v := .agg #[.int .i64 t, .bool f, .int .i64 (x + n * a), .int .i64 (y + n * b)]) (by simp [results, Tryd.results15, go_sem]) rfl ⟨rfl, by repeat' (first | exact Below.refl _ _ | (refine bset ?_ (by dsimp only; omega)) | (refine bal ?_))⟩
end Go.Proofs.YtpcajcgafmmlkaaDoor

namespace Go.Proofs.YtpcajcgafmmlkaaDoor
open Go.RowKit

/-- a step is among the moves -/
def stpM (xx yy : Int) (m : Mv) : Bool := !m.2.1 && (decide (m.1 = 0) && decide ((m.2.2.1 : Int) = xx ∧ (m.2.2.2 : Int) = yy))
def stpL (L : List Mv) (xx yy : Int) : Bool := L.any (stpM xx yy)
theorem any_take_succ {α : Type} (p : α → Bool) (l : List α) (k : Nat) (m : α) (h : l[k]? = some m) : (l.take (k + 1)).any p = ((l.take k).any p || p m) := by
  rw [List.take_add_one, h]
  simp
theorem any_hit {α : Type} {p : α → Bool} {l : List α} {k : Nat} {m : α} (h : l[k]? = some m) (hp : p m = true) : l.any p = true :=
  List.any_eq_true.2 ⟨m, List.mem_of_getElem? h, hp⟩
theorem stpL_iff (w h N : Nat) (px : Nat → Int) (g x y : Int) (hg : g = 4 ∨ g = 6) (hN : 1 ≤ N) : stpL (movesL w h N px g) (x % N) (y % N) = stB w h N px g x y := by
  rw [Bool.eq_iff_iff, stB_iff w h N px g x y hN]
  unfold stpL stpM
  rw [List.any_eq_true]
  constructor
  · rintro ⟨⟨t, f, X, Y⟩, hm, h1⟩
    obtain ⟨-, -, -, k⟩ := (mem_moves w h N px g t f X Y hN).1 hm
    simp only [Bool.and_eq_true, Bool.not_eq_true', decide_eq_true_eq] at h1
    obtain ⟨rfl, rfl, h3, h4⟩ := h1
    rw [h3, h4] at k
    exact (kp_step _ g _ _).1 ((kp_mod (pat_per w h N px)).1 k)
  · intro k
    have a1 := Int.emod_nonneg x (show (N : Int) ≠ 0 by omega)
    have a2 := Int.emod_lt_of_pos x (show (0 : Int) < N by omega)
    have b1 := Int.emod_nonneg y (show (N : Int) ≠ 0 by omega)
    have b2 := Int.emod_lt_of_pos y (show (0 : Int) < N by omega)
    refine ⟨(0, false, (x % N).toNat, (y % N).toNat), (mem_moves w h N px g 0 false _ _ hN).2 ⟨by omega, by omega, by omega, ?_⟩, ?_⟩
    · rw [Int.toNat_of_nonneg a1, Int.toNat_of_nonneg b1]
      exact (kp_mod (pat_per w h N px)).2 ((kp_step _ g _ _).2 k)
    · simp [Int.toNat_of_nonneg a1, Int.toNat_of_nonneg b1]

set_option maxHeartbeats 4000000 in
set_option maxRecDepth 100000 in
theorem step_any (L : List Mv) (N q cp : Nat) (x y : Int) (W : World) (hN : 1 ≤ N ∧ N ≤ 24) (hl : L.length ≤ 6912) (hm : MRow W q L) :
    Calls Tryd.prog 33 #[.slice (some ⟨q, 0, none⟩) L.length cp, .int .i64 N, .agg #[.int .i64 x, .int .i64 y]] W fun e w' => e = .returned (.bool (stpL L (x % N) (y % N))) ∧ Below W.heap.size W w' := by
  have HO := hide (fun V => on_any N x y V (by omega))
  generalize x % (N : Int) = xx at *
  generalize y % (N : Int) = yy at *
  generalize hans : stpL L xx yy = ans
  have Hans := hide hans
  have B0 := bal (o := .cells #[.int .i64 x, .int .i64 y] 33) (Below.refl W.heap.size W)
  have Hm := hide (hm.keep B0)
  have HB := hide B0
  have HZ := hide (Own.new W x y 33)
  clear hm B0 hans
  go_enter Tryd.func33, Tryd.ntmps33
  go_wp2
  generalize W.alloc (.cells #[.int .i64 x, .int .i64 y] 33) = w0 at *
  go_loopw [11] (fun i wr => ∃ k : Nat, k ≤ L.length ∧ i = .int .i64 k ∧ stpL (L.take k) xx yy = false ∧ Below w0.heap.size w0 wr) (fun i _ => L.length - (intOf i).toNat)
  case atStart => exact ⟨0, Nat.zero_le _, rfl, rfl, Below.refl _ _⟩
  case round =>
    obtain ⟨k, hk, rfl, hno, hbel⟩ := hrel
    by_cases hlt : k < L.length
    · have q1 : (0 : Int) ≤ (k : Int) := by omega
      have q2 : (k : Int) < (L.length : Int) := by omega
      obtain ⟨⟨a, f, X, Y⟩, hmk⟩ : ∃ m, L[k]? = some m := ⟨_, List.getElem?_eq_getElem hlt⟩
      have p1 := ((unhide Hm).keep hbel).2 k _ hmk
      have hbN := bal (o := .cells #[.int .i64 a, .bool f, .int .i64 X, .int .i64 Y] 41) (Below.refl wr.heap.size wr)
      have SN := btrans hbel hbN
      have Hs := hide (show stpL (L.take (k + 1)) xx yy = (stpL (L.take k) xx yy || stpM xx yy (a, f, X, Y)) from any_take_succ _ _ _ _ hmk)
      have Hh := hide (fun (hp : stpM xx yy (a, f, X, Y) = true) => show stpL L xx yy = true from any_hit hmk hp)
      have Hno := hide hno
      have Hl := hide hlt
      clear hno hmk hlt
      cases f with
      | true =>
        have HSN := hide SN
        clear hbel hbN SN
        go_wp2
        go_quiet (fail)
        go_wp2
        go_roundw
        case rel => exact ⟨k + 1, unhide Hl, by go_num, by rw [unhide Hs, unhide Hno]; rfl, bdN (unhide HSN) _⟩
        case measure => have := unhide Hl; simp [intOf]; omega
      | false =>
        by_cases ha : a = 0
        · subst ha
          have R1 := OwnM.new wr 0 false X Y 41
          have Z1 := (unhide HZ).keep SN
          go_wp2_with fail
          clear p1 hbel hbN
          generalize wr.alloc (.cells #[.int .i64 0, .bool false, .int .i64 X, .int .i64 Y] 41) = w1 at *
          have Mk := hide (show ∀ V, Below w1.heap.size w1 V → Below w1.heap.size w1 V ∧ (V.cell? ⟨wr.heap.size, 0, none⟩ = some (.int .i64 0) ∧ V.cell? ⟨wr.heap.size, 1, none⟩ = some (.bool false) ∧ V.cell? ⟨wr.heap.size, 2, none⟩ = some (.int .i64 X) ∧ V.cell? ⟨wr.heap.size, 3, none⟩ = some (.int .i64 Y)) ∧ (V.cell? ⟨W.heap.size, 0, none⟩ = some (.int .i64 x) ∧ V.cell? ⟨W.heap.size, 1, none⟩ = some (.int .i64 y)) from fun V hV =>
            ⟨hV, (R1.keep hV).2.1, (Z1.keep hV).2.1⟩)
          clear R1 Z1
          by_cases c1 : (X : Int) = xx
          · by_cases c2 : (Y : Int) = yy
            · have hy : ans = true := by rw [← unhide Hans]; exact unhide Hh (by simp [stpM, c1, c2])
              subst hy
              have b1 : ((X : Int) == xx) = true := by simp [c1]
              have b2 : ((Y : Int) == yy) = true := by simp [c2]
              clear c1 c2
              go_region_held3 (fun V => Below w1.heap.size w1 V ∧ (V.cell? ⟨wr.heap.size, 0, none⟩ = some (.int .i64 0) ∧ V.cell? ⟨wr.heap.size, 1, none⟩ = some (.bool false) ∧ V.cell? ⟨wr.heap.size, 2, none⟩ = some (.int .i64 X) ∧ V.cell? ⟨wr.heap.size, 3, none⟩ = some (.int .i64 Y)) ∧ (V.cell? ⟨W.heap.size, 0, none⟩ = some (.int .i64 x) ∧ V.cell? ⟨W.heap.size, 1, none⟩ = some (.int .i64 y)))
                (first
                  | (exact unhide Mk _ (Below.drew (Below.refl _ _)))
                  | (exact unhide Mk _ (btrans (by assumption : Below w1.heap.size w1 _ ∧ _).1 hb)))
                (first
                  | (go_at_call 50; refine (unhide HO _).mono ?_; rintro e w2 ⟨rfl, hb⟩))
              have S2 := btrans SN (by assumption : Below w1.heap.size w1 _ ∧ _).1
              clear hb Mk SN
              go_wp2
              go_ret
              exact ⟨ret_bool rfl, btrans (unhide HB) S2⟩
            · have Hm0 := hide (show stpM xx yy (0, false, X, Y) = false by simp [stpM, c2])
              have b1 : ((X : Int) == xx) = true := by simp [c1]
              have b2 : ((Y : Int) == yy) = false := by simp [c2]
              clear c1 c2
              go_region_held3 (fun V => Below w1.heap.size w1 V ∧ (V.cell? ⟨wr.heap.size, 0, none⟩ = some (.int .i64 0) ∧ V.cell? ⟨wr.heap.size, 1, none⟩ = some (.bool false) ∧ V.cell? ⟨wr.heap.size, 2, none⟩ = some (.int .i64 X) ∧ V.cell? ⟨wr.heap.size, 3, none⟩ = some (.int .i64 Y)) ∧ (V.cell? ⟨W.heap.size, 0, none⟩ = some (.int .i64 x) ∧ V.cell? ⟨W.heap.size, 1, none⟩ = some (.int .i64 y)))
                (first
                  | (exact unhide Mk _ (Below.drew (Below.refl _ _)))
                  | (exact unhide Mk _ (btrans (by assumption : Below w1.heap.size w1 _ ∧ _).1 hb)))
                (first
                  | (go_at_call 50; refine (unhide HO _).mono ?_; rintro e w2 ⟨rfl, hb⟩))
              have S2 := btrans SN (by assumption : Below w1.heap.size w1 _ ∧ _).1
              clear hb Mk SN
              go_wp2
              go_roundw
              case rel => exact ⟨k + 1, unhide Hl, by go_num, by rw [unhide Hs, unhide Hno, unhide Hm0]; rfl, S2⟩
              case measure => have := unhide Hl; simp [intOf]; omega
          · have Hm0 := hide (show stpM xx yy (0, false, X, Y) = false by simp [stpM, c1])
            have b1 : ((X : Int) == xx) = false := by simp [c1]
            clear c1
            go_region_held3 (fun V => Below w1.heap.size w1 V ∧ (V.cell? ⟨wr.heap.size, 0, none⟩ = some (.int .i64 0) ∧ V.cell? ⟨wr.heap.size, 1, none⟩ = some (.bool false) ∧ V.cell? ⟨wr.heap.size, 2, none⟩ = some (.int .i64 X) ∧ V.cell? ⟨wr.heap.size, 3, none⟩ = some (.int .i64 Y)) ∧ (V.cell? ⟨W.heap.size, 0, none⟩ = some (.int .i64 x) ∧ V.cell? ⟨W.heap.size, 1, none⟩ = some (.int .i64 y)))
              (first
                | (exact unhide Mk _ (Below.drew (Below.refl _ _)))
                | (exact unhide Mk _ (btrans (by assumption : Below w1.heap.size w1 _ ∧ _).1 hb)))
              (first
                | (go_at_call 50; refine (unhide HO _).mono ?_; rintro e w2 ⟨rfl, hb⟩))
            have S2 := btrans SN (by assumption : Below w1.heap.size w1 _ ∧ _).1
            clear hb Mk SN
            go_wp2
            go_roundw
            case rel => exact ⟨k + 1, unhide Hl, by go_num, by rw [unhide Hs, unhide Hno, unhide Hm0]; rfl, S2⟩
            case measure => have := unhide Hl; simp [intOf]; omega
        · have haa : ((a : Int) == 0) = false := by simp; omega
          have HSN := hide SN
          have Hm0 := hide (show stpM xx yy (a, false, X, Y) = false by simp [stpM, ha])
          clear hbel hbN SN ha
          go_wp2
          go_quiet (fail)
          go_wp2
          go_roundw
          case rel => exact ⟨k + 1, unhide Hl, by go_num, by rw [unhide Hs, unhide Hno, unhide Hm0]; rfl, bdN (unhide HSN) _⟩
          case measure => have := unhide Hl; simp [intOf]; omega
    · have e : L.length = k := by omega
      have cl : ¬ ((k : Int) < (L.length : Int)) := by omega
      have hy : ans = false := by rw [← unhide Hans, ← hno, ← e, List.take_length]
      subst hy
      have HSe := hide (btrans (unhide HB) hbel)
      clear hbel hk hlt e hno
      go_wp2
      go_ret
      exact ⟨ret_bool rfl, unhide HSe⟩
end Go.Proofs.YtpcajcgafmmlkaaDoor

namespace Go.Proofs.YtpcajcgafmmlkaaDoor
open Go.RowKit

theorem tdiv_even (a : Int) (h : a.tmod 2 = 0) : -(a.tdiv 2) = -(a / 2) ∧ a % 2 = 0 := by
  have e := Int.tmod_def a 2
  have d : a % 2 = 0 := by omega
  obtain ⟨c, rfl⟩ := Int.dvd_of_emod_eq_zero d
  refine ⟨?_, d⟩
  rw [Int.mul_tdiv_cancel_left _ (by decide), Int.mul_ediv_cancel_left _ (by decide)]

def LineIs (g : Int) (q n cp N : Nat) (t X Y : Int) (W : World) (b : Bool) : Prop := Calls Tryd.prog 14 #[.int .i64 g, .slice (some ⟨q, 0, none⟩) n cp, .int .i64 N, .agg #[.int .i64 t, .bool true, .int .i64 X, .int .i64 Y]] W fun e w' => e = .returned (.bool b) ∧ Below W.heap.size W w'

set_option maxHeartbeats 2000000 in
set_option maxRecDepth 100000 in
theorem line_odd (g : Int) (q n cp N : Nat) (t X Y w1 w2 : Int) (W : World) (HT : ∀ V : World, Calls Tryd.prog 32 #[.int .i64 g, .agg #[.int .i64 t, .bool true, .int .i64 X, .int .i64 Y]] V fun e w' => e = .returned (.agg #[.int .i64 0, .bool false, .int .i64 w1, .int .i64 w2]) ∧ Below V.heap.size V w')
    (h : w1.tmod 2 ≠ 0 ∨ w2.tmod 2 ≠ 0) : LineIs g q n cp N t X Y W false := by
  have K1 := hide HT
  have hfd : ∀ w : World, (Instr.field 41 (.agg #[.int .i64 0, .bool false, .int .i64 w1, .int .i64 w2]) 2).run Tryd.prog w = .ok (.agg #[.int .i64 w1, .int .i64 w2]) w := fun _ => by kernel_rfl
  have HB := hide (bal (o := .cells #[.int .i64 t, .bool true, .int .i64 X, .int .i64 Y] 41) (Below.refl W.heap.size W))
  clear HT
  unfold LineIs
  by_cases h1 : w1.tmod 2 = 0
  · have b1 : (w1.tmod 2 != 0) = false := by simp [h1]
    have b2 : (w2.tmod 2 != 0) = true := by
      rcases h with k | k
      · exact absurd h1 k
      · simp [k]
    clear h h1
    go_enter Tryd.func14, Tryd.ntmps14
    go_wp2_with fail
    generalize W.alloc (.cells #[.int .i64 t, .bool true, .int .i64 X, .int .i64 Y] 41) = w0 at *
    refine (unhide K1 _).mono ?_
    rintro e v1 ⟨rfl, hb⟩
    have S1 := bal (o := .cells #[.int .i64 w1, .int .i64 w2] 33) (btrans (unhide HB) hb)
    clear hb
    go_wp2
    go_ret
    exact ⟨ret_bool rfl, S1⟩
  · have b1 : (w1.tmod 2 != 0) = true := by simp [h1]
    clear h h1
    go_enter Tryd.func14, Tryd.ntmps14
    go_wp2_with fail
    generalize W.alloc (.cells #[.int .i64 t, .bool true, .int .i64 X, .int .i64 Y] 41) = w0 at *
    refine (unhide K1 _).mono ?_
    rintro e v1 ⟨rfl, hb⟩
    have S1 := bal (o := .cells #[.int .i64 w1, .int .i64 w2] 33) (btrans (unhide HB) hb)
    clear hb
    go_wp2
    go_ret
    exact ⟨ret_bool rfl, S1⟩

set_option maxHeartbeats 4000000 in
set_option maxRecDepth 100000 in
theorem line_even (g : Int) (q n cp N : Nat) (t X Y w1 w2 s1 s2 : Int) (sb : Bool) (Rc : World → Prop) (W : World) (hRc : ∀ V V', Rc V → Below V.heap.size V V' → Rc V') (hc : Rc W)
    (HT : ∀ V : World, Calls Tryd.prog 32 #[.int .i64 g, .agg #[.int .i64 t, .bool true, .int .i64 X, .int .i64 Y]] V fun e w' => e = .returned (.agg #[.int .i64 0, .bool false, .int .i64 w1, .int .i64 w2]) ∧ Below V.heap.size V w')
    (HS0 : ∀ V, Rc V → Calls Tryd.prog 33 #[.slice (some ⟨q, 0, none⟩) n cp, .int .i64 N, .agg #[.int .i64 s1, .int .i64 s2]] V fun e w' => e = .returned (.bool sb) ∧ Below V.heap.size V w')
    (HO : ToIs g t true 0 0 s1 s2 s1 s2) (h1 : w1.tmod 2 = 0) (h2 : w2.tmod 2 = 0) (e1 : s1 = -(w1.tdiv 2)) (e2 : s2 = -(w2.tdiv 2)) (l1 : -1000 ≤ w1 ∧ w1 ≤ 1000) (l2 : -1000 ≤ w2 ∧ w2 ≤ 1000) : LineIs g q n cp N t X Y W sb := by
  have K1 := hide HT
  have hfd : ∀ w : World, (Instr.field 41 (.agg #[.int .i64 0, .bool false, .int .i64 w1, .int .i64 w2]) 2).run Tryd.prog w = .ok (.agg #[.int .i64 w1, .int .i64 w2]) w := fun _ => by kernel_rfl
  have HS := hide HS0
  have K3 := hide HO
  have HRc := hide hRc
  have B0 := bal (o := .cells #[.int .i64 t, .bool true, .int .i64 X, .int .i64 Y] 41) (Below.refl W.heap.size W)
  have HB := hide B0
  have Hc := hide (hRc _ _ hc B0)
  have HM := hide (OwnM.new W t true X Y 41)
  have b1 : (w1.tmod 2 != 0) = false := by simp [h1]
  have b2 : (w2.tmod 2 != 0) = false := by simp [h2]
  have l3 : -1000 ≤ s1 ∧ s1 ≤ 1000 := by have := (tdiv_even w1 h1).1; omega
  have l4 : -1000 ≤ s2 ∧ s2 ≤ 1000 := by have := (tdiv_even w2 h2).1; omega
  have q1 := hide (show wrap64 (-(w1.tdiv 2)) = s1 by rw [← e1]; exact Go.IntWalk.wrap64_in _ (by omega))
  have q2 := hide (show wrap64 (-(w2.tdiv 2)) = s2 by rw [← e2]; exact Go.IntWalk.wrap64_in _ (by omega))
  clear HT HS0 HO hRc hc B0 h1 h2 e1 e2
  unfold LineIs
  go_enter Tryd.func14, Tryd.ntmps14
  go_wp2_with fail
  generalize W.alloc (.cells #[.int .i64 t, .bool true, .int .i64 X, .int .i64 Y] 41) = w0 at *
  refine (unhide K1 _).mono ?_
  rintro e v1 ⟨rfl, hb⟩
  have S1 := bal (o := .cells #[.int .i64 w1, .int .i64 w2] 33) hb
  have Z1 := Own.new v1 w1 w2 33
  have z := Z1.2.1
  clear hb Z1
  go_wp2_with fail
  clear z b1 b2 hfd
  rw [unhide q1, unhide q2]
  have S4 := bal (o := .cells #[.int .i64 s1, .int .i64 s2] 33) S1
  have Z4 := Own.new (v1.alloc (.cells #[.int .i64 w1, .int .i64 w2] 33)) s1 s2 33
  rw [World.size_alloc] at Z4
  clear S1
  generalize (v1.alloc (.cells #[.int .i64 w1, .int .i64 w2] 33)).alloc (.cells #[.int .i64 s1, .int .i64 s2] 33) = wz at *
  have Hc2 := hide (unhide HRc _ _ (unhide Hc) S4)
  have M4 := (unhide HM).keep S4
  have Mk := hide (show ∀ V, Below wz.heap.size wz V → Below wz.heap.size wz V ∧ (V.cell? ⟨W.heap.size, 0, none⟩ = some (.int .i64 t) ∧ V.cell? ⟨W.heap.size, 1, none⟩ = some (.bool true) ∧ V.cell? ⟨W.heap.size, 2, none⟩ = some (.int .i64 X) ∧ V.cell? ⟨W.heap.size, 3, none⟩ = some (.int .i64 Y)) ∧ (V.cell? ⟨v1.heap.size + 1, 0, none⟩ = some (.int .i64 s1) ∧ V.cell? ⟨v1.heap.size + 1, 1, none⟩ = some (.int .i64 s2)) from fun V hV =>
    ⟨hV, (M4.keep hV).2.1, (Z4.keep hV).2.1⟩)
  have S5 := btrans (unhide HB) S4
  clear M4 Z4 S4
  cases sb with
  | true =>
    go_region_held3 (fun V => Below wz.heap.size wz V ∧ (V.cell? ⟨W.heap.size, 0, none⟩ = some (.int .i64 t) ∧ V.cell? ⟨W.heap.size, 1, none⟩ = some (.bool true) ∧ V.cell? ⟨W.heap.size, 2, none⟩ = some (.int .i64 X) ∧ V.cell? ⟨W.heap.size, 3, none⟩ = some (.int .i64 Y)) ∧ (V.cell? ⟨v1.heap.size + 1, 0, none⟩ = some (.int .i64 s1) ∧ V.cell? ⟨v1.heap.size + 1, 1, none⟩ = some (.int .i64 s2)))
      (first
        | (exact unhide Mk _ (Below.drew (Below.refl _ _)))
        | (exact unhide Mk _ (btrans (by assumption : Below wz.heap.size wz _ ∧ _).1 hb)))
      (first
        | (go_at_call 33; refine (unhide HS _ (unhide HRc _ _ (unhide Hc2) (by assumption : Below wz.heap.size wz _ ∧ _).1)).mono ?_; rintro e w5 ⟨rfl, hb⟩)
        | (go_at_call 34; refine (unhide K3 _).mono ?_; rintro e w6 ⟨rfl, hb⟩))
    have S6 := btrans S5 (by assumption : Below wz.heap.size wz _ ∧ _).1
    clear hb Mk
    go_wp2
    go_ret
    exact ⟨ret_bool (by simp), S6⟩
  | false =>
    have Hld := hide (show ∀ V, Below wz.heap.size wz V → (V.cell? ⟨v1.heap.size + 1, 0, none⟩ = some (.int .i64 s1) ∧ V.cell? ⟨v1.heap.size + 1, 1, none⟩ = some (.int .i64 s2)) from fun V hV => (unhide Mk V hV).2.2)
    refine wp_region_noPanic ?_
    refine wp_region_held_drew (S := fun V => Below wz.heap.size wz V) (by kernel_rfl) (Below.drew (Below.refl _ _)) ?_
    intro hS0
    refine wpAnyH_take (i := 0) (oi := _) (v := .slice (some ⟨q, 0, none⟩) n cp) g15_0 (by kernel_rfl) (by kernel_rfl) (by kernel_rfl) (fun _ _ _ h => h) (Or.inl ⟨by rfl, ?_⟩) (by assumption) ?_
    · intro V hSw
      try dsimp only at hSw
      go_simp
    simp only [Act.put, List.setIfInBounds_toArray, List.set_cons_zero, List.set_cons_succ]
    refine wpAnyH_take (i := 1) (oi := _) (v := .int .i64 N) g15_1 (by kernel_rfl) (by kernel_rfl) (by kernel_rfl) (fun _ _ _ h => h) (Or.inl ⟨by rfl, ?_⟩) (by assumption) ?_
    · intro V hSw
      try dsimp only at hSw
      go_simp
    simp only [Act.put, List.setIfInBounds_toArray, List.set_cons_zero, List.set_cons_succ]
    refine wpAnyH_take (i := 2) (oi := _) (v := .agg #[.int .i64 s1, .int .i64 s2]) g15_2 (by kernel_rfl) (by kernel_rfl) (by kernel_rfl) (fun _ _ _ h => h) (Or.inl ⟨by rfl, ?_⟩) (by assumption) ?_
    · intro V hSw
      try dsimp only at hSw
      have hl := unhide Hld V hSw
      go_simp
    simp only [Act.put, List.setIfInBounds_toArray, List.set_cons_zero, List.set_cons_succ]
    refine wpAnyH_ready (rs := [3]) (by kernel_rfl) (by simp) ?_
    refine AllReadyH.cons (o := _) g15_3 (fun K hK => ?_) AllReadyH.nil
    go_simp
    refine (unhide HS _ (unhide HRc _ _ (unhide Hc2) hS0)).mono ?_
    rintro e w5 ⟨rfl, hb⟩
    refine hK.out _ _ (btrans hS0 hb) (fun hS1 => ?_)
    clear hK K hS0 hb
    refine wpAnyH_take (i := 4) (oi := _) (v := .bool false) g15_4 (by kernel_rfl) (by kernel_rfl) (by kernel_rfl) (fun _ _ _ h => h) (Or.inl ⟨by rfl, ?_⟩) (by assumption) ?_
    · intro V hSw
      try dsimp only at hSw
      go_simp
    simp only [Act.put, List.setIfInBounds_toArray, List.set_cons_zero, List.set_cons_succ]
    refine wpAnyH_take (i := 5) (oi := _) (v := undef) g15_5 (by kernel_rfl) (by kernel_rfl) (by kernel_rfl) (fun _ _ _ h => h) (Or.inr ⟨by rfl, rfl⟩) (by assumption) ?_
    simp only [Act.put, List.setIfInBounds_toArray, List.set_cons_zero, List.set_cons_succ]
    refine wpAnyH_take (i := 6) (oi := _) (v := undef) g15_6 (by kernel_rfl) (by kernel_rfl) (by kernel_rfl) (fun _ _ _ h => h) (Or.inr ⟨by rfl, rfl⟩) (by assumption) ?_
    simp only [Act.put, List.setIfInBounds_toArray, List.set_cons_zero, List.set_cons_succ]
    refine wpAnyH_take (i := 7) (oi := _) (v := undef) g15_7 (by kernel_rfl) (by kernel_rfl) (by kernel_rfl) (fun _ _ _ h => h) (Or.inr ⟨by rfl, rfl⟩) (by assumption) ?_
    simp only [Act.put, List.setIfInBounds_toArray, List.set_cons_zero, List.set_cons_succ]
    refine wpAnyH_take (i := 8) (oi := _) (v := undef) g15_8 (by kernel_rfl) (by kernel_rfl) (by kernel_rfl) (fun _ _ _ h => h) (Or.inr ⟨by rfl, rfl⟩) (by assumption) ?_
    simp only [Act.put, List.setIfInBounds_toArray, List.set_cons_zero, List.set_cons_succ]
    refine wpAnyH_take (i := 9) (oi := _) (v := undef) g15_9 (by kernel_rfl) (by kernel_rfl) (by kernel_rfl) (fun _ _ _ h => h) (Or.inr ⟨by rfl, rfl⟩) (by assumption) ?_
    simp only [Act.put, List.setIfInBounds_toArray, List.set_cons_zero, List.set_cons_succ]
    refine wpAnyH_take (i := 10) (oi := _) (v := undef) g15_10 (by kernel_rfl) (by kernel_rfl) (by kernel_rfl) (fun _ _ _ h => h) (Or.inr ⟨by rfl, rfl⟩) (by assumption) ?_
    simp only [Act.put, List.setIfInBounds_toArray, List.set_cons_zero, List.set_cons_succ]
    refine wpAnyH_take (i := 11) (oi := _) (v := undef) g15_11 (by kernel_rfl) (by kernel_rfl) (by kernel_rfl) (fun _ _ _ h => h) (Or.inr ⟨by rfl, rfl⟩) (by assumption) ?_
    simp only [Act.put, List.setIfInBounds_toArray, List.set_cons_zero, List.set_cons_succ]
    refine wpAnyH_take (i := 12) (oi := _) (v := undef) g15_12 (by kernel_rfl) (by kernel_rfl) (by kernel_rfl) (fun _ _ _ h => h) (Or.inr ⟨by rfl, rfl⟩) (by assumption) ?_
    simp only [Act.put, List.setIfInBounds_toArray, List.set_cons_zero, List.set_cons_succ]
    refine wpAnyH_take (i := 13) (oi := _) (v := .bool false) g15_13 (by kernel_rfl) (by kernel_rfl) (by kernel_rfl) (fun _ _ _ h => h) (Or.inl ⟨by rfl, ?_⟩) (by assumption) ?_
    · intro V hSw
      try dsimp only at hSw
      go_simp
    simp only [Act.put, List.setIfInBounds_toArray, List.set_cons_zero, List.set_cons_succ]
    refine wpAnyH_take (i := 14) (oi := _) (v := .bool false) g15_14 (by kernel_rfl) (by kernel_rfl) (by kernel_rfl) (fun _ _ _ h => h) (Or.inl ⟨by rfl, ?_⟩) (by assumption) ?_
    · intro V hSw
      try dsimp only at hSw
      go_simp
    simp only [Act.put, List.setIfInBounds_toArray, List.set_cons_zero, List.set_cons_succ]
    refine wpAnyH_done (by kernel_rfl) ?_ _
    refine NoPanic.normal ?_
    go_wp2
    go_ret
    exact ⟨ret_bool rfl, btrans S5 hS1⟩

theorem Sz.rect {g x y : Int} (M : Int) (hx : -M ≤ x ∧ x ≤ M) (hy : -M ≤ y ∧ y ≤ M) : Sz g (2 * M) x y := by unfold Sz; omega
theorem twice_flip (g : Int) (t : Nat) (X Y : Int) (hg : g = 4 ∨ g = 6) (ht : (t : Int) < g) (hX : -200 ≤ X ∧ X ≤ 200) (hY : -200 ≤ Y ∧ Y ≤ 200) : ThenIs g t true X Y t true X Y 0 false (mv g t true X Y X Y).1 (mv g t true X Y X Y).2 := by
  have := then_any g t true X Y t true X Y hg ⟨by omega, ht⟩ ⟨by omega, ht⟩ ((Sz.rect 200 hX hY).mono (by decide)) ((Sz.rect 200 hX hY).mono (by decide))
  rw [show cT g t true t = 0 by simp only [cT]; rcases hg with rfl | rfl <;> omega, show cF true true = false from rfl, Int.toNat_natCast] at this
  exact this
theorem line_any (w h N : Nat) (px : Nat → Int) (g : Int) (q cp t : Nat) (X Y : Int) (W : World) (hg : g = 4 ∨ g = 6) (ht : (t : Int) < g) (hN : 1 ≤ N ∧ N ≤ 24) (hX : -200 ≤ X ∧ X ≤ 200) (hY : -200 ≤ Y ∧ Y ≤ 200) (hm : MRow W q (movesL w h N px g)) : LineIs g q (movesL w h N px g).length cp N t X Y W (lnB (stB w h N px g) g t X Y) := by
  have HT := fun V => twice_any g t true X Y _ _ _ _ V (twice_flip g t X Y hg ht hX hY)
  have hz := Sz.mv (g := g) (Sz.rect 200 hX hY) (Sz.rect 200 hX hY) t true
  have hMr : ∀ b, (Mr (pat w h N px) g t X Y ↔ b = true) → lnB (stB w h N px g) g t X Y = b := fun b hb => by
    rw [Bool.eq_iff_iff, lnB_iff w h N px g t X Y hN.1, hb]
  have hfix := li_back g t true (mv g t true X Y X Y).1 (mv g t true X Y X Y).2 hg ht
  have hline : li g t true (mv g t true X Y X Y).1 (mv g t true X Y X Y).2 = ((mv g t true X Y X Y).1, (mv g t true X Y X Y).2) := by
    have bk := li_back g t true X Y hg ht
    rw [show bt g t true = (t : Int) from rfl, Int.toNat_natCast] at bk
    rw [mv_li]
    dsimp only
    rw [li_add, bk]
    exact Prod.ext (by dsimp only; omega) (by dsimp only; omega)
  clear hfix
  unfold Mr at hMr
  generalize mv g t true X Y X Y = z at *
  obtain ⟨w1, w2⟩ := z
  dsimp only at HT hz hline
  have l1 : -1000 ≤ w1 ∧ w1 ≤ 1000 := by unfold Sz at hz; omega
  have l2 : -1000 ≤ w2 ∧ w2 ≤ 1000 := by unfold Sz at hz; omega
  by_cases h1 : w1.tmod 2 = 0
  · by_cases h2 : w2.tmod 2 = 0
    · have d1 := tdiv_even w1 h1
      have d2 := tdiv_even w2 h2
      have hst := fun V (hm : MRow V q (movesL w h N px g)) => step_any (movesL w h N px g) N q cp (-(w1.tdiv 2)) (-(w2.tdiv 2)) V hN (moves_len w h N px g hN.2 hg) hm
      rw [stpL_iff w h N px g _ _ hg hN.1] at hst
      rw [hMr (stB w h N px g (-(w1.tdiv 2)) (-(w2.tdiv 2))) (by
        rw [stB_iff w h N px g _ _ hN.1]
        constructor
        · rintro ⟨a, b, e, k⟩
          have e1 := (Prod.mk.inj e).1
          have e2 := (Prod.mk.inj e).2
          rw [d1.1, d2.1, show -(w1 / 2) = a by omega, show -(w2 / 2) = b by omega]
          exact k
        · intro k
          exact ⟨_, _, Prod.ext (by dsimp only; omega) (by dsimp only; omega), k⟩)]
      have hto := to_any g t true 0 0 (-(w1.tdiv 2)) (-(w2.tdiv 2)) hg ⟨by omega, ht⟩ ((Sz.rect 1000 (by omega) (by omega)).mono (by decide)) ((Sz.rect 1 (by omega) (by omega)).mono (by decide))
      have e0 : mv g t true 0 0 (-(w1.tdiv 2)) (-(w2.tdiv 2)) = (-(w1.tdiv 2), -(w2.tdiv 2)) := by
        have q1 : w1 = -(2 * -(w1.tdiv 2)) := by omega
        have q2 : w2 = -(2 * -(w2.tdiv 2)) := by omega
        have hl := hline
        rw [q1, q2, li_dbl] at hl
        have r1 := (Prod.mk.inj hl).1
        have r2 := (Prod.mk.inj hl).2
        rw [mv_li]
        refine Prod.ext ?_ ?_
        · dsimp only; omega
        · dsimp only; omega
      rw [Int.toNat_natCast, e0] at hto
      exact line_even g q _ cp N t X Y w1 w2 _ _ _ (fun V => MRow V q (movesL w h N px g)) W (fun V V' k hb => k.keep hb) hm HT hst hto h1 h2 rfl rfl l1 l2
    · rw [hMr false (by
        refine ⟨?_, fun k => by cases k⟩
        rintro ⟨a, b, e, -⟩
        have e2 := (Prod.mk.inj e).2
        exfalso
        apply h2
        rw [e2, ← Int.mul_neg]
        simp)]
      exact line_odd g q _ cp N t X Y w1 w2 W HT (Or.inr h2)
  · rw [hMr false (by
      refine ⟨?_, fun k => by cases k⟩
      rintro ⟨a, b, e, -⟩
      have e1 := (Prod.mk.inj e).1
      exfalso
      apply h1
      rw [e1, ← Int.mul_neg]
      simp)]
    exact line_odd g q _ cp N t X Y w1 w2 W HT (Or.inl h1)
end Go.Proofs.YtpcajcgafmmlkaaDoor

namespace Go.Proofs.YtpcajcgafmmlkaaDoor
open Go.RowKit

def miC (m : Mi) : List Value := [.int .i64 m.1, .bool true, .int .i64 m.2.1, .int .i64 m.2.2]
def misV (l : List Mi) : List Value := l.flatMap miC
theorem misV_len (l : List Mi) : (misV l).length = l.length * 4 := by
  induction l with
  | nil => rfl
  | cons m l ih => simp only [misV, List.flatMap_cons, List.length_append, List.length_cons] at *; rw [ih]; simp only [miC, List.length_cons, List.length_nil]; omega
theorem misV_snoc (l : List Mi) (m : Mi) : misV (l ++ [m]) = misV l ++ miC m := by simp [misV]
theorem misV_get (L : List Mi) (j : Nat) (m : Mi) (h : L[j]? = some m) (o : Nat) (ho : o < 4) : (misV L)[j * 4 + o]? = (miC m)[o]? := by
  induction L generalizing j with
  | nil => simp at h
  | cons a L ih =>
    have e : misV (a :: L) = miC a ++ misV L := by simp [misV]
    have hl : (miC a).length = 4 := rfl
    cases j with
    | zero =>
      simp at h
      subst h
      rw [e, List.getElem?_append_left (by rw [hl]; omega), Nat.zero_mul, Nat.zero_add]
    | succ j =>
      simp at h
      rw [e, List.getElem?_append_right (by rw [hl]; omega), hl, show (j + 1) * 4 + o - 4 = j * 4 + o by omega]
      exact ih j h

def MiRow (W : World) (b : Nat) (L : List Mi) : Prop := b < W.heap.size ∧ ∀ j m, L[j]? = some m → W.cell? ⟨b, j * 4, none⟩ = some (.int .i64 m.1) ∧ W.cell? ⟨b, j * 4 + 1, none⟩ = some (.bool true) ∧ W.cell? ⟨b, j * 4 + 2, none⟩ = some (.int .i64 m.2.1) ∧ W.cell? ⟨b, j * 4 + 3, none⟩ = some (.int .i64 m.2.2)
theorem MiRow.keep {W w1 : World} {b : Nat} {L : List Mi} (h : MiRow W b L) (hb : Below W.heap.size W w1) : MiRow w1 b L :=
  ⟨Nat.lt_of_lt_of_le h.1 hb.size, fun j m hj => ⟨keepC hb h.1 (h.2 j m hj).1, keepC hb h.1 (h.2 j m hj).2.1, keepC hb h.1 (h.2 j m hj).2.2.1, keepC hb h.1 (h.2 j m hj).2.2.2⟩⟩
theorem mirow_own {W : World} {B b cap : Nat} {L : List Mi} (h : W.ownsRow B 41 4 (.slice (some ⟨b, 0, none⟩) L.length cap) L.length (misV L)) : MiRow W b L := by
  refine ⟨(h.lt b rfl).2, fun j m hj => ?_⟩
  have hl : j < L.length := (List.getElem?_eq_some_iff.1 hj).1
  refine ⟨?_, ?_, ?_, ?_⟩
  · rw [h.cellAt (j * 4) (by omega)]; exact misV_get L j m hj 0 (by omega)
  · rw [h.cellAt (j * 4 + 1) (by omega)]; exact misV_get L j m hj 1 (by omega)
  · rw [h.cellAt (j * 4 + 2) (by omega)]; exact misV_get L j m hj 2 (by omega)
  · rw [h.cellAt (j * 4 + 3) (by omega)]; exact misV_get L j m hj 3 (by omega)
/-- the row of the mirrors, where there are any -/
def MiAt (W : World) (q : Option Addr) (L : List Mi) : Prop := L.length = 0 ∨ ∃ b, q = some ⟨b, 0, none⟩ ∧ MiRow W b L
theorem MiAt.keep {W w1 : World} {q : Option Addr} {L : List Mi} (h : MiAt W q L) (hb : Below W.heap.size W w1) : MiAt w1 q L := by
  rcases h with h | ⟨b, e, r⟩
  · exact Or.inl h
  · exact Or.inr ⟨b, e, r.keep hb⟩
theorem miat_own {W : World} {B : Nat} {q : Option Addr} {cap : Nat} {L : List Mi} (h : W.ownsRow B 41 4 (.slice q L.length cap) L.length (misV L)) : MiAt W q L := by
  by_cases hz : L.length = 0
  · exact Or.inl hz
  · obtain ⟨b, c, e⟩ := own_slice h (by omega)
    cases e
    exact Or.inr ⟨b, rfl, mirow_own h⟩
def mirP (g : Int) (N : Nat) (m : Mv) (y x : Int) : Prop := mv g m.1 true ((m.2.2.1 : Int) + N * x) ((m.2.2.2 : Int) + N * y) ((m.2.2.1 : Int) + N * x) ((m.2.2.2 : Int) + N * y) = (0, 0)
theorem mirX_yes {g : Int} {N : Nat} {m : Mv} {y : Int} {i : Nat} (h : mirP g N m y ((i : Int) - 5)) : mirX g N m y (i + 1) = mirX g N m y i ++ [(m.1, (m.2.2.1 : Int) + N * ((i : Int) - 5), (m.2.2.2 : Int) + N * y)] := by
  unfold mirX; rw [List.range_succ, List.filterMap_append]; unfold mirP at h; simp [h]
theorem mirX_no {g : Int} {N : Nat} {m : Mv} {y : Int} {i : Nat} (h : ¬ mirP g N m y ((i : Int) - 5)) : mirX g N m y (i + 1) = mirX g N m y i := by
  unfold mirX; rw [List.range_succ, List.filterMap_append]; unfold mirP at h; simp [h]
theorem mirY_succ (g : Int) (N : Nat) (m : Mv) (j : Nat) : mirY g N m (j + 1) = mirY g N m j ++ mirX g N m ((j : Int) - 5) 11 := by
  unfold mirY; rw [List.range_succ, List.flatMap_append]; simp
theorem mirL_take {g : Int} {N : Nat} {L : List Mv} {k : Nat} {m : Mv} (h : L[k]? = some m) : mirL g N (L.take (k + 1)) = mirL g N (L.take k) ++ (if m.2.1 = true then mirY g N m 11 else []) := by
  unfold mirL; rw [List.take_add_one, h, List.flatMap_append]; simp
theorem mirX_len (g : Int) (N : Nat) (m : Mv) (y : Int) (i : Nat) : (mirX g N m y i).length ≤ i := by
  unfold mirX; have := List.length_filterMap_le (fun (i : Nat) => if mv g m.1 true ((m.2.2.1 : Int) + N * ((i : Int) - 5)) ((m.2.2.2 : Int) + N * y) ((m.2.2.1 : Int) + N * ((i : Int) - 5)) ((m.2.2.2 : Int) + N * y) = (0, 0) then some (m.1, (m.2.2.1 : Int) + N * ((i : Int) - 5), (m.2.2.2 : Int) + N * y) else none) (List.range i); rwa [List.length_range] at this
theorem mirY_len (g : Int) (N : Nat) (m : Mv) (j : Nat) : (mirY g N m j).length ≤ j * 11 := by
  induction j with
  | zero => simp [mirY]
  | succ j ih =>
    rw [mirY_succ, List.length_append]
    have := mirX_len g N m ((j : Int) - 5) 11
    omega
theorem mirL_len (g : Int) (N : Nat) (L : List Mv) : (mirL g N L).length ≤ L.length * 121 := by
  induction L with
  | nil => simp [mirL]
  | cons m L ih =>
    have : mirL g N (m :: L) = (if m.2.1 = true then mirY g N m 11 else []) ++ mirL g N L := by simp [mirL]
    rw [this, List.length_append, List.length_cons]
    have := mirY_len g N m 11
    split <;> simp <;> omega
/-- a move's box, to be read -/
def MBox (W : World) (b : Nat) (t : Int) (f : Bool) (x y : Int) : Prop := b < W.heap.size ∧ (W.cell? ⟨b, 0, none⟩ = some (.int .i64 t) ∧ W.cell? ⟨b, 1, none⟩ = some (.bool f) ∧ W.cell? ⟨b, 2, none⟩ = some (.int .i64 x) ∧ W.cell? ⟨b, 3, none⟩ = some (.int .i64 y))
theorem MBox.keep {W w1 : World} {b : Nat} {t : Int} {f : Bool} {x y : Int} (h : MBox W b t f x y) (hb : Below W.heap.size W w1) : MBox w1 b t f x y :=
  ⟨Nat.lt_of_lt_of_le h.1 hb.size, keepC hb h.1 h.2.1, keepC hb h.1 h.2.2.1, keepC hb h.1 h.2.2.2.1, keepC hb h.1 h.2.2.2.2⟩
theorem MBox.grown {a c : World} {row : Option Nat} {b : Nat} {t : Int} {f : Bool} {x y : Int} (h : MBox a b t f x y) (hg : a.grownBy c row) (hne : some b ≠ row) : MBox c b t f x y :=
  ⟨Nat.lt_of_lt_of_le h.1 hg.size, gcell hg h.1 hne h.2.1, gcell hg h.1 hne h.2.2.1, gcell hg h.1 hne h.2.2.2.1, gcell hg h.1 hne h.2.2.2.2⟩
theorem MBox.new (W : World) (t : Int) (f : Bool) (x y : Int) : MBox (W.alloc (.cells #[.int .i64 t, .bool f, .int .i64 x, .int .i64 y] 41)) W.heap.size t f x y := ⟨(OwnM.new W t f x y 41).1, (OwnM.new W t f x y 41).2.1⟩
theorem int_eq {a b : Int} (h : a = b) : Value.int .i64 a = .int .i64 b := by rw [h]

set_option maxHeartbeats 8000000 in
set_option maxRecDepth 100000 in
theorem mirrors_any (g w h : Int) (p : Option Addr) (n cap : Nat) (L : List Mv) (N q cp : Nat) (W : World) (hg : g = 4 ∨ g = 6) (hN : 1 ≤ N ∧ N ≤ 24) (hl : L.length ≤ 6912) (hL : ∀ m ∈ L, (m.1 : Int) < g ∧ m.2.2.1 < N ∧ m.2.2.2 < N) (hm : MRow W q L) :
    Calls Tryd.prog 16 #[Ch.ch g w h p n cap, .int .i64 N, .slice (some ⟨q, 0, none⟩) L.length cp] W fun e w' => ∃ q' cp', e = .returned (.slice q' (mirL g N L).length cp') ∧ MiAt w' q' (mirL g N L) ∧ Below W.heap.size W w' := by
  obtain ⟨i0, hi, hz0, hz1, hz2⟩ := info_parts info45
  have HL := hide hL
  have B0 := bal (o := .cells #[.int .i64 g, .int .i64 w, .int .i64 h, .slice p n cap] 24) (Below.refl W.heap.size W)
  have Hm := hide (hm.keep B0)
  have HB := hide B0
  have HC := hide (Ch.OwnC.new W g w h p n cap 24)
  have Hg := hide hg
  clear hm B0 hL hg
  go_enter Tryd.func16, Tryd.ntmps16
  go_wp2
  generalize W.alloc (.cells #[.int .i64 g, .int .i64 w, .int .i64 h, .slice p n cap] 24) = w0 at *
  go_loopw [7, 15] (fun v i wr => ∃ (k : Nat) (R : List Mi), k ≤ L.length ∧ i = .int .i64 k ∧ R = mirL g N (L.take k) ∧ wr.ownsRow w0.heap.size 41 4 v R.length (misV R) ∧ Below w0.heap.size w0 wr) (fun _ i _ => L.length - (intOf i).toNat)
  case atStart => exact ⟨0, [], Nat.zero_le _, rfl, by simp [mirL], by simpa [misV] using World.ownsRow_nil w0 w0.heap.size 41 4, Below.refl _ _⟩
  case round =>
    obtain ⟨k, R, hk, rfl, hR, hown, hbel⟩ := hrel
    by_cases hlt : k < L.length
    · have q1 : (0 : Int) ≤ (k : Int) := by omega
      have q2 : (k : Int) < (L.length : Int) := by omega
      obtain ⟨⟨a, f, X, Y⟩, hmk⟩ : ∃ m, L[k]? = some m := ⟨_, List.getElem?_eq_getElem hlt⟩
      have p1 := ((unhide Hm).keep hbel).2 k _ hmk
      have hlim := unhide HL _ (List.mem_of_getElem? hmk)
      dsimp only at hlim
      have HR2 := hide (mirL_take (g := g) (N := N) hmk)
      have HRk := hide hR
      have hRl : R.length ≤ k * 121 := by
        rw [hR]; have := mirL_len g N (L.take k); rw [List.length_take] at this; omega
      have hbN := bal (o := .cells #[.int .i64 a, .bool f, .int .i64 X, .int .i64 Y] 41) (Below.refl wr.heap.size wr)
      have SN := btrans hbel hbN
      have ON := own_keep hown hbN
      obtain ⟨q7, c7, rfl⟩ := own_form hown
      have Hne : (Value.slice q7 R.length c7).ownBlock ≠ some wr.heap.size := fun e => by have := (hown.lt _ e).2; omega
      have Hl := hide hlt
      clear hmk hR hlt hbel hown
      cases f with
      | false =>
        have HSN := hide SN
        have HON := hide ON
        clear SN ON hbN Hne
        go_wp2
        go_roundw
        case rel => exact ⟨k + 1, R, unhide Hl, by go_num, by rw [unhide HR2, ← unhide HRk]; simp, unhide HON, unhide HSN⟩
        case measure => have := unhide Hl; simp [intOf]; omega
      | true =>
        have HM := MBox.new wr a true X Y
        go_wp2
        clear p1
        generalize hw1 : wr.alloc (.cells #[.int .i64 a, .bool true, .int .i64 X, .int .i64 Y] 41) = w1 at *
        have hz1' : wr.heap.size < w1.heap.size := by rw [← hw1]; simp
        clear hw1 hbN
        obtain ⟨wo, rfl⟩ : ∃ wo : World, wo = wr := ⟨_, rfl⟩
        go_loopw [7, 10] (fun v i wy => ∃ (j : Nat) (R1 : List Mi), j ≤ 11 ∧ i = .int .i64 ((j : Int) - 5) ∧ R1 = R ++ mirY g N (a, true, X, Y) j ∧ wy.ownsRow w0.heap.size 41 4 v R1.length (misV R1) ∧ Below w0.heap.size w0 wy ∧ MBox wy wo.heap.size a true X Y ∧ v.ownBlock ≠ some wo.heap.size) (fun _ i _ => 11 - (intOf i + 5).toNat)
        case atStart => exact ⟨0, R, Nat.zero_le _, rfl, by simp [mirY], ON, SN, HM, Hne⟩
        case round =>
          clear ON SN HM Hne
          obtain ⟨j, R1, hj, rfl, hR1, hown, hbel, hMB, hne⟩ := hrel
          have hR1l : R1.length ≤ R.length + j * 11 := by
            rw [hR1, List.length_append]; have := mirY_len g N (a, true, X, Y) j; omega
          have HR1 := hide hR1
          clear hR1
          by_cases hlj : j < 11
          · have q3 : (j : Int) - 5 ≤ 5 := by omega
            go_wp2
            go_loopw [7, 11] (fun v i wx => ∃ (ii : Nat) (R3 : List Mi), ii ≤ 11 ∧ i = .int .i64 ((ii : Int) - 5) ∧ R3 = R1 ++ mirX g N (a, true, X, Y) ((j : Int) - 5) ii ∧ wx.ownsRow w0.heap.size 41 4 v R3.length (misV R3) ∧ Below w0.heap.size w0 wx ∧ MBox wx wo.heap.size a true X Y ∧ v.ownBlock ≠ some wo.heap.size) (fun _ i _ => 11 - (intOf i + 5).toNat)
            case atStart => exact ⟨0, R1, Nat.zero_le _, rfl, by simp [mirX], hown, hbel, hMB, hne⟩
            case round =>
              clear hown hbel hMB hne
              obtain ⟨ii, R3, hii, rfl, hR3, hown, hbel, hMB, hne⟩ := hrel
              have hR3l : R3.length ≤ R1.length + ii := by
                rw [hR3, List.length_append]; have := mirX_len g N (a, true, X, Y) ((j : Int) - 5) ii; omega
              have HR3 := hide hR3
              clear hR3
              by_cases hli : ii < 11
              · have q4 : (ii : Int) - 5 ≤ 5 := by omega
                have HSh := hide (fun V => shifted_any N a true X Y ((ii : Int) - 5) ((j : Int) - 5) V (by omega) (by omega) (by omega) (by omega) (by omega))
                have n1 := Int.mul_le_mul_of_nonneg_left (show (ii : Int) - 5 ≤ 5 by omega) (show (0 : Int) ≤ N by omega)
                have n2 := Int.mul_le_mul_of_nonneg_left (show -5 ≤ (ii : Int) - 5 by omega) (show (0 : Int) ≤ N by omega)
                have n3 := Int.mul_le_mul_of_nonneg_left (show (j : Int) - 5 ≤ 5 by omega) (show (0 : Int) ≤ N by omega)
                have n4 := Int.mul_le_mul_of_nonneg_left (show -5 ≤ (j : Int) - 5 by omega) (show (0 : Int) ≤ N by omega)
                have hAl : -200 ≤ (X : Int) + N * ((ii : Int) - 5) ∧ (X : Int) + N * ((ii : Int) - 5) ≤ 200 := by omega
                have hBl : -200 ≤ (Y : Int) + N * ((j : Int) - 5) ∧ (Y : Int) + N * ((j : Int) - 5) ≤ 200 := by omega
                have HTw := hide (fun V => twice_any g a true _ _ _ _ _ _ V (twice_flip g a _ _ (unhide Hg) hlim.1 hAl hBl))
                have Hyes := hide (mirX_yes (g := g) (N := N) (m := (a, true, X, Y)) (y := (j : Int) - 5) (i := ii))
                have Hno := hide (mirX_no (g := g) (N := N) (m := (a, true, X, Y)) (y := (j : Int) - 5) (i := ii))
                have HP := hide (show mirP g N (a, true, X, Y) ((j : Int) - 5) ((ii : Int) - 5) ↔ (mv g a true ((X : Int) + N * ((ii : Int) - 5)) ((Y : Int) + N * ((j : Int) - 5)) ((X : Int) + N * ((ii : Int) - 5)) ((Y : Int) + N * ((j : Int) - 5))).1 = 0 ∧ (mv g a true ((X : Int) + N * ((ii : Int) - 5)) ((Y : Int) + N * ((j : Int) - 5)) ((X : Int) + N * ((ii : Int) - 5)) ((Y : Int) + N * ((j : Int) - 5))).2 = 0 from ⟨fun e => ⟨congrArg Prod.fst e, congrArg Prod.snd e⟩, fun e => Prod.ext e.1 e.2⟩)
                dsimp only at Hyes
                clear n1 n2 n3 n4
                generalize (X : Int) + N * ((ii : Int) - 5) = A at *
                generalize (Y : Int) + N * ((j : Int) - 5) = B at *
                generalize (mv g a true A B A B).1 = w2 at *
                generalize (mv g a true A B A B).2 = w3 at *
                have m := hMB.2
                go_wp2_with fail
                clear m
                refine (unhide HSh _).mono ?_
                rintro e v1 ⟨rfl, hb⟩
                have hb1 := btrans hb (bal (o := .cells #[.int .i64 a, .bool true, .int .i64 A, .int .i64 B] 41) (Below.refl v1.heap.size v1))
                have S1 := btrans hbel hb1
                have O1 := own_keep hown hb1
                have N1 := hMB.keep hb1
                have M1 := MBox.new v1 a true A B
                have C1 := (unhide HC).keep S1
                have hz4 : wo.heap.size < v1.heap.size := Nat.lt_of_lt_of_le hMB.1 hb.size
                clear hb hb1 hbel hown hMB
                have c := C1.2
                have m := M1.2
                go_wp2_with fail
                clear c m
                generalize hv2 : v1.alloc (.cells #[.int .i64 a, .bool true, .int .i64 A, .int .i64 B] 41) = v2 at *
                clear hv2
                refine (unhide HTw _).mono ?_
                rintro e v3 ⟨rfl, hb⟩
                have S3 := btrans S1 hb
                have O3 := own_keep O1 hb
                have N3 := N1.keep hb
                have m := (M1.keep hb).2
                have hz5 : wo.heap.size < v3.heap.size := N3.1
                clear hb S1 O1 M1 C1 N1
                by_cases c1 : w2 = 0
                · by_cases c2 : w3 = 0
                  · have b1 : (w2 == 0) = true := by simp [c1]
                    have b2 : (w3 == 0) = true := by simp [c2]
                    have Hs := hide (show R1 ++ mirX g N (a, true, X, Y) ((j : Int) - 5) (ii + 1) = R3 ++ [(a, A, B)] by rw [unhide Hyes ((unhide HP).2 ⟨c1, c2⟩), unhide HR3, List.append_assoc])
                    have hsz := S3.size
                    have Hne := hide hne
                    clear c1 c2 hne
                    go_wp2_with (at_builtin; refine wpList_append_own_at _ rfl _ _ 31 rfl w0.heap.size 41 i0 (.agg #[.int .i64 0, .bool false, .int .i64 0, .int .i64 0]) 4 32 Tryd.underlying31 hi hz0 hz1 hz2 rfl (by decide) _ _ _ rfl (O3.alloc _) ⟨v3.heap.size, 0, none⟩ 1 1 (miC (a, A, B)) rfl rfl ?c1 ?c2 ?c3 ?c4 ?c5 ?_)
                    case c1 =>
                      intro j u hj
                      match j, hj with
                      | 0, hj => simp [miC] at hj; subst hj; simp [Addr.add, go_sem]
                      | 1, hj => simp [miC] at hj; subst hj; simp [Addr.add, go_sem]
                      | 2, hj => simp [miC] at hj; subst hj; simp [Addr.add, go_sem]
                      | 3, hj => simp [miC] at hj; subst hj; simp [Addr.add, go_sem]
                      | j + 4, hj => simp [miC] at hj
                    case c2 => intro u hu; simp [miC] at hu; rcases hu with rfl | rfl | rfl | rfl <;> rfl
                    case c3 => unfold maxLen; omega
                    case c4 => omega
                    case c5 => simp; omega
                    intro v' w5 hown' hgrow _ hat
                    have S5 := (S3.alloc hsz _).grown hgrow (by simp; omega) (fun k hk => (O3.lt k hk).1)
                    have N5 := (N3.keep (bal (Below.refl _ _))).grown hgrow (fun e => unhide Hne e.symm)
                    have hne5 : v'.ownBlock ≠ some wo.heap.size := by
                      intro e
                      rcases hat with h | h
                      · rw [h] at e; exact unhide Hne e
                      · rw [h] at e; have := Option.some.inj e; (try simp at this); omega
                    have HS5 := hide S5
                    have HN5 := hide N5
                    have HE5 := hide hne5
                    have HO5 := hide hown'
                    clear hgrow hat S5 N5 hne5 hown' S3 O3 N3 m
                    go_wp2
                    go_roundw
                    case rel => exact ⟨ii + 1, R3 ++ [(a, A, B)], by omega, int_eq (by omega), (unhide Hs).symm, by rw [List.length_append, misV_snoc]; exact unhide HO5, unhide HS5, unhide HN5, unhide HE5⟩
                    case measure => simp [intOf]; omega
                  · have b1 : (w2 == 0) = true := by simp [c1]
                    have b2 : (w3 == 0) = false := by simp [c2]
                    have Hs := hide (show R3 = R1 ++ mirX g N (a, true, X, Y) ((j : Int) - 5) (ii + 1) by rw [unhide Hno (fun k => c2 ((unhide HP).1 k).2), unhide HR3])
                    have HS5 := hide S3
                    have HN5 := hide N3
                    have HE5 := hide hne
                    have HO5 := hide O3
                    clear c1 c2 S3 O3 N3 hne
                    go_wp2
                    go_roundw
                    case rel => exact ⟨ii + 1, R3, by omega, int_eq (by omega), unhide Hs, unhide HO5, unhide HS5, unhide HN5, unhide HE5⟩
                    case measure => simp [intOf]; omega
                · have b1 : (w2 == 0) = false := by simp [c1]
                  have Hs := hide (show R3 = R1 ++ mirX g N (a, true, X, Y) ((j : Int) - 5) (ii + 1) by rw [unhide Hno (fun k => c1 ((unhide HP).1 k).1), unhide HR3])
                  have HS5 := hide S3
                  have HN5 := hide N3
                  have HE5 := hide hne
                  have HO5 := hide O3
                  clear c1 S3 O3 N3 hne
                  go_wp2
                  go_roundw
                  case rel => exact ⟨ii + 1, R3, by omega, int_eq (by omega), unhide Hs, unhide HO5, unhide HS5, unhide HN5, unhide HE5⟩
                  case measure => simp [intOf]; omega
              · have e : ii = 11 := by omega
                subst e
                have cl : ¬ ((((11 : Nat) : Int)) - 5 ≤ 5) := by omega
                have HSe := hide hbel
                have HOe := hide hown
                have HMe := hide hMB
                have HNe := hide hne
                clear hbel hown hMB hne
                go_wp2
                go_roundw
                case rel => exact ⟨j + 1, R3, by omega, int_eq (by omega), by rw [unhide HR3, unhide HR1, mirY_succ, List.append_assoc], unhide HOe, unhide HSe, unhide HMe, unhide HNe⟩
                case measure => simp [intOf]; omega
          · have e : j = 11 := by omega
            subst e
            have cl : ¬ ((((11 : Nat) : Int)) - 5 ≤ 5) := by omega
            have HSe := hide hbel
            have HOe := hide hown
            clear hbel hown hMB hne
            go_wp2
            go_roundw
            case rel => exact ⟨k + 1, R1, unhide Hl, by go_num, by rw [unhide HR2, ← unhide HRk, unhide HR1]; simp, unhide HOe, unhide HSe⟩
            case measure => have := unhide Hl; simp [intOf]; omega
    · have e : L.length = k := by omega
      have cl : ¬ ((k : Int) < (L.length : Int)) := by omega
      rw [← e, List.take_length] at hR
      subst hR
      obtain ⟨q', cp', rfl⟩ := own_form hown
      have HA := hide (miat_own hown)
      have HSe := hide (btrans (unhide HB) hbel)
      clear hbel hk hlt e hown
      go_wp2
      go_ret
      exact ⟨q', ⟨cp', rfl⟩, unhide HA, unhide HSe⟩
end Go.Proofs.YtpcajcgafmmlkaaDoor

namespace Go.Proofs.YtpcajcgafmmlkaaDoor
open Go.RowKit

theorem twice_far (g : Int) (t : Nat) (X Y : Int) (hg : g = 4 ∨ g = 6) (ht : (t : Int) < g) (hX : -2000 ≤ X ∧ X ≤ 2000) (hY : -2000 ≤ Y ∧ Y ≤ 2000) : ThenIs g t true X Y t true X Y 0 false (mv g t true X Y X Y).1 (mv g t true X Y X Y).2 := by
  have := then_any g t true X Y t true X Y hg ⟨by omega, ht⟩ ⟨by omega, ht⟩ ((Sz.rect 2000 hX hY).mono (by decide)) ((Sz.rect 2000 hX hY).mono (by decide))
  rw [show cT g t true t = 0 by simp only [cT]; rcases hg with rfl | rfl <;> omega, show cF true true = false from rfl, Int.toNat_natCast] at this
  exact this
/-- mirrors that are near enough -/
def Near (g : Int) (R : List Mi) : Prop := ∀ m ∈ R, (m.1 : Int) < g ∧ (-200 ≤ m.2.1 ∧ m.2.1 ≤ 200) ∧ (-200 ≤ m.2.2 ∧ m.2.2 ≤ 200)
def OnIs (g : Int) (R : List Mi) (q : Option Addr) (cp t : Nat) (u v : Int) (W : World) : Prop := Calls Tryd.prog 35 #[.int .i64 g, .agg #[.int .i64 t, .bool false, .int .i64 u, .int .i64 v], .slice q R.length cp] W fun e w' => e = .returned (.bool (onR g R t u v)) ∧ Below W.heap.size W w'

set_option maxHeartbeats 4000000 in
set_option maxRecDepth 100000 in
theorem onR_any (g : Int) (R : List Mi) (q : Option Addr) (cp t : Nat) (u v : Int) (W : World) (hg : g = 4 ∨ g = 6) (ht : (t : Int) < g) (hu : -200 ≤ u ∧ u ≤ 200) (hv : -200 ≤ v ∧ v ≤ 200) (hl : R.length ≤ 1000000) (hR : Near g R) (hm : MiAt W q R) : OnIs g R q cp t u v W := by
  have HT := hide (fun (t1 : Nat) (p r : Int) (h1 : (t1 : Int) < g) (hp : -200 ≤ p ∧ p ≤ 200) (hr : -200 ≤ r ∧ r ≤ 200) => then_any g t1 true p r t false u v hg ⟨by omega, h1⟩ ⟨by omega, ht⟩ ((Sz.rect 200 hp hr).mono (by decide)) ((Sz.rect 200 hu hv).mono (by decide)))
  have HZ := hide (fun (t1 : Nat) (p r : Int) (hp : -200 ≤ p ∧ p ≤ 200) (hr : -200 ≤ r ∧ r ≤ 200) => Sz.mv (g := g) (Sz.rect 200 hu hv) (Sz.rect 200 hp hr) t1 true)
  have HW := hide (fun (V : World) (t1 : Nat) (h1 : (t1 : Int) < g) (X Y : Int) (hX : -2000 ≤ X ∧ X ≤ 2000) (hY : -2000 ≤ Y ∧ Y ≤ 2000) => twice_any g t1 true X Y _ _ _ _ V (twice_far g t1 X Y hg h1 hX hY))
  have HcT := hide (fun (t1 : Nat) => cT_range g t1 true t hg)
  generalize hans : onR g R t u v = ans
  have Hans := hide hans
  have B0 := bal (o := .cells #[.int .i64 t, .bool false, .int .i64 u, .int .i64 v] 41) (Below.refl W.heap.size W)
  have Hm := hide (hm.keep B0)
  have HB := hide B0
  have HM := hide (MBox.new W t false u v)
  have HR := hide hR
  clear hm B0 hans hR hg
  unfold OnIs
  rw [unhide Hans]
  go_enter Tryd.func35, Tryd.ntmps35
  go_wp2
  generalize W.alloc (.cells #[.int .i64 t, .bool false, .int .i64 u, .int .i64 v] 41) = w0 at *
  go_loopw [11] (fun i wr => ∃ k : Nat, k ≤ R.length ∧ i = .int .i64 k ∧ onR g (R.take k) t u v = false ∧ Below w0.heap.size w0 wr) (fun i _ => R.length - (intOf i).toNat)
  case atStart => exact ⟨0, Nat.zero_le _, rfl, rfl, Below.refl _ _⟩
  case round =>
    obtain ⟨k, hk, rfl, hno, hbel⟩ := hrel
    by_cases hlt : k < R.length
    · have q1 : (0 : Int) ≤ (k : Int) := by omega
      have q2 : (k : Int) < (R.length : Int) := by omega
      obtain ⟨⟨a, p, r⟩, hmk⟩ : ∃ m, R[k]? = some m := ⟨_, List.getElem?_eq_getElem hlt⟩
      obtain ⟨b, hq, hrow⟩ : ∃ b, q = some ⟨b, 0, none⟩ ∧ MiRow wr b R := by
        rcases (unhide Hm).keep hbel with e | e
        · omega
        · exact e
      subst hq
      have p1 := hrow.2 k _ hmk
      have hn := unhide HR _ (List.mem_of_getElem? hmk)
      dsimp only at hn
      have hc := unhide HcT a
      have HTh := hide (unhide HT a p r hn.1 hn.2.1 hn.2.2)
      have hz := unhide HZ a p r hn.2.1 hn.2.2
      rw [show cF true false = true from rfl, Int.toNat_natCast] at HTh
      obtain ⟨T, hT⟩ : ∃ T : Nat, cT g a true t = (T : Int) := ⟨(cT g a true t).toNat, by omega⟩
      have Hp := hide (show onP g t u v (a, p, r) = decide (mv g T true (mv g a true p r u v).1 (mv g a true p r u v).2 (mv g a true p r u v).1 (mv g a true p r u v).2 = (0, 0)) by unfold onP; rw [hT, Int.toNat_natCast])
      rw [hT] at HTh hc
      clear hT
      have HTw := hide (fun V => unhide HW V T hc.2 (mv g a true p r u v).1 (mv g a true p r u v).2 (by unfold Sz at hz; omega) (by unfold Sz at hz; omega))
      generalize (mv g a true p r u v).1 = A at *
      generalize (mv g a true p r u v).2 = B at *
      have Hs := hide (show onR g (R.take (k + 1)) t u v = (onR g (R.take k) t u v || onP g t u v (a, p, r)) from any_take_succ _ _ _ _ hmk)
      have Hh := hide (fun (hp : onP g t u v (a, p, r) = true) => show onR g R t u v = true from any_hit hmk hp)
      have HP := hide (show mv g T true A B A B = (0, 0) ↔ (mv g T true A B A B).1 = 0 ∧ (mv g T true A B A B).2 = 0 from ⟨fun e => ⟨congrArg Prod.fst e, congrArg Prod.snd e⟩, fun e => Prod.ext e.1 e.2⟩)
      generalize hw2 : (mv g T true A B A B).1 = w2 at *
      generalize hw3 : (mv g T true A B A B).2 = w3 at *
      have hbN := bal (o := .cells #[.int .i64 a, .bool true, .int .i64 p, .int .i64 r] 41) (Below.refl wr.heap.size wr)
      have S1 := btrans hbel hbN
      have N1 := MBox.new wr a true p r
      have M1 := (unhide HM).keep S1
      have Hno := hide hno
      have Hl := hide hlt
      clear hno hmk hlt hrow hz hw2 hw3 hbel hbN
      have m := N1.2
      have m2 := M1.2
      go_wp2_with fail
      clear m m2 p1
      generalize hv2 : wr.alloc (.cells #[.int .i64 a, .bool true, .int .i64 p, .int .i64 r] 41) = v2 at *
      clear hv2
      refine (unhide HTh _).mono ?_
      rintro e v3 ⟨rfl, hb⟩
      have S3 := btrans S1 hb
      clear hb S1 N1 M1
      go_wp2_with fail
      refine (unhide HTw _).mono ?_
      rintro e v4 ⟨rfl, hb⟩
      have S4 := btrans S3 hb
      clear hb S3
      by_cases c1 : w2 = 0
      · by_cases c2 : w3 = 0
        · have b1 : (w2 == 0) = true := by simp [c1]
          have b2 : (w3 == 0) = true := by simp [c2]
          have hy : ans = true := by rw [← unhide Hans]; exact unhide Hh (by rw [unhide Hp]; exact decide_eq_true ((unhide HP).2 ⟨c1, c2⟩))
          subst hy
          clear c1 c2
          go_wp2
          go_ret
          exact ⟨ret_bool rfl, btrans (unhide HB) S4⟩
        · have b1 : (w2 == 0) = true := by simp [c1]
          have b2 : (w3 == 0) = false := by simp [c2]
          have Hm0 := hide (show onP g t u v (a, p, r) = false by rw [unhide Hp]; exact decide_eq_false (fun k => c2 ((unhide HP).1 k).2))
          clear c1 c2
          go_wp2
          go_roundw
          case rel => exact ⟨k + 1, unhide Hl, by go_num, by rw [unhide Hs, unhide Hno, unhide Hm0]; rfl, S4⟩
          case measure => have := unhide Hl; simp [intOf]; omega
      · have b1 : (w2 == 0) = false := by simp [c1]
        have Hm0 := hide (show onP g t u v (a, p, r) = false by rw [unhide Hp]; exact decide_eq_false (fun k => c1 ((unhide HP).1 k).1))
        clear c1
        go_wp2
        go_roundw
        case rel => exact ⟨k + 1, unhide Hl, by go_num, by rw [unhide Hs, unhide Hno, unhide Hm0]; rfl, S4⟩
        case measure => have := unhide Hl; simp [intOf]; omega
    · have e : R.length = k := by omega
      have cl : ¬ ((k : Int) < (R.length : Int)) := by omega
      have hy : ans = false := by rw [← unhide Hans, ← hno, ← e, List.take_length]
      subst hy
      have HSe := hide (btrans (unhide HB) hbel)
      clear hbel hk hlt e hno
      go_wp2
      go_ret
      exact ⟨ret_bool rfl, unhide HSe⟩

set_option maxHeartbeats 4000000 in
set_option maxRecDepth 100000 in
theorem some_any (g w h : Int) (p : Option Addr) (n cap : Nat) (L : List Mv) (q cp : Nat) (R : List Mi) (q' : Option Addr) (cp' tn : Nat) (W : World) (hl : L.length ≤ 6912) (hm : MRow W q L) (hm' : MiAt W q' R)
    (HO0 : ∀ V, MiAt V q' R → ∀ X Y : Nat, (tn, false, X, Y) ∈ L → OnIs g R q' cp' tn X Y V) :
    Calls Tryd.prog 18 #[Ch.ch g w h p n cap, .slice (some ⟨q, 0, none⟩) L.length cp, .slice q' R.length cp', .int .i64 tn] W fun e w' => e = .returned (.bool (somB g R tn L)) ∧ Below W.heap.size W w' := by
  generalize hans : somB g R tn L = ans
  have Hans := hide hans
  have HO := hide HO0
  have B0 := bal (o := .cells #[.int .i64 g, .int .i64 w, .int .i64 h, .slice p n cap] 24) (Below.refl W.heap.size W)
  have Hm := hide (hm.keep B0)
  have Hm' := hide (hm'.keep B0)
  have HB := hide B0
  have HC := hide (Ch.OwnC.new W g w h p n cap 24)
  clear hm hm' B0 hans HO0
  go_enter Tryd.func18, Tryd.ntmps18
  go_wp2
  generalize W.alloc (.cells #[.int .i64 g, .int .i64 w, .int .i64 h, .slice p n cap] 24) = w0 at *
  go_loopw [13] (fun i wr => ∃ k : Nat, k ≤ L.length ∧ i = .int .i64 k ∧ somB g R tn (L.take k) = false ∧ Below w0.heap.size w0 wr) (fun i _ => L.length - (intOf i).toNat)
  case atStart => exact ⟨0, Nat.zero_le _, rfl, rfl, Below.refl _ _⟩
  case round =>
    obtain ⟨k, hk, rfl, hno, hbel⟩ := hrel
    by_cases hlt : k < L.length
    · have q1 : (0 : Int) ≤ (k : Int) := by omega
      have q2 : (k : Int) < (L.length : Int) := by omega
      obtain ⟨⟨a, f, X, Y⟩, hmk⟩ : ∃ m, L[k]? = some m := ⟨_, List.getElem?_eq_getElem hlt⟩
      have p1 := ((unhide Hm).keep hbel).2 k _ hmk
      have hbN := bal (o := .cells #[.int .i64 a, .bool f, .int .i64 X, .int .i64 Y] 41) (Below.refl wr.heap.size wr)
      have SN := btrans hbel hbN
      have Hs := hide (show somB g R tn (L.take (k + 1)) = (somB g R tn (L.take k) || somP g R tn (a, f, X, Y)) from any_take_succ _ _ _ _ hmk)
      have Hh := hide (fun (hp : somP g R tn (a, f, X, Y) = true) => show somB g R tn L = true from any_hit hmk hp)
      have Hmem := hide (List.mem_of_getElem? hmk)
      have Hno := hide hno
      have Hl := hide hlt
      clear hno hmk hlt
      cases f with
      | true =>
        have HSN := hide SN
        clear hbel hbN SN
        go_wp2
        go_roundw
        case rel => exact ⟨k + 1, unhide Hl, by go_num, by rw [unhide Hs, unhide Hno]; rfl, unhide HSN⟩
        case measure => have := unhide Hl; simp [intOf]; omega
      | false =>
        by_cases ha : a = tn
        · subst ha
          have N1 := MBox.new wr a false X Y
          have C1 := (unhide HC).keep SN
          have c := C1.2
          have m := N1.2
          go_wp2_with fail
          clear p1 hbel hbN c m
          generalize hw1 : wr.alloc (.cells #[.int .i64 a, .bool false, .int .i64 X, .int .i64 Y] 41) = w1 at *
          clear hw1
          refine (unhide HO _ ((unhide Hm').keep SN) X Y (unhide Hmem)).mono ?_
          rintro e w2 ⟨rfl, hb⟩
          have S2 := btrans SN hb
          clear hb SN C1 N1
          cases ho : onR g R a X Y with
          | true =>
            have hy : ans = true := by rw [← unhide Hans]; exact unhide Hh (by simp [somP, ho])
            subst hy
            go_wp2
            go_ret
            exact ⟨ret_bool rfl, btrans (unhide HB) S2⟩
          | false =>
            have Hm0 := hide (show somP g R a (a, false, X, Y) = false by simp [somP, ho])
            go_wp2
            go_roundw
            case rel => exact ⟨k + 1, unhide Hl, by go_num, by rw [unhide Hs, unhide Hno, unhide Hm0]; rfl, S2⟩
            case measure => have := unhide Hl; simp [intOf]; omega
        · have haa : ((a : Int) == (tn : Int)) = false := by simp; omega
          have HSN := hide SN
          have Hm0 := hide (show somP g R tn (a, false, X, Y) = false by simp [somP, ha])
          clear hbel hbN SN ha
          go_wp2
          go_roundw
          case rel => exact ⟨k + 1, unhide Hl, by go_num, by rw [unhide Hs, unhide Hno, unhide Hm0]; rfl, unhide HSN⟩
          case measure => have := unhide Hl; simp [intOf]; omega
    · have e : L.length = k := by omega
      have cl : ¬ ((k : Int) < (L.length : Int)) := by omega
      have hy : ans = false := by rw [← unhide Hans, ← hno, ← e, List.take_length]
      subst hy
      have HSe := hide (btrans (unhide HB) hbel)
      clear hbel hk hlt e hno
      go_wp2
      go_ret
      exact ⟨ret_bool rfl, unhide HSe⟩
end Go.Proofs.YtpcajcgafmmlkaaDoor

namespace Go.Proofs.YtpcajcgafmmlkaaDoor
open Go.RowKit

theorem all_succ (F : Nat → Bool) (k : Nat) : (List.range (k + 1)).all F = ((List.range k).all F && F k) := by rw [List.range_succ, List.all_append]; simp
theorem all_miss {F : Nat → Bool} {k n : Nat} (h : k < n) (hk : F k = false) : (List.range n).all F = false := by
  cases e : (List.range n).all F with
  | false => rfl
  | true => rw [List.all_eq_true] at e; rw [e k (List.mem_range.2 h)] at hk; cases hk
theorem cen_take {g : Int} {N : Nat} {R : List Mi} {tn : Nat} {L : List Mv} {k : Nat} {m : Mv} (h : L[k]? = some m) : cenB g N R tn (L.take (k + 1)) = (cenB g N R tn (L.take k) && cenP g N R tn m) := by
  unfold cenB; exact all_take _ _ _ _ h
theorem cen_miss {g : Int} {N : Nat} {R : List Mi} {tn : Nat} {L : List Mv} {k : Nat} {m : Mv} (h : L[k]? = some m) (hp : cenP g N R tn m = false) : cenB g N R tn L = false := by
  cases e : cenB g N R tn L with
  | false => rfl
  | true => unfold cenB at e; rw [List.all_eq_true] at e; rw [e m (List.mem_of_getElem? h)] at hp; cases hp

set_option maxHeartbeats 4000000 in
set_option maxRecDepth 100000 in
theorem centred_any (g w h : Int) (p : Option Addr) (n cap : Nat) (N : Nat) (L : List Mv) (q cp : Nat) (R : List Mi) (q' : Option Addr) (cp' tn : Nat) (W : World) (hN : 1 ≤ N ∧ N ≤ 24) (hl : L.length ≤ 6912) (hL : ∀ m ∈ L, m.2.2.1 < N ∧ m.2.2.2 < N) (hm : MRow W q L) (hm' : MiAt W q' R)
    (HO0 : ∀ V, MiAt V q' R → ∀ X Y x y : Nat, (tn, false, X, Y) ∈ L → x < 3 → y < 3 → OnIs g R q' cp' tn ((X : Int) + N * x) ((Y : Int) + N * y) V) :
    Calls Tryd.prog 17 #[Ch.ch g w h p n cap, .int .i64 N, .slice (some ⟨q, 0, none⟩) L.length cp, .slice q' R.length cp', .int .i64 tn] W fun e w' => e = .returned (.bool (cenB g N R tn L)) ∧ Below W.heap.size W w' := by
  generalize hans : cenB g N R tn L = ans
  have Hans := hide hans
  have HO := hide HO0
  have HL := hide hL
  have B0 := bal (o := .cells #[.int .i64 g, .int .i64 w, .int .i64 h, .slice p n cap] 24) (Below.refl W.heap.size W)
  have Hm := hide (hm.keep B0)
  have Hm' := hide (hm'.keep B0)
  have HB := hide B0
  have HC := hide (Ch.OwnC.new W g w h p n cap 24)
  clear hm hm' B0 hans HO0 hL
  go_enter Tryd.func17, Tryd.ntmps17
  go_wp2
  generalize W.alloc (.cells #[.int .i64 g, .int .i64 w, .int .i64 h, .slice p n cap] 24) = w0 at *
  go_loopw [17] (fun i wr => ∃ k : Nat, k ≤ L.length ∧ i = .int .i64 k ∧ cenB g N R tn (L.take k) = true ∧ Below w0.heap.size w0 wr) (fun i _ => L.length - (intOf i).toNat)
  case atStart => exact ⟨0, Nat.zero_le _, rfl, rfl, Below.refl _ _⟩
  case round =>
    obtain ⟨k, hk, rfl, hno, hbel⟩ := hrel
    by_cases hlt : k < L.length
    · have q1 : (0 : Int) ≤ (k : Int) := by omega
      have q2 : (k : Int) < (L.length : Int) := by omega
      obtain ⟨⟨a, f, X, Y⟩, hmk⟩ : ∃ m, L[k]? = some m := ⟨_, List.getElem?_eq_getElem hlt⟩
      have p1 := ((unhide Hm).keep hbel).2 k _ hmk
      have hlim := unhide HL _ (List.mem_of_getElem? hmk)
      dsimp only at hlim
      have hbN := bal (o := .cells #[.int .i64 a, .bool f, .int .i64 X, .int .i64 Y] 41) (Below.refl wr.heap.size wr)
      have SN := btrans hbel hbN
      have Hs := hide (cen_take (g := g) (N := N) (R := R) (tn := tn) hmk)
      have Hh := hide (fun (hp : cenP g N R tn (a, f, X, Y) = false) => cen_miss hmk hp)
      have Hmem := hide (List.mem_of_getElem? hmk)
      have Hno := hide hno
      have Hl := hide hlt
      clear hno hmk hlt
      cases f with
      | true =>
        have HSN := hide SN
        clear hbel hbN SN
        go_wp2
        go_roundw
        case rel => exact ⟨k + 1, unhide Hl, by go_num, by rw [unhide Hs, unhide Hno]; rfl, unhide HSN⟩
        case measure => have := unhide Hl; simp [intOf]; omega
      | false =>
        by_cases ha : a = tn
        · subst ha
          have haa : ((a : Int) != (a : Int)) = false := by simp
          have N1 := MBox.new wr a false X Y
          go_wp2
          clear p1 hbel hbN haa
          generalize hw1 : wr.alloc (.cells #[.int .i64 a, .bool false, .int .i64 X, .int .i64 Y] 41) = w1 at *
          clear hw1
          have Hcen := hide (show cenP g N R a (a, false, X, Y) = (List.range 3).all fun y => (List.range 3).all fun x => onR g R a ((X : Int) + N * (x : Nat)) ((Y : Int) + N * (y : Nat)) by simp [cenP])
          obtain ⟨wo, rfl⟩ : ∃ wo : World, wo = wr := ⟨_, rfl⟩
          go_loopw [13] (fun i wr => ∃ j : Nat, j ≤ 3 ∧ i = .int .i64 j ∧ ((List.range j).all fun y => (List.range 3).all fun x => onR g R a ((X : Int) + N * (x : Nat)) ((Y : Int) + N * (y : Nat))) = true ∧ Below w0.heap.size w0 wr ∧ MBox wr wo.heap.size a false X Y) (fun i _ => 3 - (intOf i).toNat)
          case atStart => exact ⟨0, Nat.zero_le _, rfl, rfl, SN, N1⟩
          case round =>
            clear SN N1
            obtain ⟨j, hj, rfl, hall, hbel, hMB⟩ := hrel
            have Hall := hide hall
            clear hall
            by_cases hlj : j < 3
            · have q3 : (j : Int) < 3 := by omega
              have Hbel := hide hbel
              have HMB := hide hMB
              clear hbel hMB
              go_wp2
              go_loopw [14] (fun i wr => ∃ ii : Nat, ii ≤ 3 ∧ i = .int .i64 ii ∧ ((List.range ii).all fun x => onR g R a ((X : Int) + N * (x : Nat)) ((Y : Int) + N * (j : Nat))) = true ∧ Below w0.heap.size w0 wr ∧ MBox wr wo.heap.size a false X Y) (fun i _ => 3 - (intOf i).toNat)
              case atStart => exact ⟨0, Nat.zero_le _, rfl, rfl, unhide Hbel, unhide HMB⟩
              case round =>
                clear Hbel HMB
                obtain ⟨ii, hii, rfl, hrow, hbel, hMB⟩ := hrel
                have Hrow := hide hrow
                clear hrow
                by_cases hli : ii < 3
                · have q4 : (ii : Int) < 3 := by omega
                  have HSh := hide (fun V => shifted_any N a false X Y (ii : Int) (j : Int) V (by omega) (by omega) (by omega) (by omega) (by omega))
                  have HOn := hide (fun V hV => unhide HO V hV X Y ii j (unhide Hmem) hli hlj)
                  unfold OnIs at HOn
                  have Hx := hide (all_succ (fun x => onR g R a ((X : Int) + N * (x : Nat)) ((Y : Int) + N * (j : Nat))) ii)
                  have Hxm := hide (fun (h0 : onR g R a ((X : Int) + N * (ii : Nat)) ((Y : Int) + N * (j : Nat)) = false) => show cenB g N R a L = false from unhide Hh (by rw [unhide Hcen]; exact all_miss hlj (all_miss hli h0)))
                  generalize hob : onR g R a ((X : Int) + N * (ii : Nat)) ((Y : Int) + N * (j : Nat)) = ob at *
                  have Hob := hide hob
                  clear hob
                  generalize hA : (X : Int) + N * (ii : Nat) = A at *
                  generalize hB : (Y : Int) + N * (j : Nat) = B at *
                  clear hA hB
                  have C1 := (unhide HC).keep hbel
                  have Hmi := hide ((unhide Hm').keep hbel)
                  have Mk := hide (show ∀ V, Below wr.heap.size wr V → Below wr.heap.size wr V ∧ V.cell? ⟨W.heap.size, 0, none⟩ = some (.int .i64 g) ∧ (V.cell? ⟨wo.heap.size, 0, none⟩ = some (.int .i64 a) ∧ V.cell? ⟨wo.heap.size, 1, none⟩ = some (.bool false) ∧ V.cell? ⟨wo.heap.size, 2, none⟩ = some (.int .i64 X) ∧ V.cell? ⟨wo.heap.size, 3, none⟩ = some (.int .i64 Y)) from fun V hV =>
                    ⟨hV, (C1.keep hV).2.1, (hMB.keep hV).2⟩)
                  go_wp2_with fail
                  clear C1
                  go_region_held3 (fun V => Below wr.heap.size wr V ∧ V.cell? ⟨W.heap.size, 0, none⟩ = some (.int .i64 g) ∧ (V.cell? ⟨wo.heap.size, 0, none⟩ = some (.int .i64 a) ∧ V.cell? ⟨wo.heap.size, 1, none⟩ = some (.bool false) ∧ V.cell? ⟨wo.heap.size, 2, none⟩ = some (.int .i64 X) ∧ V.cell? ⟨wo.heap.size, 3, none⟩ = some (.int .i64 Y)))
                    (first
                      | (exact unhide Mk _ (Below.drew (Below.refl _ _)))
                      | (exact unhide Mk _ (btrans (by assumption : Below wr.heap.size wr _ ∧ _).1 hb)))
                    (first
                      | (go_at_call 15; refine (unhide HSh _).mono ?_; rintro e w2 ⟨rfl, hb⟩)
                      | (go_at_call 35; refine (unhide HOn _ ((unhide Hmi).keep (by assumption : Below wr.heap.size wr _ ∧ _).1)).mono ?_; rintro e w3 ⟨rfl, hb⟩))
                  have hfin := (by assumption : Below wr.heap.size wr _ ∧ _).1
                  have S4 := btrans hbel hfin
                  have M4 := hMB.keep hfin
                  clear hb Mk hfin hbel hMB
                  cases ob with
                  | true =>
                    have HS4 := hide S4
                    have HM4 := hide M4
                    clear S4 M4
                    go_wp2
                    go_roundw
                    case rel => exact ⟨ii + 1, by omega, by go_num, by rw [unhide Hx, unhide Hrow]; rfl, unhide HS4, unhide HM4⟩
                    case measure => simp [intOf]; omega
                  | false =>
                    have hy : ans = false := by rw [← unhide Hans]; exact unhide Hxm rfl
                    subst hy
                    clear M4
                    go_wp2
                    go_ret
                    exact ⟨ret_bool rfl, btrans (unhide HB) S4⟩
                · have e : ii = 3 := by omega
                  subst e
                  have cl : ¬ ((((3 : Nat) : Int)) < 3) := by omega
                  have HS4 := hide hbel
                  have HM4 := hide hMB
                  have Hy := hide (all_succ (fun y => (List.range 3).all fun x => onR g R a ((X : Int) + N * (x : Nat)) ((Y : Int) + N * (y : Nat))) j)
                  clear hbel hMB
                  go_wp2
                  go_roundw
                  case rel => exact ⟨j + 1, by omega, by go_num, by rw [unhide Hy, unhide Hall, unhide Hrow]; rfl, unhide HS4, unhide HM4⟩
                  case measure => simp [intOf]; omega
            · have e : j = 3 := by omega
              subst e
              have cl : ¬ ((((3 : Nat) : Int)) < 3) := by omega
              have HS4 := hide hbel
              clear hbel hMB
              go_wp2
              go_roundw
              case rel => exact ⟨k + 1, unhide Hl, by go_num, by rw [unhide Hs, unhide Hno, unhide Hcen, unhide Hall]; rfl, unhide HS4⟩
              case measure => have := unhide Hl; simp [intOf]; omega
        · have haa : ((a : Int) != (tn : Int)) = true := by simp; omega
          have HSN := hide SN
          have Hm0 := hide (show cenP g N R tn (a, false, X, Y) = true by simp [cenP, ha])
          clear hbel hbN SN ha
          go_wp2
          go_roundw
          case rel => exact ⟨k + 1, unhide Hl, by go_num, by rw [unhide Hs, unhide Hno, unhide Hm0]; rfl, unhide HSN⟩
          case measure => have := unhide Hl; simp [intOf]; omega
    · have e : L.length = k := by omega
      have cl : ¬ ((k : Int) < (L.length : Int)) := by omega
      have hy : ans = true := by rw [← unhide Hans, ← hno, ← e, List.take_length]
      subst hy
      have HSe := hide (btrans (unhide HB) hbel)
      clear hbel hk hlt e hno
      go_wp2
      go_ret
      exact ⟨ret_bool rfl, unhide HSe⟩
end Go.Proofs.YtpcajcgafmmlkaaDoor
