/-
  What keeps of package group answers: whether all points, which have come to these images, stand on their own colours.
-/
import Derived.Test.YtpcajcgafmmlkaaDoorGF
namespace Go.Proofs.YtpcajcgafmmlkaaDoor
open Go.RowKit

/-- which cell is that of a point, moved by another one -/
def cby (n : Nat) (x y u v : Int) : Nat := ((y + v) % n * n + (x + u) % n).toNat
theorem cby_lt (n : Nat) (x y u v : Int) (hn : 1 ≤ n) : cby n x y u v < n * n ∧ (y + v) % n * n + (x + u) % n = (cby n x y u v : Nat) := by
  have a1 := Int.emod_nonneg (y + v) (show (n : Int) ≠ 0 by omega)
  have a2 := Int.emod_lt_of_pos (y + v) (show (0 : Int) < n by omega)
  have b1 := Int.emod_nonneg (x + u) (show (n : Int) ≠ 0 by omega)
  have b2 := Int.emod_lt_of_pos (x + u) (show (0 : Int) < n by omega)
  have c1 := Int.mul_nonneg a1 (show (0 : Int) ≤ n by omega)
  have c2 := Int.mul_le_mul_of_nonneg_right (a := (y + v) % n) (b := (n : Int) - 1) (c := n) (by omega) (by omega)
  have e : ((n : Int) - 1) * n = ((n * n : Nat) : Int) - n := by rw [Int.sub_mul, Int.natCast_mul]; omega
  unfold cby
  omega
/-- the first i points stand on their own colours -/
def kpB (cx : Nat → Int) (ix iy : Nat → Int) (n : Nat) (u v : Int) : Nat → Bool
  | 0 => true
  | i + 1 => kpB cx ix iy n u v i && decide (cx i = cx (cby n (ix i) (iy i) u v))
theorem kpB_false {cx ix iy : Nat → Int} {n : Nat} {u v : Int} (i k : Nat) (h : i < k) (hk : cx i ≠ cx (cby n (ix i) (iy i) u v)) : kpB cx ix iy n u v k = false := by
  induction k with
  | zero => omega
  | succ k ih =>
    by_cases e : i = k
    · subst e; simp [kpB, hk]
    · simp [kpB, ih (by omega)]

set_option maxHeartbeats 2000000 in
set_option maxRecDepth 100000 in
theorem keeps_any (g : Int) (n b o k cap bi : Nat) (cx ix iy : Nat → Int) (u v : Int) (w : World) (hn : 1 ≤ n ∧ n ≤ 24) (hk : k = n * n) (hr : Ch.Row w b o k cx) (hp : PRow w bi k ix iy) (hi : ∀ j, j < k → (0 ≤ ix j ∧ ix j ≤ 24) ∧ 0 ≤ iy j ∧ iy j ≤ 24) (hu : 0 ≤ u ∧ u ≤ 24) (hv : 0 ≤ v ∧ v ≤ 24) :
    Calls Tryd.prog 59 #[tv g n (some ⟨b, o, none⟩) k cap, .slice (some ⟨bi, 0, none⟩) k k, .agg #[.int .i64 u, .int .i64 v]] w fun e w' => e = .returned (.bool (kpB cx ix iy n u v k)) ∧ Below w.heap.size w w' := by
  have hk5 : k ≤ 576 := by rw [hk]; exact Nat.mul_le_mul hn.2 hn.2
  have Hk := hide hk
  have Hi := hide hi
  have T0 := (OwnT.new w g n (some ⟨b, o, none⟩) k cap 74).alloc (.cells #[.int .i64 u, .int .i64 v] 33)
  have Y0 := Own.new (w.alloc (.cells #[.int .i64 g, .int .i64 n, .slice (some ⟨b, o, none⟩) k cap] 74)) u v 33
  have B0 := bal (o := .cells #[.int .i64 u, .int .i64 v] 33) (bal (o := .cells #[.int .i64 g, .int .i64 n, .slice (some ⟨b, o, none⟩) k cap] 74) (Below.refl w.heap.size w))
  rw [World.size_alloc] at Y0
  have R0 := hide (hr.keep B0)
  have P0 := hide (hp.keep B0)
  have HB0 := hide B0
  have HT0 := hide T0
  have HY0 := hide Y0
  clear hk hi hr hp T0 Y0 B0
  go_enter Tryd.func59, Tryd.ntmps59
  go_wp2_with fail
  generalize (w.alloc (.cells #[.int .i64 g, .int .i64 n, .slice (some ⟨b, o, none⟩) k cap] 74)).alloc (.cells #[.int .i64 u, .int .i64 v] 33) = w0 at *
  go_loopw [11] (fun a wr => ∃ i : Nat, i ≤ k ∧ a = .int .i64 i ∧ kpB cx ix iy n u v i = true ∧ Below w0.heap.size w0 wr) (fun a _ => k - (intOf a).toNat)
  case atStart => exact ⟨0, Nat.zero_le _, rfl, rfl, Below.refl _ _⟩
  case round =>
    obtain ⟨i, hik, rfl, hall, hbel⟩ := hrel
    have Hall := hide hall
    clear hall
    by_cases hlt : i < k
    · obtain ⟨p1, p2⟩ := ((unhide P0).keep hbel).2 i hlt
      obtain ⟨hx, hy⟩ := unhide Hi i hlt
      obtain ⟨hjl, hje⟩ := cby_lt n (ix i) (iy i) u v hn.1
      have HC := hide (fun V => cellBy_any g n (some ⟨b, o, none⟩) k cap (ix i) (iy i) u v V (by omega) hx hy hu hv)
      rw [hje] at HC
      have hjk : cby n (ix i) (iy i) u v < k := by rw [unhide Hk]; exact hjl
      have hi0 : (0 : Int) ≤ (i : Int) := by omega
      have hik2 : (i : Int) < (k : Int) := by omega
      have hj0 : (0 : Int) ≤ (cby n (ix i) (iy i) u v : Int) := by omega
      have hj2 : (cby n (ix i) (iy i) u v : Int) < (k : Int) := by omega
      have Hfalse := hide (fun h => kpB_false (cx := cx) (ix := ix) (iy := iy) (n := n) (u := u) (v := v) i k hlt h)
      have Htrue := hide (fun (h : cx i = cx (cby n (ix i) (iy i) u v)) => show kpB cx ix iy n u v (i + 1) = true by simp [kpB, unhide Hall, h])
      clear hje hjl
      generalize cby n (ix i) (iy i) u v = j at *
      generalize ix i = X at *
      generalize iy i = Y at *
      go_wp2_with fail
      have Z0 := Own.new wr X Y 33
      have S1 := bal (o := .cells #[.int .i64 X, .int .i64 Y] 33) hbel
      clear p1 p2
      generalize hw1 : wr.alloc (.cells #[.int .i64 X, .int .i64 Y] 33) = w1 at *
      clear hw1
      have T1 := (unhide HT0).keep S1
      have Y1 := (unhide HY0).keep S1
      have R1 := (unhide R0).keep S1
      have Mk := hide (show ∀ V, Below w1.heap.size w1 V → Below w1.heap.size w1 V ∧ (V.cell? ⟨w.heap.size, 0, none⟩ = some (.int .i64 g) ∧ V.cell? ⟨w.heap.size, 1, none⟩ = some (.int .i64 n) ∧ V.cell? ⟨w.heap.size, 2, none⟩ = some (.slice (some ⟨b, o, none⟩) k cap)) ∧ (V.cell? ⟨w.heap.size + 1, 0, none⟩ = some (.int .i64 u) ∧ V.cell? ⟨w.heap.size + 1, 1, none⟩ = some (.int .i64 v)) ∧ (V.cell? ⟨wr.heap.size, 0, none⟩ = some (.int .i64 X) ∧ V.cell? ⟨wr.heap.size, 1, none⟩ = some (.int .i64 Y)) ∧ V.cell? ⟨b, o + i, none⟩ = some (.int .i64 (cx i)) ∧ V.cell? ⟨b, o + j, none⟩ = some (.int .i64 (cx j)) from fun V hV =>
        ⟨hV, (T1.keep hV).2, (Y1.keep hV).2.1, (Z0.keep hV).2.1, (R1.keep hV).2 i hlt, (R1.keep hV).2 j hjk⟩)
      clear T1 Y1 R1 Z0
      go_region_held3 (fun V => Below w1.heap.size w1 V ∧ (V.cell? ⟨w.heap.size, 0, none⟩ = some (.int .i64 g) ∧ V.cell? ⟨w.heap.size, 1, none⟩ = some (.int .i64 n) ∧ V.cell? ⟨w.heap.size, 2, none⟩ = some (.slice (some ⟨b, o, none⟩) k cap)) ∧ (V.cell? ⟨w.heap.size + 1, 0, none⟩ = some (.int .i64 u) ∧ V.cell? ⟨w.heap.size + 1, 1, none⟩ = some (.int .i64 v)) ∧ (V.cell? ⟨wr.heap.size, 0, none⟩ = some (.int .i64 X) ∧ V.cell? ⟨wr.heap.size, 1, none⟩ = some (.int .i64 Y)) ∧ V.cell? ⟨b, o + i, none⟩ = some (.int .i64 (cx i)) ∧ V.cell? ⟨b, o + j, none⟩ = some (.int .i64 (cx j)))
        (first
          | (exact unhide Mk _ (Below.drew (Below.refl _ _)))
          | (exact unhide Mk _ (btrans (by assumption : Below w1.heap.size w1 _ ∧ _).1 hb)))
        (first
          | (go_at_call 72; refine (unhide HC _).mono ?_; rintro e w2 ⟨rfl, hb⟩))
      have S2 := btrans S1 (by assumption : Below w1.heap.size w1 _ ∧ _).1
      clear hb Mk
      by_cases hq : cx i = cx j
      · have hq' : (cx i != cx j) = false := by simp [hq]
        have Ht := hide (unhide Htrue hq)
        clear hq
        go_wp2
        go_roundw
        case rel => exact ⟨i + 1, by omega, by go_num, unhide Ht, S2⟩
        case measure => simp [intOf]; omega
      · have hq' : (cx i != cx j) = true := by simp [hq]
        have Hf := hide (unhide Hfalse hq)
        clear hq
        go_wp2
        go_ret
        exact ⟨ret_bool (unhide Hf).symm, btrans (unhide HB0) S2⟩
    · have e : i = k := by omega
      subst e
      have cl : ¬ ((i : Int) < (i : Int)) := by omega
      go_wp2
      go_ret
      exact ⟨ret_bool (unhide Hall).symm, btrans (unhide HB0) hbel⟩
end Go.Proofs.YtpcajcgafmmlkaaDoor
