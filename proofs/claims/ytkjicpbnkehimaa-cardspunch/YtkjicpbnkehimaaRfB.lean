/-
  What the document's Holes answers.
-/
import Derived.Test.YtkjicpbnkehimaaRfA
import Derived.Test.YtkjicpbnkehimaaBld
namespace Go.Proofs.Ytkjicpbnkehimaa
open Go.RowKit

/-- the first bytes of a row's holes -/
def hls (r : Nat → Bool) (w i : Nat) : List UInt8 := (List.range i).map fun i => UInt8.ofNat (hb r w i)
theorem hls_len (r : Nat → Bool) (w i : Nat) : (hls r w i).length = i := by simp [hls]
theorem hls_succ (r : Nat → Bool) (w i : Nat) : hls r w (i + 1) = hls r w i ++ [UInt8.ofNat (hb r w i)] := by simp [hls, List.range_succ]
theorem one_cell' (n : Nat) (h : n < 256) : [Value.int .u8 (n : Int)] = Lib.byteCells [UInt8.ofNat n] := by
  simp only [Lib.byteCells, List.map_cons, List.map_nil]
  rw [toNat_ofNat n h]
theorem hv_pow (p : Nat → Bool) (j : Nat) (hj : j ≤ 8) : hv p j < 256 := Nat.lt_of_lt_of_le (hv_lt p j) (Nat.pow_le_pow_right (by omega) hj)

set_option maxRecDepth 100000 in
set_option maxHeartbeats 2000000 in
theorem rholes_any {W : World} {w h : Nat} {p : Option Addr} {n cap : Nat} {f : Nat → Bool} (r : Rg W w p n cap f) (y : Nat) (hy : (y + 1) * w ≤ n) :
    Calls Try.prog 23 #[tr w h p n cap, .int .i64 y] W fun e w' => (∃ q c, e = .returned (.slice q (nb w) c) ∧ w'.ownsRow W.heap.size 5 1 (.slice q (nb w) c) (nb w) (Lib.byteCells (holes (row f w y) w))) ∧ Below W.heap.size W w' := by
  obtain ⟨i0, hi, hz0, hz1, hz2⟩ := info_parts info5
  have hw := r.1
  have T0 := hide (Tg.new (h := h) r)
  have B0 := hide (bal (o := .cells #[.int .i64 w, .int .i64 h, .slice p n cap] 24) (Below.refl W.heap.size W))
  have Hy := hide hy
  clear r hy
  go_enter Try.func23, Try.ntmps23
  go_wp2
  generalize hw0 : W.alloc (.cells #[.int .i64 w, .int .i64 h, .slice p n cap] 24) = w0 at *
  clear hw0
  go_loopw [5, 6] (fun c v wr => ∃ (i m : Nat) (q : Option Addr) (k : Nat), i ≤ nb w ∧ v = .int .i64 m ∧ m = 8 * i ∧ c = .slice q i k ∧ wr.ownsRow w0.heap.size 5 1 (.slice q i k) i (Lib.byteCells (hls (row f w y) w i)) ∧ Below w0.heap.size w0 wr) (fun _ v _ => 72 - (intOf v).toNat)
  case atStart => exact ⟨0, 0, none, 0, Nat.zero_le _, rfl, rfl, rfl, World.ownsRow_nil _ _ _ _, Below.refl _ _⟩
  case round =>
    obtain ⟨i, m, q, k, hin, rfl, hm, rfl, hown, hb⟩ := hrel
    have HO := hide hown
    have Hb := hide hb
    obtain ⟨-, c0, c1, c2⟩ := (unhide T0).1.keep hb
    clear hown hb
    by_cases hlt : m < w
    · have q1 : (m : Int) < (w : Int) := by omega
      have hm6 : (m : Int) ≤ 64 := by omega
      have hinb : i < nb w := by unfold nb; omega
      have Hm := hide hm
      clear hm
      go_wp2
      clear c0 c1 c2
      go_loopw [7, 8] (fun c v wr => ∃ (j u x : Nat), j ≤ 8 ∧ v = .int .i64 u ∧ u = m + j ∧ c = .int .i64 x ∧ Hid (x = hv (bt (row f w y) w i) j) ∧ wr.ownsRow w0.heap.size 5 1 (.slice q i k) i (Lib.byteCells (hls (row f w y) w i)) ∧ Below w0.heap.size w0 wr) (fun _ v _ => 80 - (intOf v).toNat)
      case atStart => exact ⟨0, m, 0, by omega, rfl, rfl, rfl, rfl, unhide HO, unhide Hb⟩
      case round =>
        clear HO Hb
        obtain ⟨j, u, x, hj, rfl, hu, rfl, Hx, hown, hb⟩ := hrel
        have HO := hide hown
        have Hb := hide hb
        have T1 := hide ((unhide T0).keep hb)
        obtain ⟨-, c0, c1, c2⟩ := (unhide T1).1
        have hx2 : x < 256 := by rw [unhide Hx]; exact hv_pow _ _ hj
        have x1 : (x : Int) ≤ 255 := by omega
        have x0 : (0 : Int) ≤ (x : Int) := by omega
        have u1 : (u : Int) ≤ 72 := by omega
        have u0 : (0 : Int) ≤ (u : Int) := by omega
        clear hown hb
        by_cases hj8 : j < 8
        · have q2 : (u : Int) < (m : Int) + 8 := by omega
          have Hs := hide (show hv (bt (row f w y) w i) (j + 1) = 2 * x + (bt (row f w y) w i j).toNat by rw [hv, ← unhide Hx])
          by_cases huw : u < w
          · have q3 : (u : Int) < (w : Int) := by omega
            have HB := hide (bit_g (h := h) (unhide T1).2 y u (unhide Hy) huw)
            have Hbt := hide (show bt (row f w y) w i j = f (y * w + u) by
              unfold bt
              rw [show 8 * i + j = u by rw [hu, unhide Hm], decide_eq_true huw]; rfl)
            have Hu := hide hu
            clear hu T1
            generalize f (y * w + u) = a at *
            go_wp2_with fail
            refine (unhide HB).mono ?_
            rintro e w1 ⟨rfl, hb1⟩
            have HO1 := hide (own_keep (unhide HO) hb1)
            have Hb1 := hide (btrans (unhide Hb) hb1)
            clear hb1 HO Hb HB c0 c1 c2
            cases a
            · go_wp2
              go_roundw
              case rel => exact ⟨j + 1, u + 1, 2 * x, by omega, by go_num, by have := unhide Hu; omega, by go_num, hide (by rw [unhide Hs, unhide Hbt]; rfl), unhide HO1, unhide Hb1⟩
              case measure => simp [intOf]; omega
            · go_wp2
              go_roundw
              case rel => exact ⟨j + 1, u + 1, 2 * x + 1, by omega, by go_num, by have := unhide Hu; omega, by go_num, hide (by rw [unhide Hs, unhide Hbt]; rfl), unhide HO1, unhide Hb1⟩
              case measure => simp [intOf]; omega
          · have q3 : ¬ ((u : Int) < (w : Int)) := by omega
            have q4 : decide ((u : Int) < (w : Int)) = false := by simpa using q3
            have Hbt := hide (show bt (row f w y) w i j = false by
              unfold bt
              rw [show 8 * i + j = u by rw [hu, unhide Hm], decide_eq_false huw]; rfl)
            have Hu := hide hu
            clear hu T1
            go_wp2
            go_roundw
            case rel => exact ⟨j + 1, u + 1, 2 * x, by omega, by go_num, by have := unhide Hu; omega, by go_num, hide (by rw [unhide Hs, unhide Hbt]; rfl), unhide HO, unhide Hb⟩
            case measure => simp [intOf]; omega
        · obtain rfl : j = 8 := by omega
          have q2 : ¬ ((u : Int) < (m : Int) + 8) := by omega
          have Hxx := hide (show x = hb (row f w y) w i from unhide Hx)
          have Hu := hide hu
          clear T1 hu c0 c1 c2
          have hsz := (unhide Hb).size
          have hsz0 := (unhide B0).size
          go_wp2_with (at_builtin; refine wpList_append_own _ rfl _ _ 35 rfl w0.heap.size 5 i0 (.int .u8 0) 1 1 Try.underlying35 hi hz0 hz1 hz2 rfl (by decide) _ _ _ rfl ((unhide HO).alloc _) ⟨wr.heap.size, 0, none⟩ 1 1 [.int .u8 (x : Int)] rfl rfl ?c1 ?c2 ?c3 ?c4 ?c5 ?_)
          case c2 => rfl
          case c3 => unfold nb at hinb; unfold maxLen; omega
          case c4 => unfold nb at hinb; omega
          case c5 => omega
          intro v' w2 hown' hgrow _
          obtain ⟨q', cap', rfl⟩ := bd_slice0 hown'
          rw [one_cell' x hx2, ← byteCells_append, unhide Hxx, ← hls_succ] at hown'
          have HO2 := hide hown'
          have Hb2 := hide (show Below w0.heap.size w0 w2 from (bal (unhide Hb)).grown hgrow (by simp; omega) (fun kk hk => ((unhide HO).lt kk hk).1))
          clear hown' hgrow
          go_wp2
          go_roundw
          case rel => exact ⟨i + 1, m + 8, q', cap', by omega, by go_num, by have := unhide Hm; omega, rfl, unhide HO2, unhide Hb2⟩
          case measure => simp [intOf]; omega
    · have q1 : ¬ ((m : Int) < (w : Int)) := by omega
      obtain rfl : i = nb w := by unfold nb at hin ⊢; omega
      have S := hide (btrans (unhide B0) (unhide Hb))
      clear hm
      go_wp2
      go_ret
      exact ⟨⟨q, k, rfl, Joins.ownsRow_le (unhide HO) (unhide B0).size⟩, unhide S⟩
end Go.Proofs.Ytkjicpbnkehimaa
