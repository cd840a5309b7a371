/-
  The reference: Long, Wrong.
-/
import Derived.Test.YtbnjjkanokmakaaDoorSC
namespace Go.Proofs.YtbnjjkanokmakaaDoor
open Go.RowKit

theorem lgS_bound (pv : Bool) (l : List St) (h : ∀ k, k < l.length → 1 ≤ cb l k ∧ cb l k ≤ 4096) : ∀ x, x ≤ l.length → 0 ≤ lgS pv l x ∧ lgS pv l x ≤ 8192 * x := by
  intro x
  induction x with
  | zero => intro _; simp [lgS]
  | succ x ih =>
    intro hx
    have := ih (by omega)
    have := h x (by omega)
    rw [lgS]
    split <;> omega

set_option maxRecDepth 100000 in
set_option maxHeartbeats 4000000 in
theorem rlong_any (pv : Bool) (q : Option Addr) (l : List St) (cap : Nat) (W : World) (hP : Sl W q l) (h1 : l.length ≤ 256) (hany : l.any byd = false) : Calls Tryd.prog 26 #[sV pv q l.length cap] W (ErIs W (sumC (onL pv l))) := by
  have Hend := hide (lg_eq pv l)
  have Hcb := hide (fun k (hk : k < l.length) => (byd_no (any_get hany hk)).2)
  have Hbd := hide (lgS_bound pv l (fun k hk => (byd_no (any_get hany hk)).2))
  have H0 := hide (show lgS pv l 0 = 0 from rfl)
  have Hy := hide (fun k (hk : pv = true ∧ 0 < k ∧ k + 1 < l.length) => show lgS pv l (k + 1) = lgS pv l k + cb l k + cb l k by rw [lgS, if_pos hk])
  have Hn := hide (fun k (hk : ¬ (pv = true ∧ 0 < k ∧ k + 1 < l.length)) => show lgS pv l (k + 1) = lgS pv l k + cb l k by rw [lgS, if_neg hk]; omega)
  have HP := hide (show Ps W q l.length (ca l) (cb l) from hP)
  unfold sV
  have HB := hide (BS.new W pv (.slice q l.length cap) 24)
  have Hb := hide (bnew W (.cells #[.bool pv, .slice q l.length cap] 24))
  clear hP hany
  generalize sumC (onL pv l) = tot at *
  generalize l.length = n at *
  go_enter Tryd.func26, Tryd.ntmps26
  go_upto_region 2 with fail
  generalize W.alloc (.cells #[.bool pv, .slice q n cap] 24) = w1 at *
  generalize hbx : W.heap.size = bx at *
  obtain ⟨hlx, c0, c1⟩ := unhide HB
  go_wp2
  clear c0 c1
  go_loopw [3, 9] (fun s i wr => ∃ x : Nat, x ≤ n ∧ i = .int .i64 (x : Int) ∧ s = .int .i64 (lgS pv l x) ∧ Below w1.heap.size w1 wr) (fun _ i _ => n - (intOf i).toNat)
  case atStart => exact ⟨0, by omega, rfl, by rw [unhide H0], Below.refl _ _⟩
  case round =>
    obtain ⟨x, hx, rfl, rfl, hb⟩ := hrel
    by_cases hlt : x < n
    · obtain ⟨ad0, oo, rfl, k0, k1⟩ := (((unhide HP).keep (by rw [hbx]; exact unhide Hb)).keep hb).at hlt
      have q0 : (x : Int) < (n : Int) := by omega
      have q1 : (0 : Int) ≤ (x : Int) := by omega
      have B := hide (B2.new wr (ca l x) (cb l x) 45)
      have HX := hide (((unhide HB).keep hb).keep (bnew wr (.cells #[.int .i64 (ca l x), .int .i64 (cb l x)] 45)))
      have Hbw := hide (hb.trans ((bnew wr (.cells #[.int .i64 (ca l x), .int .i64 (cb l x)] 45)).mono hb.size))
      have hs1 := unhide Hbd x (by omega)
      have hs2 := unhide Hcb x hlt
      have Hy1 := hide (unhide Hy x)
      have Hn1 := hide (unhide Hn x)
      clear hb
      generalize lgS pv l x = s at *
      generalize ca l x = u at *
      generalize cb l x = v at *
      obtain ⟨sv, hsv⟩ : ∃ sv, s + v = sv := ⟨_, rfl⟩
      obtain ⟨sw, hsw⟩ : ∃ sw, sv + v = sw := ⟨_, rfl⟩
      have b1 : -9223372036854775808 ≤ sv ∧ sv ≤ 9223372036854775807 := by omega
      have b2 : -9223372036854775808 ≤ sw ∧ sw ≤ 9223372036854775807 := by omega
      have Hs1 := hide hs1
      have Hs2 := hide hs2
      clear hs1 hs2
      go_upto_region 5 with fail
      generalize wr.alloc (.cells #[.int .i64 u, .int .i64 v] 45) = w4 at *
      generalize wr.heap.size = n6 at *
      clear k0 k1
      obtain ⟨-, i0, i1⟩ := unhide B
      obtain ⟨-, c0, c1⟩ := unhide HX
      go_upto_region 6 with fail
      have Hsv := hide hsv
      clear hsv
      cases pv with
      | false =>
        have Hfin := hide (unhide Hn1 (by simp))
        go_wp2
        go_roundw
        case rel => exact ⟨x + 1, by omega, by go_num, by rw [unhide Hfin, unhide Hsv], unhide Hbw⟩
        case measure => simp [intOf]; omega
      | true =>
        by_cases hx0 : 0 < x
        · have z1 : (0 : Int) < (x : Int) := by omega
          obtain ⟨x1, hx1⟩ : ∃ x1, x1 = x + 1 := ⟨_, rfl⟩
          have z2 : (x : Int) + 1 = (x1 : Int) := by omega
          have z4 : IntKind.i64.wrap (x1 : Int) = (x1 : Int) := by rw [IntKind.wrap_i64]; omega
          have x9 : (x1 : Int) ≤ 65536 := by omega
          have Hx1 := hide hx1
          by_cases hxn : x + 1 < n
          · have z3 : (x1 : Int) < (n : Int) := by omega
            have z3' : decide ((x1 : Int) < (n : Int)) = true := decide_eq_true z3
            have z1' : decide ((0 : Int) < (x : Int)) = true := decide_eq_true z1
            have Hfin := hide (unhide Hy1 ⟨rfl, hx0, hxn⟩)
            clear hx0 hxn hx1
            go_wp2
            go_roundw
            case rel => exact ⟨x1, by omega, rfl, by rw [unhide Hx1, unhide Hfin, unhide Hsv, hsw], unhide Hbw⟩
            case measure => simp [intOf]; omega
          · have z3 : ¬ (x1 : Int) < (n : Int) := by omega
            have z3' : decide ((x1 : Int) < (n : Int)) = false := decide_eq_false z3
            have z1' : decide ((0 : Int) < (x : Int)) = true := decide_eq_true z1
            have Hfin := hide (unhide Hn1 (by omega))
            clear hx0 hxn hx1
            go_wp2
            go_roundw
            case rel => exact ⟨x1, by omega, rfl, by rw [unhide Hx1, unhide Hfin, unhide Hsv], unhide Hbw⟩
            case measure => simp [intOf]; omega
        · obtain rfl : x = 0 := by omega
          have Hfin := hide (unhide Hn1 (by omega))
          clear hx0
          go_wp2
          go_roundw
          case rel => exact ⟨1, by omega, by go_num, by rw [← unhide Hsv, ← unhide Hfin], unhide Hbw⟩
          case measure => simp [intOf]; omega
    · obtain rfl : x = n := by omega
      have cl : ¬ ((x : Int) < (x : Int)) := by omega
      have Hb9 := hide (show Below bx W wr from (unhide Hb).trans (hb.mono (by have := (unhide Hb).size; omega)))
      clear hb
      rw [unhide Hend]
      go_wp2
      go_ret
      exact ErIs.mk rfl (by rw [hbx]; exact unhide Hb9)
end Go.Proofs.YtbnjjkanokmakaaDoor
