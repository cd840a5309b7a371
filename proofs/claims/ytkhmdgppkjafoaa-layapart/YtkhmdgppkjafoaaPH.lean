/-
  LayApart's walk.
-/
import Derived.Test.YtkhmdgppkjafoaaPF
import Derived.Test.YtkhmdgppkjafoaaPG
namespace Go.Proofs.Ytkhmdgppkjafoaa
open Go.RowKit

/-- is a point on this piece? -/
def Cv (wide n : Nat) (w h g : Nat → Nat) (x y : Int) (i : Nat) : Prop := (aX wide w h g n i : Int) ≤ x ∧ x - (aX wide w h g n i : Int) < (w i : Int) ∧ (aY wide w h g n i : Int) ≤ y ∧ y - (aY wide w h g n i : Int) < (h i : Int)
theorem cv_one {wide n : Nat} {w h g : Nat → Nat} (r : Rg wide n w h) (s : Srt n h g) {x y : Int} {i j : Nat} (hi : i < n) (hj : j < n) (h1 : Cv wide n w h g x y i) (h2 : Cv wide n w h g x y j) : i = j := by
  by_cases e : i = j
  · exact e
  · have := lay_apart r s hi hj e
    unfold Cv at h1 h2
    omega
/-- so many pieces of the first k have the point -/
def Ct (wide n : Nat) (w h g : Nat → Nat) (x y : Int) (k c : Nat) : Prop := c ≤ 1 ∧ (c = 1 → ∃ j, j < k ∧ Cv wide n w h g x y j)
theorem ct_yes {wide n : Nat} {w h g : Nat → Nat} (r : Rg wide n w h) (s : Srt n h g) {x y : Int} {k c : Nat} (hk : k < n) (h1 : Ct wide n w h g x y k c) (h2 : Cv wide n w h g x y k) : c = 0 ∧ Ct wide n w h g x y (k + 1) 1 := by
  refine ⟨?_, Nat.le_refl _, fun _ => ⟨k, by omega, h2⟩⟩
  rcases Nat.eq_zero_or_pos c with e | e
  · exact e
  · obtain ⟨j, hj, hc⟩ := h1.2 (by have := h1.1; omega)
    have := cv_one r s (show j < n by omega) hk hc h2
    omega
theorem ct_no {wide n : Nat} {w h g : Nat → Nat} {x y : Int} {k c : Nat} (h1 : Ct wide n w h g x y k c) : Ct wide n w h g x y (k + 1) c := ⟨h1.1, fun e => by obtain ⟨j, hj, hc⟩ := h1.2 e; exact ⟨j, by omega, hc⟩⟩

set_option maxRecDepth 100000 in
set_option maxHeartbeats 4000000 in
theorem apart_any (wide : Int) (q : Option Addr) (n cap : Nat) (a b : Nat → Int) (px py : Int) (hx : px ≤ 9223372036854775807) (hy : py ≤ 9223372036854775807) (W : World) (hP : Ps W q n a b) : Calls Try.prog 4 #[.int .i64 wide, .slice q n cap, .int .i64 px, .int .i64 py] W fun e V => e = .returned (.bool true) ∧ Below W.heap.size W V := by
  by_cases he : wE wide n a b = 0
  · obtain ⟨wd, w, h, rfl, hE, r⟩ := wE_ok he
    have hP2 := hP.congr hE
    have HC := hide (fun V (hb : Below W.heap.size W V) => lay_ok wd q n cap w h r V (hP2.keep hb))
    have HP := hide hP2
    have Hr := hide r
    have hn := r.many
    have hw := r.wide
    clear he hE r hP hP2
    go_enter Try.func4, Try.ntmps4
    go_wp2_with fail
    refine (alive_any _).mono ?_
    rintro e w1 ⟨rfl, hb1⟩
    have Hb1 := hide hb1
    clear hb1
    go_wp2_with fail
    refine (unhide HC _ (unhide Hb1)).mono ?_
    rintro e w2 ⟨pb, g, rfl, hG, hZ, hb2⟩
    have Hb2 := hide (btrans (unhide Hb1) hb2)
    have Hs := hide hG
    have HZ := hide hZ
    have ht2 : (shs wd w h g n).t ≤ 268435456 := by have := (gd_any (unhide Hr) hG n (Nat.le_refl _)).high.2; omega
    have HF := hide (fits_ok wd ((shs wd w h g n).t : Int) (by omega) q n cap w h (unhide Hr) (some ⟨pb, 0, none⟩) n _ _ w2 ((unhide HP).keep (unhide Hb2)) hZ)
    rw [decide_eq_true (lay_fits (unhide Hr) hG)] at HF
    have Hin := hide (fun i (hi : i < n) => lay_in (unhide Hr) hG hi)
    generalize (shs wd w h g n).t = t at *
    clear hG hZ hb2 HC Hb1
    go_wp2_with fail
    refine Calls.mono (unhide HF) ?_
    rintro e w3 ⟨rfl, hb3⟩
    have Hb3 := hide (btrans (unhide Hb2) hb3)
    have HZ3 := hide ((unhide HZ).keep hb3)
    have h1 : ((n : Int) != (n : Int)) = false := by simp
    clear hb3 HF HZ Hb2
    go_wp2
    go_loopw [13, 51] (fun c i wr => ∃ x z : Nat, x ≤ n ∧ i = .int .i64 (x : Int) ∧ c = .int .i64 (z : Int) ∧ Ct wd n w h g px py x z ∧ Below w3.heap.size w3 wr) (fun _ i _ => n - (intOf i).toNat)
    case atStart => exact ⟨0, 0, Nat.zero_le _, rfl, rfl, ⟨by omega, fun e => by omega⟩, Below.refl _ _⟩
    case round =>
      obtain ⟨x, z, hxn, rfl, rfl, hc, hb⟩ := hrel
      have Hc := hide hc
      have hz1 : z ≤ 1 := hc.1
      clear hc
      by_cases hlt : x < n
      · obtain ⟨ad0, oo, rfl, k0, k1⟩ := ((unhide HP).keep (btrans (unhide Hb3) hb)).at hlt
        obtain ⟨g2, o2, hq2, l0, l1⟩ := ((unhide HZ3).keep hb).at hlt
        cases hq2
        rw [Nat.zero_add] at l0 l1
        have q0 : (x : Int) < (n : Int) := by omega
        have q1 : (0 : Int) ≤ (x : Int) := by omega
        have Hi2 := hide (unhide Hin x hlt)
        have Hyes := hide (fun (c : Cv wd n w h g px py x) => ct_yes (unhide Hr) (unhide Hs) hlt (unhide Hc) c)
        have Hno := hide (ct_no (unhide Hc))
        have Hcv := hide (show Cv wd n w h g px py x ↔ ((aX wd w h g n x : Int) ≤ px ∧ px - (aX wd w h g n x : Int) < (w x : Int) ∧ (aY wd w h g n x : Int) ≤ py ∧ py - (aY wd w h g n x : Int) < (h x : Int)) from Iff.rfl)
        generalize Cv wd n w h g px py x = CV at *
        generalize aX wd w h g n x = ux at *
        generalize aY wd w h g n x = uy at *
        generalize w x = ua at *
        generalize h x = ub at *
        have HB1 := hide (B2.new wr (ua : Int) (ub : Int) 33)
        have Hb4 := hide (bal (o := .cells #[.int .i64 (ua : Int), .int .i64 (ub : Int)] 33) hb)
        have l0' := keepC (bnew wr (.cells #[.int .i64 (ua : Int), .int .i64 (ub : Int)] 33)) (World.block_lt_of_cell? wr _ l0) l0
        have l1' := keepC (bnew wr (.cells #[.int .i64 (ua : Int), .int .i64 (ub : Int)] 33)) (World.block_lt_of_cell? wr _ l0) l1
        clear hb
        go_upto_region 13 with fail
        generalize wr.alloc (.cells #[.int .i64 (ua : Int), .int .i64 (ub : Int)] 33) = w4 at *
        generalize wr.heap.size = n15 at *
        clear k0 k1 l0 l1
        have HB2 := hide ((unhide HB1).keep (bnew w4 (.cells #[.int .i64 (ux : Int), .int .i64 (uy : Int)] 35)))
        have HB3 := hide (B2.new w4 (ux : Int) (uy : Int) 35)
        have Hb5 := hide (bal (o := .cells #[.int .i64 (ux : Int), .int .i64 (uy : Int)] 35) (unhide Hb4))
        clear HB1 Hb4
        go_upto_region 14 with fail
        generalize w4.alloc (.cells #[.int .i64 (ux : Int), .int .i64 (uy : Int)] 35) = w5 at *
        generalize w4.heap.size = n16 at *
        clear l0' l1'
        obtain ⟨-, i0, i1⟩ := unhide HB2
        obtain ⟨-, j0, j1⟩ := unhide HB3
        obtain ⟨su, hsu⟩ : ∃ su : Nat, su = ux + ua := ⟨_, rfl⟩
        obtain ⟨sv, hsv⟩ : ∃ sv : Nat, sv = uy + ub := ⟨_, rfl⟩
        have hh := unhide Hi2
        have d1 : ¬ (ux : Int) < 0 := by omega
        have d1' : decide ((ux : Int) < 0) = false := decide_eq_false d1
        have d2 : ¬ (uy : Int) < 0 := by omega
        have d2' : decide ((uy : Int) < 0) = false := decide_eq_false d2
        have e3 : (ux : Int) + (ua : Int) = (su : Int) := by omega
        have e4 : (uy : Int) + (ub : Int) = (sv : Int) := by omega
        have d3 : ¬ (wd : Int) < (su : Int) := by omega
        have d3' : decide ((wd : Int) < (su : Int)) = false := decide_eq_false d3
        have d4 : ¬ (t : Int) < (sv : Int) := by omega
        have d4' : decide ((t : Int) < (sv : Int)) = false := decide_eq_false d4
        have b1 : (su : Int) ≤ 1048576 := by omega
        have b2 : (sv : Int) ≤ 268435456 := by omega
        have b3 : (ux : Int) ≤ 1048576 := by omega
        have b4 : (uy : Int) ≤ 268435456 := by omega
        clear hsu hsv hh Hi2
        go_upto_region 16 with fail
        clear d3 d3' d4 d4' e3 e4 b1 b2
        by_cases c1 : (ux : Int) ≤ px
        · have c1' : decide ((ux : Int) ≤ px) = true := decide_eq_true c1
          obtain ⟨dx, hdx⟩ : ∃ dx, px - (ux : Int) = dx := ⟨_, rfl⟩
          have hdx2 : 0 ≤ dx ∧ dx ≤ 9223372036854775807 := by omega
          by_cases c2 : dx < (ua : Int)
          · have c2' : decide (dx < (ua : Int)) = true := decide_eq_true c2
            by_cases c3 : (uy : Int) ≤ py
            · have c3' : decide ((uy : Int) ≤ py) = true := decide_eq_true c3
              obtain ⟨dy, hdy⟩ : ∃ dy, py - (uy : Int) = dy := ⟨_, rfl⟩
              have hdy2 : 0 ≤ dy ∧ dy ≤ 9223372036854775807 := by omega
              by_cases c4 : dy < (ub : Int)
              · have c4' : decide (dy < (ub : Int)) = true := decide_eq_true c4
                have Hct := hide (unhide Hyes ((unhide Hcv).2 ⟨c1, by rw [hdx]; exact c2, c3, by rw [hdy]; exact c4⟩))
                obtain rfl : z = 0 := (unhide Hct).1
                go_wp2
                go_roundw
                case rel => exact ⟨x + 1, 1, by omega, by go_num, rfl, (unhide Hct).2, unhide Hb5⟩
                case measure => simp [intOf]; omega
              · have c4' : decide (dy < (ub : Int)) = false := decide_eq_false c4
                go_wp2
                go_roundw
                case rel => exact ⟨x + 1, z, by omega, by go_num, rfl, unhide Hno, unhide Hb5⟩
                case measure => simp [intOf]; omega
            · have c3' : decide ((uy : Int) ≤ py) = false := decide_eq_false c3
              go_wp2
              go_roundw
              case rel => exact ⟨x + 1, z, by omega, by go_num, rfl, unhide Hno, unhide Hb5⟩
              case measure => simp [intOf]; omega
          · have c2' : decide (dx < (ua : Int)) = false := decide_eq_false c2
            go_wp2
            go_roundw
            case rel => exact ⟨x + 1, z, by omega, by go_num, rfl, unhide Hno, unhide Hb5⟩
            case measure => simp [intOf]; omega
        · have c1' : decide ((ux : Int) ≤ px) = false := decide_eq_false c1
          go_wp2
          go_roundw
          case rel => exact ⟨x + 1, z, by omega, by go_num, rfl, unhide Hno, unhide Hb5⟩
          case measure => simp [intOf]; omega
      · obtain rfl : n = x := by omega
        have cl : ¬ ((n : Int) < (n : Int)) := by omega
        have f1 : (z : Int) ≤ 1 := by omega
        have f1' : decide ((z : Int) ≤ 1) = true := decide_eq_true f1
        have Hb := hide (btrans (unhide Hb3) hb)
        clear hb
        go_wp2
        go_ret
        exact ⟨ret_bool (by simp), unhide Hb⟩
  · have HC := hide (fun V (hb : Below W.heap.size W V) => lay_err wide q n cap a b V (hP.keep hb) he)
    generalize wE wide n a b = er at *
    have h1 : (er != 0) = true := by simpa using he
    clear hP he
    go_enter Try.func4, Try.ntmps4
    go_wp2_with fail
    refine (alive_any _).mono ?_
    rintro e w1 ⟨rfl, hb1⟩
    have Hb1 := hide hb1
    clear hb1
    go_wp2_with fail
    refine (unhide HC _ (unhide Hb1)).mono ?_
    rintro e w2 ⟨rfl, hb2⟩
    have Hb2 := hide (btrans (unhide Hb1) hb2)
    clear hb2 HC Hb1
    go_wp2
    go_ret
    exact ⟨rfl, unhide Hb2⟩
end Go.Proofs.Ytkhmdgppkjafoaa
