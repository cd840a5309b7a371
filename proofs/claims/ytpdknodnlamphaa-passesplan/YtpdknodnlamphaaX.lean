/-
  PassesPlan: what both sides answer, and the law's walk.
-/
import Derived.Test.YtpdknodnlamphaaV
import Derived.Test.YtpdknodnlamphaaI
namespace Go.Proofs.Ytpdknodnlamphaa
open Go.RowKit

/-- a call that answers passes and an error -/
def AnP (F : Nat) (args : Array Value) (W : World) (n : Nat) (f : Nat → Int × Int) (er : Int) : Prop := Calls Try.prog F args W (PP W n f er)
/-- a call that answers yes or no and an error -/
def AnB (F : Nat) (args : Array Value) (W : World) (b : Bool) (er : Int) : Prop := Calls Try.prog F args W fun e V => e = .returned (.tuple #[.bool b, .int .i64 er]) ∧ Below W.heap.size W V

theorem plan_pair (q p : Option Addr) (n m c d : Nat) (f t : Nat → Int) (sl : Int) (W : World) (hq : Is W q n f) (hp : Is W p m t) :
    ∃ (k : Nat) (F : Nat → Int × Int) (er : Int), k ≤ 9223372036854775806 ∧ (∀ V, Below W.heap.size W V → AnP 8 #[.slice q n c, .slice p m d, .int .i64 sl] V k F er) ∧ ∀ V, Below W.heap.size W V → AnP 9 #[.slice q n c, .slice p m d, .int .i64 sl] V k F er := by
  by_cases he : wE n m f t sl = 0
  · obtain ⟨rfl, hR, -⟩ := wE_ok he
    by_cases hr : ∃ k, rc ⟨m, t, sl⟩ k (tl m f)
    · obtain ⟨k0, hk0⟩ := hr
      obtain ⟨k, -, hd⟩ := rc_dst hk0
      have hks := dst_small hR.e (by have := hR.n5; omega) hd
      refine ⟨k, plF (plan ⟨m, t, sl⟩ k (tl m f)), 0, by omega, fun V hV => ?_, fun V hV => rplan_ok q p c d f ⟨m, t, sl⟩ V (hq.keep hV) (hp.keep hV) he k hd⟩
      refine (plan_mid q p c d f ⟨m, t, sl⟩ V (hq.keep hV) (hp.keep hV) he).mono ?_
      rintro e w' ⟨hb, ⟨-, hno⟩ | ⟨k', g, hd', rfl, -, hP⟩⟩
      · exact absurd hk0 (hno _)
      · obtain rfl : k = k' := dst_unique hd hd'
        exact PP.mk _ _ hP.sp hb
    · have hno : ∀ k, ¬ rc ⟨m, t, sl⟩ k (tl m f) := fun k hk => hr ⟨k, hk⟩
      refine ⟨0, fun _ => (0, 0), 6, by omega, fun V hV => ?_, fun V hV => rplan_none q p c d f ⟨m, t, sl⟩ V (hq.keep hV) (hp.keep hV) he hno⟩
      refine (plan_mid q p c d f ⟨m, t, sl⟩ V (hq.keep hV) (hp.keep hV) he).mono ?_
      rintro e w' ⟨hb, ⟨rfl, -⟩ | ⟨k', g, hd', -⟩⟩
      · exact PP.mk _ _ (.inl rfl) hb
      · exact absurd hd'.1 (hno _)
  · refine ⟨0, fun _ => (0, 0), wE n m f t sl, by omega, fun V hV => ?_, fun V hV => rplan_err q p n m c d f t sl V (hq.keep hV) (hp.keep hV) he⟩
    refine (plan_err q p n m c d f t sl V (hq.keep hV) (hp.keep hV) he).mono ?_
    rintro e w' ⟨rfl, hb⟩
    exact PP.mk _ _ (.inl rfl) hb
theorem check_pair (q p a : Option Addr) (n m c d k ck : Nat) (f t : Nat → Int) (sl : Int) (xs : Nat → Int × Int) (W : World) (hq : Is W q n f) (hp : Is W p m t) (ha : Sp W a k xs) (hk : k ≤ 9223372036854775806) :
    ∃ (b : Bool) (er : Int), (∀ V, Below W.heap.size W V → AnB 11 #[.slice q n c, .slice p m d, .int .i64 sl, .slice a k ck] V b er) ∧ ∀ V, Below W.heap.size W V → AnB 12 #[.slice q n c, .slice p m d, .int .i64 sl, .slice a k ck] V b er := by
  by_cases he : wE n m f t sl = 0
  · obtain ⟨rfl, -, -⟩ := wE_ok he
    exact ⟨_, 0, fun V hV => check_ok q p a c d k ck f ⟨m, t, sl⟩ xs V (hq.keep hV) (hp.keep hV) (ha.keep hV) he hk, fun V hV => rcheck_ok q p a c d k ck f ⟨m, t, sl⟩ xs V (hq.keep hV) (hp.keep hV) (ha.keep hV) he hk⟩
  · exact ⟨false, _, fun V hV => check_err q p a n m c d k ck f t sl V (hq.keep hV) (hp.keep hV) he, fun V hV => rcheck_err q p a n m c d k ck f t sl V (hq.keep hV) (hp.keep hV) he⟩

set_option maxRecDepth 100000 in
set_option maxHeartbeats 4000000 in
theorem passes_any (q p a : Option Addr) (n m c d k ck : Nat) (f t : Nat → Int) (sl : Int) (xs : Nat → Int × Int) (W : World) (hq : Is W q n f) (hp : Is W p m t) (ha : Sp W a k xs) (hk : k ≤ 9223372036854775806) :
    Calls Try.prog 3 #[.slice q n c, .slice p m d, .int .i64 sl, .slice a k ck] W fun e w' => e = .returned (.bool true) ∧ Below W.heap.size W w' := by
  obtain ⟨k1, F1, e1, l1, A1, B1⟩ := plan_pair q p n m c d f t sl W hq hp
  obtain ⟨b2, e2, A2, B2⟩ := check_pair q p a n m c d k ck f t sl xs W hq hp ha hk
  have HWa := hide (fun V (hV : Below W.heap.size W V) => wrong_any q p n m c d f t sl V (hq.keep hV) (hp.keep hV))
  have HWb := hide (fun V (hV : Below W.heap.size W V) => rwrong_any q p n m c d f t sl V (hq.keep hV) (hp.keep hV))
  generalize wE n m f t sl = e0 at *
  have HA1 := hide A1
  have HB1 := hide B1
  have HA2 := hide A2
  have HB2 := hide B2
  have r0 : (e0 != e0) = false := by simp
  have r1 : (e1 != e1) = false := by simp
  have r2 : (e2 == e2) = true := by simp
  have r3 : (b2 == b2) = true := by simp
  clear A1 B1 A2 B2 hq hp ha
  go_enter Try.func3, Try.ntmps3
  go_wp2_with fail
  refine (unhide HWa _ (Below.refl _ _)).mono ?_
  rintro e w1 ⟨rfl, j1, hj1⟩
  have Hb1 := hide (show Below W.heap.size W w1 by rw [hj1]; exact Joins.below_draws _ W j1)
  clear hj1 HWa
  go_wp2_with fail
  refine (unhide HWb _ (unhide Hb1)).mono ?_
  rintro e w2 ⟨rfl, j2, hj2⟩
  have Hb2 := hide (btrans (unhide Hb1) (show Below w1.heap.size w1 w2 by rw [hj2]; exact Joins.below_draws _ w1 j2))
  clear hj2 HWb Hb1
  go_wp2_with fail
  refine (unhide HA1 _ (unhide Hb2)).mono ?_
  rintro e w3 ⟨q3, c3, rfl, hs3, hb3⟩
  have HS3 := hide hs3
  have Hb3 := hide (btrans (unhide Hb2) hb3)
  clear hs3 hb3 Hb2 HA1
  go_wp2_with fail
  refine (unhide HB1 _ (unhide Hb3)).mono ?_
  rintro e w4 ⟨q4, c4, rfl, hs4, hb4⟩
  have HSa := hide (rSame_yes q3 q4 k1 c3 c4 F1 w4 ((unhide HS3).keep hb4) hs4 l1)
  have Hb4 := hide (btrans (unhide Hb3) hb4)
  clear hs4 hb4 Hb3 HB1 HS3
  go_wp2_with fail
  refine (unhide HSa).mono ?_
  rintro e w5 ⟨rfl, hb5⟩
  have Hb5 := hide (btrans (unhide Hb4) hb5)
  clear hb5 Hb4 HSa
  go_wp2_with fail
  refine (unhide HA2 _ (unhide Hb5)).mono ?_
  rintro e w6 ⟨rfl, hb6⟩
  have Hb6 := hide (btrans (unhide Hb5) hb6)
  clear hb6 Hb5 HA2
  go_wp2_with fail
  refine (unhide HB2 _ (unhide Hb6)).mono ?_
  rintro e w7 ⟨rfl, hb7⟩
  have Hb7 := hide (btrans (unhide Hb6) hb7)
  clear hb7 Hb6 HB2
  go_wp2
  go_ret
  exact ⟨rfl, unhide Hb7⟩
end Go.Proofs.Ytpdknodnlamphaa
