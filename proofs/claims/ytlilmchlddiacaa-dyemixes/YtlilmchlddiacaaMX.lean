/-
  DyeMixes, of anything.
-/
import Derived.Test.YtlilmchlddiacaaFF
import Derived.Test.YtlilmchlddiacaaSA
import Derived.Test.YtlilmchlddiacaaNA
import Derived.Test.YtlilmchlddiacaaNB
namespace Go.Proofs.Ytlilmchlddiacaa
open Go.RowKit

set_option maxRecDepth 100000 in
set_option maxHeartbeats 2000000 in
theorem mixes_law (q1 : Option Addr) (n1 c1 : Nat) (q2 : Option Addr) (n2 c2 : Nat) (pd p : Nat → Nat) (k : Nat) (er1 er2 : Int) (W : World)
    (HM : ∀ V, Below W.heap.size W V → AnsM 7 #[.slice q1 n1 c1] V p er1) (HR : ∀ V, Below W.heap.size W V → AnsM 8 #[.slice q1 n1 c1] V p er1) (HN : ∀ V, Below W.heap.size W V → AnsN 10 #[.slice q2 n2 c2, pvV pd] V k er2) (HO : ∀ V, Below W.heap.size W V → AnsN 11 #[.slice q2 n2 c2, pvV pd] V k er2) :
    Calls Try.prog 3 #[.slice q1 n1 c1, .slice q2 n2 c2, pvV pd] W fun e w' => e = .returned (.bool true) ∧ Below W.heap.size W w' := by
  have HM' := hide HM
  have HR' := hide HR
  have HN' := hide HN
  have HO' := hide HO
  clear HM HR HN HO
  unfold pvV
  have hst := stF
  have e1 : (er1 != er1) = false := by simp
  have HF0 := hide (FR.new W pd 26)
  have Hb0 := hide (bnew W (.cells #[.float .f64 (pd 0), .float .f64 (pd 1), .float .f64 (pd 2)] 26))
  obtain ⟨n5, hn5⟩ : ∃ n5, W.heap.size = n5 := ⟨_, rfl⟩
  go_enter Try.func3, Try.ntmps3
  go_upto_region 1 with fail
  generalize W.alloc (.cells #[.float .f64 (pd 0), .float .f64 (pd 1), .float .f64 (pd 2)] 26) = w1 at *
  rw [hn5] at HF0
  try rw [hn5]
  clear hn5
  go_wp2_with fail
  refine (unhide HM' _ (unhide Hb0)).mono ?_
  rintro e w2 ⟨rfl, hb2⟩
  have HF2 := hide ((unhide HF0).keep hb2)
  have Hb2 := hide (btrans (unhide Hb0) hb2)
  clear hb2 HF0 Hb0 HM'
  go_upto_region 2 with fail
  have HA := hide (FR.new w2 p 26)
  have HF3 := hide ((unhide HF2).keep (bnew w2 (.cells #[.float .f64 (p 0), .float .f64 (p 1), .float .f64 (p 2)] 26)))
  have Hb3 := hide (bal (o := .cells #[.float .f64 (p 0), .float .f64 (p 1), .float .f64 (p 2)] 26) (unhide Hb2))
  clear HF2 Hb2
  generalize w2.alloc (.cells #[.float .f64 (p 0), .float .f64 (p 1), .float .f64 (p 2)] 26) = w3 at *
  generalize w2.heap.size = n7 at *
  go_wp2_with fail
  refine (unhide HR' _ (unhide Hb3)).mono ?_
  rintro e w4 ⟨rfl, hb4⟩
  have HA4 := hide ((unhide HA).keep hb4)
  have HF4 := hide ((unhide HF3).keep hb4)
  have Hb4 := hide (btrans (unhide Hb3) hb4)
  clear hb4 HF3 Hb3 HA HR'
  go_upto_region 3 with fail
  have HC := hide (FR.new w4 p 26)
  have HA5 := hide ((unhide HA4).keep (bnew w4 (.cells #[.float .f64 (p 0), .float .f64 (p 1), .float .f64 (p 2)] 26)))
  have HF5 := hide ((unhide HF4).keep (bnew w4 (.cells #[.float .f64 (p 0), .float .f64 (p 1), .float .f64 (p 2)] 26)))
  have Hb5 := hide (bal (o := .cells #[.float .f64 (p 0), .float .f64 (p 1), .float .f64 (p 2)] 26) (unhide Hb4))
  clear HF4 Hb4 HA4
  generalize w4.alloc (.cells #[.float .f64 (p 0), .float .f64 (p 1), .float .f64 (p 2)] 26) = w5 at *
  generalize w4.heap.size = n9 at *
  have a0 := ((unhide HA5).2 0 (by omega)).1
  have a1 := ((unhide HA5).2 1 (by omega)).1
  have a2 := ((unhide HA5).2 2 (by omega)).1
  have b0 := ((unhide HC).2 0 (by omega)).1
  have b1 := ((unhide HC).2 1 (by omega)).1
  have b2 := ((unhide HC).2 2 (by omega)).1
  go_wp2_with fail
  refine (same_dye p _).mono ?_
  rintro e w6 ⟨rfl, hb6⟩
  have HF6 := hide ((unhide HF5).keep hb6)
  have Hb6 := hide (btrans (unhide Hb5) hb6)
  clear hb6 a0 a1 a2 b0 b1 b2 HA5 HC HF5 Hb5
  have f0 := ((unhide HF6).2 0 (by omega)).1
  have f1 := ((unhide HF6).2 1 (by omega)).1
  have f2 := ((unhide HF6).2 2 (by omega)).1
  go_wp2_with fail
  refine (unhide HN' _ (unhide Hb6)).mono ?_
  rintro e w7 ⟨rfl, hb7⟩
  have HF7 := hide ((unhide HF6).keep hb7)
  have Hb7 := hide (btrans (unhide Hb6) hb7)
  clear hb7 f0 f1 f2 HF6 Hb6 HN'
  have f0 := ((unhide HF7).2 0 (by omega)).1
  have f1 := ((unhide HF7).2 1 (by omega)).1
  have f2 := ((unhide HF7).2 2 (by omega)).1
  go_wp2_with fail
  refine (unhide HO' _ (unhide Hb7)).mono ?_
  rintro e w8 ⟨rfl, hb8⟩
  have Hb8 := hide (btrans (unhide Hb7) hb8)
  clear hb8 f0 f1 f2 HF7 Hb7 HO'
  go_wp2
  go_ret
  exact ⟨rfl, unhide Hb8⟩

theorem mixes_any (q1 : Option Addr) (n1 c1 : Nat) (d : Nat → Nat → Nat) (s : Nat → Nat) (q2 : Option Addr) (n2 c2 : Nat) (y : Nat → Nat → Nat) (x : Nat → Nat) (W : World) (hD : Dp W q1 n1 d s) (hY : Dy W q2 n2 y) :
    Calls Try.prog 3 #[.slice q1 n1 c1, .slice q2 n2 c2, pvV x] W fun e w' => e = .returned (.bool true) ∧ Below W.heap.size W w' := by
  obtain ⟨p, er1, h1⟩ := mix_split n1 d s
  obtain ⟨k, er2, h2⟩ := near_split n2 y x
  exact mixes_law q1 n1 c1 q2 n2 c2 x p k er1 er2 W (fun V hV => mix_any h1 c1 q1 V (hD.keep hV)) (fun V hV => rmix_any h1 c1 q1 V (hD.keep hV)) (fun V hV => nearP_any h2 c2 q2 V (hY.keep hV)) (fun V hV => nearR_any h2 c2 q2 V (hY.keep hV))
end Go.Proofs.Ytlilmchlddiacaa
