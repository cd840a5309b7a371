/-
  LayTells's walk.
-/
import Derived.Test.YtkhmdgppkjafoaaRA
import Derived.Test.YtkhmdgppkjafoaaRC
namespace Go.Proofs.Ytkhmdgppkjafoaa
open Go.RowKit

/-- points, a number and an error are told -/
def PA (W : World) (m : Nat) (X Y : Nat → Int) (t er : Int) (e : Ending) (V : World) : Prop := ∃ q cp, e = .returned (.tuple #[.slice q m cp, .int .i64 t, .int .i64 er]) ∧ Ps V q m X Y ∧ Below W.heap.size W V
/-- both sides tell the same of what is laid -/
def LayBoth (wide : Int) (q : Option Addr) (n cap : Nat) (W : World) : Prop := Calls Try.prog 6 #[.int .i64 wide, .slice q n cap] W fun e V => ∃ (m : Nat) (X Y : Nat → Int) (t er : Int), m ≤ 256 ∧ PA W m X Y t er e V ∧ ∀ V', Below V.heap.size V V' → Calls Try.prog 7 #[.int .i64 wide, .slice q n cap] V' (PA V' m X Y t er)
theorem lay_both (wide : Int) (q : Option Addr) (n cap : Nat) (a b : Nat → Int) (W : World) (hP : Ps W q n a b) : LayBoth wide q n cap W := by
  unfold LayBoth
  by_cases he : wE wide n a b = 0
  · obtain ⟨wd, w, h, rfl, hE, r⟩ := wE_ok he
    have hP2 := hP.congr hE
    refine (lay_ok wd q n cap w h r W hP2).mono ?_
    rintro e V ⟨pb, g, rfl, hG, hZ, hb⟩
    refine ⟨n, _, _, _, 0, r.many, ⟨_, _, rfl, hZ, hb⟩, fun V' hV => ?_⟩
    refine (rlay_ok wd q n cap w h g r hG V' ((hP2.keep hb).keep hV)).mono ?_
    rintro e V2 ⟨pb2, rfl, hZ2, hb2⟩
    exact ⟨_, _, rfl, hZ2, hb2⟩
  · refine (lay_err wide q n cap a b W hP he).mono ?_
    rintro e V ⟨rfl, hb⟩
    refine ⟨0, fun _ => 0, fun _ => 0, 0, _, by omega, ⟨_, _, rfl, .inl rfl, hb⟩, fun V' hV => ?_⟩
    refine (rlay_err wide q n cap a b V' ((hP.keep hb).keep hV) he).mono ?_
    rintro e V2 ⟨rfl, hb2⟩
    exact ⟨_, _, rfl, .inl rfl, hb2⟩
/-- both sides tell the same of what fits -/
theorem fits_both (wide high : Int) (hh : high ≤ 9223372036854775807) (q : Option Addr) (n cap : Nat) (a b : Nat → Int) (q' : Option Addr) (n' cap' : Nat) (X Y : Nat → Int) (W : World) (hP : Ps W q n a b) (hZ : Ps W q' n' X Y) :
    ∃ (fb : Bool) (er : Int), (∀ V, Below W.heap.size W V → AnsB 9 #[.int .i64 wide, .int .i64 high, .slice q n cap, .slice q' n' cap'] V fb er) ∧ ∀ V, Below W.heap.size W V → AnsB 10 #[.int .i64 wide, .int .i64 high, .slice q n cap, .slice q' n' cap'] V fb er := by
  by_cases he : wE wide n a b = 0
  · by_cases hl : n' = n
    · subst hl
      obtain ⟨wd, w, h, rfl, hE, r⟩ := wE_ok he
      have hP2 := hP.congr hE
      exact ⟨_, _, fun V hV => fits_ok wd high hh q n' cap w h r q' cap' X Y V (hP2.keep hV) (hZ.keep hV), fun V hV => rfits_ok wd high hh q n' cap w h r q' cap' X Y V (hP2.keep hV) (hZ.keep hV)⟩
    · exact ⟨_, _, fun V hV => fits_len wide high q n cap a b q' n' cap' V (hP.keep hV) he hl, fun V hV => rfits_len wide high q n cap a b q' n' cap' V (hP.keep hV) he hl⟩
  · exact ⟨_, _, fun V hV => fits_err wide high q n cap a b q' n' cap' V (hP.keep hV) he, fun V hV => rfits_err wide high q n cap a b q' n' cap' V (hP.keep hV) he⟩

set_option maxRecDepth 100000 in
set_option maxHeartbeats 4000000 in
theorem tells_any (wide : Int) (q : Option Addr) (n cap : Nat) (a b : Nat → Int) (high : Int) (hh : high ≤ 9223372036854775807) (q' : Option Addr) (n' cap' : Nat) (X' Y' : Nat → Int) (W : World) (hP : Ps W q n a b) (hZ : Ps W q' n' X' Y') : Calls Try.prog 3 #[.int .i64 wide, .slice q n cap, .int .i64 high, .slice q' n' cap'] W fun e V => e = .returned (.bool true) ∧ Below W.heap.size W V := by
  have H1 := hide (lay_both wide q n cap a b W hP)
  obtain ⟨fb, fe, h9, h10⟩ := fits_both wide high hh q n cap a b q' n' cap' X' Y' W hP hZ
  have H9 := hide h9
  have H10 := hide h10
  clear hP hZ h9 h10
  go_enter Try.func3, Try.ntmps3
  go_wp2_with fail
  refine Calls.mono (unhide H1) ?_
  rintro e w1 ⟨m, X, Y, t, er, hm, ⟨q1, cp1, rfl, hp1, hb1⟩, h7⟩
  have Hp1 := hide hp1
  have Hb1 := hide hb1
  have H7 := hide (h7 w1 (Below.refl _ _))
  clear hp1 hb1 h7 H1
  go_wp2_with fail
  refine (unhide H7).mono ?_
  rintro e w2 ⟨q2, cp2, rfl, hp2, hb2⟩
  have Hs := hide (same_any q1 q2 m cp1 cp2 X Y hm w2 ((unhide Hp1).keep hb2) hp2)
  have Hb2 := hide (btrans (unhide Hb1) hb2)
  have d1 : (t != t) = false := by simp
  have d2 : (er != er) = false := by simp
  clear hp2 hb2 Hp1 Hb1 H7
  go_wp2_with fail
  refine (unhide Hs).mono ?_
  rintro e w3 ⟨rfl, hb3⟩
  have Hb3 := hide (btrans (unhide Hb2) hb3)
  clear hb3 Hs Hb2
  go_wp2_with fail
  refine Calls.mono (unhide H9 _ (unhide Hb3)) ?_
  rintro e w4 ⟨rfl, hb4⟩
  have Hb4 := hide (btrans (unhide Hb3) hb4)
  clear hb4 Hb3 H9
  go_wp2_with fail
  refine Calls.mono (unhide H10 _ (unhide Hb4)) ?_
  rintro e w5 ⟨rfl, hb5⟩
  have Hb5 := hide (btrans (unhide Hb4) hb5)
  have d3 : (fb == fb) = true := by simp
  have d4 : (fe == fe) = true := by simp
  clear hb5 Hb4 H10
  go_wp2
  go_ret
  exact ⟨ret_bool (by simp), unhide Hb5⟩
end Go.Proofs.Ytkhmdgppkjafoaa
