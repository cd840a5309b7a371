/-
  The reference: SameNumbers, Same, where both sides hold the same.
-/
import Derived.Test.YtbnjjkanokmakaaDoorSG
namespace Go.Proofs.YtbnjjkanokmakaaDoor
open Go.RowKit

set_option maxHeartbeats 4000000 in
set_option maxRecDepth 100000 in
theorem sameN_any (q q' : Option Addr) (l : List Int) (cap cap' : Nat) (hn : l.length ≤ 1048576) (W : World) (h1 : Il W q l) (h2 : Il W q' l) :
    Calls Tryd.prog 14 #[.slice q l.length cap, .slice q' l.length cap'] W (BoIs W true) := by
  have H1 := hide (show Is W q l.length (fun k => l.getD k 0) from h1)
  have H2 := hide (show Is W q' l.length (fun k => l.getD k 0) from h2)
  clear h1 h2
  generalize l.length = n at *
  have c0 : ((n : Int) != (n : Int)) = false := by simp
  go_enter Tryd.func14, Tryd.ntmps14
  go_wp2
  go_loopw [13] (fun i wr => ∃ k : Nat, k ≤ n ∧ i = .int .i64 (k : Int) ∧ Below W.heap.size W wr) (fun i _ => n - (intOf i).toNat)
  case atStart => exact ⟨0, Nat.zero_le _, rfl, Below.refl _ _⟩
  case round =>
    obtain ⟨k, hk, rfl, hbel⟩ := hrel
    by_cases hlt : k < n
    · have q1 : (0 : Int) ≤ (k : Int) := by omega
      have q2 : (k : Int) < (n : Int) := by omega
      obtain ⟨g1, o1, rfl, p1⟩ := ((unhide H1).keep hbel).at hlt
      obtain ⟨g2, o2, rfl, p3⟩ := ((unhide H2).keep hbel).at hlt
      generalize l.getD k 0 = u at *
      have Hl := hide hlt
      have Hb := hide hbel
      clear hbel hlt
      go_wp2_with fail
      go_quiet (fail)
      go_wp2
      go_roundw
      case rel => exact ⟨k + 1, unhide Hl, by go_num, btrans (unhide Hb) (Joins.below_draws _ _ _)⟩
      case measure => have := unhide Hl; simp [intOf]; omega
    · have e : k = n := by omega
      have cl : ¬ ((k : Int) < (n : Int)) := by omega
      have Hb := hide hbel
      clear hbel e
      go_wp2
      go_ret
      exact BoIs.mk rfl (unhide Hb)

set_option maxHeartbeats 4000000 in
set_option maxRecDepth 100000 in
theorem same_any (pv : Bool) (q q' : Option Addr) (l : List St) (cap cap' : Nat) (hn : l.length ≤ 1048576) (W : World) (h1 : Sl W q l) (h2 : Sl W q' l) :
    Calls Tryd.prog 9 #[sV pv q l.length cap, sV pv q' l.length cap'] W (BoIs W true) := by
  have H1 := hide (show Ps W q l.length (ca l) (cb l) from h1)
  have H2 := hide (show Ps W q' l.length (ca l) (cb l) from h2)
  clear h1 h2
  unfold sV
  generalize l.length = n at *
  have c0 : ((n : Int) != (n : Int)) = false := by simp
  have c9 : (pv != pv) = false := by cases pv <;> rfl
  have bn1 := bnew W (.cells #[.bool pv, .slice q n cap] 24)
  have bn2 := bnew (W.alloc (.cells #[.bool pv, .slice q n cap] 24)) (.cells #[.bool pv, .slice q' n cap'] 24)
  have HA := hide ((BS.new W pv (.slice q n cap) 24).keep bn2)
  have HB := hide (BS.new (W.alloc (.cells #[.bool pv, .slice q n cap] 24)) pv (.slice q' n cap') 24)
  have Hb := hide (btrans bn1 bn2)
  have H11 := hide ((unhide H1).keep (btrans bn1 bn2))
  have H22 := hide ((unhide H2).keep (btrans bn1 bn2))
  have hs : (W.alloc (.cells #[.bool pv, .slice q n cap] 24)).heap.size = W.heap.size + 1 := by simp
  rw [hs] at HB
  clear bn1 bn2 hs H1 H2
  go_enter Tryd.func9, Tryd.ntmps9
  go_upto_region 1 with fail
  generalize (W.alloc (.cells #[.bool pv, .slice q n cap] 24)).alloc (.cells #[.bool pv, .slice q' n cap'] 24) = w1 at *
  generalize hbx : W.heap.size = bx at *
  have Hhb := hide hbx
  clear hbx
  obtain ⟨hla, a0, a1⟩ := unhide HA
  obtain ⟨hlb, b0, b1⟩ := unhide HB
  go_wp2
  clear a0 a1 b0 b1 hla hlb
  go_loopw [23] (fun i wr => ∃ k : Nat, k ≤ n ∧ i = .int .i64 (k : Int) ∧ Below w1.heap.size w1 wr) (fun i _ => n - (intOf i).toNat)
  case atStart => exact ⟨0, Nat.zero_le _, rfl, Below.refl _ _⟩
  case round =>
    obtain ⟨k, hk, rfl, hbel⟩ := hrel
    by_cases hlt : k < n
    · have q1 : (0 : Int) ≤ (k : Int) := by omega
      have q2 : (k : Int) < (n : Int) := by omega
      obtain ⟨hla, a0, a1⟩ := (unhide HA).keep hbel
      obtain ⟨hlb, b0, b1⟩ := (unhide HB).keep hbel
      obtain ⟨g1, o1, rfl, p1, p2⟩ := ((unhide H11).keep hbel).at hlt
      obtain ⟨g2, o2, rfl, p3, p4⟩ := ((unhide H22).keep hbel).at hlt
      generalize ca l k = u at *
      generalize cb l k = v at *
      have Hl := hide hlt
      have Hbe := hide hbel
      clear hbel hlt hla hlb
      go_wp2_with fail
      go_quiet (fail)
      go_wp2
      go_roundw
      case rel => exact ⟨k + 1, unhide Hl, by go_num, btrans (unhide Hbe) (Joins.below_draws _ _ _)⟩
      case measure => have := unhide Hl; simp [intOf]; omega
    · have e : k = n := by omega
      have cl : ¬ ((k : Int) < (n : Int)) := by omega
      have Hbe := hide (show Below bx W wr from (unhide Hb).trans (hbel.mono (by have := (unhide Hb).size; have := unhide Hhb; omega)))
      clear hbel e
      go_wp2
      go_ret
      exact BoIs.mk rfl (by rw [unhide Hhb]; exact unhide Hbe)
end Go.Proofs.YtbnjjkanokmakaaDoor
