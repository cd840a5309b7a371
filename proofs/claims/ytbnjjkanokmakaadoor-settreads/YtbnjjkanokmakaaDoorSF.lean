/-
  Fold of package sett: goBack, folded, Fold.
-/
import Derived.Test.YtbnjjkanokmakaaDoorSE
namespace Go.Proofs.YtbnjjkanokmakaaDoor
open Go.RowKit

/-- a truth is told -/
def BoIs (W : World) (r : Bool) (e : Ending) (V : World) : Prop := e = .returned (.bool r) ∧ Below W.heap.size W V
theorem BoIs.mk {W V : World} {r x : Bool} (hx : x = r) (hb : Below W.heap.size W V) : BoIs W r (.returned (.bool x)) V := ⟨by rw [hx], hb⟩

set_option maxRecDepth 100000 in
set_option maxHeartbeats 4000000 in
theorem back_any (q : Option Addr) (R : List St) (cap : Nat) (W : World) (hP : Sl W q R) (hn : R.length ≤ 1048576) : Calls Tryd.prog 44 #[.slice q R.length cap] W (BoIs W (gb R)) := by
  have Hy := hide (@gb_yes R)
  have Hn := hide (@gb_no R)
  have Hg := hide (show gbP R ↔ (R.length ≠ 0 ∧ R.length % 2 = 0) ∧ ∀ i, i < R.length → 1 ≤ i → (ca R i, cb R i) = (ca R (R.length - i), cb R (R.length - i)) from Iff.rfl)
  have HP := hide (show Ps W q R.length (ca R) (cb R) from hP)
  clear hP
  generalize gbP R = GP at *
  generalize gb R = r at *
  generalize R.length = n at *
  rcases Nat.eq_zero_or_pos n with h0 | h0
  · have d0 : ((n : Int) == 0) = true := by simp; omega
    have HE := hide (unhide Hn (fun h => ((unhide Hg).1 h).1.1 h0))
    subst h0
    clear d0
    go_enter Tryd.func44, Tryd.ntmps44
    go_wp2
    go_ret
    exact BoIs.mk (unhide HE).symm (Below.refl _ _)
  have d0 : ((n : Int) == 0) = false := by simp; omega
  by_cases h1 : n % 2 = 1
  · have e1 : (n : Int) % 2 = 1 := by omega
    have HE := hide (unhide Hn (fun h => by have := ((unhide Hg).1 h).1.2; omega))
    clear h1
    go_enter Tryd.func44, Tryd.ntmps44
    go_wp2
    go_ret
    exact BoIs.mk (unhide HE).symm (Below.refl _ _)
  have e1 : (n : Int) % 2 = 0 := by omega
  have h2 : n % 2 = 0 := by omega
  have H2 := hide h2
  have H0 := hide h0
  have H00 := hide (show (0 : Int) < (n : Int) by omega)
  clear h1 h2
  go_enter Tryd.func44, Tryd.ntmps44
  go_wp2
  clear e1
  go_loopw [4] (fun i wr => ∃ x : Nat, (1 ≤ x ∧ x ≤ n) ∧ i = .int .i64 (x : Int) ∧ Hid (∀ j, j < x → 1 ≤ j → (ca R j, cb R j) = (ca R (n - j), cb R (n - j))) ∧ Below W.heap.size W wr) (fun i _ => n - (intOf i).toNat)
  case atStart => exact ⟨1, by omega, rfl, hide (fun j h1 h2 => by omega), Below.refl _ _⟩
  case round =>
    obtain ⟨x, hx, rfl, Hs, hb⟩ := hrel
    by_cases hlt : x < n
    · obtain ⟨y, hy⟩ : ∃ y, y = n - x := ⟨_, rfl⟩
      have d1 : (n : Int) - (x : Int) = (y : Int) := by omega
      have hyn : y < n := by omega
      obtain ⟨g, o, rfl, k0, k1⟩ := ((unhide HP).keep hb).at hlt
      obtain ⟨g', o', hq, k2, k3⟩ := ((unhide HP).keep hb).at hyn
      cases hq
      have q0 : (x : Int) < (n : Int) := by omega
      have q1 : (0 : Int) ≤ (x : Int) := by omega
      have q2 : (y : Int) < (n : Int) := by omega
      have q3 : (0 : Int) ≤ (y : Int) := by omega
      have Hyes := hide (fun (e : (ca R x, cb R x) = (ca R y, cb R y)) => show ∀ j, j < x + 1 → 1 ≤ j → (ca R j, cb R j) = (ca R (n - j), cb R (n - j)) from fun j hj hj1 => by
        by_cases ej : j = x
        · rw [ej, ← hy]; exact e
        · exact unhide Hs j (by omega) hj1)
      have Hno := hide (fun (e : (ca R x, cb R x) ≠ (ca R y, cb R y)) => unhide Hn (fun h => e (by have := ((unhide Hg).1 h).2 x hlt (by omega); rw [← hy] at this; exact this)))
      have Hb := hide hb
      clear hb hy
      generalize ca R x = u at *
      generalize cb R x = v at *
      generalize ca R y = u' at *
      generalize cb R y = v' at *
      by_cases hu : u = u'
      · subst hu
        by_cases hv : v = v'
        · subst hv
          have HY := hide (unhide Hyes rfl)
          go_wp2_with fail
          go_quiet (fail)
          go_wp2
          go_roundw
          case rel => exact ⟨x + 1, by omega, by go_num, HY, btrans (unhide Hb) (Joins.below_draws _ _ _)⟩
          case measure => simp [intOf]; omega
        · have HN := hide (unhide Hno (by simp [hv]))
          have hv' : (v == v') = false := by simp [hv]
          clear hv
          go_wp2_with fail
          go_quiet (fail)
          go_wp2
          go_ret
          exact BoIs.mk (unhide HN).symm (btrans (unhide Hb) (Joins.below_draws _ _ _))
      · have HN := hide (unhide Hno (by simp [hu]))
        have hu' : (u == u') = false := by simp [hu]
        clear hu
        go_wp2_with fail
        go_quiet (fail)
        go_wp2
        go_ret
        exact BoIs.mk (unhide HN).symm (btrans (unhide Hb) (Joins.below_draws _ _ _))
    · obtain rfl : x = n := by omega
      have cl : ¬ ((x : Int) < (x : Int)) := by omega
      have HE := hide (unhide Hy ((unhide Hg).2 ⟨⟨by have := unhide H0; omega, unhide H2⟩, unhide Hs⟩))
      have Hb := hide hb
      clear hb
      go_wp2
      go_ret
      exact BoIs.mk (unhide HE).symm (unhide Hb)
end Go.Proofs.YtbnjjkanokmakaaDoor
