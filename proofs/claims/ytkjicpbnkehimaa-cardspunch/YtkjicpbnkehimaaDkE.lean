/-
  What end and Unpack of package cards answer.
-/
import Derived.Test.YtkjicpbnkehimaaDkD
namespace Go.Proofs.Ytkjicpbnkehimaa
open Go.RowKit

/-- the end is read, or something is wrong with it -/
def EndPost (W : World) (d : Nat) (s : ByteArray) (a : Nat) (e : Ending) (w' : World) : Prop := W.grownBy w' (some d) ∧ ∃ (x : Nat) (b : Bool), e = .returned (.bool b) ∧ Dk w' d s x ∧ Hid (∀ g, fin s.data.toList a g = if b then .inr (bya s.data.toList 3, bya s.data.toList 4, g) else .inl x)

set_option maxRecDepth 100000 in
set_option maxHeartbeats 2000000 in
theorem end_any {W : World} {d a : Nat} {s : ByteArray} (k : Dk W d s a) (ha : a ≤ s.size) (h6 : a ≤ 600) (hm : s.size ≤ maxLen) : Calls Try.prog 28 #[.pointer (some ⟨d, 0, none⟩)] W (EndPost W d s a) := by
  have HB := hide (fun V => balance_any (s.extract 0 a) (by
    have e := Lib.extract_eq s 0 a
    rw [e]
    have e2 : (⟨((s.data.toList.drop 0).take (a - 0)).toArray⟩ : ByteArray).size = ((s.data.toList.drop 0).take (a - 0)).length := rfl
    rw [e2]; unfold maxLen; simp; omega) V)
  rw [Lib.extract_data, List.drop_zero, Nat.sub_zero] at HB
  have hbl := bl_lt (s.data.toList.take a)
  have Hfin := hide (show ∀ g, fin s.data.toList a g = if tkV s.data.toList a (bl (s.data.toList.take a) : Nat) (bl (s.data.toList.take a) : Nat) then (if a + 1 < s.size then .inl (a + 1) else .inr (bya s.data.toList 3, bya s.data.toList 4, g)) else .inl a by
    intro g
    unfold fin tkV
    rw [str_len]
    by_cases c : s.size ≤ a
    · rw [if_pos c, decide_eq_false (by omega)]; rfl
    · rw [if_neg c, decide_eq_true (by omega), Bool.true_and]
      by_cases c2 : bya s.data.toList a = bl (s.data.toList.take a)
      · rw [if_neg (by simpa using c2), c2]; simp
      · rw [if_pos c2, if_neg (by simp; omega)])
  have HT := hide (fun V (hV : Dk V d s a) => take_any hV (bl (s.data.toList.take a) : Nat) (bl (s.data.toList.take a) : Nat) ha hm)
  unfold maxLen at hm
  generalize bl (s.data.toList.take a) = m at *
  have K0 := hide k
  obtain ⟨-, c0, c1, c2⟩ := k
  have q1 : (a : Int) ≤ (s.size : Int) := by omega
  have q2 : (0 : Int) ≤ (a : Int) := by omega
  have q3 : (m : Int) ≤ 255 := by omega
  cases ht : tkV s.data.toList a m m with
  | false =>
    rw [ht] at HT Hfin
    simp only [Bool.false_eq_true, if_false] at HT Hfin
    clear ht
    go_enter Try.func28, Try.ntmps28
    go_wp2_with fail
    go_quiet ((go_at_call 19; exact Calls.quiet_of_same (unhide HB _)))
    go_wp2_with fail
    refine (unhide HT _ ((unhide K0).keep (Joins.below_draws _ _ _))).mono ?_
    rintro e w2 ⟨rfl, hk, hg⟩
    have HG := hide (gtrans (gbelow _ (Joins.below_draws _ _ _)) hg)
    have HK := hide hk
    clear hk hg c0 c1 c2
    go_wp2_with fail
    go_quiet (fail)
    go_wp2
    go_ret
    exact ⟨gtrans (unhide HG) (gbelow _ (Joins.below_draws _ _ _)), a, false, rfl, (unhide HK).keep (Joins.below_draws _ _ _), Hfin⟩
  | true =>
    rw [ht] at HT Hfin
    simp only [if_true] at HT Hfin
    have hlt : a < s.size := by
      unfold tkV at ht
      rw [str_len] at ht
      simp at ht
      exact ht.1
    clear ht
    by_cases hE : a + 1 < s.size
    · have e1 : ((a : Int) + 1 == (s.size : Int)) = false := by rw [beq_eq_false_iff_ne]; omega
      go_enter Try.func28, Try.ntmps28
      go_wp2_with fail
      go_quiet ((go_at_call 19; exact Calls.quiet_of_same (unhide HB _)))
      go_wp2_with fail
      refine (unhide HT _ ((unhide K0).keep (Joins.below_draws _ _ _))).mono ?_
      rintro e w2 ⟨rfl, hk, hg⟩
      have HG := hide (gtrans (gbelow _ (Joins.below_draws _ _ _)) hg)
      have HK := hide hk
      clear c0 c1 c2 hg
      obtain ⟨-, c0, c1, c2⟩ := hk
      go_wp2_with fail
      go_quiet (fail)
      go_wp2
      go_ret
      exact ⟨gtrans (unhide HG) (gbelow _ (Joins.below_draws _ _ _)), a + 1, false, rfl, (unhide HK).keep (Joins.below_draws _ _ _), hide (fun g => by rw [unhide Hfin g, if_pos hE]; rfl)⟩
    · have e1 : ((a : Int) + 1 == (s.size : Int)) = true := by rw [beq_iff_eq]; omega
      go_enter Try.func28, Try.ntmps28
      go_wp2_with fail
      go_quiet ((go_at_call 19; exact Calls.quiet_of_same (unhide HB _)))
      go_wp2_with fail
      refine (unhide HT _ ((unhide K0).keep (Joins.below_draws _ _ _))).mono ?_
      rintro e w2 ⟨rfl, hk, hg⟩
      have HG := hide (gtrans (gbelow _ (Joins.below_draws _ _ _)) hg)
      have HK := hide hk
      clear c0 c1 c2 hg
      obtain ⟨-, c0, c1, c2⟩ := hk
      go_wp2_with fail
      go_quiet (fail)
      go_wp2
      go_ret
      exact ⟨gtrans (unhide HG) (gbelow _ (Joins.below_draws _ _ _)), a + 1, true, rfl, (unhide HK).keep (Joins.below_draws _ _ _), hide (fun g => by rw [unhide Hfin g, if_neg hE]; rfl)⟩
end Go.Proofs.Ytkjicpbnkehimaa
