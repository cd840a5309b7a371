/-
  What card of package cards answers.
-/
import Derived.Test.YtkjicpbnkehimaaDkB
namespace Go.Proofs.Ytkjicpbnkehimaa
open Go.RowKit

/-- what is wrong with a card by itself -/
def cbad (l : List UInt8) (w left a : Nat) : Option Nat :=
  if l.length ≤ a then some a
  else if bya l a < 1 ∨ left < bya l a then some a
  else if l.length < a + 1 + nb w then some l.length
  else if holes (rr l (a + 1)) w ≠ (l.drop (a + 1)).take (nb w) then some a
  else none
theorem bad_card (l : List UInt8) (w h y a : Nat) (g : Nat → Bool) : bad l w h y a g = match cbad l w (h - y) a with
    | some e => some e
    | none => if asA l w y a g = true then some a else none := by
  unfold bad cbad
  repeat' split
  all_goals simp_all
/-- a card is read, or something is wrong with it -/
def CardPost (W : World) (d : Nat) (s : ByteArray) (w left a : Nat) (e : Ending) (w' : World) : Prop := W.grownBy w' (some d) ∧
  ((∃ x : Nat, cbad s.data.toList w left a = some x ∧ e = .returned (.tuple #[.int .i64 0, .slice none 0 0, .bool false]) ∧ Dk w' d s x) ∨
   (cbad s.data.toList w left a = none ∧ ∃ q, e = .returned (.tuple #[.int .i64 (bya s.data.toList a : Int), .slice (some ⟨q, 0, none⟩) w w, .bool true]) ∧ W.heap.size ≤ q ∧ BRow w' q w (rr s.data.toList (a + 1)) ∧ Dk w' d s (a + 1 + nb w)))

set_option maxRecDepth 100000 in
set_option maxHeartbeats 2000000 in
theorem card_any {W : World} {d a : Nat} {s : ByteArray} (k : Dk W d s a) (ha : a ≤ s.size) (h6 : a ≤ 600) (hm : s.size ≤ maxLen) (w left : Nat) (hw : w ≤ 64) :
    Calls Try.prog 38 #[.pointer (some ⟨d, 0, none⟩), .int .i64 w, .int .i64 left] W (CardPost W d s w left a) := by
  have HT := hide (fun V (hV : Dk V d s a) => take_any hV 1 left ha hm)
  have HB := hide (fun W => bytesOf_any w (by omega) W)
  have hN : nb w ≤ 8 := by unfold nb; omega
  unfold maxLen at hm
  have K0 := hide k
  obtain ⟨-, c0, c1, c2⟩ := k
  cases ht : tkV s.data.toList a 1 left with
  | false =>
    rw [ht] at HT
    simp only [Bool.false_eq_true, if_false] at HT
    have Hx := hide (show cbad s.data.toList w left a = some a by
      unfold cbad
      by_cases c : s.data.toList.length ≤ a
      · rw [if_pos c]
      · rw [if_neg c, if_pos]
        unfold tkV at ht
        rw [decide_eq_true (by omega)] at ht
        simp at ht
        omega)
    clear ht
    go_enter Try.func38, Try.ntmps38
    go_wp2_with fail
    refine (unhide HT _ (unhide K0)).mono ?_
    rintro e w2 ⟨rfl, hk, hg⟩
    go_wp2
    exact bodyPost_ret (v := .tuple #[.int .i64 0, .slice none 0 0, .bool false]) (by simp [results, Try.results38, go_sem]) rfl ⟨hg, .inl ⟨a, unhide Hx, rfl, hk⟩⟩
  | true =>
    rw [ht] at HT
    simp only [if_true] at HT
    have h1 : a < s.size ∧ 1 ≤ bya s.data.toList a ∧ bya s.data.toList a ≤ left := by
      unfold tkV at ht
      rw [str_len] at ht
      simp at ht
      omega
    have Hx0 := hide (show cbad s.data.toList w left a = if s.size < a + 1 + nb w then some s.size else if holes (rr s.data.toList (a + 1)) w ≠ (s.data.toList.drop (a + 1)).take (nb w) then some a else none by
      unfold cbad
      rw [str_len, if_neg (by omega), if_neg (by omega)])
    clear ht
    generalize hNn : nb w = N at *
    have HN := hide hNn
    clear hNn
    have Hby := hide h1.2
    have q1 : (a : Int) < (s.size : Int) := by omega
    have q2 : (0 : Int) ≤ (a : Int) := by omega
    have q6 : (a : Int) ≤ 600 := by omega
    have q7 : (N : Int) ≤ 8 := by omega
    by_cases hE : s.size < a + 1 + N
    · have q3 : (s.size : Int) < (a : Int) + 1 + (N : Int) := by omega
      go_enter Try.func38, Try.ntmps38
      go_wp2_with fail
      refine (unhide HT _ (unhide K0)).mono ?_
      rintro e w2 ⟨rfl, hk, hg⟩
      clear c0 c1 c2
      have K2 := hide hk
      obtain ⟨-, c0, c1, c2⟩ := hk
      go_wp2_with fail
      go_quiet ((go_at_call 34; exact Calls.quiet_of_same (unhide HB _)))
      go_wp2
      refine bodyPost_ret (v := .tuple #[.int .i64 0, .slice none 0 0, .bool false]) (by simp [results, Try.results38, go_sem]) rfl ⟨?_, .inl ⟨s.size, by rw [unhide Hx0, if_pos hE], rfl, ?_⟩⟩
      · exact gtrans hg (gset (gbelow _ (Joins.below_draws _ _ _)) _ _)
      · exact ((unhide K2).keep (Joins.below_draws _ _ _)).put s.size
    · have q3 : ¬ ((s.size : Int) < (a : Int) + 1 + (N : Int)) := by omega
      go_enter Try.func38, Try.ntmps38
      go_wp2_with fail
      refine (unhide HT _ (unhide K0)).mono ?_
      rintro e w2 ⟨rfl, hk, hg⟩
      clear c0 c1 c2
      have K2 := hide hk
      obtain ⟨-, c0, c1, c2⟩ := hk
      go_wp2_with fail
      go_quiet ((go_at_call 34; exact Calls.quiet_of_same (unhide HB _)))
      go_wp2_with fail
      go_quiet (fail)
      go_wp2_with fail
      obtain ⟨w3, hw3, k3, g3⟩ : ∃ w3, w3 = w2.drewN _ ∧ Dk w3 d s (a + 1) ∧ W.grownBy w3 (some d) := ⟨_, rfl, (unhide K2).keep (Joins.below_draws _ _ _), gtrans hg (gbelow _ (Joins.below_draws _ _ _))⟩
      rw [← hw3]
      have K3 := hide k3
      have G3 := hide g3
      clear K2 hg c0 c1 c2 hw3 k3 g3
      have hex : s.extract (a + 1) (a + 1 + N) = ⟨((s.data.toList.drop (a + 1)).take N).toArray⟩ := by rw [Lib.extract_eq, Nat.add_sub_cancel_left]
      rw [hex]
      clear hex
      have HU := hide (unpunched_any ⟨((s.data.toList.drop (a + 1)).take N).toArray⟩ w w3 hw (by
        have e : (⟨((s.data.toList.drop (a + 1)).take N).toArray⟩ : ByteArray).size = ((s.data.toList.drop (a + 1)).take N).length := rfl
        rw [e, unhide HN]; simp; omega))
      have Hrr := hide (show ∀ x, x < w → tb (bya ((s.data.toList.drop (a + 1)).take N) (x / 8)) (x % 8) = rr s.data.toList (a + 1) x from fun x hx => by
        have hx8 : x / 8 < N := by rw [← unhide HN]; unfold nb; omega
        unfold rr bya
        rw [List.getD_eq_getElem?_getD, List.getD_eq_getElem?_getD, List.getElem?_take_of_lt hx8, List.getElem?_drop])
      have Hx1 := hide (show cbad s.data.toList w left a = if holes (rr s.data.toList (a + 1)) w ≠ (s.data.toList.drop (a + 1)).take N then some a else none by rw [unhide Hx0, if_neg hE])
      refine (unhide HU).mono ?_
      rintro e w4 ⟨⟨q, rfl, hq, hR⟩, hb4⟩
      have R4 := hide (show BRow w4 q w (rr s.data.toList (a + 1)) from hR.congr fun x hx => unhide Hrr x hx)
      have K4 := hide ((unhide K3).keep hb4)
      have G4 := hide (gtrans (unhide G3) (gbelow _ hb4))
      have Hq := hide (show W.heap.size ≤ q from Nat.le_trans (unhide G3).size hq)
      clear hR hb4 K3 G3 HU Hrr Hx0 hq
      have HP := hide (punched_any _ w w _ w4 hw (unhide R4).bs)
      go_wp2_with fail
      refine (unhide HP).mono ?_
      rintro e w5 ⟨rfl, hb5⟩
      have R5 := hide ((unhide R4).keep hb5)
      have K5 := hide ((unhide K4).keep hb5)
      have G5 := hide (gtrans (unhide G4) (gbelow _ hb5))
      clear hb5 K4 G4 R4 HP
      obtain ⟨-, c0, c1, c2⟩ := unhide K5
      generalize holes (rr s.data.toList (a + 1)) w = l1 at *
      generalize (s.data.toList.drop (a + 1)).take N = l2 at *
      by_cases hc : l1 = l2
      · have Hx := hide (show cbad s.data.toList w left a = none by rw [unhide Hx1, if_neg (by simpa using hc)])
        subst hc
        clear Hx1
        go_wp2
        refine bodyPost_ret (v := .tuple #[.int .i64 (bya s.data.toList a : Int), .slice (some ⟨q, 0, none⟩) w w, .bool true]) (by simp [results, Try.results38, go_sem]) rfl ⟨?_, .inr ⟨unhide Hx, q, rfl, unhide Hq, ?_, ?_⟩⟩
        · exact gset (unhide G5) _ _
        · exact (unhide R5).far (by have h1 := (unhide K0).1; have h2 := unhide Hq; omega) 1 _
        · have := (unhide K5).put (a + 1 + N)
          rw [unhide HN]
          exact this
      · have Hx := hide (show cbad s.data.toList w left a = some a by rw [unhide Hx1, if_pos hc])
        have hne : (l1 == l2) = false := by simpa using hc
        clear Hx1 hc
        go_wp2
        refine bodyPost_ret (v := .tuple #[.int .i64 0, .slice none 0 0, .bool false]) (by simp [results, Try.results38, go_sem]) rfl ⟨?_, .inl ⟨a, unhide Hx, rfl, ?_⟩⟩
        · exact gset (unhide G5) _ _
        · exact (unhide K5).put a
end Go.Proofs.Ytkjicpbnkehimaa
