/-
  What head of package cards answers.
-/
import Derived.Test.YtkjicpbnkehimaaDkA
namespace Go.Proofs.Ytkjicpbnkehimaa
open Go.RowKit

/-- the head is read, or something is wrong in it -/
def HeadPost (W : World) (d : Nat) (s : ByteArray) (e : Ending) (w' : World) : Prop := W.grownBy w' (some d) ∧
  ((∃ (a : Nat) (x y : Int), hd s.data.toList = some a ∧ e = .returned (.tuple #[.int .i64 x, .int .i64 y, .bool false]) ∧ Dk w' d s a) ∨
   (hd s.data.toList = none ∧ e = .returned (.tuple #[.int .i64 (bya s.data.toList 3 : Int), .int .i64 (bya s.data.toList 4 : Int), .bool true]) ∧ Dk w' d s 5 ∧ 5 ≤ s.size ∧ bya s.data.toList 3 ≤ 64 ∧ bya s.data.toList 4 ≤ 64))
def HdRel (W : World) (d : Nat) (s : ByteArray) (i : Nat) (wr : World) : Prop := W.grownBy wr (some d) ∧ Dk wr d s i ∧ i ≤ s.size ∧ ∀ j, j < i → okc s.data.toList j = true
theorem HdRel.no {W : World} {d : Nat} {s : ByteArray} {i : Nat} {wr w' : World} {lo hi : Int} (h : HdRel W d s i wr) (h5 : i < 5) (hlo : lo = if i < 3 then (mk i : Int) else 0) (hhi : hi = if i < 3 then (mk i : Int) else 64) (ht : tkV s.data.toList i lo hi = false) (k : Dk w' d s i) (g : wr.grownBy w' (some d)) (x y : Int) : HeadPost W d s (.returned (.tuple #[.int .i64 x, .int .i64 y, .bool false])) w' := by
  refine ⟨gtrans h.1 g, .inl ⟨i, x, y, hd_some _ i h5 ?_ h.2.2.2, rfl, k⟩⟩
  unfold tkV at ht
  unfold okc
  by_cases c : i < s.data.toList.length
  · by_cases c3 : i < 3
    · simp only [c, c3, decide_true, Bool.true_and, if_true] at *
      subst hlo hhi
      by_cases e : bya s.data.toList i = mk i
      · rw [e] at ht; simp at ht
      · simpa using e
    · simp only [c, c3, decide_true, Bool.true_and, if_false] at *
      subst hlo hhi
      simp at ht ⊢
      omega
  · rw [decide_eq_false c]; rfl
theorem HdRel.yes {W : World} {d : Nat} {s : ByteArray} {i : Nat} {wr w' : World} {lo hi : Int} (h : HdRel W d s i wr) (hlo : lo = if i < 3 then (mk i : Int) else 0) (hhi : hi = if i < 3 then (mk i : Int) else 64) (ht : tkV s.data.toList i lo hi = true) (k : Dk w' d s (i + 1)) (g : wr.grownBy w' (some d)) : HdRel W d s (i + 1) w' := by
  unfold tkV at ht
  simp only [Bool.and_eq_true, decide_eq_true_eq] at ht
  refine ⟨gtrans h.1 g, k, by have := ht.1; rw [str_len] at this; omega, fun j hj => ?_⟩
  by_cases e : j = i
  · subst e
    by_cases c3 : j < 3
    · rw [if_pos c3] at hlo hhi
      exact okc_lo _ _ c3 ht.1 (by omega)
    · rw [if_neg c3] at hlo hhi
      exact okc_hi _ _ c3 ht.1 (by omega)
  · exact h.2.2.2 j (by omega)
theorem HdRel.done {W : World} {d : Nat} {s : ByteArray} {wr : World} (h : HdRel W d s 5 wr) : HeadPost W d s (.returned (.tuple #[.int .i64 (bya s.data.toList 3 : Int), .int .i64 (bya s.data.toList 4 : Int), .bool true])) wr := by
  have h5 := take5 s.data.toList h.2.2.2
  exact ⟨h.1, .inr ⟨(hd_none _).2 h.2.2.2, rfl, h.2.1, h.2.2.1, h5.2.2.1, h5.2.2.2⟩⟩
theorem HdRel.ask {W : World} {d : Nat} {s : ByteArray} {i : Nat} {wr : World} (h : HdRel W d s i wr) (hm : s.size ≤ maxLen) (lo hi : Int) (V : World) (hV : Below wr.heap.size wr V) : Calls Try.prog 37 #[.pointer (some ⟨d, 0, none⟩), .int .i64 lo, .int .i64 hi] V fun e w' =>
      e = .returned (.tuple #[.int .i64 (if tkV s.data.toList i lo hi then (bya s.data.toList i : Int) else 0), .bool (tkV s.data.toList i lo hi)]) ∧ Dk w' d s (if tkV s.data.toList i lo hi then i + 1 else i) ∧ wr.grownBy w' (some d) :=
  (take_any (h.2.1.keep hV) lo hi h.2.2.1 hm).mono fun _ _ ⟨a, b, c⟩ => ⟨a, b, gtrans (gbelow _ hV) c⟩

theorem HdRel.askNo {W : World} {d : Nat} {s : ByteArray} {i : Nat} {wr : World} (h : HdRel W d s i wr) (hm : s.size ≤ maxLen) (lo hi : Int) (ht : tkV s.data.toList i lo hi = false) (V : World) (hV : Below wr.heap.size wr V) : Calls Try.prog 37 #[.pointer (some ⟨d, 0, none⟩), .int .i64 lo, .int .i64 hi] V fun e w' =>
      e = .returned (.tuple #[.int .i64 0, .bool false]) ∧ Dk w' d s i ∧ wr.grownBy w' (some d) := by
  have := h.ask hm lo hi V hV
  rw [ht] at this
  simpa using this
theorem HdRel.askYes {W : World} {d : Nat} {s : ByteArray} {i : Nat} {wr : World} (h : HdRel W d s i wr) (hm : s.size ≤ maxLen) (lo hi : Int) (ht : tkV s.data.toList i lo hi = true) (V : World) (hV : Below wr.heap.size wr V) : Calls Try.prog 37 #[.pointer (some ⟨d, 0, none⟩), .int .i64 lo, .int .i64 hi] V fun e w' =>
      e = .returned (.tuple #[.int .i64 (bya s.data.toList i : Int), .bool true]) ∧ Dk w' d s (i + 1) ∧ wr.grownBy w' (some d) := by
  have := h.ask hm lo hi V hV
  rw [ht] at this
  simpa using this

set_option maxRecDepth 100000 in
set_option maxHeartbeats 2000000 in
theorem head_any {W : World} {d : Nat} {s : ByteArray} (k : Dk W d s 0) (hm : s.size ≤ maxLen) : Calls Try.prog 25 #[.pointer (some ⟨d, 0, none⟩)] W (HeadPost W d s) := by
  have H0 := hide (show HdRel W d s 0 W from ⟨World.grownBy.refl _ _, k, Nat.zero_le _, fun j hj => by omega⟩)
  have Hm := hide hm
  clear k hm
  go_enter Try.func25, Try.ntmps25
  go_wp2
  go_loopw [6] (fun c wr => (c = .int .i64 0 ∧ HdRel W d s 0 wr) ∨ (c = .int .i64 1 ∧ HdRel W d s 1 wr) ∨ (c = .int .i64 2 ∧ HdRel W d s 2 wr) ∨ (c = .int .i64 3 ∧ HdRel W d s 3 wr)) (fun c _ => 3 - (intOf c).toNat)
  case atStart => exact .inl ⟨rfl, unhide H0⟩
  case round =>
    clear H0
    rcases hrel with ⟨rfl, h⟩ | ⟨rfl, h⟩ | ⟨rfl, h⟩ | ⟨rfl, h⟩
    · have HH := hide h
      cases ht : tkV s.data.toList 0 74 74 with
      | false =>
        have HA := hide (h.askNo (unhide Hm) 74 74 ht)
        have Ht := hide ht
        clear h ht
        go_wp2_with fail
        go_region_with (go_at_call 37; refine (unhide HA _ (Below.drew (Below.refl _ _))).mono ?_; rintro e w2 ⟨rfl, hk, hg⟩)
        all_goals
          go_wp2
          exact bodyPost_ret (v := .tuple #[.int .i64 0, .int .i64 0, .bool false]) (by simp [results, Try.results25, go_sem]) rfl ((unhide HH).no (i := 0) (by omega) rfl rfl (unhide Ht) hk hg 0 0)
      | true =>
        have HA := hide (h.askYes (unhide Hm) 74 74 ht)
        have Ht := hide ht
        clear h ht
        go_wp2_with fail
        go_region_with (go_at_call 37; refine (unhide HA _ (Below.drew (Below.refl _ _))).mono ?_; rintro e w2 ⟨rfl, hk, hg⟩)
        all_goals
          go_wp2
          go_roundw
          case rel => exact .inr (.inl ⟨rfl, (unhide HH).yes (i := 0) rfl rfl (unhide Ht) hk hg⟩)
          case measure => simp [intOf]
    · have HH := hide h
      cases ht : tkV s.data.toList 1 81 81 with
      | false =>
        have HA := hide (h.askNo (unhide Hm) 81 81 ht)
        have Ht := hide ht
        clear h ht
        go_wp2_with fail
        go_region_with (go_at_call 37; refine (unhide HA _ (Below.drew (Below.refl _ _))).mono ?_; rintro e w2 ⟨rfl, hk, hg⟩)
        all_goals
          go_wp2
          exact bodyPost_ret (v := .tuple #[.int .i64 0, .int .i64 0, .bool false]) (by simp [results, Try.results25, go_sem]) rfl ((unhide HH).no (i := 1) (by omega) rfl rfl (unhide Ht) hk hg 0 0)
      | true =>
        have HA := hide (h.askYes (unhide Hm) 81 81 ht)
        have Ht := hide ht
        clear h ht
        go_wp2_with fail
        go_region_with (go_at_call 37; refine (unhide HA _ (Below.drew (Below.refl _ _))).mono ?_; rintro e w2 ⟨rfl, hk, hg⟩)
        all_goals
          go_wp2
          go_roundw
          case rel => exact .inr (.inr (.inl ⟨rfl, (unhide HH).yes (i := 1) rfl rfl (unhide Ht) hk hg⟩))
          case measure => simp [intOf]
    · have HH := hide h
      cases ht : tkV s.data.toList 2 49 49 with
      | false =>
        have HA := hide (h.askNo (unhide Hm) 49 49 ht)
        have Ht := hide ht
        clear h ht
        go_wp2_with fail
        go_region_with (go_at_call 37; refine (unhide HA _ (Below.drew (Below.refl _ _))).mono ?_; rintro e w2 ⟨rfl, hk, hg⟩)
        all_goals
          go_wp2
          exact bodyPost_ret (v := .tuple #[.int .i64 0, .int .i64 0, .bool false]) (by simp [results, Try.results25, go_sem]) rfl ((unhide HH).no (i := 2) (by omega) rfl rfl (unhide Ht) hk hg 0 0)
      | true =>
        have HA := hide (h.askYes (unhide Hm) 49 49 ht)
        have Ht := hide ht
        clear h ht
        go_wp2_with fail
        go_region_with (go_at_call 37; refine (unhide HA _ (Below.drew (Below.refl _ _))).mono ?_; rintro e w2 ⟨rfl, hk, hg⟩)
        all_goals
          go_wp2
          go_roundw
          case rel => exact .inr (.inr (.inr ⟨rfl, (unhide HH).yes (i := 2) rfl rfl (unhide Ht) hk hg⟩))
          case measure => simp [intOf]
    · cases ht : tkV s.data.toList 3 0 64 with
      | false =>
        have HA := hide (h.askNo (unhide Hm) 0 64 ht _ (Below.refl _ _))
        go_wp2_with fail
        refine (unhide HA).mono ?_
        rintro e w2 ⟨rfl, hk, hg⟩
        go_wp2
        exact bodyPost_ret (v := .tuple #[.int .i64 0, .int .i64 0, .bool false]) (by simp [results, Try.results25, go_sem]) rfl (h.no (i := 3) (by omega) rfl rfl ht hk hg 0 0)
      | true =>
        have HA := hide (h.askYes (unhide Hm) 0 64 ht _ (Below.refl _ _))
        go_wp2_with fail
        refine (unhide HA).mono ?_
        rintro e w2 ⟨rfl, hk, hg⟩
        have h4 := h.yes (i := 3) rfl rfl ht hk hg
        clear HA h hk hg ht
        cases ht : tkV s.data.toList 4 0 64 with
        | false =>
          have HA := hide (h4.askNo (unhide Hm) 0 64 ht _ (Below.refl _ _))
          go_wp2_with fail
          refine (unhide HA).mono ?_
          rintro e w3 ⟨rfl, hk, hg⟩
          go_wp2
          exact bodyPost_ret (v := .tuple #[.int .i64 (bya s.data.toList 3 : Int), .int .i64 0, .bool false]) (by simp [results, Try.results25, go_sem]) rfl (h4.no (i := 4) (by omega) rfl rfl ht hk hg _ 0)
        | true =>
          have HA := hide (h4.askYes (unhide Hm) 0 64 ht _ (Below.refl _ _))
          go_wp2_with fail
          refine (unhide HA).mono ?_
          rintro e w3 ⟨rfl, hk, hg⟩
          have h5 := h4.yes (i := 4) rfl rfl ht hk hg
          go_wp2
          exact bodyPost_ret (v := .tuple #[.int .i64 (bya s.data.toList 3 : Int), .int .i64 (bya s.data.toList 4 : Int), .bool true]) (by simp [results, Try.results25, go_sem]) rfl h5.done
end Go.Proofs.Ytkjicpbnkehimaa
