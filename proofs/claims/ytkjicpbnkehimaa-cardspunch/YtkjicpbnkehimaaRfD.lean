/-
  The document's Unpack: what it answers where something is wrong; cloths without ends.
-/
import Derived.Test.YtkjicpbnkehimaaRfC
import Derived.Test.YtkjicpbnkehimaaDkF
import Derived.Lib.ConvBytes
import Derived.Laws.EntriesVeiled
import Derived.Test.YtkjicpbnkehimaaLwA
namespace Go.Proofs.Ytkjicpbnkehimaa
open Go.RowKit

/-- a number in its box -/
def Ab (W : World) (A : Nat) (v : Int) : Prop := A < W.heap.size ∧ W.cell? ⟨A, 0, none⟩ = some (.int .i64 v) ∧ W.frozen? ⟨A, 0, none⟩ = false
theorem Ab.keep {W V : World} {A : Nat} {v : Int} (k : Ab W A v) (hb : Below W.heap.size W V) : Ab V A v := ⟨Nat.lt_of_lt_of_le k.1 hb.size, keepC hb k.1 k.2.1, keepF hb k.1 k.2.2⟩
theorem Ab.put {W : World} {A : Nat} {v : Int} (k : Ab W A v) (u : Int) : Ab (W.setCell ⟨A, 0, none⟩ (.int .i64 u)) A u :=
  ⟨by simpa using k.1, World.cell?_setCell_same' _ _ _ (by rw [k.2.1]; rfl), by rw [World.frozen?_setCell]; exact k.2.2⟩
/-- what is wrong, and where -/
abbrev wrongV (a : Int) : Value := .tuple #[.agg #[.int .i64 0, .int .i64 0, .slice none 0 0], .agg #[.int .i64 2, .int .i64 a]]

set_option maxRecDepth 100000 in
set_option maxHeartbeats 1000000 in
theorem bad_any {W : World} {A : Nat} {a : Int} (k : Ab W A a) :
    Calls Try.prog 29 #[.pointer (some ⟨A, 0, none⟩)] W fun e w' => e = .returned (wrongV a) ∧ Below W.heap.size W w' := by
  have hl := k.1
  have c0 := (k.keep (bal (o := .cells #[.int .i64 0, .int .i64 0] 29) (bal (o := .cells #[.int .i64 0, .int .i64 0, .slice none 0 0] 24) (Below.refl _ W)))).2.1
  have B0 := hide (bal (o := .cells #[.int .i64 0, .int .i64 0] 29) (bal (o := .cells #[.int .i64 0, .int .i64 0, .slice none 0 0] 24) (Below.refl _ W)))
  clear k
  go_enter Try.func29, Try.ntmps29
  go_wp2_with fail
  go_region
  all_goals
    go_wp2
    exact bodyPost_ret (v := wrongV a) (by simp [results, Try.results29, go_sem]) rfl ⟨rfl, Below.drew (bal (bal (Below.refl _ _)))⟩

theorem g15_0 {a0 a1 a2 a3 a4 a5 a6 a7 a8 a9 a10 a11 a12 a13 a14 : Oper} : (#[a0, a1, a2, a3, a4, a5, a6, a7, a8, a9, a10, a11, a12, a13, a14] : Array Oper)[0]? = some a0 := rfl
theorem g15_1 {a0 a1 a2 a3 a4 a5 a6 a7 a8 a9 a10 a11 a12 a13 a14 : Oper} : (#[a0, a1, a2, a3, a4, a5, a6, a7, a8, a9, a10, a11, a12, a13, a14] : Array Oper)[1]? = some a1 := rfl
theorem g15_2 {a0 a1 a2 a3 a4 a5 a6 a7 a8 a9 a10 a11 a12 a13 a14 : Oper} : (#[a0, a1, a2, a3, a4, a5, a6, a7, a8, a9, a10, a11, a12, a13, a14] : Array Oper)[2]? = some a2 := rfl
theorem g15_3 {a0 a1 a2 a3 a4 a5 a6 a7 a8 a9 a10 a11 a12 a13 a14 : Oper} : (#[a0, a1, a2, a3, a4, a5, a6, a7, a8, a9, a10, a11, a12, a13, a14] : Array Oper)[3]? = some a3 := rfl
theorem g15_4 {a0 a1 a2 a3 a4 a5 a6 a7 a8 a9 a10 a11 a12 a13 a14 : Oper} : (#[a0, a1, a2, a3, a4, a5, a6, a7, a8, a9, a10, a11, a12, a13, a14] : Array Oper)[4]? = some a4 := rfl
theorem g15_5 {a0 a1 a2 a3 a4 a5 a6 a7 a8 a9 a10 a11 a12 a13 a14 : Oper} : (#[a0, a1, a2, a3, a4, a5, a6, a7, a8, a9, a10, a11, a12, a13, a14] : Array Oper)[5]? = some a5 := rfl
theorem g15_6 {a0 a1 a2 a3 a4 a5 a6 a7 a8 a9 a10 a11 a12 a13 a14 : Oper} : (#[a0, a1, a2, a3, a4, a5, a6, a7, a8, a9, a10, a11, a12, a13, a14] : Array Oper)[6]? = some a6 := rfl
theorem g15_7 {a0 a1 a2 a3 a4 a5 a6 a7 a8 a9 a10 a11 a12 a13 a14 : Oper} : (#[a0, a1, a2, a3, a4, a5, a6, a7, a8, a9, a10, a11, a12, a13, a14] : Array Oper)[7]? = some a7 := rfl
theorem g15_8 {a0 a1 a2 a3 a4 a5 a6 a7 a8 a9 a10 a11 a12 a13 a14 : Oper} : (#[a0, a1, a2, a3, a4, a5, a6, a7, a8, a9, a10, a11, a12, a13, a14] : Array Oper)[8]? = some a8 := rfl
theorem g15_9 {a0 a1 a2 a3 a4 a5 a6 a7 a8 a9 a10 a11 a12 a13 a14 : Oper} : (#[a0, a1, a2, a3, a4, a5, a6, a7, a8, a9, a10, a11, a12, a13, a14] : Array Oper)[9]? = some a9 := rfl
theorem g15_10 {a0 a1 a2 a3 a4 a5 a6 a7 a8 a9 a10 a11 a12 a13 a14 : Oper} : (#[a0, a1, a2, a3, a4, a5, a6, a7, a8, a9, a10, a11, a12, a13, a14] : Array Oper)[10]? = some a10 := rfl
theorem g15_11 {a0 a1 a2 a3 a4 a5 a6 a7 a8 a9 a10 a11 a12 a13 a14 : Oper} : (#[a0, a1, a2, a3, a4, a5, a6, a7, a8, a9, a10, a11, a12, a13, a14] : Array Oper)[11]? = some a11 := rfl
theorem g15_12 {a0 a1 a2 a3 a4 a5 a6 a7 a8 a9 a10 a11 a12 a13 a14 : Oper} : (#[a0, a1, a2, a3, a4, a5, a6, a7, a8, a9, a10, a11, a12, a13, a14] : Array Oper)[12]? = some a12 := rfl
theorem g15_13 {a0 a1 a2 a3 a4 a5 a6 a7 a8 a9 a10 a11 a12 a13 a14 : Oper} : (#[a0, a1, a2, a3, a4, a5, a6, a7, a8, a9, a10, a11, a12, a13, a14] : Array Oper)[13]? = some a13 := rfl
theorem g15_14 {a0 a1 a2 a3 a4 a5 a6 a7 a8 a9 a10 a11 a12 a13 a14 : Oper} : (#[a0, a1, a2, a3, a4, a5, a6, a7, a8, a9, a10, a11, a12, a13, a14] : Array Oper)[14]? = some a14 := rfl

/-- what a deck of a cloth without ends is -/
theorem flat_rd (l : List UInt8) (h : Nat) (hh : 0 < h) (h6 : h ≤ 64) : rdR l 0 h 64 0 5 (fun _ => false) = if l.length ≤ 5 then .inl 5 else if bya l 5 < 1 ∨ h < bya l 5 then .inl 5 else if bya l 5 < h then .inl 6 else .inr (6, put (fun _ => false) 0 0 (rr l 6)) := by
  have e0 : nb 0 = 0 := rfl
  have hol : ∀ r, holes r 0 = [] := fun r => rfl
  have ht : ∀ a, (l.drop a).take 0 = [] := fun a => by simp
  have hb0 : bad l 0 h 0 5 (fun _ => false) = if l.length ≤ 5 then some 5 else if bya l 5 < 1 ∨ h < bya l 5 then some 5 else none := by
    unfold bad
    rw [e0, hol, ht]
    by_cases c1 : l.length ≤ 5
    · rw [if_pos c1, if_pos c1]
    · rw [if_neg c1, if_neg c1, Nat.sub_zero]
      by_cases c2 : bya l 5 < 1 ∨ h < bya l 5
      · rw [if_pos c2, if_pos c2]
      · rw [if_neg c2, if_neg c2, if_neg (by omega), if_neg (by simp), if_neg (by simp [asA])]
  have s1 : rdR l 0 h 64 0 5 (fun _ => false) = match bad l 0 h 0 5 (fun _ => false) with
      | some e => .inl e
      | none => rdR l 0 h 63 (0 + bya l 5) (5 + 1 + nb 0) (put (fun _ => false) 0 0 (rr l (5 + 1))) := by
    rw [rdR, if_neg (by omega)]; rfl
  rw [s1, hb0]
  by_cases c1 : l.length ≤ 5
  · rw [if_pos c1, if_pos c1]
  · rw [if_neg c1, if_neg c1]
    by_cases c2 : bya l 5 < 1 ∨ h < bya l 5
    · rw [if_pos c2, if_pos c2]
    · rw [if_neg c2, if_neg c2]
      dsimp only
      rw [Nat.zero_add, e0]
      by_cases c3 : bya l 5 < h
      · rw [if_pos c3]
        have hb1 : ∃ e, bad l 0 h (bya l 5) 6 (put (fun _ => false) 0 0 (rr l 6)) = some e ∧ e = 6 := by
          unfold bad
          rw [e0, hol, ht]
          by_cases d1 : l.length ≤ 6
          · exact ⟨6, by rw [if_pos d1], rfl⟩
          · rw [if_neg d1]
            by_cases d2 : bya l 6 < 1 ∨ h - bya l 5 < bya l 6
            · exact ⟨6, by rw [if_pos d2], rfl⟩
            · rw [if_neg d2, if_neg (by omega), if_neg (by simp), if_pos (by unfold asA; rw [decide_eq_true (by omega)]; rfl)]
              exact ⟨6, rfl, rfl⟩
        obtain ⟨e, hb1, rfl⟩ := hb1
        exact rdR_fail l 0 h 63 (bya l 5) 6 6 _ c3 (by omega) hb1
      · rw [if_neg c3]
        have e5 : bya l 5 = h := by omega
        rw [e5]
        exact rdR_done l 0 h 63 6 _
/-- what flat answers, held against what is read -/
def FlatPost (W : World) (s : ByteArray) (h : Nat) (e : Ending) (w' : World) : Prop := Below W.heap.size W w' ∧
  ((∃ x : Nat, tl s.data.toList (rdR s.data.toList 0 h 64 0 5 (fun _ => false)) = .inl x ∧ e = .returned (wrongV x)) ∨
   (∃ g, tl s.data.toList (rdR s.data.toList 0 h 64 0 5 (fun _ => false)) = .inr (bya s.data.toList 3, bya s.data.toList 4, g) ∧ e = .returned (.tuple #[tr 0 h none 0 0, .agg #[.int .i64 0, .int .i64 0]])))
theorem flat_bad {W w' : World} {s : ByteArray} {h x : Nat} (hb : Below W.heap.size W w') (ht : tl s.data.toList (rdR s.data.toList 0 h 64 0 5 (fun _ => false)) = .inl x) : FlatPost W s h (.returned (wrongV x)) w' := ⟨hb, .inl ⟨x, ht, rfl⟩⟩

theorem put5 {W V : World} {b : Nat} (h : Below W.heap.size W V) (hb : W.heap.size ≤ b) (v0 v1 v2 v3 v4 : Value) : Below W.heap.size W (((((V.setCell ⟨b, 0, none⟩ v0).setCell ⟨b, 1, none⟩ v1).setCell ⟨b, 2, none⟩ v2).setCell ⟨b + 1, 0, none⟩ v3).setCell ⟨b + 1, 1, none⟩ v4) :=
  bset (bset (bset (bset (bset h hb) hb) hb) (Nat.le_trans hb (Nat.le_succ _))) (Nat.le_trans hb (Nat.le_succ _))
theorem Bx2.draws {W : World} {b : Nat} (k : Bx2 W b) (n : Nat) : Bx2 (W.drewN n) b := k.grown (gbelow none (Joins.below_draws _ _ _)) (by simp) (by simp)

set_option maxRecDepth 100000 in
set_option maxHeartbeats 4000000 in
theorem flat_any (s : ByteArray) (h : Nat) (hh : 0 < h) (h6 : h ≤ 64) (h5 : 5 ≤ s.size) (hm : s.size ≤ maxLen) (W : World) : Calls Try.prog 30 #[.string s, .int .i64 5, tr 0 h none 0 0] W (FlatPost W s h) := by
  have Hrd := hide (flat_rd s.data.toList h hh h6)
  rw [str_len] at Hrd
  unfold maxLen at hm
  have HS0 := hide (bal (o := .cells #[.int .i64 0, .int .i64 0] 29) (bal (o := .cells #[.int .i64 0, .int .i64 0, .slice none 0 0] 24) (bal (o := .cells #[.int .i64 0, .int .i64 h, .slice none 0 0] 24) (Below.refl _ W))))
  have HX0 := hide (show Bx2 (((W.alloc (.cells #[.int .i64 0, .int .i64 h, .slice none 0 0] 24)).alloc (.cells #[.int .i64 0, .int .i64 0, .slice none 0 0] 24)).alloc (.cells #[.int .i64 0, .int .i64 0] 29)) (W.heap.size + 1) from ⟨by simp, by simp [go_sem], by simp [go_sem], by simp [go_sem], by simp [go_sem], by simp [go_sem], by simp [go_sem], by simp [go_sem], by simp [go_sem], by simp [go_sem], by simp [go_sem]⟩)
  have HO0 := hide (((OwnM.new W 0 h none 0 0 24).alloc (.cells #[.int .i64 0, .int .i64 0, .slice none 0 0] 24)).alloc (.cells #[.int .i64 0, .int .i64 0] 29))
  by_cases c1 : s.size ≤ 5
  · have e5 : (s.size : Int) ≤ 5 := by omega
    have Ht := hide (show tl s.data.toList (rdR s.data.toList 0 h 64 0 5 (fun _ => false)) = .inl 5 by rw [unhide Hrd, if_pos c1]; rfl)
    go_enter Try.func30, Try.ntmps30
    go_wp2_with fail
    generalize ((W.alloc (.cells #[.int .i64 0, .int .i64 h, .slice none 0 0] 24)).alloc (.cells #[.int .i64 0, .int .i64 0, .slice none 0 0] 24)).alloc (.cells #[.int .i64 0, .int .i64 0] 29) = w0 at *
    obtain ⟨-, o0, o1, o2⟩ := unhide HO0
    go_quiet (fail)
    have HX1 := hide ((unhide HX0).draws nq)
    have HS1 := hide (btrans (unhide HS0) (Joins.below_draws _ _ nq))
    have HO1 := hide ((unhide HO0).keep (Joins.below_draws _ _ nq))
    clear o0 o1 o2 HX0 HS0 HO0
    generalize w0.drewN nq = w1 at *
    obtain ⟨-, k1, k2, k3, k4, k5, k6, k7, k8, k9, k10⟩ := unhide HX1
    go_wp2
    exact bodyPost_ret (v := wrongV 5) (by simp [results, Try.results30, go_sem, k1, k2, k3, k7, k8]) rfl (flat_bad (x := 5) (put5 (unhide HS1) (by omega) _ _ _ _ _) (unhide Ht))
  · have e5 : ¬ ((s.size : Int) ≤ 5) := by omega
    have e51 : decide ((s.size : Int) ≤ 5) = false := by simpa using e5
    have h55 : 5 < s.size := by omega
    have hby := bya_str s 5 h55
    have hc5 := s[5].toNat_lt
    rw [hby, if_neg c1] at Hrd
    by_cases c2 : s[5].toNat < 1
    · have d2 : (s[5].toNat : Int) < 1 := by omega
      have Ht := hide (show tl s.data.toList (rdR s.data.toList 0 h 64 0 5 (fun _ => false)) = .inl 5 by rw [unhide Hrd, if_pos (.inl c2)]; rfl)
      clear c2 hby
      go_enter Try.func30, Try.ntmps30
      go_wp2_with fail
      generalize ((W.alloc (.cells #[.int .i64 0, .int .i64 h, .slice none 0 0] 24)).alloc (.cells #[.int .i64 0, .int .i64 0, .slice none 0 0] 24)).alloc (.cells #[.int .i64 0, .int .i64 0] 29) = w0 at *
      obtain ⟨-, o0, o1, o2⟩ := unhide HO0
      go_quiet (fail)
      have HX1 := hide ((unhide HX0).draws nq)
      have HS1 := hide (btrans (unhide HS0) (Joins.below_draws _ _ nq))
      have HO1 := hide ((unhide HO0).keep (Joins.below_draws _ _ nq))
      clear o0 o1 o2 HX0 HS0 HO0
      generalize w0.drewN nq = w1 at *
      obtain ⟨-, k1, k2, k3, k4, k5, k6, k7, k8, k9, k10⟩ := unhide HX1
      go_wp2
      exact bodyPost_ret (v := wrongV 5) (by simp [results, Try.results30, go_sem, k1, k2, k3, k7, k8]) rfl (flat_bad (x := 5) (put5 (unhide HS1) (by omega) _ _ _ _ _) (unhide Ht))
    · have d2 : ¬ ((s[5].toNat : Int) < 1) := by omega
      have d21 : decide ((s[5].toNat : Int) < 1) = false := by simpa using d2
      by_cases c3 : h < s[5].toNat
      · have d3 : (h : Int) < (s[5].toNat : Int) := by omega
        have Ht := hide (show tl s.data.toList (rdR s.data.toList 0 h 64 0 5 (fun _ => false)) = .inl 5 by rw [unhide Hrd, if_pos (.inr c3)]; rfl)
        clear c2 hby c3
        go_enter Try.func30, Try.ntmps30
        go_wp2_with fail
        generalize ((W.alloc (.cells #[.int .i64 0, .int .i64 h, .slice none 0 0] 24)).alloc (.cells #[.int .i64 0, .int .i64 0, .slice none 0 0] 24)).alloc (.cells #[.int .i64 0, .int .i64 0] 29) = w0 at *
        obtain ⟨-, o0, o1, o2⟩ := unhide HO0
        go_quiet (fail)
        have HX1 := hide ((unhide HX0).draws nq)
        have HS1 := hide (btrans (unhide HS0) (Joins.below_draws _ _ nq))
        have HO1 := hide ((unhide HO0).keep (Joins.below_draws _ _ nq))
        clear o0 o1 o2 HX0 HS0 HO0
        generalize w0.drewN nq = w1 at *
        obtain ⟨-, k1, k2, k3, k4, k5, k6, k7, k8, k9, k10⟩ := unhide HX1
        go_wp2
        exact bodyPost_ret (v := wrongV 5) (by simp [results, Try.results30, go_sem, k1, k2, k3, k7, k8]) rfl (flat_bad (x := 5) (put5 (unhide HS1) (by omega) _ _ _ _ _) (unhide Ht))
      · have d3 : ¬ ((h : Int) < (s[5].toNat : Int)) := by omega
        have d31 : decide ((h : Int) < (s[5].toNat : Int)) = false := by simpa using d3
        rw [if_neg (by omega)] at Hrd
        by_cases c4 : s[5].toNat < h
        · have d4 : (s[5].toNat : Int) < (h : Int) := by omega
          have Ht := hide (show tl s.data.toList (rdR s.data.toList 0 h 64 0 5 (fun _ => false)) = .inl 6 by rw [unhide Hrd, if_pos c4]; rfl)
          clear c2 hby c3 c4
          go_enter Try.func30, Try.ntmps30
          go_wp2_with fail
          generalize ((W.alloc (.cells #[.int .i64 0, .int .i64 h, .slice none 0 0] 24)).alloc (.cells #[.int .i64 0, .int .i64 0, .slice none 0 0] 24)).alloc (.cells #[.int .i64 0, .int .i64 0] 29) = w0 at *
          obtain ⟨-, o0, o1, o2⟩ := unhide HO0
          go_quiet (fail)
          have HX1 := hide ((unhide HX0).draws nq)
          have HS1 := hide (btrans (unhide HS0) (Joins.below_draws _ _ nq))
          have HO1 := hide ((unhide HO0).keep (Joins.below_draws _ _ nq))
          clear o0 o1 o2 HX0 HS0 HO0
          generalize w0.drewN nq = w1 at *
          obtain ⟨-, o0, o1, o2⟩ := unhide HO1
          go_wp2_with fail
          go_quiet (fail)
          have HX2 := hide ((unhide HX1).draws nq)
          have HS2 := hide (btrans (unhide HS1) (Joins.below_draws _ _ nq))
          have HO2 := hide ((unhide HO1).keep (Joins.below_draws _ _ nq))
          clear o0 o1 o2 HX1 HS1 HO1
          generalize w1.drewN nq = w2 at *
          obtain ⟨-, k1, k2, k3, k4, k5, k6, k7, k8, k9, k10⟩ := unhide HX2
          go_wp2
          exact bodyPost_ret (v := wrongV 6) (by simp [results, Try.results30, go_sem, k1, k2, k3, k7, k8]) rfl (flat_bad (x := 6) (put5 (unhide HS2) (by omega) _ _ _ _ _) (unhide Ht))
        · have d4 : ¬ ((s[5].toNat : Int) < (h : Int)) := by omega
          have d41 : decide ((s[5].toNat : Int) < (h : Int)) = false := by simpa using d4
          rw [if_neg c4] at Hrd
          have Htl := hide (show tl s.data.toList (rdR s.data.toList 0 h 64 0 5 (fun _ => false)) = fin s.data.toList 6 (put (fun _ => false) 0 0 (rr s.data.toList 6)) by rw [unhide Hrd]; rfl)
          clear c2 hby c3 c4 Hrd
          by_cases c6 : s.size ≤ 6
          · have e6 : (s.size : Int) ≤ 6 := by omega
            have Ht := hide (show tl s.data.toList (rdR s.data.toList 0 h 64 0 5 (fun _ => false)) = .inl 6 by rw [unhide Htl]; unfold fin; rw [str_len, if_pos c6])
            go_enter Try.func30, Try.ntmps30
            go_wp2_with fail
            generalize ((W.alloc (.cells #[.int .i64 0, .int .i64 h, .slice none 0 0] 24)).alloc (.cells #[.int .i64 0, .int .i64 0, .slice none 0 0] 24)).alloc (.cells #[.int .i64 0, .int .i64 0] 29) = w0 at *
            obtain ⟨-, o0, o1, o2⟩ := unhide HO0
            go_quiet (fail)
            have HX1 := hide ((unhide HX0).draws nq)
            have HS1 := hide (btrans (unhide HS0) (Joins.below_draws _ _ nq))
            have HO1 := hide ((unhide HO0).keep (Joins.below_draws _ _ nq))
            clear o0 o1 o2 HX0 HS0 HO0
            generalize w0.drewN nq = w1 at *
            obtain ⟨-, o0, o1, o2⟩ := unhide HO1
            go_wp2_with fail
            go_quiet (fail)
            have HX2 := hide ((unhide HX1).draws nq)
            have HS2 := hide (btrans (unhide HS1) (Joins.below_draws _ _ nq))
            have HO2 := hide ((unhide HO1).keep (Joins.below_draws _ _ nq))
            clear o0 o1 o2 HX1 HS1 HO1
            generalize w1.drewN nq = w2 at *
            obtain ⟨-, o0, o1, o2⟩ := unhide HO2
            go_wp2_with fail
            go_quiet (fail)
            have HX3 := hide ((unhide HX2).draws nq)
            have HS3 := hide (btrans (unhide HS2) (Joins.below_draws _ _ nq))
            have HO3 := hide ((unhide HO2).keep (Joins.below_draws _ _ nq))
            clear o0 o1 o2 HX2 HS2 HO2
            generalize w2.drewN nq = w3 at *
            obtain ⟨-, k1, k2, k3, k4, k5, k6, k7, k8, k9, k10⟩ := unhide HX3
            go_wp2
            exact bodyPost_ret (v := wrongV 6) (by simp [results, Try.results30, go_sem, k1, k2, k3, k7, k8]) rfl (flat_bad (x := 6) (put5 (unhide HS3) (by omega) _ _ _ _ _) (unhide Ht))
          · have e6 : ¬ ((s.size : Int) ≤ 6) := by omega
            have e61 : decide ((s.size : Int) ≤ 6) = false := by simpa using e6
            have h66 : 6 < s.size := by omega
            have hby6 := bya_str s 6 h66
            have hc6 := s[6].toNat_lt
            obtain ⟨t, hxt, ht1, ht2⟩ : ∃ t, s.extract 0 6 = t ∧ t.size = 6 ∧ t.data.toList = s.data.toList.take 6 := ⟨_, rfl, by rw [ByteArray.size_extract]; omega, by rw [Lib.extract_data]; rfl⟩
            have Hex := hide ht1
            have Hed := hide ht2
            clear ht1 ht2
            have Hea := hide (show 6 ≤ 600 by omega)
            have Hfin := hide (show fin s.data.toList 6 (put (fun _ => false) 0 0 (rr s.data.toList 6)) = if s[6].toNat ≠ bl (s.data.toList.take 6) then .inl 6 else if 7 < s.size then .inl 7 else .inr (bya s.data.toList 3, bya s.data.toList 4, put (fun _ => false) 0 0 (rr s.data.toList 6)) by
              unfold fin; rw [str_len, if_neg c6, hby6])
            have hbl := bl_lt (s.data.toList.take 6)
            clear hby6
            generalize hmm : bl (s.data.toList.take 6) = m at *
            have HblM := hide hmm
            clear hmm
            by_cases c7 : s[6].toNat = m
            · have e7 : ((s[6].toNat : Int) != (m : Int)) = false := by simp [c7]
              rw [if_neg (by simpa using c7)] at Hfin
              by_cases c8 : 7 < s.size
              · have e8 : (7 : Int) < (s.size : Int) := by omega
                have Ht := hide (show tl s.data.toList (rdR s.data.toList 0 h 64 0 5 (fun _ => false)) = .inl 7 by rw [unhide Htl, unhide Hfin, if_pos c8])
                clear c7 Hfin Htl
                go_enter Try.func30, Try.ntmps30
                go_wp2_with fail
                generalize ((W.alloc (.cells #[.int .i64 0, .int .i64 h, .slice none 0 0] 24)).alloc (.cells #[.int .i64 0, .int .i64 0, .slice none 0 0] 24)).alloc (.cells #[.int .i64 0, .int .i64 0] 29) = w0 at *
                obtain ⟨-, o0, o1, o2⟩ := unhide HO0
                go_quiet (fail)
                have HX1 := hide ((unhide HX0).draws nq)
                have HS1 := hide (btrans (unhide HS0) (Joins.below_draws _ _ nq))
                have HO1 := hide ((unhide HO0).keep (Joins.below_draws _ _ nq))
                clear o0 o1 o2 HX0 HS0 HO0
                generalize w0.drewN nq = w1 at *
                obtain ⟨-, o0, o1, o2⟩ := unhide HO1
                go_wp2_with fail
                go_quiet (fail)
                have HX2 := hide ((unhide HX1).draws nq)
                have HS2 := hide (btrans (unhide HS1) (Joins.below_draws _ _ nq))
                have HO2 := hide ((unhide HO1).keep (Joins.below_draws _ _ nq))
                clear o0 o1 o2 HX1 HS1 HO1
                generalize w1.drewN nq = w2 at *
                obtain ⟨-, o0, o1, o2⟩ := unhide HO2
                go_wp2_with fail
                refine wp_region_noPanic ?_
                refine wp_region_held_drew (S := fun V => Below w2.heap.size w2 V) (by kernel_rfl) (Below.drew (Below.refl _ _)) ?_
                intro hS0
                generalize hwc : w2.drew = wc at *
                clear hwc
                refine wpAnyH_take (i := 0) (oi := _) (v := .int .i64 6) g15_0 (by kernel_rfl) (by kernel_rfl) (by kernel_rfl) (fun _ _ _ h => h) (Or.inl ⟨by rfl, ?_⟩) (by assumption) ?_
                · intro V hSw
                  try dsimp only at hSw
                  go_simp
                simp only [Act.put, List.setIfInBounds_toArray, List.set_cons_zero, List.set_cons_succ]
                refine wpAnyH_take (i := 1) (oi := _) (v := .string s) g15_1 (by kernel_rfl) (by kernel_rfl) (by kernel_rfl) (fun _ _ _ h => h) (Or.inl ⟨by rfl, ?_⟩) (by assumption) ?_
                · intro V hSw
                  try dsimp only at hSw
                  go_simp
                simp only [Act.put, List.setIfInBounds_toArray, List.set_cons_zero, List.set_cons_succ]
                refine wpAnyH_take (i := 2) (oi := _) (v := .int .i64 s.size) g15_2 (by kernel_rfl) (by kernel_rfl) (by kernel_rfl) (fun _ _ _ h => h) (Or.inl ⟨by rfl, ?_⟩) (by assumption) ?_
                · intro V hSw
                  try dsimp only at hSw
                  go_simp
                simp only [Act.put, List.setIfInBounds_toArray, List.set_cons_zero, List.set_cons_succ]
                refine wpAnyH_take (i := 3) (oi := _) (v := .bool false) g15_3 (by kernel_rfl) (by kernel_rfl) (by kernel_rfl) (fun _ _ _ h => h) (Or.inl ⟨by rfl, ?_⟩) (by assumption) ?_
                · intro V hSw
                  try dsimp only at hSw
                  go_simp
                simp only [Act.put, List.setIfInBounds_toArray, List.set_cons_zero, List.set_cons_succ]
                refine wpAnyH_take (i := 4) (oi := _) (v := .bool false) g15_4 (by kernel_rfl) (by kernel_rfl) (by kernel_rfl) (fun _ _ _ h => h) (Or.inl ⟨by rfl, ?_⟩) (by assumption) ?_
                · intro V hSw
                  try dsimp only at hSw
                  go_simp
                simp only [Act.put, List.setIfInBounds_toArray, List.set_cons_zero, List.set_cons_succ]
                refine wpAnyH_take (i := 5) (oi := _) (v := .string s) g15_5 (by kernel_rfl) (by kernel_rfl) (by kernel_rfl) (fun _ _ _ h => h) (Or.inl ⟨by rfl, ?_⟩) (by assumption) ?_
                · intro V hSw
                  try dsimp only at hSw
                  go_simp
                simp only [Act.put, List.setIfInBounds_toArray, List.set_cons_zero, List.set_cons_succ]
                refine wpAnyH_take (i := 6) (oi := _) (v := .int .i64 6) g15_6 (by kernel_rfl) (by kernel_rfl) (by kernel_rfl) (fun _ _ _ h => h) (Or.inl ⟨by rfl, ?_⟩) (by assumption) ?_
                · intro V hSw
                  try dsimp only at hSw
                  go_simp
                simp only [Act.put, List.setIfInBounds_toArray, List.set_cons_zero, List.set_cons_succ]
                refine wpAnyH_take (i := 7) (oi := _) (v := .int .u8 s[6].toNat) g15_7 (by kernel_rfl) (by kernel_rfl) (by kernel_rfl) (fun _ _ _ h => h) (Or.inl ⟨by rfl, ?_⟩) (by assumption) ?_
                · intro V hSw
                  try dsimp only at hSw
                  go_simp
                simp only [Act.put, List.setIfInBounds_toArray, List.set_cons_zero, List.set_cons_succ]
                refine wpAnyH_take (i := 8) (oi := _) (v := .string s) g15_8 (by kernel_rfl) (by kernel_rfl) (by kernel_rfl) (fun _ _ _ h => h) (Or.inl ⟨by rfl, ?_⟩) (by assumption) ?_
                · intro V hSw
                  try dsimp only at hSw
                  go_simp
                simp only [Act.put, List.setIfInBounds_toArray, List.set_cons_zero, List.set_cons_succ]
                refine wpAnyH_take (i := 9) (oi := _) (v := .int .i64 6) g15_9 (by kernel_rfl) (by kernel_rfl) (by kernel_rfl) (fun _ _ _ h => h) (Or.inl ⟨by rfl, ?_⟩) (by assumption) ?_
                · intro V hSw
                  try dsimp only at hSw
                  go_simp
                simp only [Act.put, List.setIfInBounds_toArray, List.set_cons_zero, List.set_cons_succ]
                refine wpAnyH_take (i := 10) (oi := _) (v := .string t) g15_10 (by kernel_rfl) (by kernel_rfl) (by kernel_rfl) (fun _ _ _ h => h) (Or.inl ⟨by rfl, ?_⟩) (by assumption) ?_
                · intro V hSw
                  try dsimp only at hSw
                  go_simp
                  all_goals (intro hx; omega)
                simp only [Act.put, List.setIfInBounds_toArray, List.set_cons_zero, List.set_cons_succ]
                refine wpAnyH_ready (rs := [11]) (by kernel_rfl) (by simp) ?_
                refine AllReadyH.cons (o := _) g15_11 (fun K hK => ?_) AllReadyH.nil
                go_simp
                rw [Lib.run_convert_string_bytes wc 9 35 5 t Try.underlying9 Try.underlying35 Try.underlying5]
                simp only [Result.andThen]
                rw [Oper.upon_value]
                obtain ⟨hbb, hY⟩ := bytes_row wc t
                have hS1 := btrans hS0 hbb
                have HCk := hide (rcheck_any (some ⟨wc.heap.size, 0, none⟩) t.size (grownCap wc t.size 0 5) t.data.toList (Lib.bytesWorld wc 5 t) (by rw [unhide Hex]; have := unhide Hea; omega) ⟨by rw [str_len], .inr ⟨_, rfl, hY.1, fun j hj => (hY.2 j hj).1⟩⟩)
                refine hK.out _ _ hS1 (fun hS2 => ?_)
                clear hK K hY hbb
                generalize Lib.bytesWorld wc 5 t = wd at *
                generalize grownCap wc t.size 0 5 = gc at *
                generalize wc.heap.size = gb at *
                clear hS0 hS2
                have hS0 := hS1
                clear hS1
                rw [unhide Hed, unhide HblM] at HCk
                refine wpAnyH_ready (rs := [12]) (by kernel_rfl) (by simp) ?_
                refine AllReadyH.cons (o := _) g15_12 (fun K hK => ?_) AllReadyH.nil
                go_simp
                refine (unhide HCk).mono ?_
                rintro e we ⟨rfl, hq⟩
                replace hq := hq.symm
                subst hq
                refine hK.out _ _ hS0 (fun _ => ?_)
                clear hK K HCk
                refine wpAnyH_take (i := 13) (oi := _) (v := .bool false) g15_13 (by kernel_rfl) (by kernel_rfl) (by kernel_rfl) (fun _ _ _ h => h) (Or.inl ⟨by rfl, ?_⟩) (by assumption) ?_
                · intro V hSw
                  try dsimp only at hSw
                  go_simp
                simp only [Act.put, List.setIfInBounds_toArray, List.set_cons_zero, List.set_cons_succ]
                refine wpAnyH_take (i := 14) (oi := _) (v := .bool false) g15_14 (by kernel_rfl) (by kernel_rfl) (by kernel_rfl) (fun _ _ _ h => h) (Or.inl ⟨by rfl, ?_⟩) (by assumption) ?_
                · intro V hSw
                  try dsimp only at hSw
                  go_simp
                simp only [Act.put, List.setIfInBounds_toArray, List.set_cons_zero, List.set_cons_succ]
                refine wpAnyH_done (by kernel_rfl) ?_ _
                refine NoPanic.normal ?_
                have HX3 := hide ((unhide HX2).grown (gbelow none hS0) (by simp) (by simp))
                have HS3 := hide (btrans (unhide HS2) hS0)
                have HO3 := hide ((unhide HO2).keep hS0)
                clear hS0 o0 o1 o2 HX2 HS2 HO2
                obtain ⟨-, k1, k2, k3, k4, k5, k6, k7, k8, k9, k10⟩ := unhide HX3
                go_wp2
                exact bodyPost_ret (v := wrongV 7) (by simp [results, Try.results30, go_sem, k1, k2, k3, k7, k8]) rfl (flat_bad (x := 7) (put5 (unhide HS3) (by omega) _ _ _ _ _) (unhide Ht))
              · have e8 : ¬ ((7 : Int) < (s.size : Int)) := by omega
                have Ht := hide (show tl s.data.toList (rdR s.data.toList 0 h 64 0 5 (fun _ => false)) = .inr (bya s.data.toList 3, bya s.data.toList 4, put (fun _ => false) 0 0 (rr s.data.toList 6)) by rw [unhide Htl, unhide Hfin, if_neg c8])
                clear c7 Hfin Htl
                go_enter Try.func30, Try.ntmps30
                go_wp2_with fail
                generalize ((W.alloc (.cells #[.int .i64 0, .int .i64 h, .slice none 0 0] 24)).alloc (.cells #[.int .i64 0, .int .i64 0, .slice none 0 0] 24)).alloc (.cells #[.int .i64 0, .int .i64 0] 29) = w0 at *
                obtain ⟨-, o0, o1, o2⟩ := unhide HO0
                go_quiet (fail)
                have HX1 := hide ((unhide HX0).draws nq)
                have HS1 := hide (btrans (unhide HS0) (Joins.below_draws _ _ nq))
                have HO1 := hide ((unhide HO0).keep (Joins.below_draws _ _ nq))
                clear o0 o1 o2 HX0 HS0 HO0
                generalize w0.drewN nq = w1 at *
                obtain ⟨-, o0, o1, o2⟩ := unhide HO1
                go_wp2_with fail
                go_quiet (fail)
                have HX2 := hide ((unhide HX1).draws nq)
                have HS2 := hide (btrans (unhide HS1) (Joins.below_draws _ _ nq))
                have HO2 := hide ((unhide HO1).keep (Joins.below_draws _ _ nq))
                clear o0 o1 o2 HX1 HS1 HO1
                generalize w1.drewN nq = w2 at *
                obtain ⟨-, o0, o1, o2⟩ := unhide HO2
                go_wp2_with fail
                refine wp_region_noPanic ?_
                refine wp_region_held_drew (S := fun V => Below w2.heap.size w2 V) (by kernel_rfl) (Below.drew (Below.refl _ _)) ?_
                intro hS0
                generalize hwc : w2.drew = wc at *
                clear hwc
                refine wpAnyH_take (i := 0) (oi := _) (v := .int .i64 6) g15_0 (by kernel_rfl) (by kernel_rfl) (by kernel_rfl) (fun _ _ _ h => h) (Or.inl ⟨by rfl, ?_⟩) (by assumption) ?_
                · intro V hSw
                  try dsimp only at hSw
                  go_simp
                simp only [Act.put, List.setIfInBounds_toArray, List.set_cons_zero, List.set_cons_succ]
                refine wpAnyH_take (i := 1) (oi := _) (v := .string s) g15_1 (by kernel_rfl) (by kernel_rfl) (by kernel_rfl) (fun _ _ _ h => h) (Or.inl ⟨by rfl, ?_⟩) (by assumption) ?_
                · intro V hSw
                  try dsimp only at hSw
                  go_simp
                simp only [Act.put, List.setIfInBounds_toArray, List.set_cons_zero, List.set_cons_succ]
                refine wpAnyH_take (i := 2) (oi := _) (v := .int .i64 s.size) g15_2 (by kernel_rfl) (by kernel_rfl) (by kernel_rfl) (fun _ _ _ h => h) (Or.inl ⟨by rfl, ?_⟩) (by assumption) ?_
                · intro V hSw
                  try dsimp only at hSw
                  go_simp
                simp only [Act.put, List.setIfInBounds_toArray, List.set_cons_zero, List.set_cons_succ]
                refine wpAnyH_take (i := 3) (oi := _) (v := .bool false) g15_3 (by kernel_rfl) (by kernel_rfl) (by kernel_rfl) (fun _ _ _ h => h) (Or.inl ⟨by rfl, ?_⟩) (by assumption) ?_
                · intro V hSw
                  try dsimp only at hSw
                  go_simp
                simp only [Act.put, List.setIfInBounds_toArray, List.set_cons_zero, List.set_cons_succ]
                refine wpAnyH_take (i := 4) (oi := _) (v := .bool false) g15_4 (by kernel_rfl) (by kernel_rfl) (by kernel_rfl) (fun _ _ _ h => h) (Or.inl ⟨by rfl, ?_⟩) (by assumption) ?_
                · intro V hSw
                  try dsimp only at hSw
                  go_simp
                simp only [Act.put, List.setIfInBounds_toArray, List.set_cons_zero, List.set_cons_succ]
                refine wpAnyH_take (i := 5) (oi := _) (v := .string s) g15_5 (by kernel_rfl) (by kernel_rfl) (by kernel_rfl) (fun _ _ _ h => h) (Or.inl ⟨by rfl, ?_⟩) (by assumption) ?_
                · intro V hSw
                  try dsimp only at hSw
                  go_simp
                simp only [Act.put, List.setIfInBounds_toArray, List.set_cons_zero, List.set_cons_succ]
                refine wpAnyH_take (i := 6) (oi := _) (v := .int .i64 6) g15_6 (by kernel_rfl) (by kernel_rfl) (by kernel_rfl) (fun _ _ _ h => h) (Or.inl ⟨by rfl, ?_⟩) (by assumption) ?_
                · intro V hSw
                  try dsimp only at hSw
                  go_simp
                simp only [Act.put, List.setIfInBounds_toArray, List.set_cons_zero, List.set_cons_succ]
                refine wpAnyH_take (i := 7) (oi := _) (v := .int .u8 s[6].toNat) g15_7 (by kernel_rfl) (by kernel_rfl) (by kernel_rfl) (fun _ _ _ h => h) (Or.inl ⟨by rfl, ?_⟩) (by assumption) ?_
                · intro V hSw
                  try dsimp only at hSw
                  go_simp
                simp only [Act.put, List.setIfInBounds_toArray, List.set_cons_zero, List.set_cons_succ]
                refine wpAnyH_take (i := 8) (oi := _) (v := .string s) g15_8 (by kernel_rfl) (by kernel_rfl) (by kernel_rfl) (fun _ _ _ h => h) (Or.inl ⟨by rfl, ?_⟩) (by assumption) ?_
                · intro V hSw
                  try dsimp only at hSw
                  go_simp
                simp only [Act.put, List.setIfInBounds_toArray, List.set_cons_zero, List.set_cons_succ]
                refine wpAnyH_take (i := 9) (oi := _) (v := .int .i64 6) g15_9 (by kernel_rfl) (by kernel_rfl) (by kernel_rfl) (fun _ _ _ h => h) (Or.inl ⟨by rfl, ?_⟩) (by assumption) ?_
                · intro V hSw
                  try dsimp only at hSw
                  go_simp
                simp only [Act.put, List.setIfInBounds_toArray, List.set_cons_zero, List.set_cons_succ]
                refine wpAnyH_take (i := 10) (oi := _) (v := .string t) g15_10 (by kernel_rfl) (by kernel_rfl) (by kernel_rfl) (fun _ _ _ h => h) (Or.inl ⟨by rfl, ?_⟩) (by assumption) ?_
                · intro V hSw
                  try dsimp only at hSw
                  go_simp
                  all_goals (intro hx; omega)
                simp only [Act.put, List.setIfInBounds_toArray, List.set_cons_zero, List.set_cons_succ]
                refine wpAnyH_ready (rs := [11]) (by kernel_rfl) (by simp) ?_
                refine AllReadyH.cons (o := _) g15_11 (fun K hK => ?_) AllReadyH.nil
                go_simp
                rw [Lib.run_convert_string_bytes wc 9 35 5 t Try.underlying9 Try.underlying35 Try.underlying5]
                simp only [Result.andThen]
                rw [Oper.upon_value]
                obtain ⟨hbb, hY⟩ := bytes_row wc t
                have hS1 := btrans hS0 hbb
                have HCk := hide (rcheck_any (some ⟨wc.heap.size, 0, none⟩) t.size (grownCap wc t.size 0 5) t.data.toList (Lib.bytesWorld wc 5 t) (by rw [unhide Hex]; have := unhide Hea; omega) ⟨by rw [str_len], .inr ⟨_, rfl, hY.1, fun j hj => (hY.2 j hj).1⟩⟩)
                refine hK.out _ _ hS1 (fun hS2 => ?_)
                clear hK K hY hbb
                generalize Lib.bytesWorld wc 5 t = wd at *
                generalize grownCap wc t.size 0 5 = gc at *
                generalize wc.heap.size = gb at *
                clear hS0 hS2
                have hS0 := hS1
                clear hS1
                rw [unhide Hed, unhide HblM] at HCk
                refine wpAnyH_ready (rs := [12]) (by kernel_rfl) (by simp) ?_
                refine AllReadyH.cons (o := _) g15_12 (fun K hK => ?_) AllReadyH.nil
                go_simp
                refine (unhide HCk).mono ?_
                rintro e we ⟨rfl, hq⟩
                replace hq := hq.symm
                subst hq
                refine hK.out _ _ hS0 (fun _ => ?_)
                clear hK K HCk
                refine wpAnyH_take (i := 13) (oi := _) (v := .bool false) g15_13 (by kernel_rfl) (by kernel_rfl) (by kernel_rfl) (fun _ _ _ h => h) (Or.inl ⟨by rfl, ?_⟩) (by assumption) ?_
                · intro V hSw
                  try dsimp only at hSw
                  go_simp
                simp only [Act.put, List.setIfInBounds_toArray, List.set_cons_zero, List.set_cons_succ]
                refine wpAnyH_take (i := 14) (oi := _) (v := .bool false) g15_14 (by kernel_rfl) (by kernel_rfl) (by kernel_rfl) (fun _ _ _ h => h) (Or.inl ⟨by rfl, ?_⟩) (by assumption) ?_
                · intro V hSw
                  try dsimp only at hSw
                  go_simp
                simp only [Act.put, List.setIfInBounds_toArray, List.set_cons_zero, List.set_cons_succ]
                refine wpAnyH_done (by kernel_rfl) ?_ _
                refine NoPanic.normal ?_
                have HX3 := hide ((unhide HX2).grown (gbelow none hS0) (by simp) (by simp))
                have HS3 := hide (btrans (unhide HS2) hS0)
                have HO3 := hide ((unhide HO2).keep hS0)
                clear hS0 o0 o1 o2 HX2 HS2 HO2
                obtain ⟨-, o0, o1, o2⟩ := unhide HO3
                obtain ⟨-, k1, k2, k3, k4, k5, k6, k7, k8, k9, k10⟩ := unhide HX3
                go_wp2
                exact bodyPost_ret (v := .tuple #[tr 0 h none 0 0, .agg #[.int .i64 0, .int .i64 0]]) (by simp [results, Try.results30, go_sem, k1, k2, k3, k7, k8]) rfl ⟨put5 (unhide HS3) (by omega) _ _ _ _ _, .inr ⟨_, unhide Ht, rfl⟩⟩
            · have e7 : ((s[6].toNat : Int) != (m : Int)) = true := by simp; omega
              rw [if_pos c7] at Hfin
              have Ht := hide (show tl s.data.toList (rdR s.data.toList 0 h 64 0 5 (fun _ => false)) = .inl 6 by rw [unhide Htl, unhide Hfin])
              clear c7 Hfin Htl
              go_enter Try.func30, Try.ntmps30
              go_wp2_with fail
              generalize ((W.alloc (.cells #[.int .i64 0, .int .i64 h, .slice none 0 0] 24)).alloc (.cells #[.int .i64 0, .int .i64 0, .slice none 0 0] 24)).alloc (.cells #[.int .i64 0, .int .i64 0] 29) = w0 at *
              obtain ⟨-, o0, o1, o2⟩ := unhide HO0
              go_quiet (fail)
              have HX1 := hide ((unhide HX0).draws nq)
              have HS1 := hide (btrans (unhide HS0) (Joins.below_draws _ _ nq))
              have HO1 := hide ((unhide HO0).keep (Joins.below_draws _ _ nq))
              clear o0 o1 o2 HX0 HS0 HO0
              generalize w0.drewN nq = w1 at *
              obtain ⟨-, o0, o1, o2⟩ := unhide HO1
              go_wp2_with fail
              go_quiet (fail)
              have HX2 := hide ((unhide HX1).draws nq)
              have HS2 := hide (btrans (unhide HS1) (Joins.below_draws _ _ nq))
              have HO2 := hide ((unhide HO1).keep (Joins.below_draws _ _ nq))
              clear o0 o1 o2 HX1 HS1 HO1
              generalize w1.drewN nq = w2 at *
              obtain ⟨-, o0, o1, o2⟩ := unhide HO2
              go_wp2_with fail
              refine wp_region_noPanic ?_
              refine wp_region_held_drew (S := fun V => Below w2.heap.size w2 V) (by kernel_rfl) (Below.drew (Below.refl _ _)) ?_
              intro hS0
              generalize hwc : w2.drew = wc at *
              clear hwc
              refine wpAnyH_take (i := 0) (oi := _) (v := .int .i64 6) g15_0 (by kernel_rfl) (by kernel_rfl) (by kernel_rfl) (fun _ _ _ h => h) (Or.inl ⟨by rfl, ?_⟩) (by assumption) ?_
              · intro V hSw
                try dsimp only at hSw
                go_simp
              simp only [Act.put, List.setIfInBounds_toArray, List.set_cons_zero, List.set_cons_succ]
              refine wpAnyH_take (i := 1) (oi := _) (v := .string s) g15_1 (by kernel_rfl) (by kernel_rfl) (by kernel_rfl) (fun _ _ _ h => h) (Or.inl ⟨by rfl, ?_⟩) (by assumption) ?_
              · intro V hSw
                try dsimp only at hSw
                go_simp
              simp only [Act.put, List.setIfInBounds_toArray, List.set_cons_zero, List.set_cons_succ]
              refine wpAnyH_take (i := 2) (oi := _) (v := .int .i64 s.size) g15_2 (by kernel_rfl) (by kernel_rfl) (by kernel_rfl) (fun _ _ _ h => h) (Or.inl ⟨by rfl, ?_⟩) (by assumption) ?_
              · intro V hSw
                try dsimp only at hSw
                go_simp
              simp only [Act.put, List.setIfInBounds_toArray, List.set_cons_zero, List.set_cons_succ]
              refine wpAnyH_take (i := 3) (oi := _) (v := .bool false) g15_3 (by kernel_rfl) (by kernel_rfl) (by kernel_rfl) (fun _ _ _ h => h) (Or.inl ⟨by rfl, ?_⟩) (by assumption) ?_
              · intro V hSw
                try dsimp only at hSw
                go_simp
              simp only [Act.put, List.setIfInBounds_toArray, List.set_cons_zero, List.set_cons_succ]
              refine wpAnyH_take (i := 4) (oi := _) (v := .bool false) g15_4 (by kernel_rfl) (by kernel_rfl) (by kernel_rfl) (fun _ _ _ h => h) (Or.inl ⟨by rfl, ?_⟩) (by assumption) ?_
              · intro V hSw
                try dsimp only at hSw
                go_simp
              simp only [Act.put, List.setIfInBounds_toArray, List.set_cons_zero, List.set_cons_succ]
              refine wpAnyH_take (i := 5) (oi := _) (v := .string s) g15_5 (by kernel_rfl) (by kernel_rfl) (by kernel_rfl) (fun _ _ _ h => h) (Or.inl ⟨by rfl, ?_⟩) (by assumption) ?_
              · intro V hSw
                try dsimp only at hSw
                go_simp
              simp only [Act.put, List.setIfInBounds_toArray, List.set_cons_zero, List.set_cons_succ]
              refine wpAnyH_take (i := 6) (oi := _) (v := .int .i64 6) g15_6 (by kernel_rfl) (by kernel_rfl) (by kernel_rfl) (fun _ _ _ h => h) (Or.inl ⟨by rfl, ?_⟩) (by assumption) ?_
              · intro V hSw
                try dsimp only at hSw
                go_simp
              simp only [Act.put, List.setIfInBounds_toArray, List.set_cons_zero, List.set_cons_succ]
              refine wpAnyH_take (i := 7) (oi := _) (v := .int .u8 s[6].toNat) g15_7 (by kernel_rfl) (by kernel_rfl) (by kernel_rfl) (fun _ _ _ h => h) (Or.inl ⟨by rfl, ?_⟩) (by assumption) ?_
              · intro V hSw
                try dsimp only at hSw
                go_simp
              simp only [Act.put, List.setIfInBounds_toArray, List.set_cons_zero, List.set_cons_succ]
              refine wpAnyH_take (i := 8) (oi := _) (v := .string s) g15_8 (by kernel_rfl) (by kernel_rfl) (by kernel_rfl) (fun _ _ _ h => h) (Or.inl ⟨by rfl, ?_⟩) (by assumption) ?_
              · intro V hSw
                try dsimp only at hSw
                go_simp
              simp only [Act.put, List.setIfInBounds_toArray, List.set_cons_zero, List.set_cons_succ]
              refine wpAnyH_take (i := 9) (oi := _) (v := .int .i64 6) g15_9 (by kernel_rfl) (by kernel_rfl) (by kernel_rfl) (fun _ _ _ h => h) (Or.inl ⟨by rfl, ?_⟩) (by assumption) ?_
              · intro V hSw
                try dsimp only at hSw
                go_simp
              simp only [Act.put, List.setIfInBounds_toArray, List.set_cons_zero, List.set_cons_succ]
              refine wpAnyH_take (i := 10) (oi := _) (v := .string t) g15_10 (by kernel_rfl) (by kernel_rfl) (by kernel_rfl) (fun _ _ _ h => h) (Or.inl ⟨by rfl, ?_⟩) (by assumption) ?_
              · intro V hSw
                try dsimp only at hSw
                go_simp
                all_goals (intro hx; omega)
              simp only [Act.put, List.setIfInBounds_toArray, List.set_cons_zero, List.set_cons_succ]
              refine wpAnyH_ready (rs := [11]) (by kernel_rfl) (by simp) ?_
              refine AllReadyH.cons (o := _) g15_11 (fun K hK => ?_) AllReadyH.nil
              go_simp
              rw [Lib.run_convert_string_bytes wc 9 35 5 t Try.underlying9 Try.underlying35 Try.underlying5]
              simp only [Result.andThen]
              rw [Oper.upon_value]
              obtain ⟨hbb, hY⟩ := bytes_row wc t
              have hS1 := btrans hS0 hbb
              have HCk := hide (rcheck_any (some ⟨wc.heap.size, 0, none⟩) t.size (grownCap wc t.size 0 5) t.data.toList (Lib.bytesWorld wc 5 t) (by rw [unhide Hex]; have := unhide Hea; omega) ⟨by rw [str_len], .inr ⟨_, rfl, hY.1, fun j hj => (hY.2 j hj).1⟩⟩)
              refine hK.out _ _ hS1 (fun hS2 => ?_)
              clear hK K hY hbb
              generalize Lib.bytesWorld wc 5 t = wd at *
              generalize grownCap wc t.size 0 5 = gc at *
              generalize wc.heap.size = gb at *
              clear hS0 hS2
              have hS0 := hS1
              clear hS1
              rw [unhide Hed, unhide HblM] at HCk
              refine wpAnyH_ready (rs := [12]) (by kernel_rfl) (by simp) ?_
              refine AllReadyH.cons (o := _) g15_12 (fun K hK => ?_) AllReadyH.nil
              go_simp
              refine (unhide HCk).mono ?_
              rintro e we ⟨rfl, hq⟩
              replace hq := hq.symm
              subst hq
              refine hK.out _ _ hS0 (fun _ => ?_)
              clear hK K HCk
              refine wpAnyH_take (i := 13) (oi := _) (v := .bool true) g15_13 (by kernel_rfl) (by kernel_rfl) (by kernel_rfl) (fun _ _ _ h => h) (Or.inl ⟨by rfl, ?_⟩) (by assumption) ?_
              · intro V hSw
                try dsimp only at hSw
                go_simp
              simp only [Act.put, List.setIfInBounds_toArray, List.set_cons_zero, List.set_cons_succ]
              refine wpAnyH_take (i := 14) (oi := _) (v := .bool true) g15_14 (by kernel_rfl) (by kernel_rfl) (by kernel_rfl) (fun _ _ _ h => h) (Or.inl ⟨by rfl, ?_⟩) (by assumption) ?_
              · intro V hSw
                try dsimp only at hSw
                go_simp
              simp only [Act.put, List.setIfInBounds_toArray, List.set_cons_zero, List.set_cons_succ]
              refine wpAnyH_done (by kernel_rfl) ?_ _
              refine NoPanic.normal ?_
              have HX3 := hide ((unhide HX2).grown (gbelow none hS0) (by simp) (by simp))
              have HS3 := hide (btrans (unhide HS2) hS0)
              have HO3 := hide ((unhide HO2).keep hS0)
              clear hS0 o0 o1 o2 HX2 HS2 HO2
              obtain ⟨-, k1, k2, k3, k4, k5, k6, k7, k8, k9, k10⟩ := unhide HX3
              go_wp2
              exact bodyPost_ret (v := wrongV 6) (by simp [results, Try.results30, go_sem, k1, k2, k3, k7, k8]) rfl (flat_bad (x := 6) (put5 (unhide HS3) (by omega) _ _ _ _ _) (unhide Ht))
end Go.Proofs.Ytkjicpbnkehimaa
