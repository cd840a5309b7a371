/-
  The law's torn.
-/
import Derived.Test.YtbbilogkblmniaaLwM
namespace Go.Proofs.Ytbbilogkblmniaa
open Go.RowKit

theorem filter_more {S : List Nat} {t : Nat → Bool} {x : Nat} (hx : x < S.length) : (S.take (x + 1)).filter t = if t (S.getD x 0) then (S.take x).filter t ++ [S.getD x 0] else (S.take x).filter t := by
  rw [List.take_succ_eq_append_getElem hx, List.filter_append]
  have : S.getD x 0 = S[x] := by simp [List.getD, List.getElem?_eq_getElem hx]
  rw [this]
  cases e : t S[x] <;> simp [e]
theorem filter_len {S : List Nat} {t : Nat → Bool} {x : Nat} : ((S.take x).filter t).length ≤ x := Nat.le_trans (List.length_filter_le _ _) (List.length_take_le _ _)
theorem inF_more (F : Nat → Int) (j z : Nat) : inF F (j + 1) z = (inF F j z || (z : Int) == F j) := by
  unfold inF
  rw [List.range_succ, List.any_append]
  have : (F j == (z : Int)) = ((z : Int) == F j) := by rw [Bool.eq_iff_iff]; simp; exact ⟨fun h => h.symm, fun h => h.symm⟩
  simp [this]
/-- two rows do not share a block -/
def Apart (v u : Value) : Prop := ∀ g, v.ownBlock = some g → u.ownBlock ≠ some g
theorem own_kept {w w' : World} {B : Nat} {e : TypeId} {v u : Value} {n : Nat} {xs : List Value} (h : w.ownsRow B e 1 v n xs) (hg : w.grownBy w' u.ownBlock) (ha : Apart v u) : w'.ownsRow B e 1 v n xs := by
  refine h.kept hg ?_
  cases c : v.ownBlock with
  | none => exact .inl rfl
  | some g => exact .inr fun e => ha g c e.symm

def TornIs (W : World) (w h : Nat) (p : Option Addr) (n cap gS lS cS : Nat) (q : Option Addr) (k c : Nat) (v : Bool) : Prop := Calls Try.prog 16 #[tr w h p n cap, .slice (some ⟨gS, 0, none⟩) lS cS, .slice q k c] W fun e V => e = .returned (.bool v) ∧ Below W.heap.size W V

theorem tn_bad {f : Nat → Bool} {w a b : Nat} {I O : List Nat} (ha : a ∈ O) (hb : b ∈ I) (hr : ab f w a b = true) : tnB f w I O = false := by
  cases e : tnB f w I O with
  | false => rfl
  | true =>
    unfold tnB at e
    rw [Bool.and_eq_true, List.all_eq_true] at e
    have := e.2 a ha
    rw [List.all_eq_true] at this
    have := this b hb
    rw [hr] at this; cases this
theorem tn_end {f : Nat → Bool} {w : Nat} {I O : List Nat} (k : ∀ x, x < O.length → ∀ y, y < I.length → ab f w (O.getD x 0) (I.getD y 0) = false) : tnB f w I O = (decide (0 < I.length) && decide (0 < O.length)) := by
  unfold tnB
  rw [List.all_eq_true.2, Bool.and_true]
  intro a ha
  obtain ⟨x, hx, e⟩ := List.getElem_of_mem ha
  rw [List.all_eq_true]
  intro b hb
  obtain ⟨y, hy, e2⟩ := List.getElem_of_mem hb
  have := k x hx y hy
  rw [show O.getD x 0 = a by simp [List.getD, List.getElem?_eq_getElem hx, e], show I.getD y 0 = b by simp [List.getD, List.getElem?_eq_getElem hy, e2]] at this
  rw [this]; rfl

set_option maxRecDepth 100000 in
set_option maxHeartbeats 8000000 in
theorem torn_any {W : World} {w h : Nat} {p : Option Addr} {n cap : Nat} {f : Nat → Bool} (r : Rt W w h p n cap f) (S : List Nat) (gS lS cS : Nat) (hS : Nr W gS S) (hl : lS = S.length) (hSN : ∀ x, x ∈ S → x < w + h) (h128 : lS ≤ 128) (q : Option Addr) (k c : Nat) (F : Nat → Int) (hF : Is W q k F) (hk : k ≤ maxLen) :
    TornIs W w h p n cap gS lS cS q k c (tnB f w (S.filter (inF F k)) (S.filter fun x => !inF F k x)) := by
  unfold TornIs
  unfold maxLen at hk
  have hk' : k ≤ 9223372036854775807 := hk
  clear hk
  obtain ⟨i3, hi3, hy0, hy1, hy2⟩ := info_parts info3
  obtain ⟨V0, hV0⟩ : ∃ v, v = tnB f w (S.filter (inF F k)) (S.filter fun x => !inF F k x) := ⟨_, rfl⟩
  rw [← hV0]
  have HV := hide hV0
  have B0 := hide (bal (o := .cells #[.int .i64 w, .int .i64 h, .slice p n cap] 24) (Below.refl W.heap.size W))
  have HT := hide (Tb.new r)
  have HF := hide (hF.keep (unhide B0))
  have HSr := hide (hS.keep (unhide B0))
  have Hl := hide hl
  have HSN := hide hSN
  clear r hF hS hl hSN hV0
  go_enter Try.func16, Try.ntmps16
  go_wp2
  generalize W.alloc (.cells #[.int .i64 w, .int .i64 h, .slice p n cap] 24) = w0 at *
  have Hout := hide (show ∀ wr, Below w0.heap.size w0 wr → Below W.heap.size W wr from fun wr hb => btrans (unhide B0) hb)
  clear B0
  go_loopw [7, 8, 20] (fun vi vo i wr => ∃ (x li ci lo co : Nat) (qi qo : Option Addr), x ≤ lS ∧ i = .int .i64 x ∧ vi = .slice qi li ci ∧ vo = .slice qo lo co ∧ Hid (li = ((S.take x).filter (inF F k)).length ∧ lo = ((S.take x).filter fun x => !inF F k x).length) ∧ wr.ownsRow w0.heap.size 3 1 (.slice qi li ci) li (lsV ((S.take x).filter (inF F k))) ∧ wr.ownsRow w0.heap.size 3 1 (.slice qo lo co) lo (lsV ((S.take x).filter fun x => !inF F k x)) ∧ Hid (Apart (.slice qi li ci) (.slice qo lo co)) ∧ Below w0.heap.size w0 wr) (fun _ _ i _ => lS - (intOf i).toNat)
  case atStart => exact ⟨0, 0, 0, 0, 0, none, none, Nat.zero_le _, rfl, rfl, rfl, (⟨rfl, rfl⟩ : 0 = _ ∧ 0 = _), World.ownsRow_nil _ _ _ _, World.ownsRow_nil _ _ _ _, ((by intro g e; cases e) : Apart (.slice none 0 0) (.slice none 0 0)), Below.refl _ _⟩
  case round =>
    obtain ⟨x, li, ci, lo, co, qi, qo, hx, rfl, rfl, rfl, Hll, hOi, hOo, HAp, hb⟩ := hrel
    have HOi := hide hOi
    have HOo := hide hOo
    have Hb := hide hb
    have hli : li ≤ x ∧ lo ≤ x := by rw [(unhide Hll).1, (unhide Hll).2]; exact ⟨filter_len, filter_len⟩
    clear hOi hOo hb
    by_cases hlt : x < lS
    · have q1 : (x : Int) < (lS : Int) := by omega
      have q2 : (0 : Int) ≤ (x : Int) := by omega
      have hxS : x < S.length := by rw [← unhide Hl]; exact hlt
      have r1 := ((unhide HSr).keep (unhide Hb)).2 x hxS
      have Hm1 := hide (filter_more (t := inF F k) hxS)
      have Hm2 := hide (filter_more (t := fun x => !inF F k x) hxS)
      generalize S.getD x 0 = z at *
      clear hxS
      go_wp2
      clear r1
      go_loopw [11, 26] (fun tv i wr2 => wr2 = wr ∧ ∃ j : Nat, j ≤ k ∧ i = .int .i64 j ∧ tv = .bool (inF F j z)) (fun _ i _ => k - (intOf i).toNat)
      case atStart => exact ⟨rfl, 0, Nat.zero_le _, rfl, rfl⟩
      case round =>
        obtain ⟨rfl, j, hj, rfl, rfl⟩ := hrel
        by_cases hlj : j < k
        · have q3 : (j : Int) < (k : Int) := by omega
          have q4 : (0 : Int) ≤ (j : Int) := by omega
          obtain ⟨b1, o1, rfl, l1, c1⟩ := ((unhide HF).keep (unhide Hb)).at hlj
          have Hmo := hide (inF_more F j z)
          generalize F j = y at *
          cases ht : inF F j z with
          | true =>
            have Hm3 := hide (show inF F (j + 1) z = true by rw [unhide Hmo, ht]; rfl)
            clear Hmo ht
            go_wp2
            go_roundw
            case rel => exact ⟨trivial, j + 1, by omega, by go_num, by rw [unhide Hm3]⟩
            case measure => simp [intOf]; omega
          | false =>
            have Hm3 := hide (show inF F (j + 1) z = ((z : Int) == y) by rw [unhide Hmo, ht]; rfl)
            clear Hmo ht
            go_wp2
            go_roundw
            case rel => exact ⟨trivial, j + 1, by omega, by go_num, by rw [unhide Hm3]⟩
            case measure => simp [intOf]; omega
        · obtain rfl : k = j := by omega
          have cl : ¬ ((k : Int) < (k : Int)) := by omega
          have hb2 := unhide Hb
          have hsz := hb2.size
          cases ht : inF F k z with
          | true =>
            have Hs1 := hide (show (S.take (x + 1)).filter (inF F k) = (S.take x).filter (inF F k) ++ [z] by rw [unhide Hm1, ht]; rfl)
            have Hs2 := hide (show ((S.take (x + 1)).filter fun x => !inF F k x) = (S.take x).filter fun x => !inF F k x by rw [unhide Hm2, ht]; rfl)
            have hO1 := unhide HOi
            clear ht
            go_wp2_with (at_builtin; refine wpList_append_own_at _ rfl _ _ 25 rfl w0.heap.size 3 i3 (.int .i64 0) 1 8 Try.underlying25 hi3 hy0 hy1 hy2 rfl (by decide) _ _ _ rfl (hO1.alloc _) ⟨wr.heap.size, 0, none⟩ 1 1 [.int .i64 (z : Int)] rfl rfl (cell_one_new _ _ _) (by simp [Value.oneCell']) (by unfold maxLen; omega) (by omega) (by simp; omega) ?_)
            intro v' w4 hown' hgrow _ hat
            have S6 := hide ((hb2.alloc hsz (.cells #[.int .i64 (z : Int)] 3)).grown hgrow (by simp; omega) (fun k hk => (hO1.lt k hk).1))
            have hOo2 := (unhide HOo).alloc (.cells #[.int .i64 (z : Int)] 3)
            have HOo3 := hide (own_kept hOo2 hgrow (fun g e1 e2 => unhide HAp g e2 e1))
            have Hap := hide (show Apart v' (.slice qo lo co) from fun g e1 e2 => by
              rcases hat with hat | hat
              · rw [hat] at e1; exact unhide HAp g e1 e2
              · rw [hat] at e1
                have h1 := ((unhide HOo).lt g e2).2
                simp at e1
                omega)
            obtain ⟨q2'', cap', rfl⟩ := own_form hown'
            have HO := hide hown'
            clear hO1 hown' hgrow hb2 hsz hOo2 hat
            go_wp2
            go_roundw
            case rel => exact ⟨x + 1, li + 1, cap', lo, co, q2'', qo, by omega, by go_num, rfl, rfl, (by rw [unhide Hs1, unhide Hs2]; exact ⟨by rw [(unhide Hll).1]; simp, (unhide Hll).2⟩ : li + 1 = _ ∧ lo = _), by rw [unhide Hs1, lsV_snoc]; exact unhide HO, by rw [unhide Hs2]; exact unhide HOo3, unhide Hap, unhide S6⟩
            case measure => simp [intOf]; omega
          | false =>
            have Hs1 := hide (show (S.take (x + 1)).filter (inF F k) = (S.take x).filter (inF F k) by rw [unhide Hm1, ht]; rfl)
            have Hs2 := hide (show ((S.take (x + 1)).filter fun x => !inF F k x) = ((S.take x).filter fun x => !inF F k x) ++ [z] by rw [unhide Hm2, ht]; rfl)
            have hO1 := unhide HOo
            clear ht
            go_wp2_with (at_builtin; refine wpList_append_own_at _ rfl _ _ 25 rfl w0.heap.size 3 i3 (.int .i64 0) 1 8 Try.underlying25 hi3 hy0 hy1 hy2 rfl (by decide) _ _ _ rfl (hO1.alloc _) ⟨wr.heap.size, 0, none⟩ 1 1 [.int .i64 (z : Int)] rfl rfl (cell_one_new _ _ _) (by simp [Value.oneCell']) (by unfold maxLen; omega) (by omega) (by simp; omega) ?_)
            intro v' w4 hown' hgrow _ hat
            have S6 := hide ((hb2.alloc hsz (.cells #[.int .i64 (z : Int)] 3)).grown hgrow (by simp; omega) (fun k hk => (hO1.lt k hk).1))
            have hOi2 := (unhide HOi).alloc (.cells #[.int .i64 (z : Int)] 3)
            have HOi3 := hide (own_kept hOi2 hgrow (unhide HAp))
            have Hap := hide (show Apart (.slice qi li ci) v' from fun g e1 e2 => by
              rcases hat with hat | hat
              · rw [hat] at e2; exact unhide HAp g e1 e2
              · rw [hat] at e2
                have h1 := ((unhide HOi).lt g e1).2
                simp at e2
                omega)
            obtain ⟨q2'', cap', rfl⟩ := own_form hown'
            have HO := hide hown'
            clear hO1 hown' hgrow hb2 hsz hOi2 hat
            go_wp2
            go_roundw
            case rel => exact ⟨x + 1, li, ci, lo + 1, cap', qi, q2'', by omega, by go_num, rfl, rfl, (by rw [unhide Hs1, unhide Hs2]; exact ⟨(unhide Hll).1, by rw [(unhide Hll).2]; simp⟩ : li = _ ∧ lo + 1 = _), by rw [unhide Hs1]; exact unhide HOi3, by rw [unhide Hs2, lsV_snoc]; exact unhide HO, unhide Hap, unhide S6⟩
            case measure => simp [intOf]; omega
    · obtain rfl : lS = x := by omega
      have cl : ¬ ((lS : Int) < (lS : Int)) := by omega
      have HAi := hide (show Is wr qi li (gtF (S.filter (inF F k))) ∧ li = (S.filter (inF F k)).length by
        have e : S.take lS = S := by rw [unhide Hl, List.take_length]
        have h1 := unhide HOi
        have h2 := (unhide Hll).1
        rw [e] at h1 h2
        refine ⟨?_, h2⟩
        by_cases c0 : li = 0
        · exact .inl c0
        · obtain ⟨g, c', hq⟩ := own_slice h1 (by omega)
          cases hq
          have := (own_nr h1 h2).is
          rw [← h2] at this
          exact this)
      have HAo := hide (show Is wr qo lo (gtF (S.filter fun x => !inF F k x)) ∧ lo = (S.filter fun x => !inF F k x).length by
        have e : S.take lS = S := by rw [unhide Hl, List.take_length]
        have h1 := unhide HOo
        have h2 := (unhide Hll).2
        rw [e] at h1 h2
        refine ⟨?_, h2⟩
        by_cases c0 : lo = 0
        · exact .inl c0
        · obtain ⟨g, c', hq⟩ := own_slice h1 (by omega)
          cases hq
          have := (own_nr h1 h2).is
          rw [← h2] at this
          exact this)
      have HIN := hide (show (∀ x, x ∈ S.filter (inF F k) → x < w + h) ∧ (∀ x, x ∈ (S.filter fun x => !inF F k x) → x < w + h) from ⟨fun x hx => unhide HSN x (List.mem_filter.1 hx).1, fun x hx => unhide HSN x (List.mem_filter.1 hx).1⟩)
      generalize S.filter (inF F k) = I at *
      generalize (S.filter fun x => !inF F k x) = O at *
      clear HOi HOo Hll HAp HSN hx hlt
      go_wp2
      clear cl
      obtain ⟨wq, hwq⟩ : ∃ wq, wq = wr := ⟨_, rfl⟩
      rw [← hwq] at HAi HAo Hb
      have Hst := hide (show Below wq.heap.size wq wr by rw [hwq]; exact Below.refl _ _)
      clear hwq
      go_loopw [49] (fun i w2 => ∃ x : Nat, x ≤ lo ∧ i = .int .i64 x ∧ Hid (∀ x', x' < x → ∀ y, y < I.length → ab f w (O.getD x' 0) (I.getD y 0) = false) ∧ Below wq.heap.size wq w2) (fun i _ => lo - (intOf i).toNat)
      case atStart => exact ⟨0, Nat.zero_le _, rfl, (fun x' hx' => by omega : ∀ x', x' < 0 → _), unhide Hst⟩
      case round =>
        clear Hst
        obtain ⟨x, hx, rfl, Hfr, hb3⟩ := hrel
        have Hb3 := hide hb3
        clear hb3
        by_cases hlt : x < lo
        · have q1 : (x : Int) < (lo : Int) := by omega
          have q2 : (0 : Int) ≤ (x : Int) := by omega
          obtain ⟨b1, o1, rfl, l1, c1⟩ := ((unhide HAo).1.keep (unhide Hb3)).at hlt
          have HmO := hide (show O.getD x 0 ∈ O from getD_mem (by rw [← (unhide HAo).2]; exact hlt))
          have Hga := hide (show gtF O x = ((O.getD x 0 : Nat) : Int) from rfl)
          rw [unhide Hga] at c1
          generalize hav : O.getD x 0 = a at *
          have Hav := hide hav
          clear hav Hga
          go_wp2
          clear c1
          go_loopw [55] (fun i w3 => ∃ y : Nat, y ≤ li ∧ i = .int .i64 y ∧ Hid (∀ y', y' < y → ab f w a (I.getD y' 0) = false) ∧ Below wq.heap.size wq w3) (fun i _ => li - (intOf i).toNat)
          case atStart => exact ⟨0, Nat.zero_le _, rfl, (fun x' hx' => by omega : ∀ x', x' < 0 → _), unhide Hb3⟩
          case round =>
            clear Hb3
            obtain ⟨y, hy, rfl, Hfy, hb4⟩ := hrel
            have Hb4 := hide hb4
            clear hb4
            by_cases hly : y < li
            · have q3 : (y : Int) < (li : Int) := by omega
              have q4 : (0 : Int) ≤ (y : Int) := by omega
              obtain ⟨b2, o2, rfl, l2, c2⟩ := ((unhide HAi).1.keep (unhide Hb4)).at hly
              have HmI := hide (show I.getD y 0 ∈ I from getD_mem (by rw [← (unhide HAi).2]; exact hly))
              have Hgb := hide (show gtF I y = ((I.getD y 0 : Nat) : Int) from rfl)
              rw [unhide Hgb] at c2
              generalize hbv : I.getD y 0 = b at *
              have Hbv := hide hbv
              clear hbv Hgb
              have HTw := hide ((unhide HT).keep (btrans (unhide Hb) (unhide Hb4)))
              obtain ⟨m0, m1, m2, m3⟩ := (unhide HTw).1
              have HL := hide (lies_any (unhide HTw).2 a b ((unhide HIN).2 a (unhide HmO)) ((unhide HIN).1 b (unhide HmI)))
              cases hv : ab f w a b with
              | true =>
                rw [hv] at HL
                have Hz := hide (show V0 = false by rw [unhide HV]; exact tn_bad (unhide HmO) (unhide HmI) hv)
                clear hv
                go_wp2_with fail
                refine (unhide HL).mono ?_
                rintro e w5 ⟨rfl, hb5⟩
                have Hb' := hide (unhide Hout w5 (btrans (unhide Hb) (btrans (unhide Hb4) hb5)))
                clear hb5 m0 m1 m2 m3 c2 HL
                go_wp2
                go_ret
                exact ⟨ret_bool (unhide Hz).symm, unhide Hb'⟩
              | false =>
                rw [hv] at HL
                have Hfn := hide (show ∀ y', y' < y + 1 → ab f w a (I.getD y' 0) = false from fun y' hy' => by
                  by_cases e : y' = y
                  · subst e; rw [unhide Hbv]; exact hv
                  · exact unhide Hfy y' (by omega))
                clear hv
                go_wp2_with fail
                refine (unhide HL).mono ?_
                rintro e w5 ⟨rfl, hb5⟩
                have Hb' := hide (btrans (unhide Hb4) hb5)
                clear hb5 m0 m1 m2 m3 c2 HL Hb4
                go_wp2
                go_roundw
                case rel => exact ⟨y + 1, by omega, by go_num, unhide Hfn, unhide Hb'⟩
                case measure => simp [intOf]; omega
            · obtain rfl : li = y := by omega
              have cl : ¬ ((li : Int) < (li : Int)) := by omega
              have Hf2 := hide (show ∀ x', x' < x + 1 → ∀ y, y < I.length → ab f w (O.getD x' 0) (I.getD y 0) = false from fun x' hx' y hy' => by
                by_cases e : x' = x
                · subst e; rw [unhide Hav]; exact unhide Hfy y (by rw [(unhide HAi).2]; exact hy')
                · exact unhide Hfr x' (by omega) y hy')
              go_wp2
              go_roundw
              case rel => exact ⟨x + 1, by omega, by go_num, unhide Hf2, unhide Hb4⟩
              case measure => simp [intOf]; omega
        · obtain rfl : lo = x := by omega
          have cl : ¬ ((lo : Int) < (lo : Int)) := by omega
          have Hz := hide (show V0 = (decide (0 < li) && decide (0 < lo)) by
            rw [unhide HV, tn_end (fun x' hx' => unhide Hfr x' (by rw [(unhide HAo).2]; exact hx')), (unhide HAi).2, (unhide HAo).2])
          have Hb' := hide (unhide Hout _ (btrans (unhide Hb) (unhide Hb3)))
          by_cases h0 : 0 < li
          · have g1 : (0 : Int) < (li : Int) := by omega
            go_wp2
            go_ret
            exact ⟨ret_bool (by rw [unhide Hz]; simp [h0]), unhide Hb'⟩
          · have g1 : decide ((0 : Int) < (li : Int)) = false := by simp; omega
            go_wp2
            go_ret
            exact ⟨ret_bool (by rw [unhide Hz]; simp [h0]), unhide Hb'⟩
end Go.Proofs.Ytbbilogkblmniaa
