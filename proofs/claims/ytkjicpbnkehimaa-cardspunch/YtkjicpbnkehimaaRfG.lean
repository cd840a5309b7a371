/-
  What the document's Unpack answers.
-/
import Derived.Test.YtkjicpbnkehimaaRfE
namespace Go.Proofs.Ytkjicpbnkehimaa
open Go.RowKit

set_option maxRecDepth 100000 in
set_option maxHeartbeats 8000000 in
theorem runpack_good (s : ByteArray) (hm : s.size ≤ maxLen) (W : World) (hx : hd s.data.toList = none) (hx2 : ∀ x, rdR s.data.toList (bya s.data.toList 3) (bya s.data.toList 4) 64 0 5 (fun _ => false) = .inl x → False) (hx3 : ¬ (bya s.data.toList 3 = 0 ∧ 0 < bya s.data.toList 4)) : Calls Try.prog 9 #[.string s] W (UnpPost W s) := by
  have H0 := hide (show HdU W s 0 (((W.alloc (.cells #[.int .i64 0, .int .i64 0, .slice none 0 0] 24)).alloc (.cells #[.int .i64 0, .int .i64 0] 29)).alloc (.cells #[.int .i64 0] 3)) from ⟨⟨bal (bal (bal (Below.refl _ _))), ⟨by simp, by simp [go_sem], by simp [go_sem], by simp [go_sem], by simp [go_sem], by simp [go_sem], by simp [go_sem], by simp [go_sem], by simp [go_sem], by simp [go_sem], by simp [go_sem]⟩, by simp, by simp [go_sem], by simp [go_sem]⟩, Nat.zero_le _, fun j hj => by omega⟩)
  obtain ⟨i4, hi4, inf0, inf1, inf2⟩ := info_parts info4
  have Hm := hide hm
  have Hhd := hide hx
  have HX2 := hide hx2
  have HX3 := hide hx3
  clear hx hx2 hx3
  unfold maxLen at hm
  go_enter Try.func9, Try.ntmps9
  go_wp2
  generalize ((W.alloc (.cells #[.int .i64 0, .int .i64 0, .slice none 0 0] 24)).alloc (.cells #[.int .i64 0, .int .i64 0] 29)).alloc (.cells #[.int .i64 0] 3) = w0 at *
  go_loopw [16] (fun _ wr => HdU W s 0 wr ∨ HdU W s 1 wr ∨ HdU W s 2 wr ∨ HdU W s 3 wr) (fun _ wr => 3 - abN (W.heap.size + 1 + 1) wr)
  case atStart => exact .inl (unhide H0)
  case round =>
    clear H0
    rcases hrel with h | h | h | h
    · have HU := hide h.1
      have Hh := hide h
      have Hm0 := hide (show abN (W.heap.size + 1 + 1) wr = 0 from h.1.2.2.num)
      clear h
      obtain ⟨-, o1, o2⟩ := (unhide HU).2.2
      by_cases c1 : s.size ≤ 0
      · have e1 : (s.size : Int) ≤ 0 := by omega
        have hs0 : s.size = 0 := by omega
        exact absurd ((hd_none _).1 (unhide Hhd) 0 (by omega)) (by rw [okc_short _ _ (by rw [str_len]; exact c1)]; simp)
      · have e1 : ¬ ((s.size : Int) ≤ 0) := by omega
        have e11 : decide ((s.size : Int) ≤ 0) = false := by simpa using e1
        have hs0 : ¬ s.size = 0 := by omega
        have hs01 : decide (s.size = 0) = false := by simpa using hs0
        have hl : 0 < s.size := by omega
        have hby := bya_str s 0 hl
        have hc := s[0].toNat_lt
        by_cases c2 : s[0].toNat = 74
        · have e2 : ((s[0].toNat : Int) != (({ data := #[74, 81, 49] } : ByteArray)[0].toNat : Int)) = false := by rw [c2]; rfl
          have HUn := hide (fun V (hV : Uq W V 0) => (unhide Hh).next (V := V) hV (okc_lo _ _ (by omega) (by rw [str_len]; exact hl) (by rw [hby, c2]; rfl)))
          clear hby c2 Hh
          go_wp2_with fail
          go_quiet (fail)
          have HU1 := hide ((unhide HU).keep (Joins.below_draws _ _ nq))
          clear o1 o2 HU
          generalize wr.drewN nq = wq at *
          obtain ⟨-, o1, o2⟩ := (unhide HU1).2.2
          go_wp2
          have HUp := hide (unhide HUn _ (unhide HU1) (by show 0 + 1 ≤ s.size; omega))
          have Hms := hide (show abN (W.heap.size + 1 + 1) (wq.setCell ⟨W.heap.size + 1 + 1, 0, none⟩ (.int .i64 1)) = 1 from (unhide HUp).1.2.2.num)
          go_roundw
          case rel => exact .inr (.inl (unhide HUp))
          case measure => have h1 := unhide Hms; have h2 := unhide Hm0; simp only [h1, h2]; omega
        · have e2 : ((s[0].toNat : Int) != (({ data := #[74, 81, 49] } : ByteArray)[0].toNat : Int)) = true := by
            have hk : (({ data := #[74, 81, 49] } : ByteArray)[0].toNat : Int) = 74 := rfl
            rw [hk]; simp; omega
          exact absurd ((hd_none _).1 (unhide Hhd) 0 (by omega)) (by rw [okc_lo_no _ _ (by omega) (by rw [hby]; exact c2)]; simp)
    · have HU := hide h.1
      have Hh := hide h
      have Hm0 := hide (show abN (W.heap.size + 1 + 1) wr = 1 from h.1.2.2.num)
      clear h
      obtain ⟨-, o1, o2⟩ := (unhide HU).2.2
      by_cases c1 : s.size ≤ 1
      · have e1 : (s.size : Int) ≤ 1 := by omega
        exact absurd ((hd_none _).1 (unhide Hhd) 1 (by omega)) (by rw [okc_short _ _ (by rw [str_len]; exact c1)]; simp)
      · have e1 : ¬ ((s.size : Int) ≤ 1) := by omega
        have e11 : decide ((s.size : Int) ≤ 1) = false := by simpa using e1
        have hl : 1 < s.size := by omega
        have hby := bya_str s 1 hl
        have hc := s[1].toNat_lt
        by_cases c2 : s[1].toNat = 81
        · have e2 : ((s[1].toNat : Int) != (({ data := #[74, 81, 49] } : ByteArray)[1].toNat : Int)) = false := by rw [c2]; rfl
          have HUn := hide (fun V (hV : Uq W V 1) => (unhide Hh).next (V := V) hV (okc_lo _ _ (by omega) (by rw [str_len]; exact hl) (by rw [hby, c2]; rfl)))
          clear hby c2 Hh
          go_wp2_with fail
          go_quiet (fail)
          have HU1 := hide ((unhide HU).keep (Joins.below_draws _ _ nq))
          clear o1 o2 HU
          generalize wr.drewN nq = wq at *
          obtain ⟨-, o1, o2⟩ := (unhide HU1).2.2
          go_wp2
          have HUp := hide (unhide HUn _ (unhide HU1) (by show 1 + 1 ≤ s.size; omega))
          have Hms := hide (show abN (W.heap.size + 1 + 1) (wq.setCell ⟨W.heap.size + 1 + 1, 0, none⟩ (.int .i64 2)) = 2 from (unhide HUp).1.2.2.num)
          go_roundw
          case rel => exact .inr (.inr (.inl (unhide HUp)))
          case measure => have h1 := unhide Hms; have h2 := unhide Hm0; simp only [h1, h2]; omega
        · have e2 : ((s[1].toNat : Int) != (({ data := #[74, 81, 49] } : ByteArray)[1].toNat : Int)) = true := by
            have hk : (({ data := #[74, 81, 49] } : ByteArray)[1].toNat : Int) = 81 := rfl
            rw [hk]; simp; omega
          exact absurd ((hd_none _).1 (unhide Hhd) 1 (by omega)) (by rw [okc_lo_no _ _ (by omega) (by rw [hby]; exact c2)]; simp)
    · have HU := hide h.1
      have Hh := hide h
      have Hm0 := hide (show abN (W.heap.size + 1 + 1) wr = 2 from h.1.2.2.num)
      clear h
      obtain ⟨-, o1, o2⟩ := (unhide HU).2.2
      by_cases c1 : s.size ≤ 2
      · have e1 : (s.size : Int) ≤ 2 := by omega
        exact absurd ((hd_none _).1 (unhide Hhd) 2 (by omega)) (by rw [okc_short _ _ (by rw [str_len]; exact c1)]; simp)
      · have e1 : ¬ ((s.size : Int) ≤ 2) := by omega
        have e11 : decide ((s.size : Int) ≤ 2) = false := by simpa using e1
        have hl : 2 < s.size := by omega
        have hby := bya_str s 2 hl
        have hc := s[2].toNat_lt
        by_cases c2 : s[2].toNat = 49
        · have e2 : ((s[2].toNat : Int) != (({ data := #[74, 81, 49] } : ByteArray)[2].toNat : Int)) = false := by rw [c2]; rfl
          have HUn := hide (fun V (hV : Uq W V 2) => (unhide Hh).next (V := V) hV (okc_lo _ _ (by omega) (by rw [str_len]; exact hl) (by rw [hby, c2]; rfl)))
          clear hby c2 Hh
          go_wp2_with fail
          go_quiet (fail)
          have HU1 := hide ((unhide HU).keep (Joins.below_draws _ _ nq))
          clear o1 o2 HU
          generalize wr.drewN nq = wq at *
          obtain ⟨-, o1, o2⟩ := (unhide HU1).2.2
          go_wp2
          have HUp := hide (unhide HUn _ (unhide HU1) (by show 2 + 1 ≤ s.size; omega))
          have Hms := hide (show abN (W.heap.size + 1 + 1) (wq.setCell ⟨W.heap.size + 1 + 1, 0, none⟩ (.int .i64 3)) = 3 from (unhide HUp).1.2.2.num)
          go_roundw
          case rel => exact .inr (.inr (.inr (unhide HUp)))
          case measure => have h1 := unhide Hms; have h2 := unhide Hm0; simp only [h1, h2]; omega
        · have e2 : ((s[2].toNat : Int) != (({ data := #[74, 81, 49] } : ByteArray)[2].toNat : Int)) = true := by
            have hk : (({ data := #[74, 81, 49] } : ByteArray)[2].toNat : Int) = 49 := rfl
            rw [hk]; simp; omega
          exact absurd ((hd_none _).1 (unhide Hhd) 2 (by omega)) (by rw [okc_lo_no _ _ (by omega) (by rw [hby]; exact c2)]; simp)
    · have H3 := hide h
      obtain ⟨-, o1, o2⟩ := h.1.2.2
      clear h
      go_wp2
      clear o1 o2
      go_loopw [36] (fun _ wr => HdU W s 3 wr ∨ HdU W s 4 wr ∨ HdU W s 5 wr) (fun _ wr => 5 - abN (W.heap.size + 1 + 1) wr)
      case atStart => exact .inl (unhide H3)
      case round =>
        clear H3
        rcases hrel with h | h | h
        · have HU := hide h.1
          have Hh := hide h
          have Hm0 := hide (show abN (W.heap.size + 1 + 1) wr = 3 from h.1.2.2.num)
          clear h
          obtain ⟨-, o1, o2⟩ := (unhide HU).2.2
          by_cases c1 : s.size ≤ 3
          · have e1 : (s.size : Int) ≤ 3 := by omega
            exact absurd ((hd_none _).1 (unhide Hhd) 3 (by omega)) (by rw [okc_short _ _ (by rw [str_len]; exact c1)]; simp)
          · have e1 : ¬ ((s.size : Int) ≤ 3) := by omega
            have e11 : decide ((s.size : Int) ≤ 3) = false := by simpa using e1
            have hl : 3 < s.size := by omega
            have hby := bya_str s 3 hl
            have hc := s[3].toNat_lt
            by_cases c2 : s[3].toNat ≤ 64
            · have e2 : ¬ ((64 : Int) < (s[3].toNat : Int)) := by omega
              have e21 : decide ((64 : Int) < (s[3].toNat : Int)) = false := by simpa using e2
              have HUn := hide (fun V (hV : Uq W V 3) => (unhide Hh).next (V := V) hV (okc_hi _ _ (by omega) (by rw [str_len]; exact hl) (by rw [hby]; exact c2)))
              clear hby c2 Hh
              go_wp2
              have HUp := hide (unhide HUn _ (unhide HU) (by show 3 + 1 ≤ s.size; omega))
              have Hms := hide (show abN (W.heap.size + 1 + 1) (wr.setCell ⟨W.heap.size + 1 + 1, 0, none⟩ (.int .i64 4)) = 4 from (unhide HUp).1.2.2.num)
              go_roundw
              case rel => exact .inr (.inl (unhide HUp))
              case measure => have h1 := unhide Hms; have h2 := unhide Hm0; simp only [h1, h2]; omega
            · have e2 : (64 : Int) < (s[3].toNat : Int) := by omega
              exact absurd ((hd_none _).1 (unhide Hhd) 3 (by omega)) (by rw [okc_hi_no _ _ (by omega) (by rw [hby]; exact c2)]; simp)
        · have HU := hide h.1
          have Hh := hide h
          have Hm0 := hide (show abN (W.heap.size + 1 + 1) wr = 4 from h.1.2.2.num)
          clear h
          obtain ⟨-, o1, o2⟩ := (unhide HU).2.2
          by_cases c1 : s.size ≤ 4
          · have e1 : (s.size : Int) ≤ 4 := by omega
            exact absurd ((hd_none _).1 (unhide Hhd) 4 (by omega)) (by rw [okc_short _ _ (by rw [str_len]; exact c1)]; simp)
          · have e1 : ¬ ((s.size : Int) ≤ 4) := by omega
            have e11 : decide ((s.size : Int) ≤ 4) = false := by simpa using e1
            have hl : 4 < s.size := by omega
            have hby := bya_str s 4 hl
            have hc := s[4].toNat_lt
            by_cases c2 : s[4].toNat ≤ 64
            · have e2 : ¬ ((64 : Int) < (s[4].toNat : Int)) := by omega
              have e21 : decide ((64 : Int) < (s[4].toNat : Int)) = false := by simpa using e2
              have HUn := hide (fun V (hV : Uq W V 4) => (unhide Hh).next (V := V) hV (okc_hi _ _ (by omega) (by rw [str_len]; exact hl) (by rw [hby]; exact c2)))
              clear hby c2 Hh
              go_wp2
              have HUp := hide (unhide HUn _ (unhide HU) (by show 4 + 1 ≤ s.size; omega))
              have Hms := hide (show abN (W.heap.size + 1 + 1) (wr.setCell ⟨W.heap.size + 1 + 1, 0, none⟩ (.int .i64 5)) = 5 from (unhide HUp).1.2.2.num)
              go_roundw
              case rel => exact .inr (.inr (unhide HUp))
              case measure => have h1 := unhide Hms; have h2 := unhide Hm0; simp only [h1, h2]; omega
            · have e2 : (64 : Int) < (s[4].toNat : Int) := by omega
              exact absurd ((hd_none _).1 (unhide Hhd) 4 (by omega)) (by rw [okc_hi_no _ _ (by omega) (by rw [hby]; exact c2)]; simp)
        · have HU := hide h.1
          have h5 := h.2.1
          obtain ⟨-, -, b3, b4⟩ := take5 s.data.toList h.2.2
          have Hunp := hide (show unp s.data.toList = tl s.data.toList (rdR s.data.toList (bya s.data.toList 3) (bya s.data.toList 4) 64 0 5 (fun _ => false)) by unfold unp; rw [(hd_none _).2 h.2.2])
          have hb3 := bya_str s 3 (by omega)
          have hb4 := bya_str s 4 (by omega)
          have H34 := hide (And.intro hb3 hb4)
          rw [hb3, hb4] at Hunp HX3 HX2
          rw [hb3] at b3
          rw [hb4] at b4
          clear h hb3 hb4
          obtain ⟨-, o1, o2⟩ := (unhide HU).2.2
          have g3 : 3 < s.size := by omega
          have g4 : 4 < s.size := by omega
          have g3i : (3 : Int) < (s.size : Int) := by omega
          have g4i : (4 : Int) < (s.size : Int) := by omega
          have HMq0 := hide (show Mq W (wr.alloc (.cells #[.int .i64 (s[3].toNat : Int), .int .i64 (s[4].toNat : Int), .slice none 0 0] 24)).drew wr.heap.size s[3].toNat s[4].toNat none 0 0 (fun _ => false) 5 from ⟨((unhide HU).keep (bal (Below.refl _ _))).keep (Below.drew (Below.refl _ _)), (unhide HU).2.2.1, (OwnM.new wr _ _ none 0 0 24).keep (Below.drew (Below.refl _ _)), by simp [go_sem], World.ownsRow_nil _ _ _ _⟩)
          have H30 := hide (And.intro b3 b4)
          go_wp2_with fail
          go_region
          all_goals
            generalize hvv : (wr.alloc (.cells #[.int .i64 (s[3].toNat : Int), .int .i64 (s[4].toNat : Int), .slice none 0 0] 24)).drew = V1 at *
            clear hvv
            generalize hmm : wr.heap.size = M0 at *
            clear hmm
            clear o1 o2 HU
            have hbw := b3
            have hbh := b4
            clear b3 b4 H30
            generalize s[3].toNat = w at *
            generalize s[4].toNat = h at *
            clear g3i g4i
            obtain ⟨⟨-, -, -, o1, o2⟩, -, ⟨-, o3, o4, o5⟩, o6, -⟩ := unhide HMq0
            go_wp2
            go_loopw [7] (fun v wx => ∃ L : Nat, L ≤ nb w ∧ v = .int .i64 L ∧ wx = V1) (fun v _ => 64 - (intOf v).toNat)
            case atStart => exact ⟨0, Nat.zero_le _, rfl, rfl⟩
            case round =>
              obtain ⟨L, hL, rfl, hwx⟩ := hrel
              replace hwx := hwx.symm
              subst hwx
              have hN8 : nb w ≤ 8 := by unfold nb; omega
              by_cases hl8 : L * 8 < w
              · have e8 : (L : Int) * 8 < (w : Int) := by omega
                have hL2 : L + 1 ≤ nb w := by unfold nb; omega
                have q8 : (L : Int) ≤ 8 := by omega
                go_wp2
                go_roundw
                case rel => exact ⟨L + 1, hL2, by go_num, by first | rfl | trivial⟩
                case measure => simp [intOf]; omega
              · have e8 : ¬ ((L : Int) * 8 < (w : Int)) := by omega
                have HL := hide (show nb w = L by unfold nb at hL ⊢; omega)
                have q8 : (L : Int) ≤ 8 := by omega
                go_wp2
                clear o1 o2 o3 o4 o5 o6 hN8 hL hl8 e8
                obtain ⟨R, hR⟩ : ∃ R, rdR s.data.toList w h 64 0 5 (fun _ => false) = R := ⟨_, rfl⟩
                have HR := hide hR
                rw [hR] at Hunp HX2
                clear hR
                have HRg0 := HX2
                go_loopw [68] (fun _ wr => ∃ (y n k a kf : Nat) (q : Option Addr) (g : Nat → Bool), y ≤ h ∧ Hid (n = y * w) ∧ Mq W wr M0 w h q n k g a ∧ a ≤ s.size ∧ a ≤ 5 + 9 * y ∧ h - y ≤ kf ∧ Hid (rdR s.data.toList w h kf y a g = R) ∧ Hid (w = 0 → y = 0 ∧ a = 5 ∧ q = none ∧ n = 0 ∧ k = 0)) (fun _ wr => 700 - abN (W.heap.size + 1 + 1) wr)
                case atStart => exact ⟨0, 0, 0, 5, 64, none, fun _ => false, Nat.zero_le _, hide (by simp), unhide HMq0, h5, by omega, by omega, HR, fun _ => ⟨rfl, rfl, rfl, rfl, rfl⟩⟩
                case round =>
                  clear HMq0
                  obtain ⟨y, n, k, a, kf, q, g, hy, Hn, hMq, ha, ha9, hkf, HRd, Hw0⟩ := hrel
                  have HM := hide hMq
                  have Hms0 := hide (show abN (W.heap.size + 1 + 1) wr = a from hMq.1.2.2.num)
                  clear hMq
                  obtain ⟨⟨-, -, -, o1, o2⟩, -, ⟨-, o3, o4, o5⟩, o6, -⟩ := unhide HM
                  have hMm4 : w * h ≤ 4096 := Nat.mul_le_mul hbw hbh
                  obtain ⟨Mm, hMm⟩ : ∃ Mm, Mm = w * h := ⟨_, rfl⟩
                  rw [← hMm] at hMm4
                  have E15 := hide (show wrap64 ((w : Int) * (h : Int)) = (Mm : Int) by
                    rw [hMm, ← Int.natCast_mul]
                    exact Go.IntWalk.wrap64_in _ (by omega))
                  have HMm := hide hMm
                  clear hMm
                  by_cases hwz : w = 0
                  · have hwe : ((w : Int) == 0) = true := by simp [hwz]
                    have hwe2 : (w == 0) = true := by simp [hwz]
                    have Hwz := hide hwz
                    have hM0 : Mm = 0 := by rw [unhide HMm, hwz]; simp
                    by_cases hhz : 0 < h
                    · exact absurd ⟨hwz, hhz⟩ (unhide HX3)
                    · skip
                      have hyh : y = h := by omega
                      have q1 : ¬ ((0 : Int) < (h : Int)) := by omega
                      have q11 : decide (0 < h) = false := by simpa using hhz
                      have Hyh := hide hyh
                      have hnM : n = Mm := by rw [unhide Hn, hM0, hwz]; simp
                      have q15 : ¬ ((n : Int) < (Mm : Int)) := by omega
                      have q151 : decide ((n : Int) < (Mm : Int)) = false := by simpa using q15
                      have q152 : ¬ n < Mm := by omega
                      have HRi := hide (show R = .inr (a, g) by rw [← unhide HRd, hyh]; exact rdR_done _ _ _ _ _ _)
                      clear hyh hnM HRd HR hwz hM0 Hw0 hhz
                      have Hunp2 := hide (show unp s.data.toList = fin s.data.toList a g by rw [unhide Hunp, unhide HRi]; rfl)
                      clear Hunp HRi
                      have a0 : (0 : Int) ≤ (a : Int) := by omega
                      have a6 : (a : Int) ≤ 600 := by omega
                      by_cases c1 : s.size ≤ a
                      · have e1 : (s.size : Int) ≤ (a : Int) := by omega
                        have Ht := hide (show unp s.data.toList = .inl a by rw [unhide Hunp2]; unfold fin; rw [str_len, if_pos c1])
                        have e15 := unhide E15
                        go_wp2_with fail
                        clear e15
                        go_quiet (fail)
                        have HM1 := hide ((unhide HM).keep (Joins.below_draws _ _ nq))
                        clear o1 o2 o3 o4 o5 o6 HM
                        generalize wr.drewN nq = wq at *
                        have HB := hide (bad_any (unhide HM1).1.2.2)
                        go_wp2_with fail
                        refine (unhide HB).mono ?_
                        rintro e wf ⟨rfl, hbf⟩
                        have HUf := hide ((unhide HM1).1.keep hbf)
                        clear hbf HB
                        obtain ⟨-, k1, k2, k3, k4, k5, k6, k7, k8, k9, k10⟩ := (unhide HUf).2.1
                        go_wp2
                        exact bodyPost_ret (v := wrongV a) (by simp [results, Try.results9, go_sem, k1, k2, k3, k7, k8]) rfl ⟨put5 (unhide HUf).1 (Nat.le_refl _) _ _ _ _ _, .inl ⟨_, unhide Ht, rfl⟩⟩
                      · have e1 : ¬ ((s.size : Int) ≤ (a : Int)) := by omega
                        have e11 : decide ((s.size : Int) ≤ (a : Int)) = false := by simpa using e1
                        have hl : a < s.size := by omega
                        have hla : (a : Int) < (s.size : Int) := by omega
                        have hlb : (a : Int) ≤ (s.size : Int) := by omega
                        have hby := bya_str s a hl
                        have hc := s[a].toNat_lt
                        obtain ⟨t, hxt, ht1, ht2⟩ : ∃ t, s.extract 0 a = t ∧ t.size = a ∧ t.data.toList = s.data.toList.take a := ⟨_, rfl, by rw [ByteArray.size_extract]; omega, by rw [Lib.extract_data]; simp⟩
                        have Hex := hide ht1
                        have Hed := hide ht2
                        have Hea := hide (show a ≤ 600 by omega)
                        clear ht1 ht2
                        have hbl := bl_lt (s.data.toList.take a)
                        have Hfin := hide (show fin s.data.toList a g = if s[a].toNat ≠ bl (s.data.toList.take a) then .inl a else if a + 1 < s.size then .inl (a + 1) else .inr (bya s.data.toList 3, bya s.data.toList 4, g) by
                          unfold fin; rw [str_len, if_neg c1, hby])
                        clear hby
                        generalize hmm : bl (s.data.toList.take a) = m at *
                        have HblM := hide hmm
                        clear hmm
                        obtain ⟨x, hx⟩ : ∃ x, s[a].toNat = x := ⟨_, rfl⟩
                        rw [hx] at hc Hfin
                        have Hxx := hide hx
                        by_cases c7 : x = m
                        · have e7 : ((x : Int) != (m : Int)) = false := by simp [c7]
                          rw [if_neg (by simpa using c7)] at Hfin
                          clear c7
                          have e15 := unhide E15
                          go_wp2_with fail
                          clear e15
                          have Hat := hide (show ∀ V, Below wr.heap.size wr V → V.cell? ⟨W.heap.size + 1 + 1, 0, none⟩ = some (.int .i64 a) from fun V hV => ((unhide HM).keep hV).1.2.2.2.1)
                          refine wp_region_noPanic ?_
                          refine wp_region_held_drew (S := fun V => Below wr.heap.size wr V) (by kernel_rfl) (Below.drew (Below.refl _ _)) ?_
                          intro hS0
                          generalize hwc : wr.drew = wc at *
                          clear hwc
                          refine wpAnyH_take (i := 0) (oi := _) (v := .int .i64 a) g15_0 (by kernel_rfl) (by kernel_rfl) (by kernel_rfl) (fun _ _ _ h => h) (Or.inl ⟨by rfl, ?_⟩) (by assumption) ?_
                          · intro V hSw
                            try dsimp only at hSw
                            have hl := unhide Hat V hSw
                            go_simp
                          simp only [Act.put, List.setIfInBounds_toArray, List.set_cons_zero, List.set_cons_succ]
                          refine wpAnyH_take (i := 1) (oi := _) (v := .string s) g15_1 (by kernel_rfl) (by kernel_rfl) (by kernel_rfl) (fun _ _ _ h => h) (Or.inl ⟨by rfl, ?_⟩) (by assumption) ?_
                          · intro V hSw
                            try dsimp only at hSw
                            go_simp
                          simp only [Act.put, List.setIfInBounds_toArray, List.set_cons_zero, List.set_cons_succ]
                          refine wpAnyH_take (i := 2) (oi := _) (v := .int .i64 s.size) g15_2 (by kernel_rfl) (by kernel_rfl) (by kernel_rfl) (fun _ _ _ h => h) (Or.inl ⟨by rfl, ?_⟩) (by assumption) ?_
                          · intro V hSw
                            try dsimp only at hSw
                            go_simp
                          simp only [Act.put, List.setIfInBounds_toArray, List.set_cons_zero, List.set_cons_succ]
                          refine wpAnyH_take (i := 3) (oi := _) (v := .bool false) g15_3 (by kernel_rfl) (by kernel_rfl) (by kernel_rfl) (fun _ _ _ h => h) (Or.inl ⟨by rfl, ?_⟩) (by assumption) ?_
                          · intro V hSw
                            try dsimp only at hSw
                            go_simp
                          simp only [Act.put, List.setIfInBounds_toArray, List.set_cons_zero, List.set_cons_succ]
                          refine wpAnyH_take (i := 4) (oi := _) (v := .bool false) g15_4 (by kernel_rfl) (by kernel_rfl) (by kernel_rfl) (fun _ _ _ h => h) (Or.inl ⟨by rfl, ?_⟩) (by assumption) ?_
                          · intro V hSw
                            try dsimp only at hSw
                            go_simp
                          simp only [Act.put, List.setIfInBounds_toArray, List.set_cons_zero, List.set_cons_succ]
                          refine wpAnyH_take (i := 5) (oi := _) (v := .string s) g15_5 (by kernel_rfl) (by kernel_rfl) (by kernel_rfl) (fun _ _ _ h => h) (Or.inl ⟨by rfl, ?_⟩) (by assumption) ?_
                          · intro V hSw
                            try dsimp only at hSw
                            go_simp
                          simp only [Act.put, List.setIfInBounds_toArray, List.set_cons_zero, List.set_cons_succ]
                          refine wpAnyH_take (i := 6) (oi := _) (v := .int .i64 a) g15_6 (by kernel_rfl) (by kernel_rfl) (by kernel_rfl) (fun _ _ _ h => h) (Or.inl ⟨by rfl, ?_⟩) (by assumption) ?_
                          · intro V hSw
                            try dsimp only at hSw
                            have hl := unhide Hat V hSw
                            go_simp
                          simp only [Act.put, List.setIfInBounds_toArray, List.set_cons_zero, List.set_cons_succ]
                          refine wpAnyH_take (i := 7) (oi := _) (v := .int .u8 x) g15_7 (by kernel_rfl) (by kernel_rfl) (by kernel_rfl) (fun _ _ _ h => h) (Or.inl ⟨by rfl, ?_⟩) (by assumption) ?_
                          · intro V hSw
                            try dsimp only at hSw
                            go_simp
                          simp only [Act.put, List.setIfInBounds_toArray, List.set_cons_zero, List.set_cons_succ]
                          refine wpAnyH_take (i := 8) (oi := _) (v := .string s) g15_8 (by kernel_rfl) (by kernel_rfl) (by kernel_rfl) (fun _ _ _ h => h) (Or.inl ⟨by rfl, ?_⟩) (by assumption) ?_
                          · intro V hSw
                            try dsimp only at hSw
                            go_simp
                          simp only [Act.put, List.setIfInBounds_toArray, List.set_cons_zero, List.set_cons_succ]
                          refine wpAnyH_take (i := 9) (oi := _) (v := .int .i64 a) g15_9 (by kernel_rfl) (by kernel_rfl) (by kernel_rfl) (fun _ _ _ h => h) (Or.inl ⟨by rfl, ?_⟩) (by assumption) ?_
                          · intro V hSw
                            try dsimp only at hSw
                            have hl := unhide Hat V hSw
                            go_simp
                          simp only [Act.put, List.setIfInBounds_toArray, List.set_cons_zero, List.set_cons_succ]
                          refine wpAnyH_take (i := 10) (oi := _) (v := .string t) g15_10 (by kernel_rfl) (by kernel_rfl) (by kernel_rfl) (fun _ _ _ h => h) (Or.inl ⟨by rfl, ?_⟩) (by assumption) ?_
                          · intro V hSw
                            try dsimp only at hSw
                            go_simp
                            all_goals (intro hx; omega)
                          simp only [Act.put, List.setIfInBounds_toArray, List.set_cons_zero, List.set_cons_succ]
                          refine wpAnyH_ready (rs := [11]) (by kernel_rfl) (by simp) ?_
                          refine AllReadyH.cons (o := _) g15_11 (fun K hK => ?_) AllReadyH.nil
                          go_simp
                          rw [Lib.run_convert_string_bytes wc 9 35 5 t Try.underlying9 Try.underlying35 Try.underlying5]
                          simp only [Result.andThen]
                          rw [Oper.upon_value]
                          obtain ⟨hbb, hY⟩ := bytes_row wc t
                          have hS1 := btrans hS0 hbb
                          have HCk := hide (rcheck_any (some ⟨wc.heap.size, 0, none⟩) t.size (grownCap wc t.size 0 5) t.data.toList (Lib.bytesWorld wc 5 t) (by rw [unhide Hex]; have := unhide Hea; omega) ⟨by rw [str_len], .inr ⟨_, rfl, hY.1, fun j hj => (hY.2 j hj).1⟩⟩)
                          refine hK.out _ _ hS1 (fun hS2 => ?_)
                          clear hK K hY hbb
                          generalize Lib.bytesWorld wc 5 t = wd at *
                          generalize grownCap wc t.size 0 5 = gc at *
                          generalize wc.heap.size = gb at *
                          clear hS0 hS2
                          have hS0 := hS1
                          clear hS1
                          rw [unhide Hed, unhide HblM] at HCk
                          refine wpAnyH_ready (rs := [12]) (by kernel_rfl) (by simp) ?_
                          refine AllReadyH.cons (o := _) g15_12 (fun K hK => ?_) AllReadyH.nil
                          go_simp
                          refine (unhide HCk).mono ?_
                          rintro e we ⟨rfl, hq⟩
                          replace hq := hq.symm
                          subst hq
                          refine hK.out _ _ hS0 (fun _ => ?_)
                          clear hK K HCk
                          refine wpAnyH_take (i := 13) (oi := _) (v := .bool false) g15_13 (by kernel_rfl) (by kernel_rfl) (by kernel_rfl) (fun _ _ _ h => h) (Or.inl ⟨by rfl, ?_⟩) (by assumption) ?_
                          · intro V hSw
                            try dsimp only at hSw
                            go_simp
                          simp only [Act.put, List.setIfInBounds_toArray, List.set_cons_zero, List.set_cons_succ]
                          refine wpAnyH_take (i := 14) (oi := _) (v := .bool false) g15_14 (by kernel_rfl) (by kernel_rfl) (by kernel_rfl) (fun _ _ _ h => h) (Or.inl ⟨by rfl, ?_⟩) (by assumption) ?_
                          · intro V hSw
                            try dsimp only at hSw
                            go_simp
                          simp only [Act.put, List.setIfInBounds_toArray, List.set_cons_zero, List.set_cons_succ]
                          refine wpAnyH_done (by kernel_rfl) ?_ _
                          refine NoPanic.normal ?_
                          have HM1 := hide ((unhide HM).keep hS0)
                          clear hS0 o1 o2 o3 o4 o5 o6 HM Hat
                          obtain ⟨⟨-, -, -, o1, o2⟩, -, ⟨-, o3, o4, o5⟩, o6, -⟩ := unhide HM1
                          have e9 : ¬ ((x : Int) = (m : Int)) → False := fun _ => by simp at e7; omega
                          clear e9
                          by_cases c8 : a + 1 < s.size
                          · have e8 : (a : Int) + 1 < (s.size : Int) := by omega
                            have Ht := hide (show unp s.data.toList = .inl (a + 1) by rw [unhide Hunp2, unhide Hfin, if_pos c8])
                            have HM2 := hide ((unhide HM1).at ((a : Int) + 1))
                            go_wp2_with fail
                            clear o1 o2 o3 o4 o5 o6
                            have HB := hide (bad_any (unhide HM2).1.2.2)
                            go_wp2_with fail
                            refine (unhide HB).mono ?_
                            rintro e wf ⟨rfl, hbf⟩
                            have HUf := hide ((unhide HM2).1.keep hbf)
                            clear hbf HB
                            obtain ⟨-, k1, k2, k3, k4, k5, k6, k7, k8, k9, k10⟩ := (unhide HUf).2.1
                            go_wp2
                            exact bodyPost_ret (v := wrongV ((a + 1 : Nat) : Int)) (by simp [results, Try.results9, go_sem, k1, k2, k3, k7, k8]) rfl ⟨put5 (unhide HUf).1 (Nat.le_refl _) _ _ _ _ _, .inl ⟨_, unhide Ht, rfl⟩⟩
                          · have e8 : ¬ ((a : Int) + 1 < (s.size : Int)) := by omega
                            have Ht := hide (show unp s.data.toList = .inr (w, h, g) by rw [unhide Hunp2, unhide Hfin, if_neg c8, (unhide H34).1, (unhide H34).2])
                            have HM2 := hide ((unhide HM1).at ((a : Int) + 1))
                            obtain ⟨-, k1, k2, k3, k4, k5, k6, k7, k8, k9, k10⟩ := (unhide HM1).1.2.1
                            have Hnwh := hide (show n = w * h by rw [unhide Hn, unhide Hyh, Nat.mul_comm])
                            have hne1 : ¬ (W.heap.size + 1 + 1 = M0) := by have := (unhide HM1).2.1; omega
                            have hne2 : ¬ (M0 = W.heap.size + 1 + 1) := by omega
                            go_wp2
                            refine bodyPost_ret (v := .tuple #[tr w h q n k, .agg #[.int .i64 0, .int .i64 0]]) (by simp [results, Try.results9, go_sem, k1, k2, k3, k7, k8]) rfl ⟨put5 (unhide HM2).1.1 (Nat.le_refl _) _ _ _ _ _, .inr ⟨w, h, g, q, k, unhide Ht, by rw [unhide Hnwh], hbw, hbh, rfl, ?_⟩⟩
                            rw [← unhide Hnwh]
                            have n1 : Off q n W.heap.size := (unhide HM1).off (by omega)
                            have n2 : Off q n (W.heap.size + 1) := (unhide HM1).off (by omega)
                            refine Bs.grown ?_ (gset (gset (World.grownBy.refl _ _) _ _) _ _) n2
                            exact (unhide HM2).bs.grown (gset (gset (gset (World.grownBy.refl _ _) _ _) _ _) _ _) n1
                        · have e7 : ((x : Int) != (m : Int)) = true := by simp; omega
                          rw [if_pos c7] at Hfin
                          have Ht := hide (show unp s.data.toList = .inl a by rw [unhide Hunp2, unhide Hfin])
                          clear c7
                          have e15 := unhide E15
                          go_wp2_with fail
                          clear e15
                          have Hat := hide (show ∀ V, Below wr.heap.size wr V → V.cell? ⟨W.heap.size + 1 + 1, 0, none⟩ = some (.int .i64 a) from fun V hV => ((unhide HM).keep hV).1.2.2.2.1)
                          refine wp_region_noPanic ?_
                          refine wp_region_held_drew (S := fun V => Below wr.heap.size wr V) (by kernel_rfl) (Below.drew (Below.refl _ _)) ?_
                          intro hS0
                          generalize hwc : wr.drew = wc at *
                          clear hwc
                          refine wpAnyH_take (i := 0) (oi := _) (v := .int .i64 a) g15_0 (by kernel_rfl) (by kernel_rfl) (by kernel_rfl) (fun _ _ _ h => h) (Or.inl ⟨by rfl, ?_⟩) (by assumption) ?_
                          · intro V hSw
                            try dsimp only at hSw
                            have hl := unhide Hat V hSw
                            go_simp
                          simp only [Act.put, List.setIfInBounds_toArray, List.set_cons_zero, List.set_cons_succ]
                          refine wpAnyH_take (i := 1) (oi := _) (v := .string s) g15_1 (by kernel_rfl) (by kernel_rfl) (by kernel_rfl) (fun _ _ _ h => h) (Or.inl ⟨by rfl, ?_⟩) (by assumption) ?_
                          · intro V hSw
                            try dsimp only at hSw
                            go_simp
                          simp only [Act.put, List.setIfInBounds_toArray, List.set_cons_zero, List.set_cons_succ]
                          refine wpAnyH_take (i := 2) (oi := _) (v := .int .i64 s.size) g15_2 (by kernel_rfl) (by kernel_rfl) (by kernel_rfl) (fun _ _ _ h => h) (Or.inl ⟨by rfl, ?_⟩) (by assumption) ?_
                          · intro V hSw
                            try dsimp only at hSw
                            go_simp
                          simp only [Act.put, List.setIfInBounds_toArray, List.set_cons_zero, List.set_cons_succ]
                          refine wpAnyH_take (i := 3) (oi := _) (v := .bool false) g15_3 (by kernel_rfl) (by kernel_rfl) (by kernel_rfl) (fun _ _ _ h => h) (Or.inl ⟨by rfl, ?_⟩) (by assumption) ?_
                          · intro V hSw
                            try dsimp only at hSw
                            go_simp
                          simp only [Act.put, List.setIfInBounds_toArray, List.set_cons_zero, List.set_cons_succ]
                          refine wpAnyH_take (i := 4) (oi := _) (v := .bool false) g15_4 (by kernel_rfl) (by kernel_rfl) (by kernel_rfl) (fun _ _ _ h => h) (Or.inl ⟨by rfl, ?_⟩) (by assumption) ?_
                          · intro V hSw
                            try dsimp only at hSw
                            go_simp
                          simp only [Act.put, List.setIfInBounds_toArray, List.set_cons_zero, List.set_cons_succ]
                          refine wpAnyH_take (i := 5) (oi := _) (v := .string s) g15_5 (by kernel_rfl) (by kernel_rfl) (by kernel_rfl) (fun _ _ _ h => h) (Or.inl ⟨by rfl, ?_⟩) (by assumption) ?_
                          · intro V hSw
                            try dsimp only at hSw
                            go_simp
                          simp only [Act.put, List.setIfInBounds_toArray, List.set_cons_zero, List.set_cons_succ]
                          refine wpAnyH_take (i := 6) (oi := _) (v := .int .i64 a) g15_6 (by kernel_rfl) (by kernel_rfl) (by kernel_rfl) (fun _ _ _ h => h) (Or.inl ⟨by rfl, ?_⟩) (by assumption) ?_
                          · intro V hSw
                            try dsimp only at hSw
                            have hl := unhide Hat V hSw
                            go_simp
                          simp only [Act.put, List.setIfInBounds_toArray, List.set_cons_zero, List.set_cons_succ]
                          refine wpAnyH_take (i := 7) (oi := _) (v := .int .u8 x) g15_7 (by kernel_rfl) (by kernel_rfl) (by kernel_rfl) (fun _ _ _ h => h) (Or.inl ⟨by rfl, ?_⟩) (by assumption) ?_
                          · intro V hSw
                            try dsimp only at hSw
                            go_simp
                          simp only [Act.put, List.setIfInBounds_toArray, List.set_cons_zero, List.set_cons_succ]
                          refine wpAnyH_take (i := 8) (oi := _) (v := .string s) g15_8 (by kernel_rfl) (by kernel_rfl) (by kernel_rfl) (fun _ _ _ h => h) (Or.inl ⟨by rfl, ?_⟩) (by assumption) ?_
                          · intro V hSw
                            try dsimp only at hSw
                            go_simp
                          simp only [Act.put, List.setIfInBounds_toArray, List.set_cons_zero, List.set_cons_succ]
                          refine wpAnyH_take (i := 9) (oi := _) (v := .int .i64 a) g15_9 (by kernel_rfl) (by kernel_rfl) (by kernel_rfl) (fun _ _ _ h => h) (Or.inl ⟨by rfl, ?_⟩) (by assumption) ?_
                          · intro V hSw
                            try dsimp only at hSw
                            have hl := unhide Hat V hSw
                            go_simp
                          simp only [Act.put, List.setIfInBounds_toArray, List.set_cons_zero, List.set_cons_succ]
                          refine wpAnyH_take (i := 10) (oi := _) (v := .string t) g15_10 (by kernel_rfl) (by kernel_rfl) (by kernel_rfl) (fun _ _ _ h => h) (Or.inl ⟨by rfl, ?_⟩) (by assumption) ?_
                          · intro V hSw
                            try dsimp only at hSw
                            go_simp
                            all_goals (intro hx; omega)
                          simp only [Act.put, List.setIfInBounds_toArray, List.set_cons_zero, List.set_cons_succ]
                          refine wpAnyH_ready (rs := [11]) (by kernel_rfl) (by simp) ?_
                          refine AllReadyH.cons (o := _) g15_11 (fun K hK => ?_) AllReadyH.nil
                          go_simp
                          rw [Lib.run_convert_string_bytes wc 9 35 5 t Try.underlying9 Try.underlying35 Try.underlying5]
                          simp only [Result.andThen]
                          rw [Oper.upon_value]
                          obtain ⟨hbb, hY⟩ := bytes_row wc t
                          have hS1 := btrans hS0 hbb
                          have HCk := hide (rcheck_any (some ⟨wc.heap.size, 0, none⟩) t.size (grownCap wc t.size 0 5) t.data.toList (Lib.bytesWorld wc 5 t) (by rw [unhide Hex]; have := unhide Hea; omega) ⟨by rw [str_len], .inr ⟨_, rfl, hY.1, fun j hj => (hY.2 j hj).1⟩⟩)
                          refine hK.out _ _ hS1 (fun hS2 => ?_)
                          clear hK K hY hbb
                          generalize Lib.bytesWorld wc 5 t = wd at *
                          generalize grownCap wc t.size 0 5 = gc at *
                          generalize wc.heap.size = gb at *
                          clear hS0 hS2
                          have hS0 := hS1
                          clear hS1
                          rw [unhide Hed, unhide HblM] at HCk
                          refine wpAnyH_ready (rs := [12]) (by kernel_rfl) (by simp) ?_
                          refine AllReadyH.cons (o := _) g15_12 (fun K hK => ?_) AllReadyH.nil
                          go_simp
                          refine (unhide HCk).mono ?_
                          rintro e we ⟨rfl, hq⟩
                          replace hq := hq.symm
                          subst hq
                          refine hK.out _ _ hS0 (fun _ => ?_)
                          clear hK K HCk
                          refine wpAnyH_take (i := 13) (oi := _) (v := .bool true) g15_13 (by kernel_rfl) (by kernel_rfl) (by kernel_rfl) (fun _ _ _ h => h) (Or.inl ⟨by rfl, ?_⟩) (by assumption) ?_
                          · intro V hSw
                            try dsimp only at hSw
                            go_simp
                          simp only [Act.put, List.setIfInBounds_toArray, List.set_cons_zero, List.set_cons_succ]
                          refine wpAnyH_take (i := 14) (oi := _) (v := .bool true) g15_14 (by kernel_rfl) (by kernel_rfl) (by kernel_rfl) (fun _ _ _ h => h) (Or.inl ⟨by rfl, ?_⟩) (by assumption) ?_
                          · intro V hSw
                            try dsimp only at hSw
                            go_simp
                          simp only [Act.put, List.setIfInBounds_toArray, List.set_cons_zero, List.set_cons_succ]
                          refine wpAnyH_done (by kernel_rfl) ?_ _
                          refine NoPanic.normal ?_
                          have HM1 := hide ((unhide HM).keep hS0)
                          clear hS0 o1 o2 o3 o4 o5 o6 HM Hat
                          have HB := hide (bad_any (unhide HM1).1.2.2)
                          go_wp2_with fail
                          refine (unhide HB).mono ?_
                          rintro e wf ⟨rfl, hbf⟩
                          have HUf := hide ((unhide HM1).1.keep hbf)
                          clear hbf HB
                          obtain ⟨-, k1, k2, k3, k4, k5, k6, k7, k8, k9, k10⟩ := (unhide HUf).2.1
                          go_wp2
                          exact bodyPost_ret (v := wrongV a) (by simp [results, Try.results9, go_sem, k1, k2, k3, k7, k8]) rfl ⟨put5 (unhide HUf).1 (Nat.le_refl _) _ _ _ _ _, .inl ⟨_, unhide Ht, rfl⟩⟩
                  · skip
                    have hw1 : 0 < w := by omega
                    have hwe : ((w : Int) == 0) = false := by simp; omega
                    have hwe2 : (w == 0) = false := by simp; omega
                    clear Hw0
                    by_cases hlt : y < h
                    · skip
                      have hnM : n < Mm := by
                        rw [unhide Hn, unhide HMm, Nat.mul_comm w h]
                        exact Nat.mul_lt_mul_of_pos_right hlt hw1
                      have q15 : (n : Int) < (Mm : Int) := by omega
                      have e18 : (n : Int) / (w : Int) = (y : Int) := by
                        have : n / w = y := by rw [unhide Hn]; exact Nat.mul_div_cancel y hw1
                        omega
                      have wp1 : (0 : Int) < (w : Int) := by omega
                      have a0 : (0 : Int) ≤ (a : Int) := by omega
                      have a6 : (a : Int) ≤ 600 := by omega
                      obtain ⟨z, hz⟩ : ∃ z : Nat, z = h - y := ⟨_, rfl⟩
                      have ez : (h : Int) - (y : Int) = (z : Int) := by omega
                      have ez2 : IntKind.i64.wrap (z : Int) = (z : Int) := Go.IntWalk.i64_in _ (by omega)
                      have Hz := hide hz
                      have HtF := hide (show ∀ x, bad s.data.toList w h y a g = some x → False from fun x hx => by
                        have h1 := rdR_fail _ _ _ _ _ _ _ _ hlt hkf hx
                        rw [unhide HRd] at h1
                        exact unhide HRg0 x h1)
                      have HGo := hide (show bad s.data.toList w h y a g = none → _ from rdR_go s.data.toList w h kf y a g hlt hkf)
                      clear hz
                      have y6 : (y : Int) ≤ 64 := by omega
                      by_cases c1 : s.size ≤ a
                      · have e1 : (s.size : Int) ≤ (a : Int) := by omega
                        exact (unhide HtF a (by unfold bad; rw [str_len, if_pos c1])).elim
                      · have e1 : ¬ ((s.size : Int) ≤ (a : Int)) := by omega
                        have e11 : decide ((s.size : Int) ≤ (a : Int)) = false := by simpa using e1
                        have hl : a < s.size := by omega
                        have hla : (a : Int) < (s.size : Int) := by omega
                        have hby := bya_str s a hl
                        have hc := s[a].toNat_lt
                        by_cases c2 : s[a].toNat < 1
                        · have e2 : (s[a].toNat : Int) < 1 := by omega
                          exact (unhide HtF a (by unfold bad; rw [str_len, if_neg c1, if_pos (.inl (by rw [hby]; exact c2))])).elim
                        · have e2 : ¬ ((s[a].toNat : Int) < 1) := by omega
                          have e21 : decide ((s[a].toNat : Int) < 1) = false := by simpa using e2
                          by_cases c3 : z < s[a].toNat
                          · have e3 : (z : Int) < (s[a].toNat : Int) := by omega
                            exact (unhide HtF a (by unfold bad; rw [str_len, if_neg c1, if_pos (.inr (by rw [hby, ← unhide Hz]; exact c3))])).elim
                          · have e3 : ¬ ((z : Int) < (s[a].toNat : Int)) := by omega
                            have e31 : decide ((z : Int) < (s[a].toNat : Int)) = false := by simpa using e3
                            have hbz : bya s.data.toList a ≤ h - y := by rw [hby, ← unhide Hz]; omega
                            have hb1 : 1 ≤ bya s.data.toList a := by rw [hby]; omega
                            have HBd := hide (show bad s.data.toList w h y a g = if s.size < a + 1 + nb w then some s.size else if holes (rr s.data.toList (a + 1)) w ≠ (s.data.toList.drop (a + 1)).take (nb w) then some a else if asA s.data.toList w y a g = true then some a else none by
                              unfold bad; rw [str_len, if_neg c1, if_neg (by omega)])
                            have e15 := unhide E15
                            go_wp2_with fail
                            clear e15
                            go_quiet (fail)
                            have HM1 := hide ((unhide HM).keep (Joins.below_draws _ _ nq))
                            clear o1 o2 o3 o4 o5 o6 HM
                            generalize wr.drewN nq = wq at *
                            obtain ⟨⟨-, -, -, o1, o2⟩, -, ⟨-, o3, o4, o5⟩, o6, -⟩ := unhide HM1
                            by_cases c4 : s.size ≤ a + L
                            · have e4 : (s.size : Int) ≤ (a : Int) + (L : Int) := by omega
                              exact (unhide HtF s.size (by rw [unhide HBd, if_pos (by rw [unhide HL]; omega)])).elim
                            · have e4 : ¬ ((s.size : Int) ≤ (a : Int) + (L : Int)) := by omega
                              rw [if_neg (by rw [unhide HL]; omega)] at HBd
                              have hbA := hby
                              obtain ⟨m, hmx⟩ : ∃ m, s[a].toNat = m := ⟨_, rfl⟩
                              have Hmx := hide hmx
                              have hm1 : 1 ≤ m := by omega
                              have hmz : m ≤ h - y := by rw [hby, hmx] at hbz; exact hbz
                              have hgo2 := unhide HGo
                              rw [hby, hmx, unhide HL] at hgo2
                              clear HGo
                              have HGo := hide hgo2
                              have e22 : (s[a].toNat : Int) = (m : Int) := by rw [hmx]
                              clear hgo2 hby hbA c2 c3 e2 e21 e3 e31 hbz hb1
                              have HMs := hide (show Mq W wq M0 w h q n k (put g w y (rr s.data.toList (a + 1))) a from (unhide HM1).congr (fun j hj => (put_lo g w y _ j (by rw [← unhide Hn]; exact hj)).symm))
                              have Hf4 := hide (show ∀ u, u ≤ m → (y + u) * w ≤ Mm from fun u hu => by rw [unhide HMm, Nat.mul_comm w h]; exact Nat.mul_le_mul_right w (by omega))
                              have Hq := Hn
                              go_wp2
                              clear o1 o2 o3 o4 o5 o6
                              go_loopw [9] (fun v wr => ∃ (t nt k : Nat) (q : Option Addr), t ≤ m ∧ v = .int .i64 t ∧ Hid (nt = (y + t) * w) ∧ Mq W wr M0 w h q nt k (put g w y (rr s.data.toList (a + 1))) a) (fun v _ => m - (intOf v).toNat)
                              case atStart => exact ⟨0, n, k, q, Nat.zero_le _, rfl, hide (by rw [Nat.add_zero]; exact unhide Hn), unhide HMs⟩
                              case round =>
                                clear HMs HM1
                                obtain ⟨t, nt, k, q, ht, rfl, Hnt, hMq⟩ := hrel
                                have HM2 := hide hMq
                                clear hMq
                                obtain ⟨⟨-, -, -, o1, o2⟩, -, ⟨-, o3, o4, o5⟩, o6, -⟩ := unhide HM2
                                by_cases hltm : t < m
                                · have qt : (t : Int) < (s[a].toNat : Int) := by omega
                                  have HSt := hide (show ∃ nx, nx = (y + t) * w + 0 ∧ nx = nt from ⟨nt, by rw [Nat.add_zero]; exact unhide Hnt, rfl⟩)
                                  have hfit : nt + w ≤ 4096 := by have h1 := unhide Hf4 (t + 1) (by omega); rw [← Nat.add_assoc, mul_step, ← unhide Hnt] at h1; omega
                                  go_wp2
                                  clear o1 o2 o3 o4 o5 o6
                                  go_loopw [10] (fun v wr => ∃ (x nx k : Nat) (q : Option Addr), x ≤ w ∧ v = .int .i64 x ∧ Hid (nx = nt + x) ∧ Mq W wr M0 w h q nx k (put g w y (rr s.data.toList (a + 1))) a) (fun v _ => w - (intOf v).toNat)
                                  case atStart => exact ⟨0, nt, k, q, Nat.zero_le _, rfl, rfl, unhide HM2⟩
                                  case round =>
                                    clear HM2 HSt
                                    obtain ⟨x, nx, k, q, hx, rfl, Hnx, hMq⟩ := hrel
                                    have HM2 := hide hMq
                                    clear hMq
                                    obtain ⟨⟨-, -, -, o1, o2⟩, -, ⟨-, o3, o4, o5⟩, o6, -⟩ := unhide HM2
                                    by_cases hltx : x < w
                                    · have qx : (x : Int) < (w : Int) := by omega
                                      have qx0 : (0 : Int) ≤ (x : Int) := by omega
                                      obtain ⟨i, hi8⟩ : ∃ i : Nat, i = x / 8 := ⟨_, rfl⟩
                                      have e8 : (x : Int) / 8 = (i : Int) := by omega
                                      obtain ⟨j, hj8⟩ : ∃ j : Nat, j = x % 8 := ⟨_, rfl⟩
                                      have e7 : (x : Int) % 8 = (j : Int) := by omega
                                      obtain ⟨B, hB⟩ : ∃ B : Nat, B = 7 - j := ⟨_, rfl⟩
                                      have e6 : (7 : Int) - (j : Int) = (B : Int) := by omega
                                      have hiL : i < L := by rw [← unhide HL]; unfold nb; omega
                                      have hidx : a + 1 + i < s.size := by omega
                                      have hidx2 : (a : Int) + 1 + (i : Int) < (s.size : Int) := by omega
                                      have hcb := s[a + 1 + i].toNat_lt
                                      have Hv := hide (show put g w y (rr s.data.toList (a + 1)) nx = (s[a + 1 + i].toNat / 2 ^ B % 2 == 1) by
                                        rw [unhide Hnx, unhide Hnt, put_hi g w y t x _ hltx]
                                        unfold rr tb
                                        rw [← hi8, bya_str s (a + 1 + i) hidx, ← hj8, ← hB])
                                      have B7 : B ≤ 7 := by omega
                                      have i7 : (i : Int) ≤ 8 := by omega
                                      have i70 : (0 : Int) ≤ (i : Int) := by omega
                                      clear hi8 hj8 hB
                                      go_wp2
                                      generalize s[a + 1 + i].toNat = c0 at *
                                      go_loopw [11, 13] (fun u v wr => ∃ (j2 c : Nat), j2 ≤ B ∧ v = .int .i64 j2 ∧ u = .int .i64 c ∧ Hid (c = c0 / 2 ^ j2) ∧ c ≤ 255 ∧ Mq W wr M0 w h q nx k (put g w y (rr s.data.toList (a + 1))) a) (fun _ v _ => 8 - (intOf v).toNat)
                                      case atStart => exact ⟨0, c0, Nat.zero_le _, rfl, rfl, hide (by simp), by omega, unhide HM2⟩
                                      case round =>
                                        clear HM2 o1 o2 o3 o4 o5 o6
                                        obtain ⟨j2, c, hj2, rfl, rfl, Hc, hc2, hMq⟩ := hrel
                                        have HM2 := hide hMq
                                        clear hMq
                                        have cc0 : (0 : Int) ≤ (c : Int) := by omega
                                        have cc1 : (c : Int) ≤ 255 := by omega
                                        by_cases hltj : j2 < B
                                        · have qj : (j2 : Int) < (B : Int) := by omega
                                          go_wp2
                                          go_roundw
                                          case rel => exact ⟨j2 + 1, c / 2, by omega, by go_num, by go_num, hide (by rw [unhide Hc, Nat.div_div_eq_div_mul, Nat.pow_succ]), by omega, unhide HM2⟩
                                          case measure => simp [intOf]; omega
                                        · obtain rfl : j2 = B := by omega
                                          have qj : ¬ ((j2 : Int) < (j2 : Int)) := by omega
                                          obtain ⟨v, hv⟩ : ∃ v : Bool, (c % 2 == 1) = v := ⟨_, rfl⟩
                                          have ev : ((c : Int) % 2 == 1) = v := by rw [← hv, Bool.eq_iff_iff]; simp; omega
                                          have Hv2 := hide (show put g w y (rr s.data.toList (a + 1)) nx = v by rw [unhide Hv, ← unhide Hc]; exact hv)
                                          have ev2 : (c % 2 == 1) = v := hv
                                          clear hv
                                          obtain ⟨⟨-, -, -, o1, o2⟩, -, ⟨-, o3, o4, o5⟩, o6, -⟩ := unhide HM2
                                          have hxn : nx ≤ 4096 := by rw [unhide Hnx]; omega
                                          have hbs := (unhide HM2).2.2.1.1
                                          go_wp2_with (at_builtin; refine wpList_append_own _ rfl _ _ 22 rfl (M0 + 1) 4 i4 (.bool false) 1 1 Try.underlying22 hi4 inf0 inf1 inf2 rfl (by decide) _ _ _ rfl ((unhide HM2).2.2.2.2.alloc _) ⟨wr.heap.size, 0, none⟩ 1 1 [.bool v] rfl rfl ?c1 ?c2 ?c3 ?c4 ?c5 ?_)
                                          case c2 => first | rfl | (intro u hu; simp at hu; subst hu; rfl)
                                          case c3 => unfold maxLen; omega
                                          case c4 => omega
                                          case c5 => first | omega | (simp; omega)
                                          intro v' w2 hown' hgrow _
                                          obtain ⟨q', k', rfl⟩ := own_form4 hown'
                                          obtain ⟨⟨d1, d2⟩, hM3⟩ := ((unhide HM2).keep (bal (o := .cells #[.bool v] 4) (Below.refl _ _))).more (unhide Hv2) hgrow hown'
                                          have HM3 := hide hM3
                                          clear hM3 hown' hgrow o1 o2 o3 o4 o5 o6 HM2
                                          go_wp2
                                          clear d1 d2
                                          generalize w2.setCell ⟨M0, 2, none⟩ (.slice q' (nx + 1) k') = w3 at *
                                          go_roundw
                                          case rel => exact ⟨x + 1, nx + 1, k', q', by omega, by go_num, hide (by rw [unhide Hnx]; omega), unhide HM3⟩
                                          case measure => simp [intOf]; omega
                                    · obtain rfl : x = w := by omega
                                      have qx : ¬ ((x : Int) < (x : Int)) := by omega
                                      go_wp2
                                      clear o1 o2 o3 o4 o5 o6
                                      go_roundw
                                      case rel => exact ⟨t + 1, nx, k, q, by omega, by go_num, hide (by rw [unhide Hnx, unhide Hnt, ← Nat.add_assoc, mul_step]), unhide HM2⟩
                                      case measure => simp [intOf]; omega
                                · obtain rfl : t = m := by omega
                                  have qt : ¬ ((t : Int) < (s[a].toNat : Int)) := by omega
                                  have HRg := hide (show ∀ V, Below wr.heap.size wr V → Rg V w q nt k (put g w y (rr s.data.toList (a + 1))) from fun V hV => ⟨hbw, by have := unhide Hf4 t (Nat.le_refl _); rw [unhide Hnt]; omega, ((unhide HM2).keep hV).bs⟩)
                                  have Hle := hide (show (y + 1) * w ≤ nt by rw [unhide Hnt]; exact Nat.mul_le_mul_right w (by omega))
                                  have Hle2 := hide (show ∀ u, u ≤ y → (u + 1) * w ≤ nt from fun u hu => Nat.le_trans (Nat.mul_le_mul_right w (by omega)) (unhide Hle))
                                  have HHl := hide (show Calls Try.prog 23 #[tr w ((y : Int) + 1) q nt k, .int .i64 y] wr fun e w' => (∃ q c, e = .returned (.slice q (nb w) c) ∧ w'.ownsRow wr.heap.size 5 1 (.slice q (nb w) c) (nb w) (Lib.byteCells (holes (rr s.data.toList (a + 1)) w))) ∧ Below wr.heap.size wr w' from by
                                    have h1 := rholes_any (h := y + 1) (unhide HRg wr (Below.refl _ _)) y (unhide Hle)
                                    have h2 : holes (row (put g w y (rr s.data.toList (a + 1))) w y) w = holes (rr s.data.toList (a + 1)) w := holes_congr _ _ w (fun x hx => by have := put_hi g w y 0 x (rr s.data.toList (a + 1)) hx; rw [Nat.add_zero] at this; exact this)
                                    rw [h2] at h1
                                    exact h1)
                                  have hry : ∀ u, u < w → row (put g w y (rr s.data.toList (a + 1))) w y u = rr s.data.toList (a + 1) u := fun u hu => by have := put_hi g w y 0 u (rr s.data.toList (a + 1)) hu; rw [Nat.add_zero] at this; exact this
                                  have HAs := hide (show ∀ z1, y = z1 + 1 → rwE (put g w y (rr s.data.toList (a + 1))) w y z1 = asA s.data.toList w y a g from fun z1 hz1 => by
                                    unfold asA rwE
                                    rw [decide_eq_true (by omega), Bool.true_and]
                                    refine eqN_congr _ _ _ _ _ hry (fun u hu => ?_)
                                    rw [hz1, Nat.add_sub_cancel]
                                    show put g w (z1 + 1) _ (z1 * w + u) = g (z1 * w + u)
                                    exact put_lo _ _ _ _ _ (by rw [mul_step]; omega))
                                  go_wp2_with fail
                                  clear o1 o2 o3 o4 o5 o6 hry
                                  refine (unhide HHl).mono ?_
                                  rintro e wh ⟨⟨qh, ch, rfl, hoh⟩, hbh2⟩
                                  have HHo := hide hoh
                                  have HM3 := hide ((unhide HM2).keep hbh2)
                                  have HRg3 := hide (show ∀ V, Below wh.heap.size wh V → Rg V w q nt k (put g w y (rr s.data.toList (a + 1))) from fun V hV => unhide HRg V (btrans hbh2 hV))
                                  clear hoh hbh2 HM2 HHl HRg
                                  obtain ⟨a1, ha1⟩ : ∃ a1 : Nat, a1 = a + 1 := ⟨_, rfl⟩
                                  obtain ⟨e1n, he1⟩ : ∃ e1 : Nat, e1 = a + 1 + L := ⟨_, rfl⟩
                                  have f1 : (a : Int) + 1 = (a1 : Int) := by omega
                                  have f2 : IntKind.i64.wrap (a1 : Int) = (a1 : Int) := Go.IntWalk.i64_in _ (by omega)
                                  have f3 : (a1 : Int) + (L : Int) = (e1n : Int) := by omega
                                  have f4 : IntKind.i64.wrap (e1n : Int) = (e1n : Int) := Go.IntWalk.i64_in _ (by omega)
                                  have f5 : (e1n : Int) ≤ (s.size : Int) := by omega
                                  have f6 : (a1 : Int) ≤ (e1n : Int) := by omega
                                  have f7 : (0 : Int) ≤ (a1 : Int) := by omega
                                  have f8 : s.extract a1 e1n = ⟨((s.data.toList.drop (a + 1)).take (nb w)).toArray⟩ := by rw [ha1, he1, Lib.extract_eq, Nat.add_sub_cancel_left, unhide HL]
                                  have Hat := hide (show ∀ V, Below wh.heap.size wh V → V.cell? ⟨W.heap.size + 1 + 1, 0, none⟩ = some (.int .i64 a) from fun V hV => ((unhide HM3).keep hV).1.2.2.2.1)
                                  have hgo2 := unhide HGo
                                  rw [← he1] at hgo2
                                  clear HGo
                                  have HGo := hide hgo2
                                  clear hgo2
                                  have hza : e1n ≤ s.size := by omega
                                  have hza9 : e1n ≤ 5 + 9 * (y + 1) := by omega
                                  have hza1 : a < e1n := by omega
                                  clear ha1 he1
                                  generalize holes (rr s.data.toList (a + 1)) w = l1 at *
                                  generalize (s.data.toList.drop (a + 1)).take (nb w) = l2 at *
                                  by_cases c5 : l1 = l2
                                  · rw [if_neg (by simpa using c5)] at HBd
                                    subst c5
                                    have f10 : (l1 == l1) = true := by simp
                                    by_cases hy0 : 0 < y
                                    · obtain ⟨z1, hz1⟩ : ∃ z1 : Nat, y = z1 + 1 := ⟨y - 1, by omega⟩
                                      have g1 : (y : Int) - 1 = (z1 : Int) := by omega
                                      have g2 : IntKind.i64.wrap (z1 : Int) = (z1 : Int) := Go.IntWalk.i64_in _ (by omega)
                                      have g3 : (0 : Int) < (y : Int) := by omega
                                      have g4 : decide (0 < y) = true := by simpa using hy0
                                      have HRw := hide (show ∀ V, Below wh.heap.size wh V → Calls Try.prog 22 #[tr w h q nt k, .int .i64 y, .int .i64 z1] V fun e w' => e = .returned (.bool (rwE (put g w y (rr s.data.toList (a + 1))) w y z1)) ∧ Below V.heap.size V w' from fun V hV => rows_g (h := h) (unhide HRg3 V hV) y z1 (unhide Hle) (unhide Hle2 z1 (by omega)))
                                      have Hval := hide (unhide HAs z1 hz1)
                                      have Hmb := hide (show ∀ V, Below wh.heap.size wh V → V.cell? ⟨M0, 0, none⟩ = some (.int .i64 w) ∧ V.cell? ⟨M0, 1, none⟩ = some (.int .i64 h) ∧ V.cell? ⟨M0, 2, none⟩ = some (.slice q nt k) from fun V hV => ((unhide HM3).keep hV).2.2.1.2)
                                      obtain ⟨bA, hbA⟩ : ∃ bA, asA s.data.toList w y a g = bA := ⟨_, rfl⟩
                                      rw [hbA] at HBd Hval
                                      clear hz1 hbA HAs HRg3
                                      have e15 := True.intro
                                      go_wp2_with fail
                                      refine wp_region_noPanic ?_
                                      refine wp_region_held_drew (S := fun V => Below wh.heap.size wh V) (by kernel_rfl) (Below.drew (Below.refl _ _)) ?_
                                      intro hS0
                                      generalize hwc : wh.drew = wc at *
                                      clear hwc
                                      refine wpAnyH_take (i := 0) (oi := _) (v := .slice qh (nb w) ch) g22_0 (by kernel_rfl) (by kernel_rfl) (by kernel_rfl) (fun _ _ _ h => h) (Or.inl ⟨by rfl, ?_⟩) (by assumption) ?_
                                      · intro V hSw
                                        try dsimp only at hSw
                                        go_simp
                                      simp only [Act.put, List.setIfInBounds_toArray, List.set_cons_zero, List.set_cons_succ]
                                      refine wpAnyH_take (i := 1) (oi := _) (v := .string ⟨l1.toArray⟩) g22_1 (by kernel_rfl) (by kernel_rfl) (by kernel_rfl) (fun _ _ _ h => h) (Or.inl ⟨by rfl, ?_⟩) (by assumption) ?_
                                      · intro V hSw
                                        try dsimp only at hSw
                                        go_simp
                                        rw [own_str (own_keep (unhide HHo) hSw)]
                                        rfl
                                      simp only [Act.put, List.setIfInBounds_toArray, List.set_cons_zero, List.set_cons_succ]
                                      refine wpAnyH_take (i := 2) (oi := _) (v := .string s) g22_2 (by kernel_rfl) (by kernel_rfl) (by kernel_rfl) (fun _ _ _ h => h) (Or.inl ⟨by rfl, ?_⟩) (by assumption) ?_
                                      · intro V hSw
                                        try dsimp only at hSw
                                        go_simp
                                      simp only [Act.put, List.setIfInBounds_toArray, List.set_cons_zero, List.set_cons_succ]
                                      refine wpAnyH_take (i := 3) (oi := _) (v := .int .i64 a) g22_3 (by kernel_rfl) (by kernel_rfl) (by kernel_rfl) (fun _ _ _ h => h) (Or.inl ⟨by rfl, ?_⟩) (by assumption) ?_
                                      · intro V hSw
                                        try dsimp only at hSw
                                        have hl := unhide Hat V hSw
                                        go_simp
                                      simp only [Act.put, List.setIfInBounds_toArray, List.set_cons_zero, List.set_cons_succ]
                                      refine wpAnyH_take (i := 4) (oi := _) (v := .int .i64 a1) g22_4 (by kernel_rfl) (by kernel_rfl) (by kernel_rfl) (fun _ _ _ h => h) (Or.inl ⟨by rfl, ?_⟩) (by assumption) ?_
                                      · intro V hSw
                                        try dsimp only at hSw
                                        go_simp
                                      simp only [Act.put, List.setIfInBounds_toArray, List.set_cons_zero, List.set_cons_succ]
                                      refine wpAnyH_take (i := 5) (oi := _) (v := .int .i64 a) g22_5 (by kernel_rfl) (by kernel_rfl) (by kernel_rfl) (fun _ _ _ h => h) (Or.inl ⟨by rfl, ?_⟩) (by assumption) ?_
                                      · intro V hSw
                                        try dsimp only at hSw
                                        have hl := unhide Hat V hSw
                                        go_simp
                                      simp only [Act.put, List.setIfInBounds_toArray, List.set_cons_zero, List.set_cons_succ]
                                      refine wpAnyH_take (i := 6) (oi := _) (v := .int .i64 a1) g22_6 (by kernel_rfl) (by kernel_rfl) (by kernel_rfl) (fun _ _ _ h => h) (Or.inl ⟨by rfl, ?_⟩) (by assumption) ?_
                                      · intro V hSw
                                        try dsimp only at hSw
                                        go_simp
                                      simp only [Act.put, List.setIfInBounds_toArray, List.set_cons_zero, List.set_cons_succ]
                                      refine wpAnyH_take (i := 7) (oi := _) (v := .int .i64 L) g22_7 (by kernel_rfl) (by kernel_rfl) (by kernel_rfl) (fun _ _ _ h => h) (Or.inl ⟨by rfl, ?_⟩) (by assumption) ?_
                                      · intro V hSw
                                        try dsimp only at hSw
                                        go_simp
                                      simp only [Act.put, List.setIfInBounds_toArray, List.set_cons_zero, List.set_cons_succ]
                                      refine wpAnyH_take (i := 8) (oi := _) (v := .int .i64 e1n) g22_8 (by kernel_rfl) (by kernel_rfl) (by kernel_rfl) (fun _ _ _ h => h) (Or.inl ⟨by rfl, ?_⟩) (by assumption) ?_
                                      · intro V hSw
                                        try dsimp only at hSw
                                        go_simp
                                      simp only [Act.put, List.setIfInBounds_toArray, List.set_cons_zero, List.set_cons_succ]
                                      refine wpAnyH_take (i := 9) (oi := _) (v := .string ⟨l1.toArray⟩) g22_9 (by kernel_rfl) (by kernel_rfl) (by kernel_rfl) (fun _ _ _ h => h) (Or.inl ⟨by rfl, ?_⟩) (by assumption) ?_
                                      · intro V hSw
                                        try dsimp only at hSw
                                        go_simp
                                      simp only [Act.put, List.setIfInBounds_toArray, List.set_cons_zero, List.set_cons_succ]
                                      refine wpAnyH_take (i := 10) (oi := _) (v := .bool false) g22_10 (by kernel_rfl) (by kernel_rfl) (by kernel_rfl) (fun _ _ _ h => h) (Or.inl ⟨by rfl, ?_⟩) (by assumption) ?_
                                      · intro V hSw
                                        try dsimp only at hSw
                                        go_simp
                                      simp only [Act.put, List.setIfInBounds_toArray, List.set_cons_zero, List.set_cons_succ]
                                      refine wpAnyH_take (i := 11) (oi := _) (v := .bool false) g22_11 (by kernel_rfl) (by kernel_rfl) (by kernel_rfl) (fun _ _ _ h => h) (Or.inl ⟨by rfl, ?_⟩) (by assumption) ?_
                                      · intro V hSw
                                        try dsimp only at hSw
                                        go_simp
                                      simp only [Act.put, List.setIfInBounds_toArray, List.set_cons_zero, List.set_cons_succ]
                                      refine wpAnyH_take (i := 12) (oi := _) (v := .int .i64 y) g22_12 (by kernel_rfl) (by kernel_rfl) (by kernel_rfl) (fun _ _ _ h => h) (Or.inl ⟨by rfl, ?_⟩) (by assumption) ?_
                                      · intro V hSw
                                        try dsimp only at hSw
                                        go_simp
                                      simp only [Act.put, List.setIfInBounds_toArray, List.set_cons_zero, List.set_cons_succ]
                                      refine wpAnyH_take (i := 13) (oi := _) (v := .bool true) g22_13 (by kernel_rfl) (by kernel_rfl) (by kernel_rfl) (fun _ _ _ h => h) (Or.inl ⟨by rfl, ?_⟩) (by assumption) ?_
                                      · intro V hSw
                                        try dsimp only at hSw
                                        go_simp
                                      simp only [Act.put, List.setIfInBounds_toArray, List.set_cons_zero, List.set_cons_succ]
                                      refine wpAnyH_take (i := 14) (oi := _) (v := .bool true) g22_14 (by kernel_rfl) (by kernel_rfl) (by kernel_rfl) (fun _ _ _ h => h) (Or.inl ⟨by rfl, ?_⟩) (by assumption) ?_
                                      · intro V hSw
                                        try dsimp only at hSw
                                        go_simp
                                      simp only [Act.put, List.setIfInBounds_toArray, List.set_cons_zero, List.set_cons_succ]
                                      refine wpAnyH_take (i := 15) (oi := _) (v := .agg #[.int .i64 w, .int .i64 h, .slice q nt k]) g22_15 (by kernel_rfl) (by kernel_rfl) (by kernel_rfl) (fun _ _ _ h => h) (Or.inl ⟨by rfl, ?_⟩) (by assumption) ?_
                                      · intro V hSw
                                        try dsimp only at hSw
                                        have hl := unhide Hmb V hSw
                                        go_simp
                                      simp only [Act.put, List.setIfInBounds_toArray, List.set_cons_zero, List.set_cons_succ]
                                      refine wpAnyH_take (i := 16) (oi := _) (v := .int .i64 y) g22_16 (by kernel_rfl) (by kernel_rfl) (by kernel_rfl) (fun _ _ _ h => h) (Or.inl ⟨by rfl, ?_⟩) (by assumption) ?_
                                      · intro V hSw
                                        try dsimp only at hSw
                                        go_simp
                                      simp only [Act.put, List.setIfInBounds_toArray, List.set_cons_zero, List.set_cons_succ]
                                      refine wpAnyH_take (i := 17) (oi := _) (v := .int .i64 y) g22_17 (by kernel_rfl) (by kernel_rfl) (by kernel_rfl) (fun _ _ _ h => h) (Or.inl ⟨by rfl, ?_⟩) (by assumption) ?_
                                      · intro V hSw
                                        try dsimp only at hSw
                                        go_simp
                                      simp only [Act.put, List.setIfInBounds_toArray, List.set_cons_zero, List.set_cons_succ]
                                      refine wpAnyH_take (i := 18) (oi := _) (v := .int .i64 z1) g22_18 (by kernel_rfl) (by kernel_rfl) (by kernel_rfl) (fun _ _ _ h => h) (Or.inl ⟨by rfl, ?_⟩) (by assumption) ?_
                                      · intro V hSw
                                        try dsimp only at hSw
                                        go_simp
                                      simp only [Act.put, List.setIfInBounds_toArray, List.set_cons_zero, List.set_cons_succ]
                                      refine wpAnyH_ready (rs := [19]) (by kernel_rfl) (by simp) ?_
                                      refine AllReadyH.cons (o := _) g22_19 (fun K hK => ?_) AllReadyH.nil
                                      go_simp
                                      refine (unhide HRw _ hS0).mono ?_
                                      rintro e wg ⟨rfl, hbg⟩
                                      have hSg := btrans hS0 hbg
                                      rw [unhide Hval]
                                      refine hK.out _ _ hSg (fun _ => ?_)
                                      clear hK K hbg hS0
                                      have hS0 := hSg
                                      clear hSg
                                      refine wpAnyH_take (i := 20) (oi := _) (v := .bool bA) g22_20 (by kernel_rfl) (by kernel_rfl) (by kernel_rfl) (fun _ _ _ h => h) (Or.inl ⟨by rfl, ?_⟩) (by assumption) ?_
                                      · intro V hSw
                                        try dsimp only at hSw
                                        go_simp
                                      simp only [Act.put, List.setIfInBounds_toArray, List.set_cons_zero, List.set_cons_succ]
                                      refine wpAnyH_take (i := 21) (oi := _) (v := .bool bA) g22_21 (by kernel_rfl) (by kernel_rfl) (by kernel_rfl) (fun _ _ _ h => h) (Or.inl ⟨by rfl, ?_⟩) (by assumption) ?_
                                      · intro V hSw
                                        try dsimp only at hSw
                                        go_simp
                                      simp only [Act.put, List.setIfInBounds_toArray, List.set_cons_zero, List.set_cons_succ]
                                      refine wpAnyH_done (by kernel_rfl) ?_ _
                                      refine NoPanic.normal ?_
                                      have HM4 := hide ((unhide HM3).keep hS0)
                                      clear hS0 HM3 Hat Hmb HRw Hval HHo
                                      cases bA
                                      · have Hbn := hide (show bad s.data.toList w h y a g = none by rw [unhide HBd]; rfl)
                                        obtain ⟨⟨-, -, -, o1, o2⟩, -, ⟨-, o3, o4, o5⟩, o6, -⟩ := unhide HM4
                                        have HM5 := hide ((unhide HM4).at ((e1n : Nat) : Int))
                                        have Hgo := hide (unhide HGo (unhide Hbn))
                                        have Hms1 := hide (show abN (W.heap.size + 1 + 1) _ = e1n from (unhide HM5).1.2.2.num)
                                        go_wp2
                                        clear o1 o2 o3 o4 o5 o6
                                        go_roundw
                                        case rel => exact ⟨y + t, nt, k, e1n, kf - 1, q, put g w y (rr s.data.toList (a + 1)), by omega, Hnt, unhide HM5, by omega, by omega, by omega, hide (by rw [← unhide Hgo]; exact unhide HRd), hide (fun e => by omega)⟩
                                        case measure => have h1 := unhide Hms1; have h2 := unhide Hms0; simp only [h1, h2]; omega
                                      · exact (unhide HtF a (by rw [unhide HBd]; rfl)).elim
                                    · have g3 : ¬ ((0 : Int) < (y : Int)) := by omega
                                      have g4 : decide (0 < y) = false := by simpa using hy0
                                      have Hbn := hide (show bad s.data.toList w h y a g = none by rw [unhide HBd]; unfold asA; rw [g4]; rfl)
                                      clear HAs HRg3
                                      go_wp2_with fail
                                      refine wp_region_noPanic ?_
                                      refine wp_region_held_drew (S := fun V => Below wh.heap.size wh V) (by kernel_rfl) (Below.drew (Below.refl _ _)) ?_
                                      intro hS0
                                      generalize hwc : wh.drew = wc at *
                                      clear hwc
                                      refine wpAnyH_take (i := 0) (oi := _) (v := .slice qh (nb w) ch) g22_0 (by kernel_rfl) (by kernel_rfl) (by kernel_rfl) (fun _ _ _ h => h) (Or.inl ⟨by rfl, ?_⟩) (by assumption) ?_
                                      · intro V hSw
                                        try dsimp only at hSw
                                        go_simp
                                      simp only [Act.put, List.setIfInBounds_toArray, List.set_cons_zero, List.set_cons_succ]
                                      refine wpAnyH_take (i := 1) (oi := _) (v := .string ⟨l1.toArray⟩) g22_1 (by kernel_rfl) (by kernel_rfl) (by kernel_rfl) (fun _ _ _ h => h) (Or.inl ⟨by rfl, ?_⟩) (by assumption) ?_
                                      · intro V hSw
                                        try dsimp only at hSw
                                        go_simp
                                        rw [own_str (own_keep (unhide HHo) hSw)]
                                        rfl
                                      simp only [Act.put, List.setIfInBounds_toArray, List.set_cons_zero, List.set_cons_succ]
                                      refine wpAnyH_take (i := 2) (oi := _) (v := .string s) g22_2 (by kernel_rfl) (by kernel_rfl) (by kernel_rfl) (fun _ _ _ h => h) (Or.inl ⟨by rfl, ?_⟩) (by assumption) ?_
                                      · intro V hSw
                                        try dsimp only at hSw
                                        go_simp
                                      simp only [Act.put, List.setIfInBounds_toArray, List.set_cons_zero, List.set_cons_succ]
                                      refine wpAnyH_take (i := 3) (oi := _) (v := .int .i64 a) g22_3 (by kernel_rfl) (by kernel_rfl) (by kernel_rfl) (fun _ _ _ h => h) (Or.inl ⟨by rfl, ?_⟩) (by assumption) ?_
                                      · intro V hSw
                                        try dsimp only at hSw
                                        have hl := unhide Hat V hSw
                                        go_simp
                                      simp only [Act.put, List.setIfInBounds_toArray, List.set_cons_zero, List.set_cons_succ]
                                      refine wpAnyH_take (i := 4) (oi := _) (v := .int .i64 a1) g22_4 (by kernel_rfl) (by kernel_rfl) (by kernel_rfl) (fun _ _ _ h => h) (Or.inl ⟨by rfl, ?_⟩) (by assumption) ?_
                                      · intro V hSw
                                        try dsimp only at hSw
                                        go_simp
                                      simp only [Act.put, List.setIfInBounds_toArray, List.set_cons_zero, List.set_cons_succ]
                                      refine wpAnyH_take (i := 5) (oi := _) (v := .int .i64 a) g22_5 (by kernel_rfl) (by kernel_rfl) (by kernel_rfl) (fun _ _ _ h => h) (Or.inl ⟨by rfl, ?_⟩) (by assumption) ?_
                                      · intro V hSw
                                        try dsimp only at hSw
                                        have hl := unhide Hat V hSw
                                        go_simp
                                      simp only [Act.put, List.setIfInBounds_toArray, List.set_cons_zero, List.set_cons_succ]
                                      refine wpAnyH_take (i := 6) (oi := _) (v := .int .i64 a1) g22_6 (by kernel_rfl) (by kernel_rfl) (by kernel_rfl) (fun _ _ _ h => h) (Or.inl ⟨by rfl, ?_⟩) (by assumption) ?_
                                      · intro V hSw
                                        try dsimp only at hSw
                                        go_simp
                                      simp only [Act.put, List.setIfInBounds_toArray, List.set_cons_zero, List.set_cons_succ]
                                      refine wpAnyH_take (i := 7) (oi := _) (v := .int .i64 L) g22_7 (by kernel_rfl) (by kernel_rfl) (by kernel_rfl) (fun _ _ _ h => h) (Or.inl ⟨by rfl, ?_⟩) (by assumption) ?_
                                      · intro V hSw
                                        try dsimp only at hSw
                                        go_simp
                                      simp only [Act.put, List.setIfInBounds_toArray, List.set_cons_zero, List.set_cons_succ]
                                      refine wpAnyH_take (i := 8) (oi := _) (v := .int .i64 e1n) g22_8 (by kernel_rfl) (by kernel_rfl) (by kernel_rfl) (fun _ _ _ h => h) (Or.inl ⟨by rfl, ?_⟩) (by assumption) ?_
                                      · intro V hSw
                                        try dsimp only at hSw
                                        go_simp
                                      simp only [Act.put, List.setIfInBounds_toArray, List.set_cons_zero, List.set_cons_succ]
                                      refine wpAnyH_take (i := 9) (oi := _) (v := .string ⟨l1.toArray⟩) g22_9 (by kernel_rfl) (by kernel_rfl) (by kernel_rfl) (fun _ _ _ h => h) (Or.inl ⟨by rfl, ?_⟩) (by assumption) ?_
                                      · intro V hSw
                                        try dsimp only at hSw
                                        go_simp
                                      simp only [Act.put, List.setIfInBounds_toArray, List.set_cons_zero, List.set_cons_succ]
                                      refine wpAnyH_take (i := 10) (oi := _) (v := .bool false) g22_10 (by kernel_rfl) (by kernel_rfl) (by kernel_rfl) (fun _ _ _ h => h) (Or.inl ⟨by rfl, ?_⟩) (by assumption) ?_
                                      · intro V hSw
                                        try dsimp only at hSw
                                        go_simp
                                      simp only [Act.put, List.setIfInBounds_toArray, List.set_cons_zero, List.set_cons_succ]
                                      refine wpAnyH_take (i := 11) (oi := _) (v := .bool false) g22_11 (by kernel_rfl) (by kernel_rfl) (by kernel_rfl) (fun _ _ _ h => h) (Or.inl ⟨by rfl, ?_⟩) (by assumption) ?_
                                      · intro V hSw
                                        try dsimp only at hSw
                                        go_simp
                                      simp only [Act.put, List.setIfInBounds_toArray, List.set_cons_zero, List.set_cons_succ]
                                      refine wpAnyH_take (i := 12) (oi := _) (v := .int .i64 y) g22_12 (by kernel_rfl) (by kernel_rfl) (by kernel_rfl) (fun _ _ _ h => h) (Or.inl ⟨by rfl, ?_⟩) (by assumption) ?_
                                      · intro V hSw
                                        try dsimp only at hSw
                                        go_simp
                                      simp only [Act.put, List.setIfInBounds_toArray, List.set_cons_zero, List.set_cons_succ]
                                      refine wpAnyH_take (i := 13) (oi := _) (v := .bool false) g22_13 (by kernel_rfl) (by kernel_rfl) (by kernel_rfl) (fun _ _ _ h => h) (Or.inl ⟨by rfl, ?_⟩) (by assumption) ?_
                                      · intro V hSw
                                        try dsimp only at hSw
                                        go_simp
                                      simp only [Act.put, List.setIfInBounds_toArray, List.set_cons_zero, List.set_cons_succ]
                                      refine wpAnyH_take (i := 14) (oi := _) (v := .bool false) g22_14 (by kernel_rfl) (by kernel_rfl) (by kernel_rfl) (fun _ _ _ h => h) (Or.inl ⟨by rfl, ?_⟩) (by assumption) ?_
                                      · intro V hSw
                                        try dsimp only at hSw
                                        go_simp
                                      simp only [Act.put, List.setIfInBounds_toArray, List.set_cons_zero, List.set_cons_succ]
                                      refine wpAnyH_take (i := 15) (oi := _) (v := undef) g22_15 (by kernel_rfl) (by kernel_rfl) (by kernel_rfl) (fun _ _ _ h => h) (Or.inr ⟨by rfl, rfl⟩) (by assumption) ?_
                                      simp only [Act.put, List.setIfInBounds_toArray, List.set_cons_zero, List.set_cons_succ]
                                      refine wpAnyH_take (i := 16) (oi := _) (v := undef) g22_16 (by kernel_rfl) (by kernel_rfl) (by kernel_rfl) (fun _ _ _ h => h) (Or.inr ⟨by rfl, rfl⟩) (by assumption) ?_
                                      simp only [Act.put, List.setIfInBounds_toArray, List.set_cons_zero, List.set_cons_succ]
                                      refine wpAnyH_take (i := 17) (oi := _) (v := undef) g22_17 (by kernel_rfl) (by kernel_rfl) (by kernel_rfl) (fun _ _ _ h => h) (Or.inr ⟨by rfl, rfl⟩) (by assumption) ?_
                                      simp only [Act.put, List.setIfInBounds_toArray, List.set_cons_zero, List.set_cons_succ]
                                      refine wpAnyH_take (i := 18) (oi := _) (v := undef) g22_18 (by kernel_rfl) (by kernel_rfl) (by kernel_rfl) (fun _ _ _ h => h) (Or.inr ⟨by rfl, rfl⟩) (by assumption) ?_
                                      simp only [Act.put, List.setIfInBounds_toArray, List.set_cons_zero, List.set_cons_succ]
                                      refine wpAnyH_take (i := 19) (oi := _) (v := undef) g22_19 (by kernel_rfl) (by kernel_rfl) (by kernel_rfl) (fun _ _ _ h => h) (Or.inr ⟨by rfl, rfl⟩) (by assumption) ?_
                                      simp only [Act.put, List.setIfInBounds_toArray, List.set_cons_zero, List.set_cons_succ]
                                      refine wpAnyH_take (i := 20) (oi := _) (v := .bool false) g22_20 (by kernel_rfl) (by kernel_rfl) (by kernel_rfl) (fun _ _ _ h => h) (Or.inl ⟨by rfl, ?_⟩) (by assumption) ?_
                                      · intro V hSw
                                        try dsimp only at hSw
                                        go_simp
                                      simp only [Act.put, List.setIfInBounds_toArray, List.set_cons_zero, List.set_cons_succ]
                                      refine wpAnyH_take (i := 21) (oi := _) (v := .bool false) g22_21 (by kernel_rfl) (by kernel_rfl) (by kernel_rfl) (fun _ _ _ h => h) (Or.inl ⟨by rfl, ?_⟩) (by assumption) ?_
                                      · intro V hSw
                                        try dsimp only at hSw
                                        go_simp
                                      simp only [Act.put, List.setIfInBounds_toArray, List.set_cons_zero, List.set_cons_succ]
                                      refine wpAnyH_done (by kernel_rfl) ?_ _
                                      refine NoPanic.normal ?_
                                      have HM4 := hide ((unhide HM3).keep hS0)
                                      clear hS0 HM3 Hat HHo
                                      obtain ⟨⟨-, -, -, o1, o2⟩, -, ⟨-, o3, o4, o5⟩, o6, -⟩ := unhide HM4
                                      have HM5 := hide ((unhide HM4).at ((e1n : Nat) : Int))
                                      have Hgo := hide (unhide HGo (unhide Hbn))
                                      have Hms1 := hide (show abN (W.heap.size + 1 + 1) _ = e1n from (unhide HM5).1.2.2.num)
                                      go_wp2
                                      clear o1 o2 o3 o4 o5 o6
                                      go_roundw
                                      case rel => exact ⟨y + t, nt, k, e1n, kf - 1, q, put g w y (rr s.data.toList (a + 1)), by omega, Hnt, unhide HM5, by omega, by omega, by omega, hide (by rw [← unhide Hgo]; exact unhide HRd), hide (fun e => by omega)⟩
                                      case measure => have h1 := unhide Hms1; have h2 := unhide Hms0; simp only [h1, h2]; omega
                                  · have f10 : (l1 == l2) = false := by simpa using c5
                                    exact (unhide HtF a (by rw [unhide HBd, if_pos c5])).elim
                    · have hyh : y = h := by omega
                      have Hyh := hide hyh
                      have hnM : n = Mm := by rw [unhide Hn, unhide HMm, hyh, Nat.mul_comm]
                      have q15 : ¬ ((n : Int) < (Mm : Int)) := by omega
                      have q151 : decide ((n : Int) < (Mm : Int)) = false := by simpa using q15
                      have q152 : ¬ n < Mm := by omega
                      have HRi := hide (show R = .inr (a, g) by rw [← unhide HRd, hyh]; exact rdR_done _ _ _ _ _ _)
                      clear hyh hlt hnM HRd HR
                      have Hunp2 := hide (show unp s.data.toList = fin s.data.toList a g by rw [unhide Hunp, unhide HRi]; rfl)
                      clear Hunp HRi
                      have a0 : (0 : Int) ≤ (a : Int) := by omega
                      have a6 : (a : Int) ≤ 600 := by omega
                      by_cases c1 : s.size ≤ a
                      · have e1 : (s.size : Int) ≤ (a : Int) := by omega
                        have Ht := hide (show unp s.data.toList = .inl a by rw [unhide Hunp2]; unfold fin; rw [str_len, if_pos c1])
                        have e15 := unhide E15
                        go_wp2_with fail
                        clear e15
                        go_quiet (fail)
                        have HM1 := hide ((unhide HM).keep (Joins.below_draws _ _ nq))
                        clear o1 o2 o3 o4 o5 o6 HM
                        generalize wr.drewN nq = wq at *
                        have HB := hide (bad_any (unhide HM1).1.2.2)
                        go_wp2_with fail
                        refine (unhide HB).mono ?_
                        rintro e wf ⟨rfl, hbf⟩
                        have HUf := hide ((unhide HM1).1.keep hbf)
                        clear hbf HB
                        obtain ⟨-, k1, k2, k3, k4, k5, k6, k7, k8, k9, k10⟩ := (unhide HUf).2.1
                        go_wp2
                        exact bodyPost_ret (v := wrongV a) (by simp [results, Try.results9, go_sem, k1, k2, k3, k7, k8]) rfl ⟨put5 (unhide HUf).1 (Nat.le_refl _) _ _ _ _ _, .inl ⟨_, unhide Ht, rfl⟩⟩
                      · have e1 : ¬ ((s.size : Int) ≤ (a : Int)) := by omega
                        have e11 : decide ((s.size : Int) ≤ (a : Int)) = false := by simpa using e1
                        have hl : a < s.size := by omega
                        have hla : (a : Int) < (s.size : Int) := by omega
                        have hlb : (a : Int) ≤ (s.size : Int) := by omega
                        have hby := bya_str s a hl
                        have hc := s[a].toNat_lt
                        obtain ⟨t, hxt, ht1, ht2⟩ : ∃ t, s.extract 0 a = t ∧ t.size = a ∧ t.data.toList = s.data.toList.take a := ⟨_, rfl, by rw [ByteArray.size_extract]; omega, by rw [Lib.extract_data]; simp⟩
                        have Hex := hide ht1
                        have Hed := hide ht2
                        have Hea := hide (show a ≤ 600 by omega)
                        clear ht1 ht2
                        have hbl := bl_lt (s.data.toList.take a)
                        have Hfin := hide (show fin s.data.toList a g = if s[a].toNat ≠ bl (s.data.toList.take a) then .inl a else if a + 1 < s.size then .inl (a + 1) else .inr (bya s.data.toList 3, bya s.data.toList 4, g) by
                          unfold fin; rw [str_len, if_neg c1, hby])
                        clear hby
                        generalize hmm : bl (s.data.toList.take a) = m at *
                        have HblM := hide hmm
                        clear hmm
                        obtain ⟨x, hx⟩ : ∃ x, s[a].toNat = x := ⟨_, rfl⟩
                        rw [hx] at hc Hfin
                        have Hxx := hide hx
                        by_cases c7 : x = m
                        · have e7 : ((x : Int) != (m : Int)) = false := by simp [c7]
                          rw [if_neg (by simpa using c7)] at Hfin
                          clear c7
                          have e15 := unhide E15
                          go_wp2_with fail
                          clear e15
                          have Hat := hide (show ∀ V, Below wr.heap.size wr V → V.cell? ⟨W.heap.size + 1 + 1, 0, none⟩ = some (.int .i64 a) from fun V hV => ((unhide HM).keep hV).1.2.2.2.1)
                          refine wp_region_noPanic ?_
                          refine wp_region_held_drew (S := fun V => Below wr.heap.size wr V) (by kernel_rfl) (Below.drew (Below.refl _ _)) ?_
                          intro hS0
                          generalize hwc : wr.drew = wc at *
                          clear hwc
                          refine wpAnyH_take (i := 0) (oi := _) (v := .int .i64 a) g15_0 (by kernel_rfl) (by kernel_rfl) (by kernel_rfl) (fun _ _ _ h => h) (Or.inl ⟨by rfl, ?_⟩) (by assumption) ?_
                          · intro V hSw
                            try dsimp only at hSw
                            have hl := unhide Hat V hSw
                            go_simp
                          simp only [Act.put, List.setIfInBounds_toArray, List.set_cons_zero, List.set_cons_succ]
                          refine wpAnyH_take (i := 1) (oi := _) (v := .string s) g15_1 (by kernel_rfl) (by kernel_rfl) (by kernel_rfl) (fun _ _ _ h => h) (Or.inl ⟨by rfl, ?_⟩) (by assumption) ?_
                          · intro V hSw
                            try dsimp only at hSw
                            go_simp
                          simp only [Act.put, List.setIfInBounds_toArray, List.set_cons_zero, List.set_cons_succ]
                          refine wpAnyH_take (i := 2) (oi := _) (v := .int .i64 s.size) g15_2 (by kernel_rfl) (by kernel_rfl) (by kernel_rfl) (fun _ _ _ h => h) (Or.inl ⟨by rfl, ?_⟩) (by assumption) ?_
                          · intro V hSw
                            try dsimp only at hSw
                            go_simp
                          simp only [Act.put, List.setIfInBounds_toArray, List.set_cons_zero, List.set_cons_succ]
                          refine wpAnyH_take (i := 3) (oi := _) (v := .bool false) g15_3 (by kernel_rfl) (by kernel_rfl) (by kernel_rfl) (fun _ _ _ h => h) (Or.inl ⟨by rfl, ?_⟩) (by assumption) ?_
                          · intro V hSw
                            try dsimp only at hSw
                            go_simp
                          simp only [Act.put, List.setIfInBounds_toArray, List.set_cons_zero, List.set_cons_succ]
                          refine wpAnyH_take (i := 4) (oi := _) (v := .bool false) g15_4 (by kernel_rfl) (by kernel_rfl) (by kernel_rfl) (fun _ _ _ h => h) (Or.inl ⟨by rfl, ?_⟩) (by assumption) ?_
                          · intro V hSw
                            try dsimp only at hSw
                            go_simp
                          simp only [Act.put, List.setIfInBounds_toArray, List.set_cons_zero, List.set_cons_succ]
                          refine wpAnyH_take (i := 5) (oi := _) (v := .string s) g15_5 (by kernel_rfl) (by kernel_rfl) (by kernel_rfl) (fun _ _ _ h => h) (Or.inl ⟨by rfl, ?_⟩) (by assumption) ?_
                          · intro V hSw
                            try dsimp only at hSw
                            go_simp
                          simp only [Act.put, List.setIfInBounds_toArray, List.set_cons_zero, List.set_cons_succ]
                          refine wpAnyH_take (i := 6) (oi := _) (v := .int .i64 a) g15_6 (by kernel_rfl) (by kernel_rfl) (by kernel_rfl) (fun _ _ _ h => h) (Or.inl ⟨by rfl, ?_⟩) (by assumption) ?_
                          · intro V hSw
                            try dsimp only at hSw
                            have hl := unhide Hat V hSw
                            go_simp
                          simp only [Act.put, List.setIfInBounds_toArray, List.set_cons_zero, List.set_cons_succ]
                          refine wpAnyH_take (i := 7) (oi := _) (v := .int .u8 x) g15_7 (by kernel_rfl) (by kernel_rfl) (by kernel_rfl) (fun _ _ _ h => h) (Or.inl ⟨by rfl, ?_⟩) (by assumption) ?_
                          · intro V hSw
                            try dsimp only at hSw
                            go_simp
                          simp only [Act.put, List.setIfInBounds_toArray, List.set_cons_zero, List.set_cons_succ]
                          refine wpAnyH_take (i := 8) (oi := _) (v := .string s) g15_8 (by kernel_rfl) (by kernel_rfl) (by kernel_rfl) (fun _ _ _ h => h) (Or.inl ⟨by rfl, ?_⟩) (by assumption) ?_
                          · intro V hSw
                            try dsimp only at hSw
                            go_simp
                          simp only [Act.put, List.setIfInBounds_toArray, List.set_cons_zero, List.set_cons_succ]
                          refine wpAnyH_take (i := 9) (oi := _) (v := .int .i64 a) g15_9 (by kernel_rfl) (by kernel_rfl) (by kernel_rfl) (fun _ _ _ h => h) (Or.inl ⟨by rfl, ?_⟩) (by assumption) ?_
                          · intro V hSw
                            try dsimp only at hSw
                            have hl := unhide Hat V hSw
                            go_simp
                          simp only [Act.put, List.setIfInBounds_toArray, List.set_cons_zero, List.set_cons_succ]
                          refine wpAnyH_take (i := 10) (oi := _) (v := .string t) g15_10 (by kernel_rfl) (by kernel_rfl) (by kernel_rfl) (fun _ _ _ h => h) (Or.inl ⟨by rfl, ?_⟩) (by assumption) ?_
                          · intro V hSw
                            try dsimp only at hSw
                            go_simp
                            all_goals (intro hx; omega)
                          simp only [Act.put, List.setIfInBounds_toArray, List.set_cons_zero, List.set_cons_succ]
                          refine wpAnyH_ready (rs := [11]) (by kernel_rfl) (by simp) ?_
                          refine AllReadyH.cons (o := _) g15_11 (fun K hK => ?_) AllReadyH.nil
                          go_simp
                          rw [Lib.run_convert_string_bytes wc 9 35 5 t Try.underlying9 Try.underlying35 Try.underlying5]
                          simp only [Result.andThen]
                          rw [Oper.upon_value]
                          obtain ⟨hbb, hY⟩ := bytes_row wc t
                          have hS1 := btrans hS0 hbb
                          have HCk := hide (rcheck_any (some ⟨wc.heap.size, 0, none⟩) t.size (grownCap wc t.size 0 5) t.data.toList (Lib.bytesWorld wc 5 t) (by rw [unhide Hex]; have := unhide Hea; omega) ⟨by rw [str_len], .inr ⟨_, rfl, hY.1, fun j hj => (hY.2 j hj).1⟩⟩)
                          refine hK.out _ _ hS1 (fun hS2 => ?_)
                          clear hK K hY hbb
                          generalize Lib.bytesWorld wc 5 t = wd at *
                          generalize grownCap wc t.size 0 5 = gc at *
                          generalize wc.heap.size = gb at *
                          clear hS0 hS2
                          have hS0 := hS1
                          clear hS1
                          rw [unhide Hed, unhide HblM] at HCk
                          refine wpAnyH_ready (rs := [12]) (by kernel_rfl) (by simp) ?_
                          refine AllReadyH.cons (o := _) g15_12 (fun K hK => ?_) AllReadyH.nil
                          go_simp
                          refine (unhide HCk).mono ?_
                          rintro e we ⟨rfl, hq⟩
                          replace hq := hq.symm
                          subst hq
                          refine hK.out _ _ hS0 (fun _ => ?_)
                          clear hK K HCk
                          refine wpAnyH_take (i := 13) (oi := _) (v := .bool false) g15_13 (by kernel_rfl) (by kernel_rfl) (by kernel_rfl) (fun _ _ _ h => h) (Or.inl ⟨by rfl, ?_⟩) (by assumption) ?_
                          · intro V hSw
                            try dsimp only at hSw
                            go_simp
                          simp only [Act.put, List.setIfInBounds_toArray, List.set_cons_zero, List.set_cons_succ]
                          refine wpAnyH_take (i := 14) (oi := _) (v := .bool false) g15_14 (by kernel_rfl) (by kernel_rfl) (by kernel_rfl) (fun _ _ _ h => h) (Or.inl ⟨by rfl, ?_⟩) (by assumption) ?_
                          · intro V hSw
                            try dsimp only at hSw
                            go_simp
                          simp only [Act.put, List.setIfInBounds_toArray, List.set_cons_zero, List.set_cons_succ]
                          refine wpAnyH_done (by kernel_rfl) ?_ _
                          refine NoPanic.normal ?_
                          have HM1 := hide ((unhide HM).keep hS0)
                          clear hS0 o1 o2 o3 o4 o5 o6 HM Hat
                          obtain ⟨⟨-, -, -, o1, o2⟩, -, ⟨-, o3, o4, o5⟩, o6, -⟩ := unhide HM1
                          have e9 : ¬ ((x : Int) = (m : Int)) → False := fun _ => by simp at e7; omega
                          clear e9
                          by_cases c8 : a + 1 < s.size
                          · have e8 : (a : Int) + 1 < (s.size : Int) := by omega
                            have Ht := hide (show unp s.data.toList = .inl (a + 1) by rw [unhide Hunp2, unhide Hfin, if_pos c8])
                            have HM2 := hide ((unhide HM1).at ((a : Int) + 1))
                            go_wp2_with fail
                            clear o1 o2 o3 o4 o5 o6
                            have HB := hide (bad_any (unhide HM2).1.2.2)
                            go_wp2_with fail
                            refine (unhide HB).mono ?_
                            rintro e wf ⟨rfl, hbf⟩
                            have HUf := hide ((unhide HM2).1.keep hbf)
                            clear hbf HB
                            obtain ⟨-, k1, k2, k3, k4, k5, k6, k7, k8, k9, k10⟩ := (unhide HUf).2.1
                            go_wp2
                            exact bodyPost_ret (v := wrongV ((a + 1 : Nat) : Int)) (by simp [results, Try.results9, go_sem, k1, k2, k3, k7, k8]) rfl ⟨put5 (unhide HUf).1 (Nat.le_refl _) _ _ _ _ _, .inl ⟨_, unhide Ht, rfl⟩⟩
                          · have e8 : ¬ ((a : Int) + 1 < (s.size : Int)) := by omega
                            have Ht := hide (show unp s.data.toList = .inr (w, h, g) by rw [unhide Hunp2, unhide Hfin, if_neg c8, (unhide H34).1, (unhide H34).2])
                            have HM2 := hide ((unhide HM1).at ((a : Int) + 1))
                            obtain ⟨-, k1, k2, k3, k4, k5, k6, k7, k8, k9, k10⟩ := (unhide HM1).1.2.1
                            have Hnwh := hide (show n = w * h by rw [unhide Hn, unhide Hyh, Nat.mul_comm])
                            have hne1 : ¬ (W.heap.size + 1 + 1 = M0) := by have := (unhide HM1).2.1; omega
                            have hne2 : ¬ (M0 = W.heap.size + 1 + 1) := by omega
                            go_wp2
                            refine bodyPost_ret (v := .tuple #[tr w h q n k, .agg #[.int .i64 0, .int .i64 0]]) (by simp [results, Try.results9, go_sem, k1, k2, k3, k7, k8]) rfl ⟨put5 (unhide HM2).1.1 (Nat.le_refl _) _ _ _ _ _, .inr ⟨w, h, g, q, k, unhide Ht, by rw [unhide Hnwh], hbw, hbh, rfl, ?_⟩⟩
                            rw [← unhide Hnwh]
                            have n1 : Off q n W.heap.size := (unhide HM1).off (by omega)
                            have n2 : Off q n (W.heap.size + 1) := (unhide HM1).off (by omega)
                            refine Bs.grown ?_ (gset (gset (World.grownBy.refl _ _) _ _) _ _) n2
                            exact (unhide HM2).bs.grown (gset (gset (gset (World.grownBy.refl _ _) _ _) _ _) _ _) n1
                        · have e7 : ((x : Int) != (m : Int)) = true := by simp; omega
                          rw [if_pos c7] at Hfin
                          have Ht := hide (show unp s.data.toList = .inl a by rw [unhide Hunp2, unhide Hfin])
                          clear c7
                          have e15 := unhide E15
                          go_wp2_with fail
                          clear e15
                          have Hat := hide (show ∀ V, Below wr.heap.size wr V → V.cell? ⟨W.heap.size + 1 + 1, 0, none⟩ = some (.int .i64 a) from fun V hV => ((unhide HM).keep hV).1.2.2.2.1)
                          refine wp_region_noPanic ?_
                          refine wp_region_held_drew (S := fun V => Below wr.heap.size wr V) (by kernel_rfl) (Below.drew (Below.refl _ _)) ?_
                          intro hS0
                          generalize hwc : wr.drew = wc at *
                          clear hwc
                          refine wpAnyH_take (i := 0) (oi := _) (v := .int .i64 a) g15_0 (by kernel_rfl) (by kernel_rfl) (by kernel_rfl) (fun _ _ _ h => h) (Or.inl ⟨by rfl, ?_⟩) (by assumption) ?_
                          · intro V hSw
                            try dsimp only at hSw
                            have hl := unhide Hat V hSw
                            go_simp
                          simp only [Act.put, List.setIfInBounds_toArray, List.set_cons_zero, List.set_cons_succ]
                          refine wpAnyH_take (i := 1) (oi := _) (v := .string s) g15_1 (by kernel_rfl) (by kernel_rfl) (by kernel_rfl) (fun _ _ _ h => h) (Or.inl ⟨by rfl, ?_⟩) (by assumption) ?_
                          · intro V hSw
                            try dsimp only at hSw
                            go_simp
                          simp only [Act.put, List.setIfInBounds_toArray, List.set_cons_zero, List.set_cons_succ]
                          refine wpAnyH_take (i := 2) (oi := _) (v := .int .i64 s.size) g15_2 (by kernel_rfl) (by kernel_rfl) (by kernel_rfl) (fun _ _ _ h => h) (Or.inl ⟨by rfl, ?_⟩) (by assumption) ?_
                          · intro V hSw
                            try dsimp only at hSw
                            go_simp
                          simp only [Act.put, List.setIfInBounds_toArray, List.set_cons_zero, List.set_cons_succ]
                          refine wpAnyH_take (i := 3) (oi := _) (v := .bool false) g15_3 (by kernel_rfl) (by kernel_rfl) (by kernel_rfl) (fun _ _ _ h => h) (Or.inl ⟨by rfl, ?_⟩) (by assumption) ?_
                          · intro V hSw
                            try dsimp only at hSw
                            go_simp
                          simp only [Act.put, List.setIfInBounds_toArray, List.set_cons_zero, List.set_cons_succ]
                          refine wpAnyH_take (i := 4) (oi := _) (v := .bool false) g15_4 (by kernel_rfl) (by kernel_rfl) (by kernel_rfl) (fun _ _ _ h => h) (Or.inl ⟨by rfl, ?_⟩) (by assumption) ?_
                          · intro V hSw
                            try dsimp only at hSw
                            go_simp
                          simp only [Act.put, List.setIfInBounds_toArray, List.set_cons_zero, List.set_cons_succ]
                          refine wpAnyH_take (i := 5) (oi := _) (v := .string s) g15_5 (by kernel_rfl) (by kernel_rfl) (by kernel_rfl) (fun _ _ _ h => h) (Or.inl ⟨by rfl, ?_⟩) (by assumption) ?_
                          · intro V hSw
                            try dsimp only at hSw
                            go_simp
                          simp only [Act.put, List.setIfInBounds_toArray, List.set_cons_zero, List.set_cons_succ]
                          refine wpAnyH_take (i := 6) (oi := _) (v := .int .i64 a) g15_6 (by kernel_rfl) (by kernel_rfl) (by kernel_rfl) (fun _ _ _ h => h) (Or.inl ⟨by rfl, ?_⟩) (by assumption) ?_
                          · intro V hSw
                            try dsimp only at hSw
                            have hl := unhide Hat V hSw
                            go_simp
                          simp only [Act.put, List.setIfInBounds_toArray, List.set_cons_zero, List.set_cons_succ]
                          refine wpAnyH_take (i := 7) (oi := _) (v := .int .u8 x) g15_7 (by kernel_rfl) (by kernel_rfl) (by kernel_rfl) (fun _ _ _ h => h) (Or.inl ⟨by rfl, ?_⟩) (by assumption) ?_
                          · intro V hSw
                            try dsimp only at hSw
                            go_simp
                          simp only [Act.put, List.setIfInBounds_toArray, List.set_cons_zero, List.set_cons_succ]
                          refine wpAnyH_take (i := 8) (oi := _) (v := .string s) g15_8 (by kernel_rfl) (by kernel_rfl) (by kernel_rfl) (fun _ _ _ h => h) (Or.inl ⟨by rfl, ?_⟩) (by assumption) ?_
                          · intro V hSw
                            try dsimp only at hSw
                            go_simp
                          simp only [Act.put, List.setIfInBounds_toArray, List.set_cons_zero, List.set_cons_succ]
                          refine wpAnyH_take (i := 9) (oi := _) (v := .int .i64 a) g15_9 (by kernel_rfl) (by kernel_rfl) (by kernel_rfl) (fun _ _ _ h => h) (Or.inl ⟨by rfl, ?_⟩) (by assumption) ?_
                          · intro V hSw
                            try dsimp only at hSw
                            have hl := unhide Hat V hSw
                            go_simp
                          simp only [Act.put, List.setIfInBounds_toArray, List.set_cons_zero, List.set_cons_succ]
                          refine wpAnyH_take (i := 10) (oi := _) (v := .string t) g15_10 (by kernel_rfl) (by kernel_rfl) (by kernel_rfl) (fun _ _ _ h => h) (Or.inl ⟨by rfl, ?_⟩) (by assumption) ?_
                          · intro V hSw
                            try dsimp only at hSw
                            go_simp
                            all_goals (intro hx; omega)
                          simp only [Act.put, List.setIfInBounds_toArray, List.set_cons_zero, List.set_cons_succ]
                          refine wpAnyH_ready (rs := [11]) (by kernel_rfl) (by simp) ?_
                          refine AllReadyH.cons (o := _) g15_11 (fun K hK => ?_) AllReadyH.nil
                          go_simp
                          rw [Lib.run_convert_string_bytes wc 9 35 5 t Try.underlying9 Try.underlying35 Try.underlying5]
                          simp only [Result.andThen]
                          rw [Oper.upon_value]
                          obtain ⟨hbb, hY⟩ := bytes_row wc t
                          have hS1 := btrans hS0 hbb
                          have HCk := hide (rcheck_any (some ⟨wc.heap.size, 0, none⟩) t.size (grownCap wc t.size 0 5) t.data.toList (Lib.bytesWorld wc 5 t) (by rw [unhide Hex]; have := unhide Hea; omega) ⟨by rw [str_len], .inr ⟨_, rfl, hY.1, fun j hj => (hY.2 j hj).1⟩⟩)
                          refine hK.out _ _ hS1 (fun hS2 => ?_)
                          clear hK K hY hbb
                          generalize Lib.bytesWorld wc 5 t = wd at *
                          generalize grownCap wc t.size 0 5 = gc at *
                          generalize wc.heap.size = gb at *
                          clear hS0 hS2
                          have hS0 := hS1
                          clear hS1
                          rw [unhide Hed, unhide HblM] at HCk
                          refine wpAnyH_ready (rs := [12]) (by kernel_rfl) (by simp) ?_
                          refine AllReadyH.cons (o := _) g15_12 (fun K hK => ?_) AllReadyH.nil
                          go_simp
                          refine (unhide HCk).mono ?_
                          rintro e we ⟨rfl, hq⟩
                          replace hq := hq.symm
                          subst hq
                          refine hK.out _ _ hS0 (fun _ => ?_)
                          clear hK K HCk
                          refine wpAnyH_take (i := 13) (oi := _) (v := .bool true) g15_13 (by kernel_rfl) (by kernel_rfl) (by kernel_rfl) (fun _ _ _ h => h) (Or.inl ⟨by rfl, ?_⟩) (by assumption) ?_
                          · intro V hSw
                            try dsimp only at hSw
                            go_simp
                          simp only [Act.put, List.setIfInBounds_toArray, List.set_cons_zero, List.set_cons_succ]
                          refine wpAnyH_take (i := 14) (oi := _) (v := .bool true) g15_14 (by kernel_rfl) (by kernel_rfl) (by kernel_rfl) (fun _ _ _ h => h) (Or.inl ⟨by rfl, ?_⟩) (by assumption) ?_
                          · intro V hSw
                            try dsimp only at hSw
                            go_simp
                          simp only [Act.put, List.setIfInBounds_toArray, List.set_cons_zero, List.set_cons_succ]
                          refine wpAnyH_done (by kernel_rfl) ?_ _
                          refine NoPanic.normal ?_
                          have HM1 := hide ((unhide HM).keep hS0)
                          clear hS0 o1 o2 o3 o4 o5 o6 HM Hat
                          have HB := hide (bad_any (unhide HM1).1.2.2)
                          go_wp2_with fail
                          refine (unhide HB).mono ?_
                          rintro e wf ⟨rfl, hbf⟩
                          have HUf := hide ((unhide HM1).1.keep hbf)
                          clear hbf HB
                          obtain ⟨-, k1, k2, k3, k4, k5, k6, k7, k8, k9, k10⟩ := (unhide HUf).2.1
                          go_wp2
                          exact bodyPost_ret (v := wrongV a) (by simp [results, Try.results9, go_sem, k1, k2, k3, k7, k8]) rfl ⟨put5 (unhide HUf).1 (Nat.le_refl _) _ _ _ _ _, .inl ⟨_, unhide Ht, rfl⟩⟩
end Go.Proofs.Ytkjicpbnkehimaa
