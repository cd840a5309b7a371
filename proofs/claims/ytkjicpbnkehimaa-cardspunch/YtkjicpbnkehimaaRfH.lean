/-
  What the document's Unpack answers.
-/
import Derived.Test.YtkjicpbnkehimaaRfE
namespace Go.Proofs.Ytkjicpbnkehimaa
open Go.RowKit

set_option maxRecDepth 100000 in
set_option maxHeartbeats 8000000 in
theorem runpack_flat (s : ByteArray) (hm : s.size ≤ maxLen) (W : World) (hx : hd s.data.toList = none) (hx2 : True) (hx3 : bya s.data.toList 3 = 0 ∧ 0 < bya s.data.toList 4) : Calls Try.prog 9 #[.string s] W (UnpPost W s) := by
  have H0 := hide (show HdU W s 0 (((W.alloc (.cells #[.int .i64 0, .int .i64 0, .slice none 0 0] 24)).alloc (.cells #[.int .i64 0, .int .i64 0] 29)).alloc (.cells #[.int .i64 0] 3)) from ⟨⟨bal (bal (bal (Below.refl _ _))), ⟨by simp, by simp [go_sem], by simp [go_sem], by simp [go_sem], by simp [go_sem], by simp [go_sem], by simp [go_sem], by simp [go_sem], by simp [go_sem], by simp [go_sem], by simp [go_sem]⟩, by simp, by simp [go_sem], by simp [go_sem]⟩, Nat.zero_le _, fun j hj => by omega⟩)
  obtain ⟨i4, hi4, inf0, inf1, inf2⟩ := info_parts info4
  have Hm := hide hm
  have Hhd := hide hx
  have HX2 := hide hx2
  have HX3 := hide hx3
  clear hx hx2 hx3
  unfold maxLen at hm
  go_enter Try.func9, Try.ntmps9
  go_wp2
  generalize ((W.alloc (.cells #[.int .i64 0, .int .i64 0, .slice none 0 0] 24)).alloc (.cells #[.int .i64 0, .int .i64 0] 29)).alloc (.cells #[.int .i64 0] 3) = w0 at *
  go_loopw [16] (fun _ wr => HdU W s 0 wr ∨ HdU W s 1 wr ∨ HdU W s 2 wr ∨ HdU W s 3 wr) (fun _ wr => 3 - abN (W.heap.size + 1 + 1) wr)
  case atStart => exact .inl (unhide H0)
  case round =>
    clear H0
    rcases hrel with h | h | h | h
    · have HU := hide h.1
      have Hh := hide h
      have Hm0 := hide (show abN (W.heap.size + 1 + 1) wr = 0 from h.1.2.2.num)
      clear h
      obtain ⟨-, o1, o2⟩ := (unhide HU).2.2
      by_cases c1 : s.size ≤ 0
      · have e1 : (s.size : Int) ≤ 0 := by omega
        have hs0 : s.size = 0 := by omega
        exact absurd ((hd_none _).1 (unhide Hhd) 0 (by omega)) (by rw [okc_short _ _ (by rw [str_len]; exact c1)]; simp)
      · have e1 : ¬ ((s.size : Int) ≤ 0) := by omega
        have e11 : decide ((s.size : Int) ≤ 0) = false := by simpa using e1
        have hs0 : ¬ s.size = 0 := by omega
        have hs01 : decide (s.size = 0) = false := by simpa using hs0
        have hl : 0 < s.size := by omega
        have hby := bya_str s 0 hl
        have hc := s[0].toNat_lt
        by_cases c2 : s[0].toNat = 74
        · have e2 : ((s[0].toNat : Int) != (({ data := #[74, 81, 49] } : ByteArray)[0].toNat : Int)) = false := by rw [c2]; rfl
          have HUn := hide (fun V (hV : Uq W V 0) => (unhide Hh).next (V := V) hV (okc_lo _ _ (by omega) (by rw [str_len]; exact hl) (by rw [hby, c2]; rfl)))
          clear hby c2 Hh
          go_wp2_with fail
          go_quiet (fail)
          have HU1 := hide ((unhide HU).keep (Joins.below_draws _ _ nq))
          clear o1 o2 HU
          generalize wr.drewN nq = wq at *
          obtain ⟨-, o1, o2⟩ := (unhide HU1).2.2
          go_wp2
          have HUp := hide (unhide HUn _ (unhide HU1) (by show 0 + 1 ≤ s.size; omega))
          have Hms := hide (show abN (W.heap.size + 1 + 1) (wq.setCell ⟨W.heap.size + 1 + 1, 0, none⟩ (.int .i64 1)) = 1 from (unhide HUp).1.2.2.num)
          go_roundw
          case rel => exact .inr (.inl (unhide HUp))
          case measure => have h1 := unhide Hms; have h2 := unhide Hm0; simp only [h1, h2]; omega
        · have e2 : ((s[0].toNat : Int) != (({ data := #[74, 81, 49] } : ByteArray)[0].toNat : Int)) = true := by
            have hk : (({ data := #[74, 81, 49] } : ByteArray)[0].toNat : Int) = 74 := rfl
            rw [hk]; simp; omega
          exact absurd ((hd_none _).1 (unhide Hhd) 0 (by omega)) (by rw [okc_lo_no _ _ (by omega) (by rw [hby]; exact c2)]; simp)
    · have HU := hide h.1
      have Hh := hide h
      have Hm0 := hide (show abN (W.heap.size + 1 + 1) wr = 1 from h.1.2.2.num)
      clear h
      obtain ⟨-, o1, o2⟩ := (unhide HU).2.2
      by_cases c1 : s.size ≤ 1
      · have e1 : (s.size : Int) ≤ 1 := by omega
        exact absurd ((hd_none _).1 (unhide Hhd) 1 (by omega)) (by rw [okc_short _ _ (by rw [str_len]; exact c1)]; simp)
      · have e1 : ¬ ((s.size : Int) ≤ 1) := by omega
        have e11 : decide ((s.size : Int) ≤ 1) = false := by simpa using e1
        have hl : 1 < s.size := by omega
        have hby := bya_str s 1 hl
        have hc := s[1].toNat_lt
        by_cases c2 : s[1].toNat = 81
        · have e2 : ((s[1].toNat : Int) != (({ data := #[74, 81, 49] } : ByteArray)[1].toNat : Int)) = false := by rw [c2]; rfl
          have HUn := hide (fun V (hV : Uq W V 1) => (unhide Hh).next (V := V) hV (okc_lo _ _ (by omega) (by rw [str_len]; exact hl) (by rw [hby, c2]; rfl)))
          clear hby c2 Hh
          go_wp2_with fail
          go_quiet (fail)
          have HU1 := hide ((unhide HU).keep (Joins.below_draws _ _ nq))
          clear o1 o2 HU
          generalize wr.drewN nq = wq at *
          obtain ⟨-, o1, o2⟩ := (unhide HU1).2.2
          go_wp2
          have HUp := hide (unhide HUn _ (unhide HU1) (by show 1 + 1 ≤ s.size; omega))
          have Hms := hide (show abN (W.heap.size + 1 + 1) (wq.setCell ⟨W.heap.size + 1 + 1, 0, none⟩ (.int .i64 2)) = 2 from (unhide HUp).1.2.2.num)
          go_roundw
          case rel => exact .inr (.inr (.inl (unhide HUp)))
          case measure => have h1 := unhide Hms; have h2 := unhide Hm0; simp only [h1, h2]; omega
        · have e2 : ((s[1].toNat : Int) != (({ data := #[74, 81, 49] } : ByteArray)[1].toNat : Int)) = true := by
            have hk : (({ data := #[74, 81, 49] } : ByteArray)[1].toNat : Int) = 81 := rfl
            rw [hk]; simp; omega
          exact absurd ((hd_none _).1 (unhide Hhd) 1 (by omega)) (by rw [okc_lo_no _ _ (by omega) (by rw [hby]; exact c2)]; simp)
    · have HU := hide h.1
      have Hh := hide h
      have Hm0 := hide (show abN (W.heap.size + 1 + 1) wr = 2 from h.1.2.2.num)
      clear h
      obtain ⟨-, o1, o2⟩ := (unhide HU).2.2
      by_cases c1 : s.size ≤ 2
      · have e1 : (s.size : Int) ≤ 2 := by omega
        exact absurd ((hd_none _).1 (unhide Hhd) 2 (by omega)) (by rw [okc_short _ _ (by rw [str_len]; exact c1)]; simp)
      · have e1 : ¬ ((s.size : Int) ≤ 2) := by omega
        have e11 : decide ((s.size : Int) ≤ 2) = false := by simpa using e1
        have hl : 2 < s.size := by omega
        have hby := bya_str s 2 hl
        have hc := s[2].toNat_lt
        by_cases c2 : s[2].toNat = 49
        · have e2 : ((s[2].toNat : Int) != (({ data := #[74, 81, 49] } : ByteArray)[2].toNat : Int)) = false := by rw [c2]; rfl
          have HUn := hide (fun V (hV : Uq W V 2) => (unhide Hh).next (V := V) hV (okc_lo _ _ (by omega) (by rw [str_len]; exact hl) (by rw [hby, c2]; rfl)))
          clear hby c2 Hh
          go_wp2_with fail
          go_quiet (fail)
          have HU1 := hide ((unhide HU).keep (Joins.below_draws _ _ nq))
          clear o1 o2 HU
          generalize wr.drewN nq = wq at *
          obtain ⟨-, o1, o2⟩ := (unhide HU1).2.2
          go_wp2
          have HUp := hide (unhide HUn _ (unhide HU1) (by show 2 + 1 ≤ s.size; omega))
          have Hms := hide (show abN (W.heap.size + 1 + 1) (wq.setCell ⟨W.heap.size + 1 + 1, 0, none⟩ (.int .i64 3)) = 3 from (unhide HUp).1.2.2.num)
          go_roundw
          case rel => exact .inr (.inr (.inr (unhide HUp)))
          case measure => have h1 := unhide Hms; have h2 := unhide Hm0; simp only [h1, h2]; omega
        · have e2 : ((s[2].toNat : Int) != (({ data := #[74, 81, 49] } : ByteArray)[2].toNat : Int)) = true := by
            have hk : (({ data := #[74, 81, 49] } : ByteArray)[2].toNat : Int) = 49 := rfl
            rw [hk]; simp; omega
          exact absurd ((hd_none _).1 (unhide Hhd) 2 (by omega)) (by rw [okc_lo_no _ _ (by omega) (by rw [hby]; exact c2)]; simp)
    · have H3 := hide h
      obtain ⟨-, o1, o2⟩ := h.1.2.2
      clear h
      go_wp2
      clear o1 o2
      go_loopw [36] (fun _ wr => HdU W s 3 wr ∨ HdU W s 4 wr ∨ HdU W s 5 wr) (fun _ wr => 5 - abN (W.heap.size + 1 + 1) wr)
      case atStart => exact .inl (unhide H3)
      case round =>
        clear H3
        rcases hrel with h | h | h
        · have HU := hide h.1
          have Hh := hide h
          have Hm0 := hide (show abN (W.heap.size + 1 + 1) wr = 3 from h.1.2.2.num)
          clear h
          obtain ⟨-, o1, o2⟩ := (unhide HU).2.2
          by_cases c1 : s.size ≤ 3
          · have e1 : (s.size : Int) ≤ 3 := by omega
            exact absurd ((hd_none _).1 (unhide Hhd) 3 (by omega)) (by rw [okc_short _ _ (by rw [str_len]; exact c1)]; simp)
          · have e1 : ¬ ((s.size : Int) ≤ 3) := by omega
            have e11 : decide ((s.size : Int) ≤ 3) = false := by simpa using e1
            have hl : 3 < s.size := by omega
            have hby := bya_str s 3 hl
            have hc := s[3].toNat_lt
            by_cases c2 : s[3].toNat ≤ 64
            · have e2 : ¬ ((64 : Int) < (s[3].toNat : Int)) := by omega
              have e21 : decide ((64 : Int) < (s[3].toNat : Int)) = false := by simpa using e2
              have HUn := hide (fun V (hV : Uq W V 3) => (unhide Hh).next (V := V) hV (okc_hi _ _ (by omega) (by rw [str_len]; exact hl) (by rw [hby]; exact c2)))
              clear hby c2 Hh
              go_wp2
              have HUp := hide (unhide HUn _ (unhide HU) (by show 3 + 1 ≤ s.size; omega))
              have Hms := hide (show abN (W.heap.size + 1 + 1) (wr.setCell ⟨W.heap.size + 1 + 1, 0, none⟩ (.int .i64 4)) = 4 from (unhide HUp).1.2.2.num)
              go_roundw
              case rel => exact .inr (.inl (unhide HUp))
              case measure => have h1 := unhide Hms; have h2 := unhide Hm0; simp only [h1, h2]; omega
            · have e2 : (64 : Int) < (s[3].toNat : Int) := by omega
              exact absurd ((hd_none _).1 (unhide Hhd) 3 (by omega)) (by rw [okc_hi_no _ _ (by omega) (by rw [hby]; exact c2)]; simp)
        · have HU := hide h.1
          have Hh := hide h
          have Hm0 := hide (show abN (W.heap.size + 1 + 1) wr = 4 from h.1.2.2.num)
          clear h
          obtain ⟨-, o1, o2⟩ := (unhide HU).2.2
          by_cases c1 : s.size ≤ 4
          · have e1 : (s.size : Int) ≤ 4 := by omega
            exact absurd ((hd_none _).1 (unhide Hhd) 4 (by omega)) (by rw [okc_short _ _ (by rw [str_len]; exact c1)]; simp)
          · have e1 : ¬ ((s.size : Int) ≤ 4) := by omega
            have e11 : decide ((s.size : Int) ≤ 4) = false := by simpa using e1
            have hl : 4 < s.size := by omega
            have hby := bya_str s 4 hl
            have hc := s[4].toNat_lt
            by_cases c2 : s[4].toNat ≤ 64
            · have e2 : ¬ ((64 : Int) < (s[4].toNat : Int)) := by omega
              have e21 : decide ((64 : Int) < (s[4].toNat : Int)) = false := by simpa using e2
              have HUn := hide (fun V (hV : Uq W V 4) => (unhide Hh).next (V := V) hV (okc_hi _ _ (by omega) (by rw [str_len]; exact hl) (by rw [hby]; exact c2)))
              clear hby c2 Hh
              go_wp2
              have HUp := hide (unhide HUn _ (unhide HU) (by show 4 + 1 ≤ s.size; omega))
              have Hms := hide (show abN (W.heap.size + 1 + 1) (wr.setCell ⟨W.heap.size + 1 + 1, 0, none⟩ (.int .i64 5)) = 5 from (unhide HUp).1.2.2.num)
              go_roundw
              case rel => exact .inr (.inr (unhide HUp))
              case measure => have h1 := unhide Hms; have h2 := unhide Hm0; simp only [h1, h2]; omega
            · have e2 : (64 : Int) < (s[4].toNat : Int) := by omega
              exact absurd ((hd_none _).1 (unhide Hhd) 4 (by omega)) (by rw [okc_hi_no _ _ (by omega) (by rw [hby]; exact c2)]; simp)
        · have HU := hide h.1
          have h5 := h.2.1
          obtain ⟨-, -, b3, b4⟩ := take5 s.data.toList h.2.2
          have Hunp := hide (show unp s.data.toList = tl s.data.toList (rdR s.data.toList (bya s.data.toList 3) (bya s.data.toList 4) 64 0 5 (fun _ => false)) by unfold unp; rw [(hd_none _).2 h.2.2])
          have hb3 := bya_str s 3 (by omega)
          have hb4 := bya_str s 4 (by omega)
          have H34 := hide (And.intro hb3 hb4)
          rw [hb3, hb4] at Hunp HX3
          rw [hb3] at b3
          rw [hb4] at b4
          clear h hb3 hb4
          obtain ⟨-, o1, o2⟩ := (unhide HU).2.2
          have g3 : 3 < s.size := by omega
          have g4 : 4 < s.size := by omega
          have g3i : (3 : Int) < (s.size : Int) := by omega
          have g4i : (4 : Int) < (s.size : Int) := by omega
          have HMq0 := hide (show Mq W (wr.alloc (.cells #[.int .i64 (s[3].toNat : Int), .int .i64 (s[4].toNat : Int), .slice none 0 0] 24)).drew wr.heap.size s[3].toNat s[4].toNat none 0 0 (fun _ => false) 5 from ⟨((unhide HU).keep (bal (Below.refl _ _))).keep (Below.drew (Below.refl _ _)), (unhide HU).2.2.1, (OwnM.new wr _ _ none 0 0 24).keep (Below.drew (Below.refl _ _)), by simp [go_sem], World.ownsRow_nil _ _ _ _⟩)
          have H30 := hide (And.intro b3 b4)
          go_wp2_with fail
          go_region
          all_goals
            generalize hvv : (wr.alloc (.cells #[.int .i64 (s[3].toNat : Int), .int .i64 (s[4].toNat : Int), .slice none 0 0] 24)).drew = V1 at *
            clear hvv
            generalize hmm : wr.heap.size = M0 at *
            clear hmm
            clear o1 o2 HU
            have hbw := b3
            have hbh := b4
            clear b3 b4 H30
            generalize s[3].toNat = w at *
            generalize s[4].toNat = h at *
            clear g3i g4i
            obtain ⟨⟨-, -, -, o1, o2⟩, -, ⟨-, o3, o4, o5⟩, o6, -⟩ := unhide HMq0
            go_wp2
            go_loopw [7] (fun v wx => ∃ L : Nat, L ≤ nb w ∧ v = .int .i64 L ∧ wx = V1) (fun v _ => 64 - (intOf v).toNat)
            case atStart => exact ⟨0, Nat.zero_le _, rfl, rfl⟩
            case round =>
              obtain ⟨L, hL, rfl, hwx⟩ := hrel
              replace hwx := hwx.symm
              subst hwx
              have hN8 : nb w ≤ 8 := by unfold nb; omega
              by_cases hl8 : L * 8 < w
              · have e8 : (L : Int) * 8 < (w : Int) := by omega
                have hL2 : L + 1 ≤ nb w := by unfold nb; omega
                have q8 : (L : Int) ≤ 8 := by omega
                go_wp2
                go_roundw
                case rel => exact ⟨L + 1, hL2, by go_num, by first | rfl | trivial⟩
                case measure => simp [intOf]; omega
              · have e8 : ¬ ((L : Int) * 8 < (w : Int)) := by omega
                have HL := hide (show nb w = L by unfold nb at hL ⊢; omega)
                have q8 : (L : Int) ≤ 8 := by omega
                go_wp2
                clear o1 o2 o3 o4 o5 o6 hN8 hL hl8 e8
                obtain ⟨R, hR⟩ : ∃ R, rdR s.data.toList w h 64 0 5 (fun _ => false) = R := ⟨_, rfl⟩
                have HR := hide hR
                rw [hR] at Hunp
                clear hR
                go_loopw [68] (fun _ wr => ∃ (y n k a kf : Nat) (q : Option Addr) (g : Nat → Bool), y ≤ h ∧ Hid (n = y * w) ∧ Mq W wr M0 w h q n k g a ∧ a ≤ s.size ∧ a ≤ 5 + 9 * y ∧ h - y ≤ kf ∧ Hid (rdR s.data.toList w h kf y a g = R) ∧ Hid (w = 0 → y = 0 ∧ a = 5 ∧ q = none ∧ n = 0 ∧ k = 0)) (fun _ wr => 700 - abN (W.heap.size + 1 + 1) wr)
                case atStart => exact ⟨0, 0, 0, 5, 64, none, fun _ => false, Nat.zero_le _, hide (by simp), unhide HMq0, h5, by omega, by omega, HR, fun _ => ⟨rfl, rfl, rfl, rfl, rfl⟩⟩
                case round =>
                  clear HMq0
                  obtain ⟨y, n, k, a, kf, q, g, hy, Hn, hMq, ha, ha9, hkf, HRd, Hw0⟩ := hrel
                  have HM := hide hMq
                  have Hms0 := hide (show abN (W.heap.size + 1 + 1) wr = a from hMq.1.2.2.num)
                  clear hMq
                  obtain ⟨⟨-, -, -, o1, o2⟩, -, ⟨-, o3, o4, o5⟩, o6, -⟩ := unhide HM
                  have hMm4 : w * h ≤ 4096 := Nat.mul_le_mul hbw hbh
                  obtain ⟨Mm, hMm⟩ : ∃ Mm, Mm = w * h := ⟨_, rfl⟩
                  rw [← hMm] at hMm4
                  have E15 := hide (show wrap64 ((w : Int) * (h : Int)) = (Mm : Int) by
                    rw [hMm, ← Int.natCast_mul]
                    exact Go.IntWalk.wrap64_in _ (by omega))
                  have HMm := hide hMm
                  clear hMm
                  by_cases hwz : w = 0
                  · have hwe : ((w : Int) == 0) = true := by simp [hwz]
                    have hwe2 : (w == 0) = true := by simp [hwz]
                    have Hwz := hide hwz
                    have hM0 : Mm = 0 := by rw [unhide HMm, hwz]; simp
                    by_cases hhz : 0 < h
                    · skip
                      obtain ⟨rfl, rfl, rfl, rfl, rfl⟩ := unhide Hw0 hwz
                      subst hM0
                      clear hwz Hw0
                      have q1 : (0 : Int) < (h : Int) := by omega
                      have HF := hide (show Calls Try.prog 30 #[.string s, .int .i64 5, tr w h none 0 0] wr (FlatPost wr s h) by
                        rw [unhide Hwz]; exact flat_any s h hhz hbh h5 (unhide Hm) wr)
                      have HRR := hide (show rdR s.data.toList 0 h 64 0 5 (fun _ => false) = R by have := unhide HR; rw [unhide Hwz] at this; exact this)
                      have e15 := unhide E15
                      go_wp2_with fail
                      clear e15 o1 o2 o3 o4 o5 o6
                      refine (unhide HF).mono ?_
                      rintro e wf ⟨hbf, hcase⟩
                      have HUf := hide ((unhide HM).1.keep hbf)
                      clear hbf HF
                      obtain ⟨-, k1, k2, k3, k4, k5, k6, k7, k8, k9, k10⟩ := (unhide HUf).2.1
                      rw [unhide HRR] at hcase
                      rcases hcase with ⟨x, hx, rfl⟩ | ⟨gg, hx, rfl⟩
                      · have Ht := hide (show unp s.data.toList = .inl x by rw [unhide Hunp]; exact hx)
                        clear hx
                        go_wp2
                        exact bodyPost_ret (v := wrongV x) (by simp [results, Try.results9, go_sem, k1, k2, k3, k7, k8]) rfl ⟨put5 (unhide HUf).1 (Nat.le_refl _) _ _ _ _ _, .inl ⟨_, unhide Ht, rfl⟩⟩
                      · have Ht := hide (show unp s.data.toList = .inr (0, h, gg) by rw [unhide Hunp, hx, (unhide H34).1, (unhide H34).2, unhide Hwz])
                        clear hx
                        go_wp2
                        exact bodyPost_ret (v := .tuple #[tr 0 h none 0 0, .agg #[.int .i64 0, .int .i64 0]]) (by simp [results, Try.results9, go_sem, k1, k2, k3, k7, k8]) rfl ⟨put5 (unhide HUf).1 (Nat.le_refl _) _ _ _ _ _, .inr ⟨0, h, gg, none, 0, unhide Ht, by simp, by omega, hbh, by simp, by simp, .inl (by simp)⟩⟩
                    · exact absurd (unhide HX3).2 hhz
                  · exact absurd (unhide HX3).1 hwz
end Go.Proofs.Ytkjicpbnkehimaa
