/-
  The reference: Product of right truths.
-/
import Derived.Test.YtfbggbalnfbbgaaRefD
namespace Go.Proofs.Ytfbggbalnfbbgaa
open Go.RowKit Go.Shelf

/-- whether there is a k below so many -/
def prB (f g : Nat → Bool) (wa wb y x k : Nat) : Bool := (List.range k).any fun k' => f (y * wa + k') && g (k' * wb + x)
theorem prB_succ (f g : Nat → Bool) (wa wb y x k : Nat) : prB f g wa wb y x (k + 1) = (prB f g wa wb y x k || (f (y * wa + k) && g (k * wb + x))) := by
  simp [prB, List.range_succ]
theorem prF_at (f g : Nat → Bool) (wa wb y x : Nat) (hx : x < wb) : prF f g wa wb (y * wb + x) = prB f g wa wb y x wa := by
  unfold prF prB
  rw [dm_div _ _ _ hx, dm_mod _ _ _ hx]

set_option maxHeartbeats 4000000 in
set_option maxRecDepth 100000 in
theorem rprod_new {W : World} {wa ha wb : Nat} {p : Option Addr} {na ca : Nat} {f : Nat → Bool} {p2 : Option Addr} {nb cb : Nat} {g : Nat → Bool} (ra : Rt W wa ha p na ca f) (rb : Rt W wb wa p2 nb cb g) (n : Nat) (hn : n = wb * ha) :
    Calls Try.prog 26 #[tr wa ha p na ca, tr wb wa p2 nb cb] W fun e V => ∃ q cp, e = .returned (.tuple #[tr wb ha q n cp, .int .i64 0]) ∧ (Rt V wb ha q n cp (prF f g wa wb) ∧ ∀ j, j < W.heap.size → Off q n j) ∧ Below W.heap.size W V := by
  have hwa := ra.1
  have hha := ra.2.1
  have hwb := rb.1
  have Hn := hide hn
  have HW := hide (fun W => rwrong_any wa ha p na ca W)
  rw [wE_right wa ha na ra.1 ra.2.1 ra.2.2.1] at HW
  have HV := hide (fun W => rwrong_any wb wa p2 nb cb W)
  rw [wE_right wb wa nb rb.1 rb.2.1 rb.2.2.1] at HV
  obtain ⟨w0, E0, A, B, Z, S0⟩ := p3_facts W wa ha p na ca wb wa p2 nb cb
  have HE := hide E0
  have TA := hide (show Tb w0 W.heap.size wa ha p na ca f from ⟨A, ra.keep S0⟩)
  have TB := hide (show Tb w0 (W.heap.size + 1) wb wa p2 nb cb g from ⟨B, rb.keep S0⟩)
  have HZ := hide Z
  have HS := hide S0
  have HoA := hide (fun q (hq : W.heap.size ≤ q) => ra.2.2.2.off hq)
  have HoB := hide (fun q (hq : W.heap.size ≤ q) => rb.2.2.2.off hq)
  have hz0' : W.heap.size + 1 + 1 < w0.heap.size := Z.1.1
  have hp' : ((wa : Int) != (wa : Int)) = false := by simp
  obtain ⟨i0, hi, hz0, hz1, hz2⟩ := info_parts info4
  clear E0 A B Z S0 hn ra rb
  go_enter Try.func26, Try.ntmps26
  go_wp2_with fail
  rw [unhide HE]
  clear HE
  refine (unhide HW _).mono ?_
  rintro e w1 ⟨rfl, hb⟩
  have S1 := hide (btrans (unhide HS) hb)
  have A1 := hide ((unhide TA).keep hb)
  have B1 := hide ((unhide TB).keep hb)
  have Z1 := hide ((unhide HZ).keep hb)
  have b1 := (unhide B1).1.2
  clear hb HS TA TB HZ
  go_wp2_with fail
  clear b1
  refine (unhide HV _).mono ?_
  rintro e w2 ⟨rfl, hb⟩
  have hb2 := bal (o := .cells #[.int .i64 wb, .int .i64 ha, .slice none 0 0] 25) hb
  have S4 := hide (btrans (unhide S1) hb2)
  have A4 := hide ((unhide A1).keep hb2)
  have B4 := hide ((unhide B1).keep hb2)
  have Z4 := hide ((unhide Z1).keep hb2)
  have O4 := hide (OwnW.new w2 wb ha)
  have a2 := ((unhide A1).1.keep hb).2
  have b2 := ((unhide B1).1.keep hb).2
  have hz : W.heap.size + 1 + 1 < w2.heap.size := ((unhide Z1).keep hb).1.1
  have hz5 : (w2.alloc (.cells #[.int .i64 wb, .int .i64 ha, .slice none 0 0] 25)).heap.size = w2.heap.size + 1 := by simp
  have Hz5 := hide hz5
  clear hb hb2 S1 A1 B1 Z1 HW HV hz5
  go_wp2
  clear a2 b2
  have hz5 := unhide Hz5
  clear Hz5
  generalize w2.alloc (.cells #[.int .i64 wb, .int .i64 ha, .slice none 0 0] 25) = wz at *
  generalize w2.heap.size = bo at *
  have hbo : bo < wz.heap.size := by omega
  clear hz5 hz0'
  obtain ⟨GG, hGG⟩ : ∃ GG, GG = prF f g wa wb := ⟨_, rfl⟩
  have HGG := hide hGG
  clear hGG
  go_loopw [9] (fun c wr => ∃ (y m cp : Nat) (q : Option Addr), y ≤ ha ∧ c = .int .i64 y ∧ m = y * wb ∧ OwnW wr bo wb ha q m cp ∧ wr.ownsRow wz.heap.size 4 1 (.slice q m cp) m (bitsV GG m) ∧ Kept (fun k => k = bo) wz wr) (fun c _ => ha - (intOf c).toNat)
  case atStart => exact ⟨0, 0, 0, none, Nat.zero_le _, rfl, by simp, unhide O4, World.ownsRow_nil _ _ _ _, Kept.refl _ _⟩
  case round =>
    obtain ⟨y, m, cp, q, hy, rfl, hm, DC, hown, hkt⟩ := hrel
    have Hm := hide hm
    have hm6 : m ≤ 4096 := by rw [hm]; exact Nat.mul_le_mul (show y ≤ 64 by omega) hwb
    clear hm
    have a5 := (hkt.own (unhide A4).1 (by omega)).2
    by_cases hlt : y < ha
    · have hmN : m + wb ≤ 4160 := by omega
      have q0 : (y : Int) < (ha : Int) := by omega
      go_wp2
      clear a5
      obtain ⟨wo, rfl⟩ : ∃ wo : World, wo = wr := ⟨_, rfl⟩
      go_loopw [10] (fun c wr => ∃ (x cp : Nat) (q : Option Addr), x ≤ wb ∧ c = .int .i64 x ∧ OwnW wr bo wb ha q (m + x) cp ∧ wr.ownsRow wz.heap.size 4 1 (.slice q (m + x) cp) (m + x) (bitsV GG (m + x)) ∧ Kept (fun k => k = bo) wz wr) (fun c _ => wb - (intOf c).toNat)
      case atStart => exact ⟨0, cp, q, Nat.zero_le _, rfl, DC, hown, hkt⟩
      case round =>
        clear DC hown hkt
        obtain ⟨x, cp, q, hx, rfl, DC, hown, hkt⟩ := hrel
        have b5 := (hkt.own (unhide B4).1 (by omega)).2
        by_cases hlx : x < wb
        · have qx : (x : Int) < (wb : Int) := by omega
          have Hv := hide (show bitsV GG (m + x + 1) = bitsV GG (m + x) ++ [.bool (prB f g wa wb y x wa)] by rw [bitsV_succ, unhide HGG, unhide Hm, prF_at f g wa wb y x hlx])
          have A6 := hide (show Tb wr W.heap.size wa ha p na ca f from ⟨hkt.own (unhide A4).1 (by omega), (unhide A4).2.1, (unhide A4).2.2.1, (unhide A4).2.2.2.1, hkt.bs (unhide A4).2.2.2.2 (fun q hq => unhide HoA q (by omega))⟩)
          have B6 := hide (show Tb wr (W.heap.size + 1) wb wa p2 nb cb g from ⟨hkt.own (unhide B4).1 (by omega), (unhide B4).2.1, (unhide B4).2.2.1, (unhide B4).2.2.2.1, hkt.bs (unhide B4).2.2.2.2 (fun q hq => unhide HoB q (by omega))⟩)
          have HDC := hide DC
          have Hown := hide hown
          have Hkt := hide hkt
          clear DC hown hkt
          go_wp2
          clear b5
          obtain ⟨wi, rfl⟩ : ∃ wi : World, wi = wr := ⟨_, rfl⟩
          go_loopw [11, 12] (fun d c wr => ∃ k : Nat, k ≤ wa ∧ c = .int .i64 k ∧ d = .bool (prB f g wa wb y x k) ∧ Below wi.heap.size wi wr) (fun _ c _ => wa - (intOf c).toNat)
          case atStart => exact ⟨0, Nat.zero_le _, rfl, rfl, Below.refl _ _⟩
          case round =>
            obtain ⟨k, hk, rfl, rfl, hb⟩ := hrel
            have a6 := ((unhide A6).1.keep hb).2
            have b6 := ((unhide B6).1.keep hb).2
            by_cases hlk : k < wa
            · have qk : (k : Int) < (wa : Int) := by omega
              have Hs := hide (prB_succ f g wa wb y x k)
              have Hba := hide (bit_ok ((unhide A6).2.keep hb) y k hlt hlk)
              have Hbb := hide (show ∀ V, Below wr.heap.size wr V → Calls Try.prog 33 #[tr wb wa p2 nb cb, .int .i64 k, .int .i64 x] V fun e w' => e = .returned (.bool (g (k * wb + x))) ∧ Below V.heap.size V w' from fun V hV => bit_ok ((unhide B6).2.keep (btrans hb hV)) k x hlk hlx)
              generalize g (k * wb + x) = c2 at *
              generalize f (y * wa + k) = c1 at *
              generalize prB f g wa wb y x k = c0 at *
              have Hb := hide hb
              have hWw : W.heap.size + 1 < wr.heap.size := ((unhide B6).1.keep hb).1
              clear hb
              cases c0 with
              | true =>
                have Hz := hide (show prB f g wa wb y x (k + 1) = true by rw [unhide Hs]; rfl)
                go_wp2
                go_roundw
                case rel => exact ⟨k + 1, by omega, by go_num, by rw [unhide Hz], unhide Hb⟩
                case measure => simp [intOf]; omega
              | false =>
                have Hz := hide (show prB f g wa wb y x (k + 1) = (c1 && c2) by rw [unhide Hs]; rfl)
                cases c1 with
                | false =>
                  go_wp2_with fail
                  refine (unhide Hba).mono ?_
                  rintro e w7 ⟨rfl, hb⟩
                  have S7 := hide (btrans (unhide Hb) hb)
                  clear hb a6 b6
                  go_wp2
                  go_roundw
                  case rel => exact ⟨k + 1, by omega, by go_num, by rw [unhide Hz]; rfl, unhide S7⟩
                  case measure => simp [intOf]; omega
                | true =>
                  go_wp2_with fail
                  refine (unhide Hba).mono ?_
                  rintro e w7 ⟨rfl, hb⟩
                  have S7 := hide (btrans (unhide Hb) hb)
                  have b7 := ((unhide B6).1.keep (unhide S7)).2
                  have Hb7 := hide hb
                  clear hb a6 b6
                  go_wp2_with fail
                  refine (unhide Hbb _ (unhide Hb7)).mono ?_
                  rintro e w8 ⟨rfl, hb⟩
                  have S8 := hide (btrans (unhide S7) hb)
                  clear hb b7
                  go_wp2
                  go_roundw
                  case rel => exact ⟨k + 1, by omega, by go_num, by rw [unhide Hz]; rfl, unhide S8⟩
                  case measure => simp [intOf]; omega
            · obtain rfl : k = wa := by omega
              have cl : ¬ ((k : Int) < (k : Int)) := by omega
              have DC := (unhide HDC).keep hb
              have hown := own_keep (unhide Hown) hb
              have hkt := (unhide Hkt).below hb
              generalize prB f g k wb y x k = v at *
              have d3 := DC.1.2.2.2
              have f3 := DC.2
              have hdlt := DC.1.1
              have hszk := hkt.2.2.2.1
              clear hb HDC Hown Hkt A6 B6 b6
              go_wp2_with (at_builtin; refine wpList_append_own _ rfl _ _ 23 rfl wz.heap.size 4 i0 (.bool false) 1 1 Try.underlying23 hi hz0 hz1 hz2 rfl (by decide) _ _ _ rfl (hown.alloc _) ⟨wr.heap.size, 0, none⟩ 1 1 [.bool v] rfl rfl (cell_one_new _ _ _) (by simp [Value.oneCell']) (by unfold maxLen; omega) (by omega) (by simp; omega) ?_)
              intro v' w4 hown' hgrow _
              have hbk : ∀ j, (Value.slice q (m + x) cp).ownBlock = some j → wz.heap.size ≤ j := fun j e => (hown.lt j e).1
              have S4' := hide ((hkt.alloc (.cells #[.bool v] 4)).grown hgrow (fun r e => .inl (hbk r e)))
              have D4 := (DC.keep (bal (o := .cells #[.bool v] 4) (Below.refl _ _))).grown hgrow (fun e => by have := hbk _ e.symm; omega)
              obtain ⟨q', cap', rfl⟩ := own_form hown'
              have HS5 := hide ((unhide S4').set bo 2 (.slice q' (m + x + 1) cap') rfl)
              have HD5 := hide (D4.set2 q' (m + x + 1) cap')
              have HO5 := hide (ownsRow_setCell_below (a := ⟨bo, 2, none⟩) hown' (by dsimp only; omega) (.slice q' (m + x + 1) cap'))
              clear hown hgrow d3 f3 DC hkt hbk hown' S4'
              have d3 := D4.1.2.2.2
              have f3 := D4.2
              have hdl4 := D4.1.1
              clear D4
              go_wp2
              go_roundw
              case rel =>
                refine ⟨x + 1, cap', q', by omega, by go_num, unhide HD5, ?_, unhide HS5⟩
                rw [show m + (x + 1) = m + x + 1 from rfl, unhide Hv]
                exact unhide HO5
              case measure => simp [intOf]; omega
        · have e : x = wb := by omega
          subst e
          have cl : ¬ ((x : Int) < (x : Int)) := by omega
          have Hs := hide (show m + x = (y + 1) * x by rw [mul_step, unhide Hm])
          have HDC := hide DC
          have Hown := hide hown
          have Hkt := hide hkt
          clear DC hown hkt
          go_wp2
          go_roundw
          case rel => exact ⟨y + 1, m + x, cp, q, by omega, by go_num, unhide Hs, unhide HDC, unhide Hown, unhide Hkt⟩
          case measure => simp [intOf]; omega
    · have e : y = ha := by omega
      subst e
      have cl : ¬ ((y : Int) < (y : Int)) := by omega
      have hmn : m = n := by rw [unhide Hm, unhide Hn, Nat.mul_comm]
      subst hmn
      have HS5 := hide (Kept.back (unhide S4) hkt (fun q e => by omega))
      have HT5 := hide (show Rt wr wb y q m cp (prF f g wa wb) from ⟨hwb, hha, unhide Hn, by rw [← unhide HGG]; exact own_bs hown rfl⟩)
      obtain ⟨-, o0, o1, o2⟩ := DC.1
      obtain ⟨⟨-, u0, u1, u2⟩, f0, f1, f2⟩ := (unhide Z4).kept hkt (by omega)
      have Hoq := hide (show Off q m (W.heap.size + 1 + 1) from own_off hown (by omega))
      have Hoj := hide (show ∀ j, j < W.heap.size → Off q m j from fun j hj => own_off hown (by omega))
      clear DC hown hkt
      go_wp2
      refine bodyPost_ret (v := .tuple #[tr wb y q m cp, .int .i64 0]) (by simp [results, Try.results26, go_sem, u0, u1, u2]) rfl ⟨q, cp, rfl, ?_, bset (bset (bset (unhide HS5) (by dsimp only; omega)) (by dsimp only; omega)) (by dsimp only; omega)⟩
      refine ⟨⟨(unhide HT5).1, (unhide HT5).2.1, (unhide HT5).2.2.1, ?_⟩, unhide Hoj⟩
      exact (((unhide HT5).2.2.2.grown (gset (World.grownBy.refl _ _) 0 _) (unhide Hoq)).grown (gset (World.grownBy.refl _ _) 1 _) (unhide Hoq)).grown (gset (World.grownBy.refl _ _) 2 _) (unhide Hoq)
theorem rprod_ok {W : World} {wa ha wb : Nat} {p : Option Addr} {na ca : Nat} {f : Nat → Bool} {p2 : Option Addr} {nb cb : Nat} {g : Nat → Bool} (ra : Rt W wa ha p na ca f) (rb : Rt W wb wa p2 nb cb g) (n : Nat) (hn : n = wb * ha) :
    Calls Try.prog 26 #[tr wa ha p na ca, tr wb wa p2 nb cb] W fun e V => ∃ q cp, e = .returned (.tuple #[tr wb ha q n cp, .int .i64 0]) ∧ Rt V wb ha q n cp (prF f g wa wb) ∧ Below W.heap.size W V := by
  refine (rprod_new ra rb n hn).mono ?_
  rintro e V ⟨q, cp, rfl, hr, hb⟩
  exact ⟨q, cp, rfl, hr.1, hb⟩
end Go.Proofs.Ytfbggbalnfbbgaa
