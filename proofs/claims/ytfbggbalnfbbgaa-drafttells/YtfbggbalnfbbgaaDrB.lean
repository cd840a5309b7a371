/-
  made: truths that a function tells.
-/
import Derived.Test.YtfbggbalnfbbgaaDrA
namespace Go.Proofs.Ytfbggbalnfbbgaa
open Go.RowKit Go.Shelf

/-- truths of which a function tells what stands in a row at a place -/
def mdF (F : Nat → Nat → Bool) (w j : Nat) : Bool := F (j / w) (j % w)
theorem mdF_at (F : Nat → Nat → Bool) (w y x : Nat) (hx : x < w) : mdF F w (y * w + x) = F y x := by
  unfold mdF
  rw [Nat.mul_comm y w, Nat.mul_add_div (by omega), Nat.div_eq_of_lt hx, Nat.add_zero, Nat.mul_add_mod, Nat.mod_eq_of_lt hx]

set_option maxRecDepth 100000 in
set_option maxHeartbeats 2000000 in
theorem made24 (w h m b0 : Nat) (hw : w ≤ 64) (hh : h ≤ 64) (hm : m = w * h) (F : Nat → Nat → Bool) (W : World)
    (hF : ∀ y x V, y < h → x < w → Below W.heap.size W V → Calls Try.prog 24 #[.int .i64 y, .int .i64 x, .pointer (some ⟨b0, 0, none⟩)] V fun e V' => e = .returned (.bool (F y x)) ∧ Below V.heap.size V V') :
    Calls Try.prog 23 #[.int .i64 w, .int .i64 h, .func (.func 24) #[] #[.pointer (some ⟨b0, 0, none⟩)]] W fun e V => ∃ q cp, e = .returned (tr w h q m cp) ∧ (Rt V w h q m cp (mdF F w) ∧ ∀ j, j < W.heap.size → Off q m j) ∧ Below W.heap.size W V := by
  obtain ⟨i0, hi, hz0, hz1, hz2⟩ := info_parts info4
  have hm4 : m ≤ 4096 := by rw [hm]; exact Nat.mul_le_mul hw hh
  have hby : i0.bytes * m ≤ 281474976710656 := by rw [hz2]; omega
  have hml : m ≤ maxLen := by unfold maxLen; omega
  have e1 : wrap64 ((w : Int) * (h : Int)) = (m : Int) := by
    rw [hm, ← Int.natCast_mul]
    exact Go.IntWalk.wrap64_in _ (by omega)
  have HF := hide hF
  have Hm := hide hm
  clear hm hF
  have B0 := bal (o := .cells #[.int .i64 0, .int .i64 0, .slice none 0 0] 25) (Below.refl W.heap.size W)
  have Y0 := OwnY.new W 0 0 none 0 0
  go_enter Try.func23, Try.ntmps23
  go_wp2_with (refine wpList_make_own _ rfl _ _ 23 rfl (W.heap.size + 1) 4 i0 _ 1 Try.underlying23 hi hz0 hz1 .i64 .i64 (wrap64 ((w : Int) * (h : Int))) m rfl rfl e1 hby hml (by simp) ?_)
  intro wm hown hgrow
  have S0 := (Below.refl _ (W.alloc (.cells #[.int .i64 0, .int .i64 0, .slice none 0 0] 25))).grown hgrow (Nat.le_refl _) (fun k hk => by cases hk)
  have HS := hide (btrans B0 S0)
  have HY := hide (Y0.keep S0)
  have hsz : W.heap.size + 1 ≤ wm.heap.size := by have := S0.size; simpa using this
  have hO : wm.ownsRow (W.heap.size + 1) 4 1 (.slice (some ⟨W.heap.size + 1, 0, none⟩) 0 m) 0 [] := by simpa using hown
  have HO := hide hO
  clear B0 Y0 S0 hgrow hown hO
  go_wp2
  generalize hbq : W.heap.size + 1 = bq at *
  have Hbq := hide hbq
  clear hbq
  go_loopw [7, 15] (fun v c wr => ∃ (y cp l : Nat) (q : Option Addr), y ≤ h ∧ c = .int .i64 y ∧ l = y * w ∧ v = .slice q l cp ∧ wr.ownsRow bq 4 1 (.slice q l cp) l (bitsV (mdF F w) l) ∧ OwnY wr W.heap.size 0 0 none 0 0 ∧ Below W.heap.size W wr) (fun _ c _ => h - (intOf c).toNat)
  case atStart => exact ⟨0, m, 0, some ⟨bq, 0, none⟩, Nat.zero_le _, rfl, (Nat.zero_mul _).symm, rfl, unhide HO, unhide HY, unhide HS⟩
  case round =>
    obtain ⟨y, cp, l, q, hy, rfl, hl, rfl, hown, hY, hb⟩ := hrel
    have Hown := hide hown
    have HYr := hide hY
    have Hb := hide hb
    have Hl := hide hl
    clear hown hY hb hl HO HY HS
    by_cases hlt : y < h
    · have q0 : (y : Int) < (h : Int) := by omega
      go_wp2
      go_loopw [7, 19] (fun v c wr => ∃ (x cp : Nat) (q : Option Addr), x ≤ w ∧ c = .int .i64 x ∧ v = .slice q (l + x) cp ∧ wr.ownsRow bq 4 1 (.slice q (l + x) cp) (l + x) (bitsV (mdF F w) (l + x)) ∧ OwnY wr W.heap.size 0 0 none 0 0 ∧ Below W.heap.size W wr) (fun _ c _ => w - (intOf c).toNat)
      case atStart => exact ⟨0, cp, q, Nat.zero_le _, rfl, rfl, unhide Hown, unhide HYr, unhide Hb⟩
      case round =>
        clear Hown HYr Hb
        obtain ⟨x, cp, q, hx, rfl, rfl, hown, hY, hb⟩ := hrel
        by_cases hlx : x < w
        · have qx : (x : Int) < (w : Int) := by omega
          have HC := hide (unhide HF y x wr hlt hlx hb)
          have Hv := hide (show bitsV (mdF F w) (l + x + 1) = bitsV (mdF F w) (l + x) ++ [.bool (F y x)] by rw [bitsV_succ, unhide Hl, mdF_at F w y x hlx])
          have hlm : l + x < m := by rw [unhide Hl, unhide Hm]; exact row_lt hlx hlt
          have Hown := hide hown
          have HYr := hide hY
          have Hb := hide hb
          generalize F y x = v at *
          clear hown hY hb
          go_wp2_with fail
          refine (unhide HC).mono ?_
          rintro e w5 ⟨rfl, hb5⟩
          have hown := own_keep (unhide Hown) hb5
          have hY := (unhide HYr).keep hb5
          have S5 := btrans (unhide Hb) hb5
          have hYl := hY.1.1
          have hsq : bq ≤ w5.heap.size := by have := unhide Hbq; omega
          clear hb5 Hown HYr Hb HC
          go_wp2_with (at_builtin; refine wpList_append_own _ rfl _ _ 23 rfl bq 4 i0 (.bool false) 1 1 Try.underlying23 hi hz0 hz1 hz2 rfl (by decide) _ _ _ rfl (hown.alloc _) ⟨w5.heap.size, 0, none⟩ 1 1 [.bool v] rfl rfl (cell_one_new _ _ _) (by simp [Value.oneCell']) (by unfold maxLen; omega) (by omega) (by simp; omega) ?_)
          intro v' w6 hown' hgrow _
          have hbk : ∀ j, (Value.slice q (l + x) cp).ownBlock = some j → bq ≤ j := fun j e => (hown.lt j e).1
          have S6 := hide ((bal (o := .cells #[.bool v] 4) S5).grown hgrow (by simp; omega) (fun k hk => by have := hbk k hk; have := unhide Hbq; omega))
          have Y6 := hide ((hY.keep (bal (o := .cells #[.bool v] 4) (Below.refl _ _))).grown hgrow (fun e => by have := hbk _ e.symm; have := unhide Hbq; omega))
          obtain ⟨q', cap', rfl⟩ := own_form hown'
          have HO := hide hown'
          clear hown hown' hgrow S5 hY hbk hYl
          go_wp2
          go_roundw
          case rel =>
            refine ⟨x + 1, cap', q', by omega, by go_num, rfl, ?_, unhide Y6, unhide S6⟩
            have := unhide HO
            rw [← unhide Hv] at this
            exact this
          case measure => simp [intOf]; omega
        · obtain rfl : x = w := by omega
          have cl : ¬ ((x : Int) < (x : Int)) := by omega
          have Hown := hide hown
          have HYr := hide hY
          have Hb := hide hb
          clear hown hY hb
          go_wp2
          go_roundw
          case rel => exact ⟨y + 1, cp, l + x, q, by omega, by go_num, by rw [unhide Hl, mul_step], rfl, unhide Hown, unhide HYr, unhide Hb⟩
          case measure => simp [intOf]; omega
    · obtain rfl : y = h := by omega
      have cl : ¬ ((y : Int) < (y : Int)) := by omega
      obtain rfl : l = m := by rw [unhide Hl, unhide Hm, Nat.mul_comm]
      have HR := hide (own_bs (unhide Hown) rfl)
      obtain ⟨⟨-, u0, u1, u2⟩, f0, f1, f2⟩ := unhide HYr
      go_wp2
      refine bodyPost_ret (v := tr w y q l cp) (by simp [results, Try.results23, go_sem, u0, u1, u2]) rfl ⟨q, cp, rfl, ⟨⟨hw, hh, unhide Hm, ?_⟩, fun j hj => own_off (unhide Hown) (by have := unhide Hbq; omega)⟩, bset (bset (bset (unhide Hb) (by dsimp only; omega)) (by dsimp only; omega)) (by dsimp only; omega)⟩
      refine (((unhide HR).grown (gput W.heap.size _ _ _) ?_))
      exact own_off (unhide Hown) (by have := unhide Hbq; omega)

set_option maxRecDepth 100000 in
set_option maxHeartbeats 2000000 in
theorem made35 (w h m b0 : Nat) (hw : w ≤ 64) (hh : h ≤ 64) (hm : m = w * h) (F : Nat → Nat → Bool) (W : World)
    (hF : ∀ y x V, y < h → x < w → Below W.heap.size W V → Calls Try.prog 35 #[.int .i64 y, .int .i64 x, .pointer (some ⟨b0, 0, none⟩)] V fun e V' => e = .returned (.bool (F y x)) ∧ Below V.heap.size V V') :
    Calls Try.prog 23 #[.int .i64 w, .int .i64 h, .func (.func 35) #[] #[.pointer (some ⟨b0, 0, none⟩)]] W fun e V => ∃ q cp, e = .returned (tr w h q m cp) ∧ (Rt V w h q m cp (mdF F w) ∧ ∀ j, j < W.heap.size → Off q m j) ∧ Below W.heap.size W V := by
  obtain ⟨i0, hi, hz0, hz1, hz2⟩ := info_parts info4
  have hm4 : m ≤ 4096 := by rw [hm]; exact Nat.mul_le_mul hw hh
  have hby : i0.bytes * m ≤ 281474976710656 := by rw [hz2]; omega
  have hml : m ≤ maxLen := by unfold maxLen; omega
  have e1 : wrap64 ((w : Int) * (h : Int)) = (m : Int) := by
    rw [hm, ← Int.natCast_mul]
    exact Go.IntWalk.wrap64_in _ (by omega)
  have HF := hide hF
  have Hm := hide hm
  clear hm hF
  have B0 := bal (o := .cells #[.int .i64 0, .int .i64 0, .slice none 0 0] 25) (Below.refl W.heap.size W)
  have Y0 := OwnY.new W 0 0 none 0 0
  go_enter Try.func23, Try.ntmps23
  go_wp2_with (refine wpList_make_own _ rfl _ _ 23 rfl (W.heap.size + 1) 4 i0 _ 1 Try.underlying23 hi hz0 hz1 .i64 .i64 (wrap64 ((w : Int) * (h : Int))) m rfl rfl e1 hby hml (by simp) ?_)
  intro wm hown hgrow
  have S0 := (Below.refl _ (W.alloc (.cells #[.int .i64 0, .int .i64 0, .slice none 0 0] 25))).grown hgrow (Nat.le_refl _) (fun k hk => by cases hk)
  have HS := hide (btrans B0 S0)
  have HY := hide (Y0.keep S0)
  have hsz : W.heap.size + 1 ≤ wm.heap.size := by have := S0.size; simpa using this
  have hO : wm.ownsRow (W.heap.size + 1) 4 1 (.slice (some ⟨W.heap.size + 1, 0, none⟩) 0 m) 0 [] := by simpa using hown
  have HO := hide hO
  clear B0 Y0 S0 hgrow hown hO
  go_wp2
  generalize hbq : W.heap.size + 1 = bq at *
  have Hbq := hide hbq
  clear hbq
  go_loopw [7, 15] (fun v c wr => ∃ (y cp l : Nat) (q : Option Addr), y ≤ h ∧ c = .int .i64 y ∧ l = y * w ∧ v = .slice q l cp ∧ wr.ownsRow bq 4 1 (.slice q l cp) l (bitsV (mdF F w) l) ∧ OwnY wr W.heap.size 0 0 none 0 0 ∧ Below W.heap.size W wr) (fun _ c _ => h - (intOf c).toNat)
  case atStart => exact ⟨0, m, 0, some ⟨bq, 0, none⟩, Nat.zero_le _, rfl, (Nat.zero_mul _).symm, rfl, unhide HO, unhide HY, unhide HS⟩
  case round =>
    obtain ⟨y, cp, l, q, hy, rfl, hl, rfl, hown, hY, hb⟩ := hrel
    have Hown := hide hown
    have HYr := hide hY
    have Hb := hide hb
    have Hl := hide hl
    clear hown hY hb hl HO HY HS
    by_cases hlt : y < h
    · have q0 : (y : Int) < (h : Int) := by omega
      go_wp2
      go_loopw [7, 19] (fun v c wr => ∃ (x cp : Nat) (q : Option Addr), x ≤ w ∧ c = .int .i64 x ∧ v = .slice q (l + x) cp ∧ wr.ownsRow bq 4 1 (.slice q (l + x) cp) (l + x) (bitsV (mdF F w) (l + x)) ∧ OwnY wr W.heap.size 0 0 none 0 0 ∧ Below W.heap.size W wr) (fun _ c _ => w - (intOf c).toNat)
      case atStart => exact ⟨0, cp, q, Nat.zero_le _, rfl, rfl, unhide Hown, unhide HYr, unhide Hb⟩
      case round =>
        clear Hown HYr Hb
        obtain ⟨x, cp, q, hx, rfl, rfl, hown, hY, hb⟩ := hrel
        by_cases hlx : x < w
        · have qx : (x : Int) < (w : Int) := by omega
          have HC := hide (unhide HF y x wr hlt hlx hb)
          have Hv := hide (show bitsV (mdF F w) (l + x + 1) = bitsV (mdF F w) (l + x) ++ [.bool (F y x)] by rw [bitsV_succ, unhide Hl, mdF_at F w y x hlx])
          have hlm : l + x < m := by rw [unhide Hl, unhide Hm]; exact row_lt hlx hlt
          have Hown := hide hown
          have HYr := hide hY
          have Hb := hide hb
          generalize F y x = v at *
          clear hown hY hb
          go_wp2_with fail
          refine (unhide HC).mono ?_
          rintro e w5 ⟨rfl, hb5⟩
          have hown := own_keep (unhide Hown) hb5
          have hY := (unhide HYr).keep hb5
          have S5 := btrans (unhide Hb) hb5
          have hYl := hY.1.1
          have hsq : bq ≤ w5.heap.size := by have := unhide Hbq; omega
          clear hb5 Hown HYr Hb HC
          go_wp2_with (at_builtin; refine wpList_append_own _ rfl _ _ 23 rfl bq 4 i0 (.bool false) 1 1 Try.underlying23 hi hz0 hz1 hz2 rfl (by decide) _ _ _ rfl (hown.alloc _) ⟨w5.heap.size, 0, none⟩ 1 1 [.bool v] rfl rfl (cell_one_new _ _ _) (by simp [Value.oneCell']) (by unfold maxLen; omega) (by omega) (by simp; omega) ?_)
          intro v' w6 hown' hgrow _
          have hbk : ∀ j, (Value.slice q (l + x) cp).ownBlock = some j → bq ≤ j := fun j e => (hown.lt j e).1
          have S6 := hide ((bal (o := .cells #[.bool v] 4) S5).grown hgrow (by simp; omega) (fun k hk => by have := hbk k hk; have := unhide Hbq; omega))
          have Y6 := hide ((hY.keep (bal (o := .cells #[.bool v] 4) (Below.refl _ _))).grown hgrow (fun e => by have := hbk _ e.symm; have := unhide Hbq; omega))
          obtain ⟨q', cap', rfl⟩ := own_form hown'
          have HO := hide hown'
          clear hown hown' hgrow S5 hY hbk hYl
          go_wp2
          go_roundw
          case rel =>
            refine ⟨x + 1, cap', q', by omega, by go_num, rfl, ?_, unhide Y6, unhide S6⟩
            have := unhide HO
            rw [← unhide Hv] at this
            exact this
          case measure => simp [intOf]; omega
        · obtain rfl : x = w := by omega
          have cl : ¬ ((x : Int) < (x : Int)) := by omega
          have Hown := hide hown
          have HYr := hide hY
          have Hb := hide hb
          clear hown hY hb
          go_wp2
          go_roundw
          case rel => exact ⟨y + 1, cp, l + x, q, by omega, by go_num, by rw [unhide Hl, mul_step], rfl, unhide Hown, unhide HYr, unhide Hb⟩
          case measure => simp [intOf]; omega
    · obtain rfl : y = h := by omega
      have cl : ¬ ((y : Int) < (y : Int)) := by omega
      obtain rfl : l = m := by rw [unhide Hl, unhide Hm, Nat.mul_comm]
      have HR := hide (own_bs (unhide Hown) rfl)
      obtain ⟨⟨-, u0, u1, u2⟩, f0, f1, f2⟩ := unhide HYr
      go_wp2
      refine bodyPost_ret (v := tr w y q l cp) (by simp [results, Try.results23, go_sem, u0, u1, u2]) rfl ⟨q, cp, rfl, ⟨⟨hw, hh, unhide Hm, ?_⟩, fun j hj => own_off (unhide Hown) (by have := unhide Hbq; omega)⟩, bset (bset (bset (unhide Hb) (by dsimp only; omega)) (by dsimp only; omega)) (by dsimp only; omega)⟩
      refine (((unhide HR).grown (gput W.heap.size _ _ _) ?_))
      exact own_off (unhide Hown) (by have := unhide Hbq; omega)

set_option maxRecDepth 100000 in
set_option maxHeartbeats 2000000 in
theorem made36 (w h m b0 : Nat) (hw : w ≤ 64) (hh : h ≤ 64) (hm : m = w * h) (F : Nat → Nat → Bool) (W : World)
    (hF : ∀ y x V, y < h → x < w → Below W.heap.size W V → Calls Try.prog 36 #[.int .i64 y, .int .i64 x, .pointer (some ⟨b0, 0, none⟩)] V fun e V' => e = .returned (.bool (F y x)) ∧ Below V.heap.size V V') :
    Calls Try.prog 23 #[.int .i64 w, .int .i64 h, .func (.func 36) #[] #[.pointer (some ⟨b0, 0, none⟩)]] W fun e V => ∃ q cp, e = .returned (tr w h q m cp) ∧ (Rt V w h q m cp (mdF F w) ∧ ∀ j, j < W.heap.size → Off q m j) ∧ Below W.heap.size W V := by
  obtain ⟨i0, hi, hz0, hz1, hz2⟩ := info_parts info4
  have hm4 : m ≤ 4096 := by rw [hm]; exact Nat.mul_le_mul hw hh
  have hby : i0.bytes * m ≤ 281474976710656 := by rw [hz2]; omega
  have hml : m ≤ maxLen := by unfold maxLen; omega
  have e1 : wrap64 ((w : Int) * (h : Int)) = (m : Int) := by
    rw [hm, ← Int.natCast_mul]
    exact Go.IntWalk.wrap64_in _ (by omega)
  have HF := hide hF
  have Hm := hide hm
  clear hm hF
  have B0 := bal (o := .cells #[.int .i64 0, .int .i64 0, .slice none 0 0] 25) (Below.refl W.heap.size W)
  have Y0 := OwnY.new W 0 0 none 0 0
  go_enter Try.func23, Try.ntmps23
  go_wp2_with (refine wpList_make_own _ rfl _ _ 23 rfl (W.heap.size + 1) 4 i0 _ 1 Try.underlying23 hi hz0 hz1 .i64 .i64 (wrap64 ((w : Int) * (h : Int))) m rfl rfl e1 hby hml (by simp) ?_)
  intro wm hown hgrow
  have S0 := (Below.refl _ (W.alloc (.cells #[.int .i64 0, .int .i64 0, .slice none 0 0] 25))).grown hgrow (Nat.le_refl _) (fun k hk => by cases hk)
  have HS := hide (btrans B0 S0)
  have HY := hide (Y0.keep S0)
  have hsz : W.heap.size + 1 ≤ wm.heap.size := by have := S0.size; simpa using this
  have hO : wm.ownsRow (W.heap.size + 1) 4 1 (.slice (some ⟨W.heap.size + 1, 0, none⟩) 0 m) 0 [] := by simpa using hown
  have HO := hide hO
  clear B0 Y0 S0 hgrow hown hO
  go_wp2
  generalize hbq : W.heap.size + 1 = bq at *
  have Hbq := hide hbq
  clear hbq
  go_loopw [7, 15] (fun v c wr => ∃ (y cp l : Nat) (q : Option Addr), y ≤ h ∧ c = .int .i64 y ∧ l = y * w ∧ v = .slice q l cp ∧ wr.ownsRow bq 4 1 (.slice q l cp) l (bitsV (mdF F w) l) ∧ OwnY wr W.heap.size 0 0 none 0 0 ∧ Below W.heap.size W wr) (fun _ c _ => h - (intOf c).toNat)
  case atStart => exact ⟨0, m, 0, some ⟨bq, 0, none⟩, Nat.zero_le _, rfl, (Nat.zero_mul _).symm, rfl, unhide HO, unhide HY, unhide HS⟩
  case round =>
    obtain ⟨y, cp, l, q, hy, rfl, hl, rfl, hown, hY, hb⟩ := hrel
    have Hown := hide hown
    have HYr := hide hY
    have Hb := hide hb
    have Hl := hide hl
    clear hown hY hb hl HO HY HS
    by_cases hlt : y < h
    · have q0 : (y : Int) < (h : Int) := by omega
      go_wp2
      go_loopw [7, 19] (fun v c wr => ∃ (x cp : Nat) (q : Option Addr), x ≤ w ∧ c = .int .i64 x ∧ v = .slice q (l + x) cp ∧ wr.ownsRow bq 4 1 (.slice q (l + x) cp) (l + x) (bitsV (mdF F w) (l + x)) ∧ OwnY wr W.heap.size 0 0 none 0 0 ∧ Below W.heap.size W wr) (fun _ c _ => w - (intOf c).toNat)
      case atStart => exact ⟨0, cp, q, Nat.zero_le _, rfl, rfl, unhide Hown, unhide HYr, unhide Hb⟩
      case round =>
        clear Hown HYr Hb
        obtain ⟨x, cp, q, hx, rfl, rfl, hown, hY, hb⟩ := hrel
        by_cases hlx : x < w
        · have qx : (x : Int) < (w : Int) := by omega
          have HC := hide (unhide HF y x wr hlt hlx hb)
          have Hv := hide (show bitsV (mdF F w) (l + x + 1) = bitsV (mdF F w) (l + x) ++ [.bool (F y x)] by rw [bitsV_succ, unhide Hl, mdF_at F w y x hlx])
          have hlm : l + x < m := by rw [unhide Hl, unhide Hm]; exact row_lt hlx hlt
          have Hown := hide hown
          have HYr := hide hY
          have Hb := hide hb
          generalize F y x = v at *
          clear hown hY hb
          go_wp2_with fail
          refine (unhide HC).mono ?_
          rintro e w5 ⟨rfl, hb5⟩
          have hown := own_keep (unhide Hown) hb5
          have hY := (unhide HYr).keep hb5
          have S5 := btrans (unhide Hb) hb5
          have hYl := hY.1.1
          have hsq : bq ≤ w5.heap.size := by have := unhide Hbq; omega
          clear hb5 Hown HYr Hb HC
          go_wp2_with (at_builtin; refine wpList_append_own _ rfl _ _ 23 rfl bq 4 i0 (.bool false) 1 1 Try.underlying23 hi hz0 hz1 hz2 rfl (by decide) _ _ _ rfl (hown.alloc _) ⟨w5.heap.size, 0, none⟩ 1 1 [.bool v] rfl rfl (cell_one_new _ _ _) (by simp [Value.oneCell']) (by unfold maxLen; omega) (by omega) (by simp; omega) ?_)
          intro v' w6 hown' hgrow _
          have hbk : ∀ j, (Value.slice q (l + x) cp).ownBlock = some j → bq ≤ j := fun j e => (hown.lt j e).1
          have S6 := hide ((bal (o := .cells #[.bool v] 4) S5).grown hgrow (by simp; omega) (fun k hk => by have := hbk k hk; have := unhide Hbq; omega))
          have Y6 := hide ((hY.keep (bal (o := .cells #[.bool v] 4) (Below.refl _ _))).grown hgrow (fun e => by have := hbk _ e.symm; have := unhide Hbq; omega))
          obtain ⟨q', cap', rfl⟩ := own_form hown'
          have HO := hide hown'
          clear hown hown' hgrow S5 hY hbk hYl
          go_wp2
          go_roundw
          case rel =>
            refine ⟨x + 1, cap', q', by omega, by go_num, rfl, ?_, unhide Y6, unhide S6⟩
            have := unhide HO
            rw [← unhide Hv] at this
            exact this
          case measure => simp [intOf]; omega
        · obtain rfl : x = w := by omega
          have cl : ¬ ((x : Int) < (x : Int)) := by omega
          have Hown := hide hown
          have HYr := hide hY
          have Hb := hide hb
          clear hown hY hb
          go_wp2
          go_roundw
          case rel => exact ⟨y + 1, cp, l + x, q, by omega, by go_num, by rw [unhide Hl, mul_step], rfl, unhide Hown, unhide HYr, unhide Hb⟩
          case measure => simp [intOf]; omega
    · obtain rfl : y = h := by omega
      have cl : ¬ ((y : Int) < (y : Int)) := by omega
      obtain rfl : l = m := by rw [unhide Hl, unhide Hm, Nat.mul_comm]
      have HR := hide (own_bs (unhide Hown) rfl)
      obtain ⟨⟨-, u0, u1, u2⟩, f0, f1, f2⟩ := unhide HYr
      go_wp2
      refine bodyPost_ret (v := tr w y q l cp) (by simp [results, Try.results23, go_sem, u0, u1, u2]) rfl ⟨q, cp, rfl, ⟨⟨hw, hh, unhide Hm, ?_⟩, fun j hj => own_off (unhide Hown) (by have := unhide Hbq; omega)⟩, bset (bset (bset (unhide Hb) (by dsimp only; omega)) (by dsimp only; omega)) (by dsimp only; omega)⟩
      refine (((unhide HR).grown (gput W.heap.size _ _ _) ?_))
      exact own_off (unhide Hown) (by have := unhide Hbq; omega)

set_option maxRecDepth 100000 in
set_option maxHeartbeats 2000000 in
theorem made37 (w h m b0 : Nat) (hw : w ≤ 64) (hh : h ≤ 64) (hm : m = w * h) (F : Nat → Nat → Bool) (W : World)
    (hF : ∀ y x V, y < h → x < w → Below W.heap.size W V → Calls Try.prog 37 #[.int .i64 y, .int .i64 x, .pointer (some ⟨b0, 0, none⟩)] V fun e V' => e = .returned (.bool (F y x)) ∧ Below V.heap.size V V') :
    Calls Try.prog 23 #[.int .i64 w, .int .i64 h, .func (.func 37) #[] #[.pointer (some ⟨b0, 0, none⟩)]] W fun e V => ∃ q cp, e = .returned (tr w h q m cp) ∧ (Rt V w h q m cp (mdF F w) ∧ ∀ j, j < W.heap.size → Off q m j) ∧ Below W.heap.size W V := by
  obtain ⟨i0, hi, hz0, hz1, hz2⟩ := info_parts info4
  have hm4 : m ≤ 4096 := by rw [hm]; exact Nat.mul_le_mul hw hh
  have hby : i0.bytes * m ≤ 281474976710656 := by rw [hz2]; omega
  have hml : m ≤ maxLen := by unfold maxLen; omega
  have e1 : wrap64 ((w : Int) * (h : Int)) = (m : Int) := by
    rw [hm, ← Int.natCast_mul]
    exact Go.IntWalk.wrap64_in _ (by omega)
  have HF := hide hF
  have Hm := hide hm
  clear hm hF
  have B0 := bal (o := .cells #[.int .i64 0, .int .i64 0, .slice none 0 0] 25) (Below.refl W.heap.size W)
  have Y0 := OwnY.new W 0 0 none 0 0
  go_enter Try.func23, Try.ntmps23
  go_wp2_with (refine wpList_make_own _ rfl _ _ 23 rfl (W.heap.size + 1) 4 i0 _ 1 Try.underlying23 hi hz0 hz1 .i64 .i64 (wrap64 ((w : Int) * (h : Int))) m rfl rfl e1 hby hml (by simp) ?_)
  intro wm hown hgrow
  have S0 := (Below.refl _ (W.alloc (.cells #[.int .i64 0, .int .i64 0, .slice none 0 0] 25))).grown hgrow (Nat.le_refl _) (fun k hk => by cases hk)
  have HS := hide (btrans B0 S0)
  have HY := hide (Y0.keep S0)
  have hsz : W.heap.size + 1 ≤ wm.heap.size := by have := S0.size; simpa using this
  have hO : wm.ownsRow (W.heap.size + 1) 4 1 (.slice (some ⟨W.heap.size + 1, 0, none⟩) 0 m) 0 [] := by simpa using hown
  have HO := hide hO
  clear B0 Y0 S0 hgrow hown hO
  go_wp2
  generalize hbq : W.heap.size + 1 = bq at *
  have Hbq := hide hbq
  clear hbq
  go_loopw [7, 15] (fun v c wr => ∃ (y cp l : Nat) (q : Option Addr), y ≤ h ∧ c = .int .i64 y ∧ l = y * w ∧ v = .slice q l cp ∧ wr.ownsRow bq 4 1 (.slice q l cp) l (bitsV (mdF F w) l) ∧ OwnY wr W.heap.size 0 0 none 0 0 ∧ Below W.heap.size W wr) (fun _ c _ => h - (intOf c).toNat)
  case atStart => exact ⟨0, m, 0, some ⟨bq, 0, none⟩, Nat.zero_le _, rfl, (Nat.zero_mul _).symm, rfl, unhide HO, unhide HY, unhide HS⟩
  case round =>
    obtain ⟨y, cp, l, q, hy, rfl, hl, rfl, hown, hY, hb⟩ := hrel
    have Hown := hide hown
    have HYr := hide hY
    have Hb := hide hb
    have Hl := hide hl
    clear hown hY hb hl HO HY HS
    by_cases hlt : y < h
    · have q0 : (y : Int) < (h : Int) := by omega
      go_wp2
      go_loopw [7, 19] (fun v c wr => ∃ (x cp : Nat) (q : Option Addr), x ≤ w ∧ c = .int .i64 x ∧ v = .slice q (l + x) cp ∧ wr.ownsRow bq 4 1 (.slice q (l + x) cp) (l + x) (bitsV (mdF F w) (l + x)) ∧ OwnY wr W.heap.size 0 0 none 0 0 ∧ Below W.heap.size W wr) (fun _ c _ => w - (intOf c).toNat)
      case atStart => exact ⟨0, cp, q, Nat.zero_le _, rfl, rfl, unhide Hown, unhide HYr, unhide Hb⟩
      case round =>
        clear Hown HYr Hb
        obtain ⟨x, cp, q, hx, rfl, rfl, hown, hY, hb⟩ := hrel
        by_cases hlx : x < w
        · have qx : (x : Int) < (w : Int) := by omega
          have HC := hide (unhide HF y x wr hlt hlx hb)
          have Hv := hide (show bitsV (mdF F w) (l + x + 1) = bitsV (mdF F w) (l + x) ++ [.bool (F y x)] by rw [bitsV_succ, unhide Hl, mdF_at F w y x hlx])
          have hlm : l + x < m := by rw [unhide Hl, unhide Hm]; exact row_lt hlx hlt
          have Hown := hide hown
          have HYr := hide hY
          have Hb := hide hb
          generalize F y x = v at *
          clear hown hY hb
          go_wp2_with fail
          refine (unhide HC).mono ?_
          rintro e w5 ⟨rfl, hb5⟩
          have hown := own_keep (unhide Hown) hb5
          have hY := (unhide HYr).keep hb5
          have S5 := btrans (unhide Hb) hb5
          have hYl := hY.1.1
          have hsq : bq ≤ w5.heap.size := by have := unhide Hbq; omega
          clear hb5 Hown HYr Hb HC
          go_wp2_with (at_builtin; refine wpList_append_own _ rfl _ _ 23 rfl bq 4 i0 (.bool false) 1 1 Try.underlying23 hi hz0 hz1 hz2 rfl (by decide) _ _ _ rfl (hown.alloc _) ⟨w5.heap.size, 0, none⟩ 1 1 [.bool v] rfl rfl (cell_one_new _ _ _) (by simp [Value.oneCell']) (by unfold maxLen; omega) (by omega) (by simp; omega) ?_)
          intro v' w6 hown' hgrow _
          have hbk : ∀ j, (Value.slice q (l + x) cp).ownBlock = some j → bq ≤ j := fun j e => (hown.lt j e).1
          have S6 := hide ((bal (o := .cells #[.bool v] 4) S5).grown hgrow (by simp; omega) (fun k hk => by have := hbk k hk; have := unhide Hbq; omega))
          have Y6 := hide ((hY.keep (bal (o := .cells #[.bool v] 4) (Below.refl _ _))).grown hgrow (fun e => by have := hbk _ e.symm; have := unhide Hbq; omega))
          obtain ⟨q', cap', rfl⟩ := own_form hown'
          have HO := hide hown'
          clear hown hown' hgrow S5 hY hbk hYl
          go_wp2
          go_roundw
          case rel =>
            refine ⟨x + 1, cap', q', by omega, by go_num, rfl, ?_, unhide Y6, unhide S6⟩
            have := unhide HO
            rw [← unhide Hv] at this
            exact this
          case measure => simp [intOf]; omega
        · obtain rfl : x = w := by omega
          have cl : ¬ ((x : Int) < (x : Int)) := by omega
          have Hown := hide hown
          have HYr := hide hY
          have Hb := hide hb
          clear hown hY hb
          go_wp2
          go_roundw
          case rel => exact ⟨y + 1, cp, l + x, q, by omega, by go_num, by rw [unhide Hl, mul_step], rfl, unhide Hown, unhide HYr, unhide Hb⟩
          case measure => simp [intOf]; omega
    · obtain rfl : y = h := by omega
      have cl : ¬ ((y : Int) < (y : Int)) := by omega
      obtain rfl : l = m := by rw [unhide Hl, unhide Hm, Nat.mul_comm]
      have HR := hide (own_bs (unhide Hown) rfl)
      obtain ⟨⟨-, u0, u1, u2⟩, f0, f1, f2⟩ := unhide HYr
      go_wp2
      refine bodyPost_ret (v := tr w y q l cp) (by simp [results, Try.results23, go_sem, u0, u1, u2]) rfl ⟨q, cp, rfl, ⟨⟨hw, hh, unhide Hm, ?_⟩, fun j hj => own_off (unhide Hown) (by have := unhide Hbq; omega)⟩, bset (bset (bset (unhide Hb) (by dsimp only; omega)) (by dsimp only; omega)) (by dsimp only; omega)⟩
      refine (((unhide HR).grown (gput W.heap.size _ _ _) ?_))
      exact own_off (unhide Hown) (by have := unhide Hbq; omega)

set_option maxRecDepth 100000 in
set_option maxHeartbeats 2000000 in
theorem made30 (w h m b0 b1 b2 : Nat) (hw : w ≤ 64) (hh : h ≤ 64) (hm : m = w * h) (F : Nat → Nat → Bool) (W : World)
    (hF : ∀ y x V, y < h → x < w → Below W.heap.size W V → Calls Try.prog 30 #[.int .i64 y, .int .i64 x, .pointer (some ⟨b0, 0, none⟩), .pointer (some ⟨b1, 0, none⟩), .pointer (some ⟨b2, 0, none⟩)] V fun e V' => e = .returned (.bool (F y x)) ∧ Below V.heap.size V V') :
    Calls Try.prog 23 #[.int .i64 w, .int .i64 h, .func (.func 30) #[] #[.pointer (some ⟨b0, 0, none⟩), .pointer (some ⟨b1, 0, none⟩), .pointer (some ⟨b2, 0, none⟩)]] W fun e V => ∃ q cp, e = .returned (tr w h q m cp) ∧ (Rt V w h q m cp (mdF F w) ∧ ∀ j, j < W.heap.size → Off q m j) ∧ Below W.heap.size W V := by
  obtain ⟨i0, hi, hz0, hz1, hz2⟩ := info_parts info4
  have hm4 : m ≤ 4096 := by rw [hm]; exact Nat.mul_le_mul hw hh
  have hby : i0.bytes * m ≤ 281474976710656 := by rw [hz2]; omega
  have hml : m ≤ maxLen := by unfold maxLen; omega
  have e1 : wrap64 ((w : Int) * (h : Int)) = (m : Int) := by
    rw [hm, ← Int.natCast_mul]
    exact Go.IntWalk.wrap64_in _ (by omega)
  have HF := hide hF
  have Hm := hide hm
  clear hm hF
  have B0 := bal (o := .cells #[.int .i64 0, .int .i64 0, .slice none 0 0] 25) (Below.refl W.heap.size W)
  have Y0 := OwnY.new W 0 0 none 0 0
  go_enter Try.func23, Try.ntmps23
  go_wp2_with (refine wpList_make_own _ rfl _ _ 23 rfl (W.heap.size + 1) 4 i0 _ 1 Try.underlying23 hi hz0 hz1 .i64 .i64 (wrap64 ((w : Int) * (h : Int))) m rfl rfl e1 hby hml (by simp) ?_)
  intro wm hown hgrow
  have S0 := (Below.refl _ (W.alloc (.cells #[.int .i64 0, .int .i64 0, .slice none 0 0] 25))).grown hgrow (Nat.le_refl _) (fun k hk => by cases hk)
  have HS := hide (btrans B0 S0)
  have HY := hide (Y0.keep S0)
  have hsz : W.heap.size + 1 ≤ wm.heap.size := by have := S0.size; simpa using this
  have hO : wm.ownsRow (W.heap.size + 1) 4 1 (.slice (some ⟨W.heap.size + 1, 0, none⟩) 0 m) 0 [] := by simpa using hown
  have HO := hide hO
  clear B0 Y0 S0 hgrow hown hO
  go_wp2
  generalize hbq : W.heap.size + 1 = bq at *
  have Hbq := hide hbq
  clear hbq
  go_loopw [7, 15] (fun v c wr => ∃ (y cp l : Nat) (q : Option Addr), y ≤ h ∧ c = .int .i64 y ∧ l = y * w ∧ v = .slice q l cp ∧ wr.ownsRow bq 4 1 (.slice q l cp) l (bitsV (mdF F w) l) ∧ OwnY wr W.heap.size 0 0 none 0 0 ∧ Below W.heap.size W wr) (fun _ c _ => h - (intOf c).toNat)
  case atStart => exact ⟨0, m, 0, some ⟨bq, 0, none⟩, Nat.zero_le _, rfl, (Nat.zero_mul _).symm, rfl, unhide HO, unhide HY, unhide HS⟩
  case round =>
    obtain ⟨y, cp, l, q, hy, rfl, hl, rfl, hown, hY, hb⟩ := hrel
    have Hown := hide hown
    have HYr := hide hY
    have Hb := hide hb
    have Hl := hide hl
    clear hown hY hb hl HO HY HS
    by_cases hlt : y < h
    · have q0 : (y : Int) < (h : Int) := by omega
      go_wp2
      go_loopw [7, 19] (fun v c wr => ∃ (x cp : Nat) (q : Option Addr), x ≤ w ∧ c = .int .i64 x ∧ v = .slice q (l + x) cp ∧ wr.ownsRow bq 4 1 (.slice q (l + x) cp) (l + x) (bitsV (mdF F w) (l + x)) ∧ OwnY wr W.heap.size 0 0 none 0 0 ∧ Below W.heap.size W wr) (fun _ c _ => w - (intOf c).toNat)
      case atStart => exact ⟨0, cp, q, Nat.zero_le _, rfl, rfl, unhide Hown, unhide HYr, unhide Hb⟩
      case round =>
        clear Hown HYr Hb
        obtain ⟨x, cp, q, hx, rfl, rfl, hown, hY, hb⟩ := hrel
        by_cases hlx : x < w
        · have qx : (x : Int) < (w : Int) := by omega
          have HC := hide (unhide HF y x wr hlt hlx hb)
          have Hv := hide (show bitsV (mdF F w) (l + x + 1) = bitsV (mdF F w) (l + x) ++ [.bool (F y x)] by rw [bitsV_succ, unhide Hl, mdF_at F w y x hlx])
          have hlm : l + x < m := by rw [unhide Hl, unhide Hm]; exact row_lt hlx hlt
          have Hown := hide hown
          have HYr := hide hY
          have Hb := hide hb
          generalize F y x = v at *
          clear hown hY hb
          go_wp2_with fail
          refine (unhide HC).mono ?_
          rintro e w5 ⟨rfl, hb5⟩
          have hown := own_keep (unhide Hown) hb5
          have hY := (unhide HYr).keep hb5
          have S5 := btrans (unhide Hb) hb5
          have hYl := hY.1.1
          have hsq : bq ≤ w5.heap.size := by have := unhide Hbq; omega
          clear hb5 Hown HYr Hb HC
          go_wp2_with (at_builtin; refine wpList_append_own _ rfl _ _ 23 rfl bq 4 i0 (.bool false) 1 1 Try.underlying23 hi hz0 hz1 hz2 rfl (by decide) _ _ _ rfl (hown.alloc _) ⟨w5.heap.size, 0, none⟩ 1 1 [.bool v] rfl rfl (cell_one_new _ _ _) (by simp [Value.oneCell']) (by unfold maxLen; omega) (by omega) (by simp; omega) ?_)
          intro v' w6 hown' hgrow _
          have hbk : ∀ j, (Value.slice q (l + x) cp).ownBlock = some j → bq ≤ j := fun j e => (hown.lt j e).1
          have S6 := hide ((bal (o := .cells #[.bool v] 4) S5).grown hgrow (by simp; omega) (fun k hk => by have := hbk k hk; have := unhide Hbq; omega))
          have Y6 := hide ((hY.keep (bal (o := .cells #[.bool v] 4) (Below.refl _ _))).grown hgrow (fun e => by have := hbk _ e.symm; have := unhide Hbq; omega))
          obtain ⟨q', cap', rfl⟩ := own_form hown'
          have HO := hide hown'
          clear hown hown' hgrow S5 hY hbk hYl
          go_wp2
          go_roundw
          case rel =>
            refine ⟨x + 1, cap', q', by omega, by go_num, rfl, ?_, unhide Y6, unhide S6⟩
            have := unhide HO
            rw [← unhide Hv] at this
            exact this
          case measure => simp [intOf]; omega
        · obtain rfl : x = w := by omega
          have cl : ¬ ((x : Int) < (x : Int)) := by omega
          have Hown := hide hown
          have HYr := hide hY
          have Hb := hide hb
          clear hown hY hb
          go_wp2
          go_roundw
          case rel => exact ⟨y + 1, cp, l + x, q, by omega, by go_num, by rw [unhide Hl, mul_step], rfl, unhide Hown, unhide HYr, unhide Hb⟩
          case measure => simp [intOf]; omega
    · obtain rfl : y = h := by omega
      have cl : ¬ ((y : Int) < (y : Int)) := by omega
      obtain rfl : l = m := by rw [unhide Hl, unhide Hm, Nat.mul_comm]
      have HR := hide (own_bs (unhide Hown) rfl)
      obtain ⟨⟨-, u0, u1, u2⟩, f0, f1, f2⟩ := unhide HYr
      go_wp2
      refine bodyPost_ret (v := tr w y q l cp) (by simp [results, Try.results23, go_sem, u0, u1, u2]) rfl ⟨q, cp, rfl, ⟨⟨hw, hh, unhide Hm, ?_⟩, fun j hj => own_off (unhide Hown) (by have := unhide Hbq; omega)⟩, bset (bset (bset (unhide Hb) (by dsimp only; omega)) (by dsimp only; omega)) (by dsimp only; omega)⟩
      refine (((unhide HR).grown (gput W.heap.size _ _ _) ?_))
      exact own_off (unhide Hown) (by have := unhide Hbq; omega)
end Go.Proofs.Ytfbggbalnfbbgaa
