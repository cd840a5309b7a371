/-
  What unpunched of package cards answers.
-/
import Derived.Test.YtkjicpbnkehimaaCdD
namespace Go.Proofs.Ytkjicpbnkehimaa
open Go.RowKit

theorem and_all : ∀ c, c < 256 → ∀ k, k < 8 → (((c &&& 2 ^ (7 - k) : Nat) : Int) != 0) = tb c k := by decide +kernel
theorem bya_str (s : ByteArray) (k : Nat) (h : k < s.size) : bya s.data.toList k = s[k].toNat := by
  unfold bya
  rw [List.getD_eq_getElem?_getD, List.getElem?_eq_getElem (by simpa using h)]; rfl
set_option maxRecDepth 100000 in
set_option maxHeartbeats 2000000 in
theorem unpunched_any (s : ByteArray) (w : Nat) (W : World) (hw : w ≤ 64) (hs : nb w ≤ s.size) :
    Calls Try.prog 40 #[.string s, .int .i64 w] W fun e w' => (∃ q, e = .returned (.slice (some ⟨q, 0, none⟩) w w) ∧ W.heap.size ≤ q ∧ BRow w' q w (fun x => tb (bya s.data.toList (x / 8)) (x % 8))) ∧ Below W.heap.size W w' := by
  obtain ⟨i0, hi, hz0, hz1, hz2⟩ := info_parts info4
  have hN8 : ∀ x, x < w → x / 8 < s.size := by unfold nb at hs; exact fun x hx => by omega
  have hby : i0.bytes * w ≤ 281474976710656 := by rw [hz2]; omega
  have hml : w ≤ maxLen := by unfold maxLen; omega
  have H8 := hide hN8
  clear hs hN8
  go_enter Try.func40, Try.ntmps40
  go_wp2_with (refine wpList_make_full _ rfl _ _ 22 rfl W.heap.size 4 i0 _ 1 Try.underlying22 hi hz0 hz1 .i64 .i64 (w : Int) (w : Int) w rfl rfl rfl rfl hby hml (Nat.le_refl _) ?_)
  intro wm hown hgrow
  have R0 := hide (brow_made hown)
  have S0 := hide ((Below.refl _ W).grown hgrow (Nat.le_refl _) (fun k hk => by cases hk))
  clear hown hgrow hi hz0 hz1 hz2 hby hml
  go_wp2
  go_loopw [10] (fun v wr => ∃ x : Nat, x ≤ w ∧ v = .int .i64 x ∧ BRow wr W.heap.size w (fun j => if j < x then tb (bya s.data.toList (j / 8)) (j % 8) else false) ∧ Below W.heap.size W wr) (fun v _ => w - (intOf v).toNat)
  case atStart => exact ⟨0, Nat.zero_le _, rfl, (unhide R0).congr fun j _ => by simp, unhide S0⟩
  case round =>
    clear R0 S0
    obtain ⟨x, hx, rfl, hR, hbl⟩ := hrel
    by_cases hlt : x < w
    · have q1 : (x : Int) < (w : Int) := by omega
      have q2 : (0 : Int) ≤ (x : Int) := by omega
      obtain ⟨i, hie⟩ : ∃ i : Nat, i = x / 8 := ⟨_, rfl⟩
      have e8 : (x : Int) / 8 = (i : Int) := by omega
      have e9 : IntKind.i64.wrap (i : Int) = (i : Int) := Go.IntWalk.i64_in _ (by omega)
      have hiN : i < s.size := by rw [hie]; exact unhide H8 x hlt
      have q3 : (i : Int) < (s.size : Int) := by omega
      have q4 : (0 : Int) ≤ (i : Int) := by omega
      have d1 : wr.cell? ⟨W.heap.size, x, none⟩ = some (.bool (if x < x then tb (bya s.data.toList (x / 8)) (x % 8) else false)) := (hR.2 x hlt).1
      rw [if_neg (by omega)] at d1
      have d2 := (hR.2 x hlt).2
      have ho : (2 ^ (7 - x % 8) : Nat) < 256 := Nat.lt_of_le_of_lt (Nat.pow_le_pow_right (by omega) (show 7 - x % 8 ≤ 7 by omega)) (by omega)
      have hc := s[i].toNat_lt
      have hu := u8_and_nat s[i].toNat (2 ^ (7 - x % 8)) hc ho
      have ha := and_all s[i].toNat hc (x % 8) (by omega)
      have hby := bya_str s i hiN
      have hr2 := ((hR.keep (Below.drew (Below.refl _ wr))).set x (tb s[i].toNat (x % 8))).congr (g := fun j => if j < x + 1 then tb (bya s.data.toList (j / 8)) (j % 8) else false) (fun j _ => by
        by_cases e : j = x
        · rw [if_pos e, e, if_pos (by omega), ← hie, hby]
        · rw [if_neg e]
          by_cases e2 : j < x
          · rw [if_pos e2, if_pos (by omega)]
          · rw [if_neg e2, if_neg (by omega)])
      have HRn := hide hr2
      have Hbn := hide (bset (p := ⟨W.heap.size, x, none⟩) (u := .bool (tb s[i].toNat (x % 8))) (btrans hbl (Below.drew (Below.refl _ wr))) (Nat.le_refl _))
      have HH := hide (hole_any x)
      clear hR hbl hie hc ho hr2 hby
      generalize s[i].toNat &&& 2 ^ (7 - x % 8) = d at *
      generalize tb s[i].toNat (x % 8) = v at *
      generalize 2 ^ (7 - x % 8) = g at *
      go_wp2_with fail
      go_region_with (go_at_call 35; refine (unhide HH _).mono ?_; rintro e w2 ⟨rfl, hq⟩; replace hq := hq.symm; subst hq)
      all_goals
        clear d1 d2 HH
        go_wp2
        go_roundw
        case rel => exact ⟨x + 1, by omega, by go_num, unhide HRn, unhide Hbn⟩
        case measure => simp [intOf]; omega
    · obtain rfl : x = w := by omega
      have cl : ¬ ((x : Int) < (x : Int)) := by omega
      have HR := hide (hR.congr (g := fun j => tb (bya s.data.toList (j / 8)) (j % 8)) fun j hj => by rw [if_pos hj])
      clear hR
      go_wp2
      go_ret
      exact ⟨⟨_, rfl, Nat.le_refl _, unhide HR⟩, hbl⟩
end Go.Proofs.Ytkjicpbnkehimaa
