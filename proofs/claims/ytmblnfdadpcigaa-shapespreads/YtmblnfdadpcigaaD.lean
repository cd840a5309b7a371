/-
  Package shape: Rows.
-/
import Derived.Test.YtmblnfdadpcigaaB
import Derived.Deep.RegionWith
namespace Go.Proofs.Ytmblnfdadpcigaa
open Go.RowKit

/-- may rows go so? -/
def roB (a b n : Int) : Bool := wiB a 0 1048576 && wiB b 0 1048576 && wiB n 1 4096
theorem roB_iff (a b n : Int) : roB a b n = true ↔ ((0 ≤ a ∧ a ≤ 1048576) ∧ 0 ≤ b ∧ b ≤ 1048576) ∧ 1 ≤ n ∧ n ≤ 4096 := by simp [roB, wiB]

set_option maxRecDepth 100000 in
set_option maxHeartbeats 1000000 in
theorem rows_err (a b n : Int) (h : roB a b n = false) (W : World) : AnsN 11 #[.int .i64 a, .int .i64 b, .int .i64 n] W 0 (fun _ => 0) 3 := by
  unfold AnsN
  have H1 := hide (fun V => within_any a 0 1048576 V)
  have H2 := hide (fun V => within_any b 0 1048576 V)
  have H3 := hide (fun V => within_any n 1 4096 V)
  cases h1 : wiB a 0 1048576 with
  | false =>
    rw [h1] at H1
    clear h h1
    go_enter Try.func11, Try.ntmps11
    go_wp2_with fail
    refine (unhide H1 _).mono ?_
    rintro e w1 ⟨rfl, hb1⟩
    go_wp2
    exact bodyPost_ret (v := .tuple #[.slice none 0 0, .int .i64 3]) (by simp [results, Try.results11, go_sem]) rfl (PN.mk _ _ (.inl rfl) hb1)
  | true =>
    cases h2 : wiB b 0 1048576 with
    | false =>
      rw [h1] at H1
      rw [h2] at H2
      clear h h1 h2
      go_enter Try.func11, Try.ntmps11
      go_wp2_with fail
      refine (unhide H1 _).mono ?_
      rintro e w1 ⟨rfl, hb1⟩
      go_wp2_with fail
      refine (unhide H2 _).mono ?_
      rintro e w2 ⟨rfl, hb2⟩
      have Hb := hide (btrans hb1 hb2)
      clear hb1 hb2
      go_wp2
      exact bodyPost_ret (v := .tuple #[.slice none 0 0, .int .i64 3]) (by simp [results, Try.results11, go_sem]) rfl (PN.mk _ _ (.inl rfl) (unhide Hb))
    | true =>
      have h3 : wiB n 1 4096 = false := by simpa [roB, h1, h2] using h
      rw [h1] at H1
      rw [h2] at H2
      rw [h3] at H3
      clear h h1 h2 h3
      go_enter Try.func11, Try.ntmps11
      go_wp2_with fail
      refine (unhide H1 _).mono ?_
      rintro e w1 ⟨rfl, hb1⟩
      go_wp2_with fail
      refine (unhide H2 _).mono ?_
      rintro e w2 ⟨rfl, hb2⟩
      have Hb := hide (btrans hb1 hb2)
      clear hb1 hb2
      go_wp2_with fail
      refine (unhide H3 _).mono ?_
      rintro e w3 ⟨rfl, hb3⟩
      have Hb2 := hide (btrans (unhide Hb) hb3)
      clear hb3 Hb
      go_wp2
      exact bodyPost_ret (v := .tuple #[.slice none 0 0, .int .i64 3]) (by simp [results, Try.results11, go_sem]) rfl (PN.mk _ _ (.inl rfl) (unhide Hb2))

/-- which way rows go -/
def wy (a b : Nat) : Int := if b < a then -1 else 1
/-- how far they go -/
def fr (a b : Nat) : Nat := if b < a then a - b else b - a
/-- how wide row r is -/
def wd (a b n r : Nat) : Int := (a : Int) + wy a b * (rf n (fr a b / n) (fr a b % n) r : Nat)

theorem row_nums (a b n x : Nat) (ha : a ≤ 1048576) (hb : b ≤ 1048576) (hn : n ≤ 4096) (hx : x < n) : ∃ (q m y yq c s : Nat) (ws v : Int), c = mb n m y ∧ (x : Int) + 1 = (y : Int) ∧ Int.tdiv (fr a b : Int) (n : Int) = (q : Int) ∧ Int.tmod (fr a b : Int) (n : Int) = (m : Int) ∧ IntKind.i64.wrap ((y : Int) * (q : Int)) = (yq : Int) ∧ (yq : Int) + (c : Int) = (s : Int) ∧ IntKind.i64.wrap (s : Int) = (s : Int) ∧
    wy a b * (s : Int) = ws ∧ IntKind.i64.wrap ws = ws ∧ (a : Int) + ws = v ∧ IntKind.i64.wrap v = v ∧ v = wd a b n x ∧ m ≤ 1048576 ∧ y ≤ 1048576 ∧ IntKind.i64.wrap (q : Int) = (q : Int) ∧ ((n : Int) == 0) = false ∧ (0 : Int) ≤ (fr a b : Int) ∧ (y : Int) ≤ 4096 ∧ (q : Int) ≤ 1048576 ∧ (yq : Int) ≤ 1048576 := by
  have hf : fr a b ≤ 1048576 := by unfold fr; split <;> omega
  have h1 := rf_le n (fr a b) x hx
  have h1' : (x + 1) * (fr a b / n) + mb n (fr a b % n) (x + 1) ≤ fr a b := h1
  have hm := Nat.mod_lt (fr a b) (show 0 < n by omega)
  have hq : fr a b / n ≤ fr a b := Nat.div_le_self _ _
  refine ⟨fr a b / n, fr a b % n, x + 1, (x + 1) * (fr a b / n), mb n (fr a b % n) (x + 1), rf n (fr a b / n) (fr a b % n) x, wy a b * (rf n (fr a b / n) (fr a b % n) x : Nat), wd a b n x, rfl, by simp, by rw [Int.tdiv_eq_ediv_of_nonneg (by omega)]; simp, by rw [Int.tmod_eq_emod_of_nonneg (by omega)]; simp, ?_, by unfold rf; simp, ?_, rfl, ?_, rfl, ?_, rfl, by omega, by omega, ?_, by simp; omega, by omega, by omega, by omega, by omega⟩
  · rw [← Int.natCast_mul]; exact Go.IntWalk.i64_in _ (by omega)
  · exact Go.IntWalk.i64_in _ (by omega)
  · apply Go.IntWalk.i64_in; unfold wy; split <;> omega
  · apply Go.IntWalk.i64_in; unfold wd wy; split <;> omega
  · clear h1 h1' hm; generalize fr a b / n = qq at hq ⊢; exact Go.IntWalk.i64_in _ (by omega)

set_option maxRecDepth 100000 in
set_option maxHeartbeats 4000000 in
theorem rows_ok (a b n : Nat) (ha : a ≤ 1048576) (hb : b ≤ 1048576) (hn0 : 1 ≤ n) (hn : n ≤ 4096) (W : World) : AnsN 11 #[.int .i64 a, .int .i64 b, .int .i64 n] W n (wd a b n) 0 := by
  unfold AnsN
  have H1 := hide (fun V => within_any a 0 1048576 V)
  have H2 := hide (fun V => within_any b 0 1048576 V)
  have H3 := hide (fun V => within_any n 1 4096 V)
  rw [show wiB (a : Int) 0 1048576 = true from (wiB_iff _ _ _).2 (by omega)] at H1
  rw [show wiB (b : Int) 0 1048576 = true from (wiB_iff _ _ _).2 (by omega)] at H2
  rw [show wiB (n : Int) 1 4096 = true from (wiB_iff _ _ _).2 (by omega)] at H3
  have HM := hide (fun (m p : Nat) hm hp V => below_any n m p (by omega) (by omega) hm hp V)
  have HN := hide (fun (x : Nat) (hx : x < n) => row_nums a b n x ha hb hn hx)
  obtain ⟨i0, hi, hz0, hz1, hz2⟩ := info_parts info3
  have hby : i0.bytes * n ≤ 281474976710656 := by rw [hz2]; omega
  have hml : n ≤ maxLen := by unfold maxLen; omega
  obtain ⟨f, hf⟩ : ∃ f : Nat, f = fr a b := ⟨_, rfl⟩
  have Hf := hide hf
  rw [← hf] at HN
  obtain ⟨g, hg⟩ : ∃ g : Nat → Int, g = wd a b n := ⟨_, rfl⟩
  rw [← hg] at HN ⊢
  clear hf hg
  go_enter Try.func11, Try.ntmps11
  go_wp2_with fail
  refine (unhide H1 _).mono ?_
  rintro e w1 ⟨rfl, hb1⟩
  go_wp2_with fail
  refine (unhide H2 _).mono ?_
  rintro e w2 ⟨rfl, hb2⟩
  have Hb := hide (btrans hb1 hb2)
  clear hb1 hb2
  go_wp2_with fail
  refine (unhide H3 _).mono ?_
  rintro e w3 ⟨rfl, hb3⟩
  have HB := hide (btrans (unhide Hb) hb3)
  clear hb3 Hb H1 H2 H3
  by_cases hd : b < a
  · have c0 : (b : Int) - (a : Int) < 0 := by omega
    have c1 : -((b : Int) - (a : Int)) = (f : Int) := by rw [unhide Hf]; unfold fr; rw [if_pos hd]; omega
    have Hw := hide (show wy a b = -1 by unfold wy; rw [if_pos hd])
    rw [unhide Hw] at HN
    clear Hw hd
    go_wp2_with (refine wpList_make_full _ rfl _ _ 22 rfl w3.heap.size 3 i0 _ 1 Try.underlying22 hi hz0 hz1 .i64 .i64 (n : Int) (n : Int) n rfl rfl rfl rfl hby hml (Nat.le_refl _) ?_)
    intro wm hown hgrow
    have HR := hide (jrow_made hown)
    have HS := hide (btrans (unhide HB) ((Below.refl _ w3).grown hgrow (Nat.le_refl _) (fun k hk => by cases hk)))
    have hq : W.heap.size ≤ w3.heap.size := (unhide HB).size
    clear hown hgrow hi hz0 hz1 hz2 hby hml HB c0 c1
    generalize w3.heap.size = bq at *
    go_wp2
    go_loopw [36] (fun i wr => ∃ x : Nat, x ≤ n ∧ i = .int .i64 x ∧ JRow wr bq n (upto g x) ∧ Below W.heap.size W wr) (fun i _ => n - (intOf i).toNat)
    case atStart => exact ⟨0, Nat.zero_le _, rfl, by rw [upto_zero]; exact unhide HR, unhide HS⟩
    case round =>
      clear HR HS
      obtain ⟨x, hx, rfl, hR, hb⟩ := hrel
      by_cases hlt : x < n
      · have q0 : (x : Int) < (n : Int) := by omega
        have q1 : (0 : Int) ≤ (x : Int) := by omega
        obtain ⟨q, m, y, yq, c, s, ws, v, hc, e1, e2, e3, e4, e5, e6, e7, e8, e9, e10, e11, b1, b2, b3, b4, b5, b6, b7, b8⟩ := unhide HN x hlt
        have HMx := hide (unhide HM m y b1 b2)
        rw [← hc] at HMx
        simp only [Int.neg_mul, Int.one_mul] at e7
        have HR := hide hR
        have Hb := hide hb
        have Hv := hide e11
        clear hR hb hc e11
        go_wp2_with fail
        go_region_with (go_at_call 17; refine (unhide HMx _).mono ?_; rintro e w4 ⟨rfl, hb4⟩; have hR4 := (unhide HR).keep (btrans (bdrew _) hb4); have hf4 := (hR4.2 x hlt).2; have hc4 := (hR4.2 x hlt).1)
        all_goals
          have HRn := hide (hR4.put (g := upto g (x + 1)) (x := x) (v := v) (by rw [upto_at, unhide Hv]) (fun j _ hj => upto_ne _ x j hj))
          have Hbn := hide (bset (p := ⟨bq, x, none⟩) (u := .int .i64 v) (btrans (unhide Hb) (btrans (bdrew _) hb4)) hq)
          clear hR4 hf4 hc4 hb4 e1 e2 e3 e4 e5 e6 e7 e8 e9 e10 HMx HR Hb
          go_wp2
          go_roundw
          case rel => exact ⟨x + 1, by omega, by go_num, unhide HRn, unhide Hbn⟩
          case measure => simp [intOf]; omega
      · obtain rfl : n = x := by omega
        have cl : ¬ ((n : Int) < (n : Int)) := by omega
        have HR := hide hR
        have Hb := hide hb
        clear hR hb
        go_wp2
        exact bodyPost_ret (v := .tuple #[.slice (some ⟨bq, 0, none⟩) n n, .int .i64 0]) (by simp [results, Try.results11, go_sem]) rfl (PN.mk _ _ ((unhide HR).is (fun j hj => by simp [upto, hj])) (unhide Hb))
  · have c0 : ¬ ((b : Int) - (a : Int) < 0) := by omega
    have c1 : (b : Int) - (a : Int) = (f : Int) := by rw [unhide Hf]; unfold fr; rw [if_neg hd]; omega
    have Hw := hide (show wy a b = 1 by unfold wy; rw [if_neg hd])
    rw [unhide Hw] at HN
    clear Hw hd
    go_wp2_with (refine wpList_make_full _ rfl _ _ 22 rfl w3.heap.size 3 i0 _ 1 Try.underlying22 hi hz0 hz1 .i64 .i64 (n : Int) (n : Int) n rfl rfl rfl rfl hby hml (Nat.le_refl _) ?_)
    intro wm hown hgrow
    have HR := hide (jrow_made hown)
    have HS := hide (btrans (unhide HB) ((Below.refl _ w3).grown hgrow (Nat.le_refl _) (fun k hk => by cases hk)))
    have hq : W.heap.size ≤ w3.heap.size := (unhide HB).size
    clear hown hgrow hi hz0 hz1 hz2 hby hml HB c0 c1
    generalize w3.heap.size = bq at *
    go_wp2
    go_loopw [36] (fun i wr => ∃ x : Nat, x ≤ n ∧ i = .int .i64 x ∧ JRow wr bq n (upto g x) ∧ Below W.heap.size W wr) (fun i _ => n - (intOf i).toNat)
    case atStart => exact ⟨0, Nat.zero_le _, rfl, by rw [upto_zero]; exact unhide HR, unhide HS⟩
    case round =>
      clear HR HS
      obtain ⟨x, hx, rfl, hR, hb⟩ := hrel
      by_cases hlt : x < n
      · have q0 : (x : Int) < (n : Int) := by omega
        have q1 : (0 : Int) ≤ (x : Int) := by omega
        obtain ⟨q, m, y, yq, c, s, ws, v, hc, e1, e2, e3, e4, e5, e6, e7, e8, e9, e10, e11, b1, b2, b3, b4, b5, b6, b7, b8⟩ := unhide HN x hlt
        have HMx := hide (unhide HM m y b1 b2)
        rw [← hc] at HMx
        simp only [Int.one_mul] at e7
        have HR := hide hR
        have Hb := hide hb
        have Hv := hide e11
        clear hR hb hc e11
        go_wp2_with fail
        go_region_with (go_at_call 17; refine (unhide HMx _).mono ?_; rintro e w4 ⟨rfl, hb4⟩; have hR4 := (unhide HR).keep (btrans (bdrew _) hb4); have hf4 := (hR4.2 x hlt).2; have hc4 := (hR4.2 x hlt).1)
        all_goals
          have HRn := hide (hR4.put (g := upto g (x + 1)) (x := x) (v := v) (by rw [upto_at, unhide Hv]) (fun j _ hj => upto_ne _ x j hj))
          have Hbn := hide (bset (p := ⟨bq, x, none⟩) (u := .int .i64 v) (btrans (unhide Hb) (btrans (bdrew _) hb4)) hq)
          clear hR4 hf4 hc4 hb4 e1 e2 e3 e4 e5 e6 e7 e8 e9 e10 HMx HR Hb
          go_wp2
          go_roundw
          case rel => exact ⟨x + 1, by omega, by go_num, unhide HRn, unhide Hbn⟩
          case measure => simp [intOf]; omega
      · obtain rfl : n = x := by omega
        have cl : ¬ ((n : Int) < (n : Int)) := by omega
        have HR := hide hR
        have Hb := hide hb
        clear hR hb
        go_wp2
        exact bodyPost_ret (v := .tuple #[.slice (some ⟨bq, 0, none⟩) n n, .int .i64 0]) (by simp [results, Try.results11, go_sem]) rfl (PN.mk _ _ ((unhide HR).is (fun j hj => by simp [upto, hj])) (unhide Hb))
end Go.Proofs.Ytmblnfdadpcigaa
