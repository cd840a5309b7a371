/-
  withoutIdleRacks; Tidy.
-/
import Derived.Test.YtancniamgfppiaaTA
namespace Go.Proofs.Ytancniamgfppiaa
open Go.RowKit

set_option maxRecDepth 100000 in
set_option maxHeartbeats 4000000 in
theorem idle_any {W : World} {q : Option Addr} {n c : Nat} {g : Nat → Sx} (hs : Sc W q n g) (hn : n * 40 + 4096 ≤ 140737488355328) : Lst 30 q n c W (wiL 0 (lsG g n)) := by
  unfold Lst
  rw [← wi_all]
  have HS0 := hide (fun V (hV : Below W.heap.size W V) => hs.keep hV)
  have HI := hide (fun x V => isRack_any x V)
  unfold Ans at HI
  clear hs
  go_enter Try.func30, Try.ntmps30
  go_wp2
  go_loopw [3, 4, 9] (fun dv rv i wr => ∃ x : Nat, x ≤ n ∧ rv = .int .i64 (wiR g x) ∧ i = .int .i64 x ∧ wr.ownsRow W.heap.size 24 5 dv (wiI g x).length (stV (wiI g x)) ∧ Below W.heap.size W wr) (fun _ _ i _ => n - (intOf i).toNat)
  case atStart => exact ⟨0, Nat.zero_le _, rfl, rfl, World.ownsRow_nil _ _ _ _, Below.refl _ _⟩
  case round =>
    obtain ⟨x, hx, rfl, rfl, hD, hB⟩ := hrel
    obtain ⟨dq, dc, rfl⟩ := own_form hD
    have HD := hide hD
    have HB := hide hB
    clear hD hB
    by_cases hlt : x < n
    · have q1 : (x : Int) < (n : Int) := by omega
      have q2 : (0 : Int) ≤ (x : Int) := by omega
      obtain ⟨b5, o5, rfl, c0, c1, c2, c3, c4⟩ := (unhide HS0 wr (unhide HB)).at hlt
      have HX := hide (XB.new wr (g x))
      have HB1 := hide (btrans (unhide HB) (bnew wr (.cells #[.int .i64 (g x).dk, .int .i64 (g x).bed, .int .i64 (g x).ndl, .int .i64 (g x).car, .int .i64 (g x).tt] 24)))
      have HD1 := hide (own_keep (unhide HD) (bnew wr (.cells #[.int .i64 (g x).dk, .int .i64 (g x).bed, .int .i64 (g x).ndl, .int .i64 (g x).car, .int .i64 (g x).tt] 24)))
      have hdl := wiI_le g x
      obtain ⟨dn, hdn⟩ : ∃ dn, dn = (wiI g x).length := ⟨_, rfl⟩
      rw [← hdn] at HD1 hdl
      rw [← hdn]
      have Hdn := hide hdn
      have Hn1 := hide (show wiI g (x + 1) = if (rkB (g x) && (g x).tt == wiR g x) = true then wiI g x else wiI g x ++ [g x] from rfl)
      have Hn2 := hide (show wiR g (x + 1) = if rkB (g x) = true then (g x).tt else wiR g x from rfl)
      clear hdn HD
      obtain ⟨rk, hrk⟩ : ∃ r, r = wiR g x := ⟨_, rfl⟩
      rw [← hrk] at Hn1 Hn2
      rw [← hrk]
      clear hrk
      go_upto_region 6 with fail
      generalize wr.alloc (.cells #[.int .i64 (g x).dk, .int .i64 (g x).bed, .int .i64 (g x).ndl, .int .i64 (g x).car, .int .i64 (g x).tt] 24) = w4 at *
      clear c0 c1 c2 c3 c4
      obtain ⟨-, x0, x1, x2, x3, x4⟩ := unhide HX
      go_wp2_with fail
      refine (unhide HI (g x) _).mono ?_
      rintro e w5 ⟨rfl, hb5⟩
      have HX5 := hide ((unhide HX).keep hb5)
      have HB5 := hide (btrans (unhide HB1) hb5)
      have HD5 := hide (own_keep (unhide HD1) hb5)
      clear hb5 x0 x1 x2 x3 x4 HX HD1 HB1
      cases hr : rkB (g x) with
      | false =>
        have Hok := hide (show wiI g (x + 1) = wiI g x ++ [g x] by rw [unhide Hn1, if_neg (by simp [hr])])
        have Hrk := hide (show wiR g (x + 1) = rk by rw [unhide Hn2, if_neg (by simp [hr])])
        clear hr
        obtain ⟨-, x0, x1, x2, x3, x4⟩ := unhide HX5
        have HD2 := hide (own_keep (unhide HD5) (bnew w5 (.cells #[.int .i64 (g x).dk, .int .i64 (g x).bed, .int .i64 (g x).ndl, .int .i64 (g x).car, .int .i64 (g x).tt] 24)))
        have HY2 := hide (own_lit (B := 0) (e := 24) (z := 5) (k := 1) w5 #[.int .i64 (g x).dk, .int .i64 (g x).bed, .int .i64 (g x).ndl, .int .i64 (g x).car, .int .i64 (g x).tt] (Nat.zero_le _) (by unfold maxLen; omega) rfl)
        have H1 := hide (one_st (g x))
        have hsz5 := (unhide HB5).size
        go_wp2_with (at_builtin; refine wl_app rfl rfl Try.underlying22 info44 rfl (by decide) (B := W.heap.size) (C := 0) (n := dn) (m := 1) rfl rfl (unhide HD2) (unhide HY2) (unhide H1) (by unfold maxLen; omega) (by omega) (by simp; omega) ?_)
        intro v' w6 hown' hgrow _
        have HB6 := hide ((btrans (unhide HB5) (bnew w5 (.cells #[.int .i64 (g x).dk, .int .i64 (g x).bed, .int .i64 (g x).ndl, .int .i64 (g x).car, .int .i64 (g x).tt] 24))).grown hgrow (by simp; omega) (fun k hk => ((unhide HD2).lt k hk).1))
        have HD6 := hide hown'
        obtain ⟨q', cap', rfl⟩ := own_form hown'
        clear hown' hgrow x0 x1 x2 x3 x4
        go_wp2
        go_roundw
        case rel => exact ⟨x + 1, by omega, by rw [unhide Hrk], by go_num, by rw [unhide Hok, stV_snoc, List.length_append]; exact (unhide Hdn) ▸ unhide HD6, unhide HB6⟩
        case measure => simp [intOf]; omega
      | true =>
        have Hrk := hide (show wiR g (x + 1) = (g x).tt by rw [unhide Hn2, if_pos hr])
        by_cases ht : (g x).tt = rk
        · have Hok := hide (show wiI g (x + 1) = wiI g x by rw [unhide Hn1, if_pos (by simp [hr, ht])])
          have Hrk2 := hide (show wiR g (x + 1) = rk by rw [unhide Hrk]; exact ht)
          have g1 : ((g x).tt == rk) = true := by simp [ht]
          clear hr ht
          obtain ⟨-, x0, x1, x2, x3, x4⟩ := unhide HX5
          go_wp2
          go_roundw
          case rel => exact ⟨x + 1, by omega, by rw [unhide Hrk2], by go_num, by rw [unhide Hok]; exact (unhide Hdn) ▸ unhide HD5, unhide HB5⟩
          case measure => simp [intOf]; omega
        · have Hok := hide (show wiI g (x + 1) = wiI g x ++ [g x] by rw [unhide Hn1, if_neg (by simp [ht])])
          have g1 : ((g x).tt == rk) = false := by simpa using ht
          clear hr ht
          obtain ⟨-, x0, x1, x2, x3, x4⟩ := unhide HX5
          have HD2 := hide (own_keep (unhide HD5) (bnew w5 (.cells #[.int .i64 (g x).dk, .int .i64 (g x).bed, .int .i64 (g x).ndl, .int .i64 (g x).car, .int .i64 (g x).tt] 24)))
          have HY2 := hide (own_lit (B := 0) (e := 24) (z := 5) (k := 1) w5 #[.int .i64 (g x).dk, .int .i64 (g x).bed, .int .i64 (g x).ndl, .int .i64 (g x).car, .int .i64 (g x).tt] (Nat.zero_le _) (by unfold maxLen; omega) rfl)
          have H1 := hide (one_st (g x))
          have hsz5 := (unhide HB5).size
          go_wp2_with (at_builtin; refine wl_app rfl rfl Try.underlying22 info44 rfl (by decide) (B := W.heap.size) (C := 0) (n := dn) (m := 1) rfl rfl (unhide HD2) (unhide HY2) (unhide H1) (by unfold maxLen; omega) (by omega) (by simp; omega) ?_)
          intro v' w6 hown' hgrow _
          have HB6 := hide ((btrans (unhide HB5) (bnew w5 (.cells #[.int .i64 (g x).dk, .int .i64 (g x).bed, .int .i64 (g x).ndl, .int .i64 (g x).car, .int .i64 (g x).tt] 24))).grown hgrow (by simp; omega) (fun k hk => ((unhide HD2).lt k hk).1))
          have HD6 := hide hown'
          obtain ⟨q', cap', rfl⟩ := own_form hown'
          clear hown' hgrow x0 x1 x2 x3 x4
          go_wp2
          go_roundw
          case rel => exact ⟨x + 1, by omega, by rw [unhide Hrk], by go_num, by rw [unhide Hok, stV_snoc, List.length_append]; exact (unhide Hdn) ▸ unhide HD6, unhide HB6⟩
          case measure => simp [intOf]; omega
    · obtain rfl : n = x := by omega
      have cl : ¬ ((n : Int) < (n : Int)) := by omega
      go_wp2
      go_ret
      exact ⟨_, rfl, unhide HD, unhide HB⟩

theorem own_len {W : World} {B : Nat} {v : Value} {l : List Sx} (h : W.ownsRow B 24 5 v l.length (stV l)) : ∃ q c, v = .slice q l.length c := own_form h
set_option maxRecDepth 100000 in
set_option maxHeartbeats 4000000 in
theorem tidy_any {W : World} {q : Option Addr} {n c : Nat} {g : Nat → Sx} (hs : Sc W q n g) (hn : n * 40 + 4096 ≤ 140737488355328) : Lst 12 q n c W (tidyL (lsG g n)) := by
  have l1 := wm_le (lsG g n)
  have l2 := wp_le (wmL (lsG g n))
  rw [lsG_len] at l1
  have H1 := hide (misses_any (c := c) hs hn)
  unfold Lst at H1 ⊢
  have H2 := hide (fun V q c (h : Sc V q (wmL (lsG g n)).length (fun j => (wmL (lsG g n)).getD j x0)) => passed_any (c := c) h (by omega))
  have H3 := hide (fun V q c (h : Sc V q (wpL (wmL (lsG g n))).length (fun j => (wpL (wmL (lsG g n))).getD j x0)) => idle_any (c := c) h (by omega))
  unfold Lst at H2 H3
  rw [lsG_list] at H2 H3
  have He := hide (show tidyL (lsG g n) = wiL 0 (wpL (wmL (lsG g n))) from rfl)
  rw [unhide He]
  clear hs He
  generalize wmL (lsG g n) = la at *
  generalize wpL la = lb at *
  generalize wiL 0 lb = lc at *
  go_enter Try.func12, Try.ntmps12
  go_wp2_with fail
  refine (unhide H1).mono ?_
  rintro e w1 ⟨v1, rfl, hO1, hb1⟩
  obtain ⟨q1, c1, rfl⟩ := own_form hO1
  have HO1 := hide (unhide H2 w1 q1 c1 (own_sc hO1))
  have S1 := hide hb1
  clear hO1 hb1 H1 H2
  generalize la.length = na at *
  go_wp2_with fail
  refine (unhide HO1).mono ?_
  rintro e w2 ⟨v2, rfl, hO2, hb2⟩
  obtain ⟨q2, c2, rfl⟩ := own_form hO2
  have HO2 := hide (unhide H3 w2 q2 c2 (own_sc hO2))
  have S2 := hide (btrans (unhide S1) hb2)
  clear hO2 hb2 H3 HO1
  generalize lb.length = nb at *
  go_wp2_with fail
  refine (unhide HO2).mono ?_
  rintro e w3 ⟨v3, rfl, hO3, hb3⟩
  have HO3 := hide (own_le hO3 (unhide S2).size)
  have S3 := hide (btrans (unhide S2) hb3)
  obtain ⟨q3, c3, rfl⟩ := own_form hO3
  clear hO3 hb3 HO2
  go_wp2
  go_ret
  exact ⟨_, rfl, unhide HO3, unhide S3⟩
end Go.Proofs.Ytancniamgfppiaa
