/-
  isRack, makesLoop; withoutMisses, withoutPassedRacks, withoutIdleRacks; Tidy.
-/
import Derived.Test.YtancniamgfppiaaTM
import Derived.Test.YtancniamgfppiaaLwS
namespace Go.Proofs.Ytancniamgfppiaa
open Go.RowKit

set_option maxRecDepth 100000 in
set_option maxHeartbeats 1000000 in
theorem isRack_any (x : Sx) (W : World) : Ans 24 #[sxV x] W (.bool (rkB x)) := by
  unfold Ans
  have HX := hide (XB.new W x)
  have B0 := hide (bnew W (.cells #[.int .i64 x.dk, .int .i64 x.bed, .int .i64 x.ndl, .int .i64 x.car, .int .i64 x.tt] 24))
  unfold rkB
  go_enter Try.func24, Try.ntmps24
  go_upto_region 1 with fail
  generalize W.alloc (.cells #[.int .i64 x.dk, .int .i64 x.bed, .int .i64 x.ndl, .int .i64 x.car, .int .i64 x.tt] 24) = w0 at *
  obtain ⟨-, x0, x1, x2, x3, x4⟩ := unhide HX
  go_wp2
  go_ret
  exact ⟨rfl, unhide B0⟩
/-- does it make a loop? -/
def mkB (x : Sx) : Bool := x.dk == 1 || x.dk == 2
set_option maxRecDepth 100000 in
set_option maxHeartbeats 1000000 in
theorem makesLoop_any (x : Sx) (W : World) : Ans 25 #[sxV x] W (.bool (mkB x)) := by
  unfold Ans
  have HX := hide (XB.new W x)
  have B0 := hide (bnew W (.cells #[.int .i64 x.dk, .int .i64 x.bed, .int .i64 x.ndl, .int .i64 x.car, .int .i64 x.tt] 24))
  unfold mkB
  go_enter Try.func25, Try.ntmps25
  go_upto_region 1 with fail
  generalize W.alloc (.cells #[.int .i64 x.dk, .int .i64 x.bed, .int .i64 x.ndl, .int .i64 x.car, .int .i64 x.tt] 24) = w0 at *
  obtain ⟨-, x0, x1, x2, x3, x4⟩ := unhide HX
  cases h1 : (x.dk == 1)
  · cases h2 : (x.dk == 2)
    all_goals
      go_wp2
      go_ret
      exact ⟨ret_bool (by rw [h1, h2]; rfl), unhide B0⟩
  · go_wp2
    go_ret
    exact ⟨ret_bool (by rw [h1]; rfl), unhide B0⟩

/-- a list that is answered -/
def Lst (F : Nat) (q : Option Addr) (n c : Nat) (W : World) (l : List Sx) : Prop := Calls Try.prog F #[.slice q n c] W fun e w' => ∃ v, e = .returned v ∧ w'.ownsRow W.heap.size 24 5 v l.length (stV l) ∧ Below W.heap.size W w'
/-- the first rounds -/
def wmI (g : Nat → Sx) : Nat → List Sx
  | 0 => []
  | i + 1 => if ((g i).dk != 3) = true then wmI g i ++ [g i] else wmI g i
def wpI (g : Nat → Sx) (n : Nat) : Nat → List Sx
  | 0 => []
  | i + 1 => if (rkB (g i) && (decide (i + 1 < n) && rkB (g (i + 1)))) = true then wpI g n i else wpI g n i ++ [g i]
def wiR (g : Nat → Sx) : Nat → Int
  | 0 => 0
  | i + 1 => if rkB (g i) = true then (g i).tt else wiR g i
def wiI (g : Nat → Sx) : Nat → List Sx
  | 0 => []
  | i + 1 => if (rkB (g i) && (g i).tt == wiR g i) = true then wiI g i else wiI g i ++ [g i]
theorem wmI_le (g : Nat → Sx) (i : Nat) : (wmI g i).length ≤ i := by
  induction i with
  | zero => exact Nat.le_refl _
  | succ i ih =>
    simp only [wmI]
    split
    all_goals first | omega | (rw [List.length_append]; simp only [List.length_singleton]; omega)
theorem wpI_le (g : Nat → Sx) (n i : Nat) : (wpI g n i).length ≤ i := by
  induction i with
  | zero => exact Nat.le_refl _
  | succ i ih =>
    simp only [wpI]
    split
    all_goals first | omega | (rw [List.length_append]; simp only [List.length_singleton]; omega)
theorem wiI_le (g : Nat → Sx) (i : Nat) : (wiI g i).length ≤ i := by
  induction i with
  | zero => exact Nat.le_refl _
  | succ i ih =>
    simp only [wiI]
    split
    all_goals first | omega | (rw [List.length_append]; simp only [List.length_singleton]; omega)
theorem wm_from (g : Nat → Sx) (n : Nat) : ∀ i, i ≤ n → wmI g i ++ wmL ((lsG g n).drop i) = wmL (lsG g n) := by
  intro i
  induction i with
  | zero => intro _; simp [wmI]
  | succ i ih =>
    intro hi
    have e := ih (by omega)
    rw [lsG_drop (by omega), wmL] at e
    unfold wmI
    by_cases h : ((g i).dk != 3) = true
    · rw [if_pos h] at e ⊢
      rw [List.append_assoc]; exact e
    · rw [if_neg h] at e ⊢
      exact e
theorem wm_all (g : Nat → Sx) (n : Nat) : wmI g n = wmL (lsG g n) := by
  have := wm_from g n n (Nat.le_refl _)
  rw [List.drop_of_length_le (by rw [lsG_len]; exact Nat.le_refl _), wmL, List.append_nil] at this
  exact this
theorem hd_drop (g : Nat → Sx) (n i : Nat) : hdB ((lsG g n).drop i) = (decide (i < n) && rkB (g i)) := by
  rcases Nat.lt_or_ge i n with d | d
  · rw [lsG_drop d]
    simp [hdB, d]
  · rw [List.drop_of_length_le (by rw [lsG_len]; exact d)]
    simp [hdB]
    omega
theorem wp_from (g : Nat → Sx) (n : Nat) : ∀ i, i ≤ n → wpI g n i ++ wpL ((lsG g n).drop i) = wpL (lsG g n) := by
  intro i
  induction i with
  | zero => intro _; simp [wpI]
  | succ i ih =>
    intro hi
    have e := ih (by omega)
    rw [lsG_drop (by omega), wpL, hd_drop] at e
    unfold wpI
    by_cases h : (rkB (g i) && (decide (i + 1 < n) && rkB (g (i + 1)))) = true
    · rw [if_pos h] at e ⊢
      exact e
    · rw [if_neg h] at e ⊢
      rw [List.append_assoc]; exact e
theorem wp_all (g : Nat → Sx) (n : Nat) : wpI g n n = wpL (lsG g n) := by
  have := wp_from g n n (Nat.le_refl _)
  rw [List.drop_of_length_le (by rw [lsG_len]; exact Nat.le_refl _), wpL, List.append_nil] at this
  exact this
theorem wi_from (g : Nat → Sx) (n : Nat) : ∀ i, i ≤ n → wiI g i ++ wiL (wiR g i) ((lsG g n).drop i) = wiL 0 (lsG g n) := by
  intro i
  induction i with
  | zero => intro _; simp [wiI, wiR]
  | succ i ih =>
    intro hi
    have e := ih (by omega)
    rw [lsG_drop (by omega), wiL] at e
    rw [show wiI g (i + 1) = if (rkB (g i) && (g i).tt == wiR g i) = true then wiI g i else wiI g i ++ [g i] from rfl, show wiR g (i + 1) = if rkB (g i) = true then (g i).tt else wiR g i from rfl]
    by_cases h : rkB (g i) = true
    · rw [if_pos h] at e ⊢
      by_cases h2 : (g i).tt = wiR g i
      · rw [if_pos h2] at e
        rw [if_pos (by simp [h, h2]), h2]
        exact e
      · rw [if_neg h2] at e
        rw [if_neg (by simp [h, h2]), List.append_assoc]
        exact e
    · rw [if_neg h] at e ⊢
      rw [if_neg (by simp [h]), List.append_assoc]
      exact e
theorem wi_all (g : Nat → Sx) (n : Nat) : wiI g n = wiL 0 (lsG g n) := by
  have := wi_from g n n (Nat.le_refl _)
  rw [List.drop_of_length_le (by rw [lsG_len]; exact Nat.le_refl _), wiL, List.append_nil] at this
  exact this
theorem one_st (x : Sx) : ∀ u ∈ (#[.int .i64 x.dk, .int .i64 x.bed, .int .i64 x.ndl, .int .i64 x.car, .int .i64 x.tt] : Array Value).toList, u.oneCell' = true := by
  intro u hu
  simp at hu
  rcases hu with rfl | rfl | rfl | rfl | rfl <;> rfl

set_option maxRecDepth 100000 in
set_option maxHeartbeats 4000000 in
theorem misses_any {W : World} {q : Option Addr} {n c : Nat} {g : Nat → Sx} (hs : Sc W q n g) (hn : n * 40 + 4096 ≤ 140737488355328) : Lst 32 q n c W (wmL (lsG g n)) := by
  unfold Lst
  rw [← wm_all]
  have HS0 := hide (fun V (hV : Below W.heap.size W V) => hs.keep hV)
  clear hs
  go_enter Try.func32, Try.ntmps32
  go_wp2
  go_loopw [3, 8] (fun dv i wr => ∃ x : Nat, x ≤ n ∧ i = .int .i64 x ∧ wr.ownsRow W.heap.size 24 5 dv (wmI g x).length (stV (wmI g x)) ∧ Below W.heap.size W wr) (fun _ i _ => n - (intOf i).toNat)
  case atStart => exact ⟨0, Nat.zero_le _, rfl, World.ownsRow_nil _ _ _ _, Below.refl _ _⟩
  case round =>
    obtain ⟨x, hx, rfl, hD, hB⟩ := hrel
    obtain ⟨dq, dc, rfl⟩ := own_form hD
    have HD := hide hD
    have HB := hide hB
    clear hD hB
    by_cases hlt : x < n
    · have q1 : (x : Int) < (n : Int) := by omega
      have q2 : (0 : Int) ≤ (x : Int) := by omega
      obtain ⟨b5, o5, rfl, c0, c1, c2, c3, c4⟩ := (unhide HS0 wr (unhide HB)).at hlt
      have HX := hide (XB.new wr (g x))
      have HB1 := hide (btrans (unhide HB) (bnew wr (.cells #[.int .i64 (g x).dk, .int .i64 (g x).bed, .int .i64 (g x).ndl, .int .i64 (g x).car, .int .i64 (g x).tt] 24)))
      have HD1 := hide (own_keep (unhide HD) (bnew wr (.cells #[.int .i64 (g x).dk, .int .i64 (g x).bed, .int .i64 (g x).ndl, .int .i64 (g x).car, .int .i64 (g x).tt] 24)))
      have hdl := wmI_le g x
      by_cases h0 : ((g x).dk != 3) = true
      · have Hok := hide (show wmI g (x + 1) = wmI g x ++ [g x] by simp only [wmI]; rw [if_pos h0])
        obtain ⟨dn, hdn⟩ : ∃ dn, dn = (wmI g x).length := ⟨_, rfl⟩
        rw [← hdn] at HD1 hdl
        rw [← hdn]
        have Hdn := hide hdn
        clear hdn
        go_upto_region 5 with fail
        generalize wr.alloc (.cells #[.int .i64 (g x).dk, .int .i64 (g x).bed, .int .i64 (g x).ndl, .int .i64 (g x).car, .int .i64 (g x).tt] 24) = w5 at *
        obtain ⟨-, x0, x1, x2, x3, x4⟩ := unhide HX
        have HD2 := hide (own_keep (unhide HD1) (bnew w5 (.cells #[.int .i64 (g x).dk, .int .i64 (g x).bed, .int .i64 (g x).ndl, .int .i64 (g x).car, .int .i64 (g x).tt] 24)))
        have HY2 := hide (own_lit (B := 0) (e := 24) (z := 5) (k := 1) w5 #[.int .i64 (g x).dk, .int .i64 (g x).bed, .int .i64 (g x).ndl, .int .i64 (g x).car, .int .i64 (g x).tt] (Nat.zero_le _) (by unfold maxLen; omega) rfl)
        have H1 := hide (one_st (g x))
        have hsz5 := (unhide HB1).size
        go_wp2_with (at_builtin; refine wl_app rfl rfl Try.underlying22 info44 rfl (by decide) (B := W.heap.size) (C := 0) (n := dn) (m := 1) rfl rfl (unhide HD2) (unhide HY2) (unhide H1) (by unfold maxLen; omega) (by omega) (by simp; omega) ?_)
        intro v' w6 hown' hgrow _
        have HB6 := hide ((btrans (unhide HB1) (bnew w5 (.cells #[.int .i64 (g x).dk, .int .i64 (g x).bed, .int .i64 (g x).ndl, .int .i64 (g x).car, .int .i64 (g x).tt] 24))).grown hgrow (by simp; omega) (fun k hk => ((unhide HD2).lt k hk).1))
        have HD6 := hide hown'
        obtain ⟨q', cap', rfl⟩ := own_form hown'
        clear hown' hgrow x0 x1 x2 x3 x4
        go_wp2
        go_roundw
        case rel => exact ⟨x + 1, by omega, by go_num, by rw [unhide Hok, stV_snoc, List.length_append]; exact (unhide Hdn) ▸ unhide HD6, unhide HB6⟩
        case measure => simp [intOf]; omega
      · have Hok := hide (show wmI g (x + 1) = wmI g x by simp only [wmI]; rw [if_neg h0])
        have h1 : ((g x).dk != 3) = false := by simpa using h0
        clear h0
        go_upto_region 5 with fail
        generalize wr.alloc (.cells #[.int .i64 (g x).dk, .int .i64 (g x).bed, .int .i64 (g x).ndl, .int .i64 (g x).car, .int .i64 (g x).tt] 24) = w5 at *
        obtain ⟨-, x0, x1, x2, x3, x4⟩ := unhide HX
        generalize (g x).dk = dk at *
        go_wp2
        go_roundw
        case rel => exact ⟨x + 1, by omega, by go_num, by rw [unhide Hok]; exact unhide HD1, unhide HB1⟩
        case measure => simp [intOf]; omega
    · obtain rfl : n = x := by omega
      have cl : ¬ ((n : Int) < (n : Int)) := by omega
      go_wp2
      go_ret
      exact ⟨_, rfl, unhide HD, unhide HB⟩

set_option maxRecDepth 100000 in
set_option maxHeartbeats 4000000 in
theorem passed_any {W : World} {q : Option Addr} {n c : Nat} {g : Nat → Sx} (hs : Sc W q n g) (hn : n * 40 + 4096 ≤ 140737488355328) : Lst 31 q n c W (wpL (lsG g n)) := by
  unfold Lst
  rw [← wp_all]
  have HS0 := hide (fun V (hV : Below W.heap.size W V) => hs.keep hV)
  have HI := hide (fun x V => isRack_any x V)
  unfold Ans at HI
  clear hs
  go_enter Try.func31, Try.ntmps31
  go_wp2
  go_loopw [3, 9] (fun dv i wr => ∃ x : Nat, x ≤ n ∧ i = .int .i64 x ∧ wr.ownsRow W.heap.size 24 5 dv (wpI g n x).length (stV (wpI g n x)) ∧ Below W.heap.size W wr) (fun _ i _ => n - (intOf i).toNat)
  case atStart => exact ⟨0, Nat.zero_le _, rfl, World.ownsRow_nil _ _ _ _, Below.refl _ _⟩
  case round =>
    obtain ⟨x, hx, rfl, hD, hB⟩ := hrel
    obtain ⟨dq, dc, rfl⟩ := own_form hD
    have HD := hide hD
    have HB := hide hB
    clear hD hB
    by_cases hlt : x < n
    · have q1 : (x : Int) < (n : Int) := by omega
      have q2 : (0 : Int) ≤ (x : Int) := by omega
      obtain ⟨b5, o5, rfl, c0, c1, c2, c3, c4⟩ := (unhide HS0 wr (unhide HB)).at hlt
      have HX := hide (XB.new wr (g x))
      have HB1 := hide (btrans (unhide HB) (bnew wr (.cells #[.int .i64 (g x).dk, .int .i64 (g x).bed, .int .i64 (g x).ndl, .int .i64 (g x).car, .int .i64 (g x).tt] 24)))
      have HD1 := hide (own_keep (unhide HD) (bnew wr (.cells #[.int .i64 (g x).dk, .int .i64 (g x).bed, .int .i64 (g x).ndl, .int .i64 (g x).car, .int .i64 (g x).tt] 24)))
      have hdl := wpI_le g n x
      obtain ⟨dn, hdn⟩ : ∃ dn, dn = (wpI g n x).length := ⟨_, rfl⟩
      rw [← hdn] at HD1 hdl
      rw [← hdn]
      have Hdn := hide hdn
      clear hdn HD
      go_upto_region 5 with fail
      generalize wr.alloc (.cells #[.int .i64 (g x).dk, .int .i64 (g x).bed, .int .i64 (g x).ndl, .int .i64 (g x).car, .int .i64 (g x).tt] 24) = w4 at *
      clear c0 c1 c2 c3 c4
      obtain ⟨-, x0, x1, x2, x3, x4⟩ := unhide HX
      go_wp2_with fail
      refine (unhide HI (g x) _).mono ?_
      rintro e w5 ⟨rfl, hb5⟩
      have HX5 := hide ((unhide HX).keep hb5)
      have HB5 := hide (btrans (unhide HB1) hb5)
      have HD5 := hide (own_keep (unhide HD1) hb5)
      clear hb5 x0 x1 x2 x3 x4 HX HD1 HB1
      cases hr : rkB (g x) with
      | false =>
        have Hok := hide (show wpI g n (x + 1) = wpI g n x ++ [g x] by simp only [wpI]; rw [if_neg (by simp [hr])])
        clear hr
        obtain ⟨-, x0, x1, x2, x3, x4⟩ := unhide HX5
        have HD2 := hide (own_keep (unhide HD5) (bnew w5 (.cells #[.int .i64 (g x).dk, .int .i64 (g x).bed, .int .i64 (g x).ndl, .int .i64 (g x).car, .int .i64 (g x).tt] 24)))
        have HY2 := hide (own_lit (B := 0) (e := 24) (z := 5) (k := 1) w5 #[.int .i64 (g x).dk, .int .i64 (g x).bed, .int .i64 (g x).ndl, .int .i64 (g x).car, .int .i64 (g x).tt] (Nat.zero_le _) (by unfold maxLen; omega) rfl)
        have H1 := hide (one_st (g x))
        have hsz5 := (unhide HB5).size
        go_wp2_with (at_builtin; refine wl_app rfl rfl Try.underlying22 info44 rfl (by decide) (B := W.heap.size) (C := 0) (n := dn) (m := 1) rfl rfl (unhide HD2) (unhide HY2) (unhide H1) (by unfold maxLen; omega) (by omega) (by simp; omega) ?_)
        intro v' w6 hown' hgrow _
        have HB6 := hide ((btrans (unhide HB5) (bnew w5 (.cells #[.int .i64 (g x).dk, .int .i64 (g x).bed, .int .i64 (g x).ndl, .int .i64 (g x).car, .int .i64 (g x).tt] 24))).grown hgrow (by simp; omega) (fun k hk => ((unhide HD2).lt k hk).1))
        have HD6 := hide hown'
        obtain ⟨q', cap', rfl⟩ := own_form hown'
        clear hown' hgrow x0 x1 x2 x3 x4
        go_wp2
        go_roundw
        case rel => exact ⟨x + 1, by omega, by go_num, by rw [unhide Hok, stV_snoc, List.length_append]; exact (unhide Hdn) ▸ unhide HD6, unhide HB6⟩
        case measure => simp [intOf]; omega
      | true =>
        by_cases hx1 : x + 1 < n
        · have q3 : ((x + 1 : Nat) : Int) < (n : Int) := by omega
          have q4 : (0 : Int) ≤ ((x + 1 : Nat) : Int) := by omega
          obtain ⟨b6, o6, e6, c0, c1, c2, c3, c4⟩ := (unhide HS0 w5 (unhide HB5)).at hx1
          cases e6
          have q5 : (x : Int) + 1 = ((x + 1 : Nat) : Int) := by omega
          obtain ⟨y, hy⟩ : ∃ y, y = x + 1 := ⟨_, rfl⟩
          rw [← hy] at q3 q4 q5 c0 c1 c2 c3 c4
          have Hy := hide hy
          clear hy
          cases hr2 : rkB (g (x + 1)) with
          | true =>
            have Hok := hide (show wpI g n (x + 1) = wpI g n x by simp only [wpI]; rw [if_pos (by simp [hr, hr2, hx1])])
            have Hr2 := hide (show rkB (g y) = true by rw [unhide Hy]; exact hr2)
            clear hr hr2
            go_wp2_with fail
            refine (unhide HI (g y) _).mono ?_
            rintro e w6 ⟨rfl, hb6⟩
            rw [unhide Hr2]
            have HB6 := hide (btrans (unhide HB5) hb6)
            have HD6 := hide (own_keep (unhide HD5) hb6)
            clear hb6 c0 c1 c2 c3 c4
            go_wp2
            go_roundw
            case rel => exact ⟨x + 1, by omega, by go_num, by rw [unhide Hok]; exact (unhide Hdn) ▸ unhide HD6, unhide HB6⟩
            case measure => simp [intOf]; omega
          | false =>
            have Hok := hide (show wpI g n (x + 1) = wpI g n x ++ [g x] by simp only [wpI]; rw [if_neg (by simp [hr2])])
            have Hr2 := hide (show rkB (g y) = false by rw [unhide Hy]; exact hr2)
            clear hr hr2
            go_wp2_with fail
            refine (unhide HI (g y) _).mono ?_
            rintro e w6 ⟨rfl, hb6⟩
            rw [unhide Hr2]
            have HX7 := hide ((unhide HX5).keep hb6)
            have HB7 := hide (btrans (unhide HB5) hb6)
            have HD7 := hide (own_keep (unhide HD5) hb6)
            clear hb6 c0 c1 c2 c3 c4 HX5 HB5 HD5
            have HX5 := HX7
            have HB5 := HB7
            have HD5 := HD7
            clear HX7 HB7 HD7
            obtain ⟨-, x0, x1, x2, x3, x4⟩ := unhide HX5
            have HD2 := hide (own_keep (unhide HD5) (bnew w6 (.cells #[.int .i64 (g x).dk, .int .i64 (g x).bed, .int .i64 (g x).ndl, .int .i64 (g x).car, .int .i64 (g x).tt] 24)))
            have HY2 := hide (own_lit (B := 0) (e := 24) (z := 5) (k := 1) w6 #[.int .i64 (g x).dk, .int .i64 (g x).bed, .int .i64 (g x).ndl, .int .i64 (g x).car, .int .i64 (g x).tt] (Nat.zero_le _) (by unfold maxLen; omega) rfl)
            have H1 := hide (one_st (g x))
            have hsz5 := (unhide HB5).size
            go_wp2_with (at_builtin; refine wl_app rfl rfl Try.underlying22 info44 rfl (by decide) (B := W.heap.size) (C := 0) (n := dn) (m := 1) rfl rfl (unhide HD2) (unhide HY2) (unhide H1) (by unfold maxLen; omega) (by omega) (by simp; omega) ?_)
            intro v' w7 hown' hgrow _
            have HB6 := hide ((btrans (unhide HB5) (bnew w6 (.cells #[.int .i64 (g x).dk, .int .i64 (g x).bed, .int .i64 (g x).ndl, .int .i64 (g x).car, .int .i64 (g x).tt] 24))).grown hgrow (by simp; omega) (fun k hk => ((unhide HD2).lt k hk).1))
            have HD6 := hide hown'
            obtain ⟨q', cap', rfl⟩ := own_form hown'
            clear hown' hgrow x0 x1 x2 x3 x4
            go_wp2
            go_roundw
            case rel => exact ⟨x + 1, by omega, by go_num, by rw [unhide Hok, stV_snoc, List.length_append]; exact (unhide Hdn) ▸ unhide HD6, unhide HB6⟩
            case measure => simp [intOf]; omega
        · have Hok := hide (show wpI g n (x + 1) = wpI g n x ++ [g x] by simp only [wpI]; rw [if_neg (by simp [hx1])])
          have q3 : ¬ ((x : Int) + 1 < (n : Int)) := by omega
          have q4 : decide ((x : Int) + 1 < (n : Int)) = false := by simpa using q3
          clear hr
          obtain ⟨-, x0, x1, x2, x3, x4⟩ := unhide HX5
          have HD2 := hide (own_keep (unhide HD5) (bnew w5 (.cells #[.int .i64 (g x).dk, .int .i64 (g x).bed, .int .i64 (g x).ndl, .int .i64 (g x).car, .int .i64 (g x).tt] 24)))
          have HY2 := hide (own_lit (B := 0) (e := 24) (z := 5) (k := 1) w5 #[.int .i64 (g x).dk, .int .i64 (g x).bed, .int .i64 (g x).ndl, .int .i64 (g x).car, .int .i64 (g x).tt] (Nat.zero_le _) (by unfold maxLen; omega) rfl)
          have H1 := hide (one_st (g x))
          have hsz5 := (unhide HB5).size
          go_wp2_with (at_builtin; refine wl_app rfl rfl Try.underlying22 info44 rfl (by decide) (B := W.heap.size) (C := 0) (n := dn) (m := 1) rfl rfl (unhide HD2) (unhide HY2) (unhide H1) (by unfold maxLen; omega) (by omega) (by simp; omega) ?_)
          intro v' w6 hown' hgrow _
          have HB6 := hide ((btrans (unhide HB5) (bnew w5 (.cells #[.int .i64 (g x).dk, .int .i64 (g x).bed, .int .i64 (g x).ndl, .int .i64 (g x).car, .int .i64 (g x).tt] 24))).grown hgrow (by simp; omega) (fun k hk => ((unhide HD2).lt k hk).1))
          have HD6 := hide hown'
          obtain ⟨q', cap', rfl⟩ := own_form hown'
          clear hown' hgrow x0 x1 x2 x3 x4
          go_wp2
          go_roundw
          case rel => exact ⟨x + 1, by omega, by go_num, by rw [unhide Hok, stV_snoc, List.length_append]; exact (unhide Hdn) ▸ unhide HD6, unhide HB6⟩
          case measure => simp [intOf]; omega
    · obtain rfl : n = x := by omega
      have cl : ¬ ((n : Int) < (n : Int)) := by omega
      go_wp2
      go_ret
      exact ⟨_, rfl, unhide HD, unhide HB⟩
end Go.Proofs.Ytancniamgfppiaa
