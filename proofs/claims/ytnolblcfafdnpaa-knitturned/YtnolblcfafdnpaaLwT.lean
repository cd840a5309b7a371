/-
  KnitTurned: seen from behind it is knitted just so.
-/
import Derived.Test.YtnolblcfafdnpaaLwS
namespace Go.Proofs.Ytnolblcfafdnpaa
open Go.RowKit

/-- the first stitches, seen from behind -/
def tuL (f : Nat → Sx) (n : Nat) : List Sx := (List.range n).map fun j => tuX (f j)
theorem tuL_succ (f : Nat → Sx) (n : Nat) : tuL f (n + 1) = tuL f n ++ [tuX (f n)] := by simp [tuL, List.range_succ]
theorem tuL_len (f : Nat → Sx) (n : Nat) : (tuL f n).length = n := by simp [tuL]
theorem tu_open {f : Nat → Sx} {x : Nat} {dk bd nd ca tt : Int} (h : f x = ⟨dk, bd, nd, ca, tt⟩) : tuX (f x) = ⟨dk, if bd = 0 ∨ bd = 1 then 1 - bd else bd, nd, ca, if dk = 6 ∧ -4 ≤ tt ∧ tt ≤ 4 then -tt else tt⟩ := by rw [h]; rfl

set_option maxRecDepth 100000 in
set_option maxHeartbeats 4000000 in
theorem turned_any {W : World} {q : Option Addr} {n c : Nat} {f : Nat → Sx} (hs : Sc W q n f) (hn : n * 40 + 4096 ≤ 140737488355328) :
    Calls Try.prog 13 #[.slice q n c] W fun e w' => ∃ q' c', e = .returned (.slice q' n c') ∧ Sc w' q' n (fun j => tuX (f j)) ∧ Below W.heap.size W w' := by
  have HS := hide (fun V (hV : Below W.heap.size W V) => hs.keep hV)
  clear hs
  go_enter Try.func13, Try.ntmps13
  go_wp2
  go_loopw [3, 8] (fun ov i wr => ∃ x : Nat, x ≤ n ∧ i = .int .i64 x ∧ wr.ownsRow W.heap.size 44 5 ov x (stV (tuL f x)) ∧ Below W.heap.size W wr) (fun _ i _ => n - (intOf i).toNat)
  case atStart => exact ⟨0, Nat.zero_le _, rfl, World.ownsRow_nil _ _ _ _, Below.refl _ _⟩
  case round =>
    obtain ⟨x, hx, rfl, hD, hB⟩ := hrel
    obtain ⟨dq, dc, rfl⟩ := own_form hD
    have HD := hide hD
    have HB := hide hB
    clear hD hB
    by_cases hlt : x < n
    · have q1 : (x : Int) < (n : Int) := by omega
      have q2 : (0 : Int) ≤ (x : Int) := by omega
      obtain ⟨b5, o5, rfl, c0, c1, c2, c3, c4⟩ := (unhide HS wr (unhide HB)).at hlt
      have Hsu := hide (tuL_succ f x)
      have hsz5 := (unhide HB).size
      obtain ⟨dk, bd, nd, ca, tt, hfx⟩ : ∃ dk bd nd ca tt, f x = ⟨dk, bd, nd, ca, tt⟩ := ⟨_, _, _, _, _, rfl⟩
      have Htu := hide (tu_open hfx)
      rw [hfx] at c0 c1 c2 c3 c4
      dsimp only at c0 c1 c2 c3 c4
      clear hfx
      by_cases hbd0 : bd = 0
      · subst hbd0
        by_cases hdk : dk = 6
        · subst hdk
          by_cases t1 : -4 ≤ tt
          · by_cases t2 : tt ≤ 4
            · skip
              have Hx := hide (show stV (tuL f (x + 1)) = stV (tuL f x) ++ (#[.int .i64 6, .int .i64 1, .int .i64 nd, .int .i64 ca, .int .i64 (-tt)] : Array Value).toList by rw [unhide Hsu, stV_snoc, unhide Htu]; simp; omega)
              have HD2 := hide (own_keep (own_keep (unhide HD) (bnew wr (.cells #[.int .i64 6, .int .i64 1, .int .i64 nd, .int .i64 ca, .int .i64 (-tt)] 44))) (bnew _ (.cells #[.int .i64 6, .int .i64 1, .int .i64 nd, .int .i64 ca, .int .i64 (-tt)] 44)))
              have HY2 := hide (show ((wr.alloc (.cells #[.int .i64 6, .int .i64 1, .int .i64 nd, .int .i64 ca, .int .i64 (-tt)] 44)).alloc (.cells #[.int .i64 6, .int .i64 1, .int .i64 nd, .int .i64 ca, .int .i64 (-tt)] 44)).ownsRow 0 44 5 (.slice (some ⟨wr.heap.size + 1, 0, none⟩) 1 1) 1 (#[.int .i64 6, .int .i64 1, .int .i64 nd, .int .i64 ca, .int .i64 (-tt)] : Array Value).toList by have := own_lit (B := 0) (e := 44) (z := 5) (k := 1) (wr.alloc (.cells #[.int .i64 6, .int .i64 1, .int .i64 nd, .int .i64 ca, .int .i64 (-tt)] 44)) #[.int .i64 6, .int .i64 1, .int .i64 nd, .int .i64 ca, .int .i64 (-tt)] (Nat.zero_le _) (by unfold maxLen; omega) rfl; simpa using this)
              have H1 := hide (show ∀ u ∈ (#[.int .i64 6, .int .i64 1, .int .i64 nd, .int .i64 ca, .int .i64 (-tt)] : Array Value).toList, u.oneCell' = true by
                intro u hu
                simp at hu
                rcases hu with rfl | rfl | rfl | rfl | rfl <;> rfl)
              go_wp2_with (at_builtin; refine wl_app rfl rfl Try.underlying22 info44 rfl (by decide) (B := W.heap.size) (C := 0) (n := x) (m := 1) rfl rfl (unhide HD2) (unhide HY2) (unhide H1) (by unfold maxLen; omega) (by omega) (by simp; omega) ?_)
              intro v' w6 hown' hgrow _
              have HB6 := hide ((btrans (btrans (unhide HB) (bnew wr (.cells #[.int .i64 6, .int .i64 1, .int .i64 nd, .int .i64 ca, .int .i64 (-tt)] 44))) (bnew _ (.cells #[.int .i64 6, .int .i64 1, .int .i64 nd, .int .i64 ca, .int .i64 (-tt)] 44))).grown hgrow (by simp; omega) (fun k hk => ((unhide HD2).lt k hk).1))
              have HD6 := hide hown'
              obtain ⟨q', cap', rfl⟩ := own_form hown'
              clear hown' hgrow c0 c1 c2 c3 c4
              go_wp2
              go_roundw
              case rel => exact ⟨x + 1, by omega, by go_num, by rw [unhide Hx]; exact unhide HD6, unhide HB6⟩
              case measure => simp [intOf]; omega
            · have t2' : decide (tt ≤ 4) = false := by simpa using t2
              have Hx := hide (show stV (tuL f (x + 1)) = stV (tuL f x) ++ (#[.int .i64 6, .int .i64 1, .int .i64 nd, .int .i64 ca, .int .i64 tt] : Array Value).toList by rw [unhide Hsu, stV_snoc, unhide Htu]; simp; omega)
              have HD2 := hide (own_keep (own_keep (unhide HD) (bnew wr (.cells #[.int .i64 6, .int .i64 1, .int .i64 nd, .int .i64 ca, .int .i64 tt] 44))) (bnew _ (.cells #[.int .i64 6, .int .i64 1, .int .i64 nd, .int .i64 ca, .int .i64 tt] 44)))
              have HY2 := hide (show ((wr.alloc (.cells #[.int .i64 6, .int .i64 1, .int .i64 nd, .int .i64 ca, .int .i64 tt] 44)).alloc (.cells #[.int .i64 6, .int .i64 1, .int .i64 nd, .int .i64 ca, .int .i64 tt] 44)).ownsRow 0 44 5 (.slice (some ⟨wr.heap.size + 1, 0, none⟩) 1 1) 1 (#[.int .i64 6, .int .i64 1, .int .i64 nd, .int .i64 ca, .int .i64 tt] : Array Value).toList by have := own_lit (B := 0) (e := 44) (z := 5) (k := 1) (wr.alloc (.cells #[.int .i64 6, .int .i64 1, .int .i64 nd, .int .i64 ca, .int .i64 tt] 44)) #[.int .i64 6, .int .i64 1, .int .i64 nd, .int .i64 ca, .int .i64 tt] (Nat.zero_le _) (by unfold maxLen; omega) rfl; simpa using this)
              have H1 := hide (show ∀ u ∈ (#[.int .i64 6, .int .i64 1, .int .i64 nd, .int .i64 ca, .int .i64 tt] : Array Value).toList, u.oneCell' = true by
                intro u hu
                simp at hu
                rcases hu with rfl | rfl | rfl | rfl | rfl <;> rfl)
              go_wp2_with (at_builtin; refine wl_app rfl rfl Try.underlying22 info44 rfl (by decide) (B := W.heap.size) (C := 0) (n := x) (m := 1) rfl rfl (unhide HD2) (unhide HY2) (unhide H1) (by unfold maxLen; omega) (by omega) (by simp; omega) ?_)
              intro v' w6 hown' hgrow _
              have HB6 := hide ((btrans (btrans (unhide HB) (bnew wr (.cells #[.int .i64 6, .int .i64 1, .int .i64 nd, .int .i64 ca, .int .i64 tt] 44))) (bnew _ (.cells #[.int .i64 6, .int .i64 1, .int .i64 nd, .int .i64 ca, .int .i64 tt] 44))).grown hgrow (by simp; omega) (fun k hk => ((unhide HD2).lt k hk).1))
              have HD6 := hide hown'
              obtain ⟨q', cap', rfl⟩ := own_form hown'
              clear hown' hgrow c0 c1 c2 c3 c4
              go_wp2
              go_roundw
              case rel => exact ⟨x + 1, by omega, by go_num, by rw [unhide Hx]; exact unhide HD6, unhide HB6⟩
              case measure => simp [intOf]; omega
          · have t1' : decide (-4 ≤ tt) = false := by simpa using t1
            have Hx := hide (show stV (tuL f (x + 1)) = stV (tuL f x) ++ (#[.int .i64 6, .int .i64 1, .int .i64 nd, .int .i64 ca, .int .i64 tt] : Array Value).toList by rw [unhide Hsu, stV_snoc, unhide Htu]; simp; omega)
            have HD2 := hide (own_keep (own_keep (unhide HD) (bnew wr (.cells #[.int .i64 6, .int .i64 1, .int .i64 nd, .int .i64 ca, .int .i64 tt] 44))) (bnew _ (.cells #[.int .i64 6, .int .i64 1, .int .i64 nd, .int .i64 ca, .int .i64 tt] 44)))
            have HY2 := hide (show ((wr.alloc (.cells #[.int .i64 6, .int .i64 1, .int .i64 nd, .int .i64 ca, .int .i64 tt] 44)).alloc (.cells #[.int .i64 6, .int .i64 1, .int .i64 nd, .int .i64 ca, .int .i64 tt] 44)).ownsRow 0 44 5 (.slice (some ⟨wr.heap.size + 1, 0, none⟩) 1 1) 1 (#[.int .i64 6, .int .i64 1, .int .i64 nd, .int .i64 ca, .int .i64 tt] : Array Value).toList by have := own_lit (B := 0) (e := 44) (z := 5) (k := 1) (wr.alloc (.cells #[.int .i64 6, .int .i64 1, .int .i64 nd, .int .i64 ca, .int .i64 tt] 44)) #[.int .i64 6, .int .i64 1, .int .i64 nd, .int .i64 ca, .int .i64 tt] (Nat.zero_le _) (by unfold maxLen; omega) rfl; simpa using this)
            have H1 := hide (show ∀ u ∈ (#[.int .i64 6, .int .i64 1, .int .i64 nd, .int .i64 ca, .int .i64 tt] : Array Value).toList, u.oneCell' = true by
              intro u hu
              simp at hu
              rcases hu with rfl | rfl | rfl | rfl | rfl <;> rfl)
            go_wp2_with (at_builtin; refine wl_app rfl rfl Try.underlying22 info44 rfl (by decide) (B := W.heap.size) (C := 0) (n := x) (m := 1) rfl rfl (unhide HD2) (unhide HY2) (unhide H1) (by unfold maxLen; omega) (by omega) (by simp; omega) ?_)
            intro v' w6 hown' hgrow _
            have HB6 := hide ((btrans (btrans (unhide HB) (bnew wr (.cells #[.int .i64 6, .int .i64 1, .int .i64 nd, .int .i64 ca, .int .i64 tt] 44))) (bnew _ (.cells #[.int .i64 6, .int .i64 1, .int .i64 nd, .int .i64 ca, .int .i64 tt] 44))).grown hgrow (by simp; omega) (fun k hk => ((unhide HD2).lt k hk).1))
            have HD6 := hide hown'
            obtain ⟨q', cap', rfl⟩ := own_form hown'
            clear hown' hgrow c0 c1 c2 c3 c4
            go_wp2
            go_roundw
            case rel => exact ⟨x + 1, by omega, by go_num, by rw [unhide Hx]; exact unhide HD6, unhide HB6⟩
            case measure => simp [intOf]; omega
        · have hdk' : (dk == 6) = false := by simpa using hdk
          have Hx := hide (show stV (tuL f (x + 1)) = stV (tuL f x) ++ (#[.int .i64 dk, .int .i64 1, .int .i64 nd, .int .i64 ca, .int .i64 tt] : Array Value).toList by rw [unhide Hsu, stV_snoc, unhide Htu]; simp [hdk])
          have HD2 := hide (own_keep (own_keep (unhide HD) (bnew wr (.cells #[.int .i64 dk, .int .i64 1, .int .i64 nd, .int .i64 ca, .int .i64 tt] 44))) (bnew _ (.cells #[.int .i64 dk, .int .i64 1, .int .i64 nd, .int .i64 ca, .int .i64 tt] 44)))
          have HY2 := hide (show ((wr.alloc (.cells #[.int .i64 dk, .int .i64 1, .int .i64 nd, .int .i64 ca, .int .i64 tt] 44)).alloc (.cells #[.int .i64 dk, .int .i64 1, .int .i64 nd, .int .i64 ca, .int .i64 tt] 44)).ownsRow 0 44 5 (.slice (some ⟨wr.heap.size + 1, 0, none⟩) 1 1) 1 (#[.int .i64 dk, .int .i64 1, .int .i64 nd, .int .i64 ca, .int .i64 tt] : Array Value).toList by have := own_lit (B := 0) (e := 44) (z := 5) (k := 1) (wr.alloc (.cells #[.int .i64 dk, .int .i64 1, .int .i64 nd, .int .i64 ca, .int .i64 tt] 44)) #[.int .i64 dk, .int .i64 1, .int .i64 nd, .int .i64 ca, .int .i64 tt] (Nat.zero_le _) (by unfold maxLen; omega) rfl; simpa using this)
          have H1 := hide (show ∀ u ∈ (#[.int .i64 dk, .int .i64 1, .int .i64 nd, .int .i64 ca, .int .i64 tt] : Array Value).toList, u.oneCell' = true by
            intro u hu
            simp at hu
            rcases hu with rfl | rfl | rfl | rfl | rfl <;> rfl)
          go_wp2_with (at_builtin; refine wl_app rfl rfl Try.underlying22 info44 rfl (by decide) (B := W.heap.size) (C := 0) (n := x) (m := 1) rfl rfl (unhide HD2) (unhide HY2) (unhide H1) (by unfold maxLen; omega) (by omega) (by simp; omega) ?_)
          intro v' w6 hown' hgrow _
          have HB6 := hide ((btrans (btrans (unhide HB) (bnew wr (.cells #[.int .i64 dk, .int .i64 1, .int .i64 nd, .int .i64 ca, .int .i64 tt] 44))) (bnew _ (.cells #[.int .i64 dk, .int .i64 1, .int .i64 nd, .int .i64 ca, .int .i64 tt] 44))).grown hgrow (by simp; omega) (fun k hk => ((unhide HD2).lt k hk).1))
          have HD6 := hide hown'
          obtain ⟨q', cap', rfl⟩ := own_form hown'
          clear hown' hgrow c0 c1 c2 c3 c4
          go_wp2
          go_roundw
          case rel => exact ⟨x + 1, by omega, by go_num, by rw [unhide Hx]; exact unhide HD6, unhide HB6⟩
          case measure => simp [intOf]; omega
      by_cases hbd1 : bd = 1
      · subst hbd1
        clear hbd0
        by_cases hdk : dk = 6
        · subst hdk
          by_cases t1 : -4 ≤ tt
          · by_cases t2 : tt ≤ 4
            · skip
              have Hx := hide (show stV (tuL f (x + 1)) = stV (tuL f x) ++ (#[.int .i64 6, .int .i64 0, .int .i64 nd, .int .i64 ca, .int .i64 (-tt)] : Array Value).toList by rw [unhide Hsu, stV_snoc, unhide Htu]; simp; omega)
              have HD2 := hide (own_keep (own_keep (unhide HD) (bnew wr (.cells #[.int .i64 6, .int .i64 0, .int .i64 nd, .int .i64 ca, .int .i64 (-tt)] 44))) (bnew _ (.cells #[.int .i64 6, .int .i64 0, .int .i64 nd, .int .i64 ca, .int .i64 (-tt)] 44)))
              have HY2 := hide (show ((wr.alloc (.cells #[.int .i64 6, .int .i64 0, .int .i64 nd, .int .i64 ca, .int .i64 (-tt)] 44)).alloc (.cells #[.int .i64 6, .int .i64 0, .int .i64 nd, .int .i64 ca, .int .i64 (-tt)] 44)).ownsRow 0 44 5 (.slice (some ⟨wr.heap.size + 1, 0, none⟩) 1 1) 1 (#[.int .i64 6, .int .i64 0, .int .i64 nd, .int .i64 ca, .int .i64 (-tt)] : Array Value).toList by have := own_lit (B := 0) (e := 44) (z := 5) (k := 1) (wr.alloc (.cells #[.int .i64 6, .int .i64 0, .int .i64 nd, .int .i64 ca, .int .i64 (-tt)] 44)) #[.int .i64 6, .int .i64 0, .int .i64 nd, .int .i64 ca, .int .i64 (-tt)] (Nat.zero_le _) (by unfold maxLen; omega) rfl; simpa using this)
              have H1 := hide (show ∀ u ∈ (#[.int .i64 6, .int .i64 0, .int .i64 nd, .int .i64 ca, .int .i64 (-tt)] : Array Value).toList, u.oneCell' = true by
                intro u hu
                simp at hu
                rcases hu with rfl | rfl | rfl | rfl | rfl <;> rfl)
              go_wp2_with (at_builtin; refine wl_app rfl rfl Try.underlying22 info44 rfl (by decide) (B := W.heap.size) (C := 0) (n := x) (m := 1) rfl rfl (unhide HD2) (unhide HY2) (unhide H1) (by unfold maxLen; omega) (by omega) (by simp; omega) ?_)
              intro v' w6 hown' hgrow _
              have HB6 := hide ((btrans (btrans (unhide HB) (bnew wr (.cells #[.int .i64 6, .int .i64 0, .int .i64 nd, .int .i64 ca, .int .i64 (-tt)] 44))) (bnew _ (.cells #[.int .i64 6, .int .i64 0, .int .i64 nd, .int .i64 ca, .int .i64 (-tt)] 44))).grown hgrow (by simp; omega) (fun k hk => ((unhide HD2).lt k hk).1))
              have HD6 := hide hown'
              obtain ⟨q', cap', rfl⟩ := own_form hown'
              clear hown' hgrow c0 c1 c2 c3 c4
              go_wp2
              go_roundw
              case rel => exact ⟨x + 1, by omega, by go_num, by rw [unhide Hx]; exact unhide HD6, unhide HB6⟩
              case measure => simp [intOf]; omega
            · have t2' : decide (tt ≤ 4) = false := by simpa using t2
              have Hx := hide (show stV (tuL f (x + 1)) = stV (tuL f x) ++ (#[.int .i64 6, .int .i64 0, .int .i64 nd, .int .i64 ca, .int .i64 tt] : Array Value).toList by rw [unhide Hsu, stV_snoc, unhide Htu]; simp; omega)
              have HD2 := hide (own_keep (own_keep (unhide HD) (bnew wr (.cells #[.int .i64 6, .int .i64 0, .int .i64 nd, .int .i64 ca, .int .i64 tt] 44))) (bnew _ (.cells #[.int .i64 6, .int .i64 0, .int .i64 nd, .int .i64 ca, .int .i64 tt] 44)))
              have HY2 := hide (show ((wr.alloc (.cells #[.int .i64 6, .int .i64 0, .int .i64 nd, .int .i64 ca, .int .i64 tt] 44)).alloc (.cells #[.int .i64 6, .int .i64 0, .int .i64 nd, .int .i64 ca, .int .i64 tt] 44)).ownsRow 0 44 5 (.slice (some ⟨wr.heap.size + 1, 0, none⟩) 1 1) 1 (#[.int .i64 6, .int .i64 0, .int .i64 nd, .int .i64 ca, .int .i64 tt] : Array Value).toList by have := own_lit (B := 0) (e := 44) (z := 5) (k := 1) (wr.alloc (.cells #[.int .i64 6, .int .i64 0, .int .i64 nd, .int .i64 ca, .int .i64 tt] 44)) #[.int .i64 6, .int .i64 0, .int .i64 nd, .int .i64 ca, .int .i64 tt] (Nat.zero_le _) (by unfold maxLen; omega) rfl; simpa using this)
              have H1 := hide (show ∀ u ∈ (#[.int .i64 6, .int .i64 0, .int .i64 nd, .int .i64 ca, .int .i64 tt] : Array Value).toList, u.oneCell' = true by
                intro u hu
                simp at hu
                rcases hu with rfl | rfl | rfl | rfl | rfl <;> rfl)
              go_wp2_with (at_builtin; refine wl_app rfl rfl Try.underlying22 info44 rfl (by decide) (B := W.heap.size) (C := 0) (n := x) (m := 1) rfl rfl (unhide HD2) (unhide HY2) (unhide H1) (by unfold maxLen; omega) (by omega) (by simp; omega) ?_)
              intro v' w6 hown' hgrow _
              have HB6 := hide ((btrans (btrans (unhide HB) (bnew wr (.cells #[.int .i64 6, .int .i64 0, .int .i64 nd, .int .i64 ca, .int .i64 tt] 44))) (bnew _ (.cells #[.int .i64 6, .int .i64 0, .int .i64 nd, .int .i64 ca, .int .i64 tt] 44))).grown hgrow (by simp; omega) (fun k hk => ((unhide HD2).lt k hk).1))
              have HD6 := hide hown'
              obtain ⟨q', cap', rfl⟩ := own_form hown'
              clear hown' hgrow c0 c1 c2 c3 c4
              go_wp2
              go_roundw
              case rel => exact ⟨x + 1, by omega, by go_num, by rw [unhide Hx]; exact unhide HD6, unhide HB6⟩
              case measure => simp [intOf]; omega
          · have t1' : decide (-4 ≤ tt) = false := by simpa using t1
            have Hx := hide (show stV (tuL f (x + 1)) = stV (tuL f x) ++ (#[.int .i64 6, .int .i64 0, .int .i64 nd, .int .i64 ca, .int .i64 tt] : Array Value).toList by rw [unhide Hsu, stV_snoc, unhide Htu]; simp; omega)
            have HD2 := hide (own_keep (own_keep (unhide HD) (bnew wr (.cells #[.int .i64 6, .int .i64 0, .int .i64 nd, .int .i64 ca, .int .i64 tt] 44))) (bnew _ (.cells #[.int .i64 6, .int .i64 0, .int .i64 nd, .int .i64 ca, .int .i64 tt] 44)))
            have HY2 := hide (show ((wr.alloc (.cells #[.int .i64 6, .int .i64 0, .int .i64 nd, .int .i64 ca, .int .i64 tt] 44)).alloc (.cells #[.int .i64 6, .int .i64 0, .int .i64 nd, .int .i64 ca, .int .i64 tt] 44)).ownsRow 0 44 5 (.slice (some ⟨wr.heap.size + 1, 0, none⟩) 1 1) 1 (#[.int .i64 6, .int .i64 0, .int .i64 nd, .int .i64 ca, .int .i64 tt] : Array Value).toList by have := own_lit (B := 0) (e := 44) (z := 5) (k := 1) (wr.alloc (.cells #[.int .i64 6, .int .i64 0, .int .i64 nd, .int .i64 ca, .int .i64 tt] 44)) #[.int .i64 6, .int .i64 0, .int .i64 nd, .int .i64 ca, .int .i64 tt] (Nat.zero_le _) (by unfold maxLen; omega) rfl; simpa using this)
            have H1 := hide (show ∀ u ∈ (#[.int .i64 6, .int .i64 0, .int .i64 nd, .int .i64 ca, .int .i64 tt] : Array Value).toList, u.oneCell' = true by
              intro u hu
              simp at hu
              rcases hu with rfl | rfl | rfl | rfl | rfl <;> rfl)
            go_wp2_with (at_builtin; refine wl_app rfl rfl Try.underlying22 info44 rfl (by decide) (B := W.heap.size) (C := 0) (n := x) (m := 1) rfl rfl (unhide HD2) (unhide HY2) (unhide H1) (by unfold maxLen; omega) (by omega) (by simp; omega) ?_)
            intro v' w6 hown' hgrow _
            have HB6 := hide ((btrans (btrans (unhide HB) (bnew wr (.cells #[.int .i64 6, .int .i64 0, .int .i64 nd, .int .i64 ca, .int .i64 tt] 44))) (bnew _ (.cells #[.int .i64 6, .int .i64 0, .int .i64 nd, .int .i64 ca, .int .i64 tt] 44))).grown hgrow (by simp; omega) (fun k hk => ((unhide HD2).lt k hk).1))
            have HD6 := hide hown'
            obtain ⟨q', cap', rfl⟩ := own_form hown'
            clear hown' hgrow c0 c1 c2 c3 c4
            go_wp2
            go_roundw
            case rel => exact ⟨x + 1, by omega, by go_num, by rw [unhide Hx]; exact unhide HD6, unhide HB6⟩
            case measure => simp [intOf]; omega
        · have hdk' : (dk == 6) = false := by simpa using hdk
          have Hx := hide (show stV (tuL f (x + 1)) = stV (tuL f x) ++ (#[.int .i64 dk, .int .i64 0, .int .i64 nd, .int .i64 ca, .int .i64 tt] : Array Value).toList by rw [unhide Hsu, stV_snoc, unhide Htu]; simp [hdk])
          have HD2 := hide (own_keep (own_keep (unhide HD) (bnew wr (.cells #[.int .i64 dk, .int .i64 0, .int .i64 nd, .int .i64 ca, .int .i64 tt] 44))) (bnew _ (.cells #[.int .i64 dk, .int .i64 0, .int .i64 nd, .int .i64 ca, .int .i64 tt] 44)))
          have HY2 := hide (show ((wr.alloc (.cells #[.int .i64 dk, .int .i64 0, .int .i64 nd, .int .i64 ca, .int .i64 tt] 44)).alloc (.cells #[.int .i64 dk, .int .i64 0, .int .i64 nd, .int .i64 ca, .int .i64 tt] 44)).ownsRow 0 44 5 (.slice (some ⟨wr.heap.size + 1, 0, none⟩) 1 1) 1 (#[.int .i64 dk, .int .i64 0, .int .i64 nd, .int .i64 ca, .int .i64 tt] : Array Value).toList by have := own_lit (B := 0) (e := 44) (z := 5) (k := 1) (wr.alloc (.cells #[.int .i64 dk, .int .i64 0, .int .i64 nd, .int .i64 ca, .int .i64 tt] 44)) #[.int .i64 dk, .int .i64 0, .int .i64 nd, .int .i64 ca, .int .i64 tt] (Nat.zero_le _) (by unfold maxLen; omega) rfl; simpa using this)
          have H1 := hide (show ∀ u ∈ (#[.int .i64 dk, .int .i64 0, .int .i64 nd, .int .i64 ca, .int .i64 tt] : Array Value).toList, u.oneCell' = true by
            intro u hu
            simp at hu
            rcases hu with rfl | rfl | rfl | rfl | rfl <;> rfl)
          go_wp2_with (at_builtin; refine wl_app rfl rfl Try.underlying22 info44 rfl (by decide) (B := W.heap.size) (C := 0) (n := x) (m := 1) rfl rfl (unhide HD2) (unhide HY2) (unhide H1) (by unfold maxLen; omega) (by omega) (by simp; omega) ?_)
          intro v' w6 hown' hgrow _
          have HB6 := hide ((btrans (btrans (unhide HB) (bnew wr (.cells #[.int .i64 dk, .int .i64 0, .int .i64 nd, .int .i64 ca, .int .i64 tt] 44))) (bnew _ (.cells #[.int .i64 dk, .int .i64 0, .int .i64 nd, .int .i64 ca, .int .i64 tt] 44))).grown hgrow (by simp; omega) (fun k hk => ((unhide HD2).lt k hk).1))
          have HD6 := hide hown'
          obtain ⟨q', cap', rfl⟩ := own_form hown'
          clear hown' hgrow c0 c1 c2 c3 c4
          go_wp2
          go_roundw
          case rel => exact ⟨x + 1, by omega, by go_num, by rw [unhide Hx]; exact unhide HD6, unhide HB6⟩
          case measure => simp [intOf]; omega
      have hb0 : (bd == 0) = false := by simpa using hbd0
      have hb1 : (bd == 1) = false := by simpa using hbd1
      by_cases hdk : dk = 6
      · subst hdk
        by_cases t1 : -4 ≤ tt
        · by_cases t2 : tt ≤ 4
          · skip
            have Hx := hide (show stV (tuL f (x + 1)) = stV (tuL f x) ++ (#[.int .i64 6, .int .i64 bd, .int .i64 nd, .int .i64 ca, .int .i64 (-tt)] : Array Value).toList by rw [unhide Hsu, stV_snoc, unhide Htu]; simp [hbd0, hbd1]; omega)
            have HD2 := hide (own_keep (own_keep (unhide HD) (bnew wr (.cells #[.int .i64 6, .int .i64 bd, .int .i64 nd, .int .i64 ca, .int .i64 (-tt)] 44))) (bnew _ (.cells #[.int .i64 6, .int .i64 bd, .int .i64 nd, .int .i64 ca, .int .i64 (-tt)] 44)))
            have HY2 := hide (show ((wr.alloc (.cells #[.int .i64 6, .int .i64 bd, .int .i64 nd, .int .i64 ca, .int .i64 (-tt)] 44)).alloc (.cells #[.int .i64 6, .int .i64 bd, .int .i64 nd, .int .i64 ca, .int .i64 (-tt)] 44)).ownsRow 0 44 5 (.slice (some ⟨wr.heap.size + 1, 0, none⟩) 1 1) 1 (#[.int .i64 6, .int .i64 bd, .int .i64 nd, .int .i64 ca, .int .i64 (-tt)] : Array Value).toList by have := own_lit (B := 0) (e := 44) (z := 5) (k := 1) (wr.alloc (.cells #[.int .i64 6, .int .i64 bd, .int .i64 nd, .int .i64 ca, .int .i64 (-tt)] 44)) #[.int .i64 6, .int .i64 bd, .int .i64 nd, .int .i64 ca, .int .i64 (-tt)] (Nat.zero_le _) (by unfold maxLen; omega) rfl; simpa using this)
            have H1 := hide (show ∀ u ∈ (#[.int .i64 6, .int .i64 bd, .int .i64 nd, .int .i64 ca, .int .i64 (-tt)] : Array Value).toList, u.oneCell' = true by
              intro u hu
              simp at hu
              rcases hu with rfl | rfl | rfl | rfl | rfl <;> rfl)
            go_wp2_with (at_builtin; refine wl_app rfl rfl Try.underlying22 info44 rfl (by decide) (B := W.heap.size) (C := 0) (n := x) (m := 1) rfl rfl (unhide HD2) (unhide HY2) (unhide H1) (by unfold maxLen; omega) (by omega) (by simp; omega) ?_)
            intro v' w6 hown' hgrow _
            have HB6 := hide ((btrans (btrans (unhide HB) (bnew wr (.cells #[.int .i64 6, .int .i64 bd, .int .i64 nd, .int .i64 ca, .int .i64 (-tt)] 44))) (bnew _ (.cells #[.int .i64 6, .int .i64 bd, .int .i64 nd, .int .i64 ca, .int .i64 (-tt)] 44))).grown hgrow (by simp; omega) (fun k hk => ((unhide HD2).lt k hk).1))
            have HD6 := hide hown'
            obtain ⟨q', cap', rfl⟩ := own_form hown'
            clear hown' hgrow c0 c1 c2 c3 c4
            go_wp2
            go_roundw
            case rel => exact ⟨x + 1, by omega, by go_num, by rw [unhide Hx]; exact unhide HD6, unhide HB6⟩
            case measure => simp [intOf]; omega
          · have t2' : decide (tt ≤ 4) = false := by simpa using t2
            have Hx := hide (show stV (tuL f (x + 1)) = stV (tuL f x) ++ (#[.int .i64 6, .int .i64 bd, .int .i64 nd, .int .i64 ca, .int .i64 tt] : Array Value).toList by rw [unhide Hsu, stV_snoc, unhide Htu]; simp [hbd0, hbd1]; omega)
            have HD2 := hide (own_keep (own_keep (unhide HD) (bnew wr (.cells #[.int .i64 6, .int .i64 bd, .int .i64 nd, .int .i64 ca, .int .i64 tt] 44))) (bnew _ (.cells #[.int .i64 6, .int .i64 bd, .int .i64 nd, .int .i64 ca, .int .i64 tt] 44)))
            have HY2 := hide (show ((wr.alloc (.cells #[.int .i64 6, .int .i64 bd, .int .i64 nd, .int .i64 ca, .int .i64 tt] 44)).alloc (.cells #[.int .i64 6, .int .i64 bd, .int .i64 nd, .int .i64 ca, .int .i64 tt] 44)).ownsRow 0 44 5 (.slice (some ⟨wr.heap.size + 1, 0, none⟩) 1 1) 1 (#[.int .i64 6, .int .i64 bd, .int .i64 nd, .int .i64 ca, .int .i64 tt] : Array Value).toList by have := own_lit (B := 0) (e := 44) (z := 5) (k := 1) (wr.alloc (.cells #[.int .i64 6, .int .i64 bd, .int .i64 nd, .int .i64 ca, .int .i64 tt] 44)) #[.int .i64 6, .int .i64 bd, .int .i64 nd, .int .i64 ca, .int .i64 tt] (Nat.zero_le _) (by unfold maxLen; omega) rfl; simpa using this)
            have H1 := hide (show ∀ u ∈ (#[.int .i64 6, .int .i64 bd, .int .i64 nd, .int .i64 ca, .int .i64 tt] : Array Value).toList, u.oneCell' = true by
              intro u hu
              simp at hu
              rcases hu with rfl | rfl | rfl | rfl | rfl <;> rfl)
            go_wp2_with (at_builtin; refine wl_app rfl rfl Try.underlying22 info44 rfl (by decide) (B := W.heap.size) (C := 0) (n := x) (m := 1) rfl rfl (unhide HD2) (unhide HY2) (unhide H1) (by unfold maxLen; omega) (by omega) (by simp; omega) ?_)
            intro v' w6 hown' hgrow _
            have HB6 := hide ((btrans (btrans (unhide HB) (bnew wr (.cells #[.int .i64 6, .int .i64 bd, .int .i64 nd, .int .i64 ca, .int .i64 tt] 44))) (bnew _ (.cells #[.int .i64 6, .int .i64 bd, .int .i64 nd, .int .i64 ca, .int .i64 tt] 44))).grown hgrow (by simp; omega) (fun k hk => ((unhide HD2).lt k hk).1))
            have HD6 := hide hown'
            obtain ⟨q', cap', rfl⟩ := own_form hown'
            clear hown' hgrow c0 c1 c2 c3 c4
            go_wp2
            go_roundw
            case rel => exact ⟨x + 1, by omega, by go_num, by rw [unhide Hx]; exact unhide HD6, unhide HB6⟩
            case measure => simp [intOf]; omega
        · have t1' : decide (-4 ≤ tt) = false := by simpa using t1
          have Hx := hide (show stV (tuL f (x + 1)) = stV (tuL f x) ++ (#[.int .i64 6, .int .i64 bd, .int .i64 nd, .int .i64 ca, .int .i64 tt] : Array Value).toList by rw [unhide Hsu, stV_snoc, unhide Htu]; simp [hbd0, hbd1]; omega)
          have HD2 := hide (own_keep (own_keep (unhide HD) (bnew wr (.cells #[.int .i64 6, .int .i64 bd, .int .i64 nd, .int .i64 ca, .int .i64 tt] 44))) (bnew _ (.cells #[.int .i64 6, .int .i64 bd, .int .i64 nd, .int .i64 ca, .int .i64 tt] 44)))
          have HY2 := hide (show ((wr.alloc (.cells #[.int .i64 6, .int .i64 bd, .int .i64 nd, .int .i64 ca, .int .i64 tt] 44)).alloc (.cells #[.int .i64 6, .int .i64 bd, .int .i64 nd, .int .i64 ca, .int .i64 tt] 44)).ownsRow 0 44 5 (.slice (some ⟨wr.heap.size + 1, 0, none⟩) 1 1) 1 (#[.int .i64 6, .int .i64 bd, .int .i64 nd, .int .i64 ca, .int .i64 tt] : Array Value).toList by have := own_lit (B := 0) (e := 44) (z := 5) (k := 1) (wr.alloc (.cells #[.int .i64 6, .int .i64 bd, .int .i64 nd, .int .i64 ca, .int .i64 tt] 44)) #[.int .i64 6, .int .i64 bd, .int .i64 nd, .int .i64 ca, .int .i64 tt] (Nat.zero_le _) (by unfold maxLen; omega) rfl; simpa using this)
          have H1 := hide (show ∀ u ∈ (#[.int .i64 6, .int .i64 bd, .int .i64 nd, .int .i64 ca, .int .i64 tt] : Array Value).toList, u.oneCell' = true by
            intro u hu
            simp at hu
            rcases hu with rfl | rfl | rfl | rfl | rfl <;> rfl)
          go_wp2_with (at_builtin; refine wl_app rfl rfl Try.underlying22 info44 rfl (by decide) (B := W.heap.size) (C := 0) (n := x) (m := 1) rfl rfl (unhide HD2) (unhide HY2) (unhide H1) (by unfold maxLen; omega) (by omega) (by simp; omega) ?_)
          intro v' w6 hown' hgrow _
          have HB6 := hide ((btrans (btrans (unhide HB) (bnew wr (.cells #[.int .i64 6, .int .i64 bd, .int .i64 nd, .int .i64 ca, .int .i64 tt] 44))) (bnew _ (.cells #[.int .i64 6, .int .i64 bd, .int .i64 nd, .int .i64 ca, .int .i64 tt] 44))).grown hgrow (by simp; omega) (fun k hk => ((unhide HD2).lt k hk).1))
          have HD6 := hide hown'
          obtain ⟨q', cap', rfl⟩ := own_form hown'
          clear hown' hgrow c0 c1 c2 c3 c4
          go_wp2
          go_roundw
          case rel => exact ⟨x + 1, by omega, by go_num, by rw [unhide Hx]; exact unhide HD6, unhide HB6⟩
          case measure => simp [intOf]; omega
      · have hdk' : (dk == 6) = false := by simpa using hdk
        have Hx := hide (show stV (tuL f (x + 1)) = stV (tuL f x) ++ (#[.int .i64 dk, .int .i64 bd, .int .i64 nd, .int .i64 ca, .int .i64 tt] : Array Value).toList by rw [unhide Hsu, stV_snoc, unhide Htu]; simp [hbd0, hbd1, hdk])
        have HD2 := hide (own_keep (own_keep (unhide HD) (bnew wr (.cells #[.int .i64 dk, .int .i64 bd, .int .i64 nd, .int .i64 ca, .int .i64 tt] 44))) (bnew _ (.cells #[.int .i64 dk, .int .i64 bd, .int .i64 nd, .int .i64 ca, .int .i64 tt] 44)))
        have HY2 := hide (show ((wr.alloc (.cells #[.int .i64 dk, .int .i64 bd, .int .i64 nd, .int .i64 ca, .int .i64 tt] 44)).alloc (.cells #[.int .i64 dk, .int .i64 bd, .int .i64 nd, .int .i64 ca, .int .i64 tt] 44)).ownsRow 0 44 5 (.slice (some ⟨wr.heap.size + 1, 0, none⟩) 1 1) 1 (#[.int .i64 dk, .int .i64 bd, .int .i64 nd, .int .i64 ca, .int .i64 tt] : Array Value).toList by have := own_lit (B := 0) (e := 44) (z := 5) (k := 1) (wr.alloc (.cells #[.int .i64 dk, .int .i64 bd, .int .i64 nd, .int .i64 ca, .int .i64 tt] 44)) #[.int .i64 dk, .int .i64 bd, .int .i64 nd, .int .i64 ca, .int .i64 tt] (Nat.zero_le _) (by unfold maxLen; omega) rfl; simpa using this)
        have H1 := hide (show ∀ u ∈ (#[.int .i64 dk, .int .i64 bd, .int .i64 nd, .int .i64 ca, .int .i64 tt] : Array Value).toList, u.oneCell' = true by
          intro u hu
          simp at hu
          rcases hu with rfl | rfl | rfl | rfl | rfl <;> rfl)
        go_wp2_with (at_builtin; refine wl_app rfl rfl Try.underlying22 info44 rfl (by decide) (B := W.heap.size) (C := 0) (n := x) (m := 1) rfl rfl (unhide HD2) (unhide HY2) (unhide H1) (by unfold maxLen; omega) (by omega) (by simp; omega) ?_)
        intro v' w6 hown' hgrow _
        have HB6 := hide ((btrans (btrans (unhide HB) (bnew wr (.cells #[.int .i64 dk, .int .i64 bd, .int .i64 nd, .int .i64 ca, .int .i64 tt] 44))) (bnew _ (.cells #[.int .i64 dk, .int .i64 bd, .int .i64 nd, .int .i64 ca, .int .i64 tt] 44))).grown hgrow (by simp; omega) (fun k hk => ((unhide HD2).lt k hk).1))
        have HD6 := hide hown'
        obtain ⟨q', cap', rfl⟩ := own_form hown'
        clear hown' hgrow c0 c1 c2 c3 c4
        go_wp2
        go_roundw
        case rel => exact ⟨x + 1, by omega, by go_num, by rw [unhide Hx]; exact unhide HD6, unhide HB6⟩
        case measure => simp [intOf]; omega
    · obtain rfl : n = x := by omega
      have cl : ¬ ((n : Int) < (n : Int)) := by omega
      have HSc := hide (show Sc wr dq n (fun j => tuX (f j)) from by
        have h := unhide HD
        have e := tuL_len f n
        have h2 : wr.ownsRow W.heap.size 44 5 (.slice dq (tuL f n).length dc) (tuL f n).length (stV (tuL f n)) := by rw [e]; exact h
        have h3 := own_sc h2
        rw [e] at h3
        exact h3.congr (fun j hj => by simp [tuL, List.getD_eq_getElem?_getD, hj]))
      go_wp2
      go_ret
      exact ⟨dq, ⟨dc, rfl⟩, unhide HSc, unhide HB⟩

set_option maxRecDepth 100000 in
set_option maxHeartbeats 4000000 in
theorem turns_new (n : Int) (W : World) (q : Option Addr) (l c : Nat) (f : Nat → Sx) (hs : Sc W q l f) (hl : l * 40 + 4096 ≤ 140737488355328) (h : n < 1 ∨ 128 < n) : LawIs 5 #[.int .i64 n, .slice q l c] W := by
  unfold LawIs
  have HA := hide (alive_any W)
  unfold Ans at HA
  have HK := hide (fun V q l c => knit_new n V q l c h)
  have HT := hide (fun V (hV : Below W.heap.size W V) => turned_any (c := c) (hs.keep hV) hl)
  clear h hs
  go_enter Try.func5, Try.ntmps5
  go_wp2_with fail
  refine (unhide HA).mono ?_
  rintro e w1 ⟨rfl, hb1⟩
  have S1 := hide hb1
  clear hb1
  go_wp2_with fail
  refine (unhide HK _ _ _ _).mono ?_
  rintro e w2 ⟨rfl, hb2⟩
  have S2 := hide (btrans (unhide S1) hb2)
  clear hb2
  have T3 := hide (bnew w2 (.cells #[.slice none 0 0, .slice none 0 0, .slice none 0 0, .slice none 0 0, .int .i64 0] 27))
  have HKb := hide (KB.new w2 (.slice none 0 0) (.slice none 0 0) (.slice none 0 0) (.slice none 0 0) 0)
  have S3 := hide (btrans (unhide S2) (unhide T3))
  go_upto_region 4 with fail
  generalize w2.alloc (.cells #[.slice none 0 0, .slice none 0 0, .slice none 0 0, .slice none 0 0, .int .i64 0] 27) = w3 at *
  obtain ⟨kb, hkb⟩ : ∃ kb, kb = w2.heap.size := ⟨_, rfl⟩
  rw [← hkb] at HKb
  rw [← hkb]
  clear hkb T3 S2
  go_wp2_with fail
  refine (unhide HT _ (unhide S3)).mono ?_
  rintro e w4 ⟨q4, c4, rfl, -, hb4⟩
  have T4 := hide hb4
  clear hb4
  go_wp2_with fail
  refine (unhide HK _ _ _ _).mono ?_
  rintro e w5 ⟨rfl, hb5⟩
  have T5 := hide (btrans (unhide T4) hb5)
  clear hb5
  have T6 := hide (btrans (unhide T5) (bnew w5 (.cells #[.slice none 0 0, .slice none 0 0, .slice none 0 0, .slice none 0 0, .int .i64 0] 27)))
  have HKc := hide ((unhide HKb).keep (unhide T6))
  have HKd := hide (KB.new w5 (.slice none 0 0) (.slice none 0 0) (.slice none 0 0) (.slice none 0 0) 0)
  have hlk : kb < w5.heap.size := Nat.lt_of_lt_of_le (unhide HKb).1.1 (unhide T5).size
  have hlw : w3.heap.size ≤ w5.heap.size := (unhide T5).size
  go_upto_region 5 with fail
  generalize w5.alloc (.cells #[.slice none 0 0, .slice none 0 0, .slice none 0 0, .slice none 0 0, .int .i64 0] 27) = w6 at *
  obtain ⟨kd, hkd⟩ : ∃ kd, kd = w5.heap.size := ⟨_, rfl⟩
  have hkk : kb ≠ kd := by omega
  have hwk : w3.heap.size ≤ kd := by omega
  rw [← hkd] at HKd
  rw [← hkd]
  clear hkd hlk hlw
  go_wp2
  go_loopw [41] (fun i wr => i = .int .i64 0 ∧ wr = w6) (fun _ _ => 0)
  case atStart => exact ⟨rfl, rfl⟩
  case round =>
    obtain ⟨rfl, rfl⟩ := hrel
    have HSame := hide (fun V => same_any (KR.zero V 0) (KR.zero V 0) Fit.zero)
    obtain ⟨-, ⟨k0, k1, k2, k3, k4⟩, -⟩ := unhide HKc
    obtain ⟨-, ⟨l0, l1, l2, l3, l4⟩, lf⟩ := unhide HKd
    have lf1 := lf 1 (by decide)
    have lf2 := lf 2 (by decide)
    have lf4 := lf 4 (by decide)
    clear lf
    go_wp2_with fail
    refine (unhide HSame _).mono ?_
    rintro e w10 ⟨rfl, hb10⟩
    have S10 := hide hb10
    clear hb10
    go_wp2
    go_ret
    refine ⟨rfl, btrans (Kept.back (btrans (unhide S3) (unhide T6)) (S := fun i => i = kd) ?_ (btrans (unhide S3) (unhide T6)).size (fun i e => by have := (unhide S3).size; omega)) (unhide S10)⟩
    exact (((Kept.refl (fun i => i = kd) _).set (b := kd) 1 _ (.inl rfl)).set (b := kd) 2 _ (.inl rfl)).set (b := kd) 4 _ (.inl rfl)

theorem KR.kept {S : Nat → Prop} {W V : World} {B : Nat} {v : Value} {k : Kn} (h : KR W B v k) (e : Kept S W V) (hS : ∀ i, S i → Tg W i 27) : KR V B v k := by
  obtain ⟨v1, v2, v3, v4, h0, h1, h2, h3, h4⟩ := h
  have n : ∀ {u : TypeId}, (27 : TypeId) ≠ u → ∀ i, S i → ¬ Tg W i u := fun hu i q t => tg_not (hS i q) hu t
  exact ⟨v1, v2, v3, v4, h0, h1.kept e (n (by decide)) (n (by decide)), h2.kept e (n (by decide)) (n (by decide)), h3.kept e (n (by decide)) (n (by decide)), h4.kept e (n (by decide))⟩
theorem KR.swap {W : World} {B : Nat} {x1 x2 x3 x4 : Value} {r : Int} {k : Kn} (h : KR W B (.agg #[x1, x2, x3, x4, .int .i64 r]) k) : KR W B (.agg #[x1, x3, x2, x4, .int .i64 (-r)]) ⟨k.loops, k.back, k.front, k.loose, -k.rack⟩ := by
  obtain ⟨v1, v2, v3, v4, h0, h1, h2, h3, h4⟩ := h
  simp only [Value.agg.injEq, Array.mk.injEq, List.cons.injEq, Value.int.injEq, and_true, true_and] at h0
  obtain ⟨rfl, rfl, rfl, rfl, rfl⟩ := h0
  exact ⟨_, _, _, _, rfl, h1, h3, h2, h4⟩

set_option maxRecDepth 100000 in
set_option maxHeartbeats 4000000 in
theorem turns_ok {N : Nat} {W : World} {q : Option Addr} {n c : Nat} {f : Nat → Sx} (h1 : 1 ≤ N) (hN : N ≤ 128) (hs : Sc W q n f) (hn : n * 40 + 4096 ≤ 140737488355328) : LawIs 5 #[.int .i64 (N : Int), .slice q n c] W := by
  unfold LawIs
  have HA := hide (alive_any W)
  unfold Ans at HA
  have HS0 := hide (fun V (hV : Below W.heap.size W V) => hs.keep hV)
  have HK := hide (show ∀ V, Below W.heap.size W V → KnitOk 10 N n f #[.int .i64 (N : Int), .slice q n c] V from fun V hV => knit_ok h1 hN (hs.keep hV) hn)
  unfold KnitOk at HK
  have HFit := hide (Fit.of (N := N) (Iv.kn N f n) (Th.kn N f n) hN)
  clear hs
  go_enter Try.func5, Try.ntmps5
  go_wp2_with fail
  refine (unhide HA).mono ?_
  rintro e w1 ⟨rfl, hb1⟩
  have S1 := hide hb1
  clear hb1
  go_wp2_with fail
  refine (unhide HK _ (unhide S1)).mono ?_
  rintro e w2 ⟨ov, v, rfl, hO2, hR2, hb2⟩
  have S2 := hide (btrans (unhide S1) hb2)
  obtain ⟨eq, ec, rfl⟩ := own_form hO2
  obtain ⟨a1, a2, a3, a4, a5, a6, a7, a8, a9, d1, d2, d3, rfl⟩ := hR2.parts
  have HR2 := hide hR2
  have HO2 := hide hO2
  clear hb2 hR2 hO2 HA HK
  obtain ⟨rk, hrk⟩ : ∃ rk, rk = (tell N (knS N f n)).rack := ⟨_, rfl⟩
  rw [← hrk] at HR2
  rw [← hrk]
  have Hrk := hide hrk
  clear hrk
  have T3 := hide (bnew w2 (.cells #[.slice a1 a2 a3, .slice a4 a5 a6, .slice a7 a8 a9, .slice d1 d3 d2, .int .i64 rk] 27))
  have HKb := hide (KB.new w2 (.slice a1 a2 a3) (.slice a4 a5 a6) (.slice a7 a8 a9) (.slice d1 d3 d2) rk)
  have HR3 := hide ((unhide HR2).keep (unhide T3))
  have HO3 := hide (own_keep (unhide HO2) (unhide T3))
  have S3 := hide (btrans (unhide S2) (unhide T3))
  clear S2 HR2 HO2 T3
  have gn : ((n : Int) != (n : Int)) = false := by simp
  go_upto_region 4 with fail
  generalize w2.alloc (.cells #[.slice a1 a2 a3, .slice a4 a5 a6, .slice a7 a8 a9, .slice d1 d3 d2, .int .i64 rk] 27) = w3 at *
  obtain ⟨kb, hkb⟩ : ∃ kb, kb = w2.heap.size := ⟨_, rfl⟩
  rw [← hkb] at HKb
  rw [← hkb]
  clear hkb
  have HT := hide (turned_any (c := c) (unhide HS0 w3 (unhide S3)) hn)
  go_wp2_with fail
  refine (unhide HT).mono ?_
  rintro e w4 ⟨q4, c4, rfl, hs4, hb4⟩
  have HK4 := hide (knit_ok (c := c4) h1 hN hs4 hn)
  unfold KnitOk at HK4
  have T4 := hide hb4
  clear hb4 hs4 HT
  go_wp2_with fail
  refine (unhide HK4).mono ?_
  rintro e w5 ⟨ov5, v5, rfl, hO5, hR5, hb5⟩
  have T5 := hide (btrans (unhide T4) hb5)
  obtain ⟨fq, fc, rfl⟩ := own_form hO5
  obtain ⟨b1, b2, b3, b4, b5, b6, b7, b8, b9, p1, p2, p3, rfl⟩ := hR5.parts
  have HR5 := hide hR5
  have HO5 := hide hO5
  clear hb5 hR5 hO5 HK4
  have hIv := Iv.kn N (fun j => tuX (f j)) n
  obtain ⟨-, -, -, -, r1, r2⟩ := hIv
  obtain ⟨rk2, hrk2⟩ : ∃ rk2, rk2 = (tell N (knS N (fun j => tuX (f j)) n)).rack := ⟨_, rfl⟩
  have r1' : -4 ≤ rk2 := by rw [hrk2]; exact r1
  have r2' : rk2 ≤ 4 := by rw [hrk2]; exact r2
  rw [← hrk2] at HR5
  rw [← hrk2]
  clear hrk2 r1 r2
  have T6 := hide (btrans (unhide T5) (bnew w5 (.cells #[.slice b1 b2 b3, .slice b4 b5 b6, .slice b7 b8 b9, .slice p1 p3 p2, .int .i64 rk2] 27)))
  have HKc := hide ((unhide HKb).keep (unhide T6))
  have HKd := hide (KB.new w5 (.slice b1 b2 b3) (.slice b4 b5 b6) (.slice b7 b8 b9) (.slice p1 p3 p2) rk2)
  have HR6 := hide ((unhide HR5).keep (bnew w5 (.cells #[.slice b1 b2 b3, .slice b4 b5 b6, .slice b7 b8 b9, .slice p1 p3 p2, .int .i64 rk2] 27)))
  have HO6 := hide (own_keep (unhide HO5) (bnew w5 (.cells #[.slice b1 b2 b3, .slice b4 b5 b6, .slice b7 b8 b9, .slice p1 p3 p2, .int .i64 rk2] 27)))
  have HRa := hide ((unhide HR3).keep (unhide T6))
  have HOa := hide (own_keep (unhide HO3) (unhide T6))
  have hlk : kb < w5.heap.size := Nat.lt_of_lt_of_le (unhide HKb).1.1 (unhide T5).size
  have hlw : w3.heap.size ≤ w5.heap.size := (unhide T5).size
  clear HR5 HO5 HR3 HO3 T4 T5 HKb
  go_upto_region 5 with fail
  generalize w5.alloc (.cells #[.slice b1 b2 b3, .slice b4 b5 b6, .slice b7 b8 b9, .slice p1 p3 p2, .int .i64 rk2] 27) = w6 at *
  obtain ⟨kd, hkd⟩ : ∃ kd, kd = w5.heap.size := ⟨_, rfl⟩
  have hkk : kb ≠ kd := by omega
  have hwk : w3.heap.size ≤ kd := by omega
  rw [← hkd] at HKd
  rw [← hkd]
  clear hkd hlk hlw
  go_wp2
  go_loopw [41] (fun i wr => ∃ x : Nat, x ≤ n ∧ i = .int .i64 x ∧ Below w6.heap.size w6 wr) (fun i _ => n - (intOf i).toNat)
  case atStart => exact ⟨0, Nat.zero_le _, rfl, Below.refl _ _⟩
  case round =>
    obtain ⟨x, hx, rfl, hB⟩ := hrel
    have HB := hide hB
    clear hB
    by_cases hlt : x < n
    · have q1 : (x : Int) < (n : Int) := by omega
      have q2 : (0 : Int) ≤ (x : Int) := by omega
      obtain ⟨g1, rfl, e1⟩ := err_at (own_keep (unhide HOa) (unhide HB)) hlt
      obtain ⟨g2, rfl, e2⟩ := err_at (own_keep (unhide HO6) (unhide HB)) hlt
      rw [er_turn] at e2
      generalize erS N f x = er at *
      have hv : (er != er) = false := by simp
      go_wp2_with fail
      go_quiet (fail)
      go_wp2
      go_roundw
      case rel => exact ⟨x + 1, by omega, by go_num, (unhide HB).trans (Joins.below_draws _ _ _)⟩
      case measure => simp [intOf]; omega
    · obtain rfl : n = x := by omega
      have cl : ¬ ((n : Int) < (n : Int)) := by omega
      have HKc2 := hide ((unhide HKc).keep (unhide HB))
      have HKd2 := hide ((unhide HKd).keep (unhide HB))
      have K7 := hide (show Kept (fun i => i = kd) wr (((wr.setCell ⟨kd, 1, none⟩ (.slice b7 b8 b9)).setCell ⟨kd, 2, none⟩ (.slice b4 b5 b6)).setCell ⟨kd, 4, none⟩ (.int .i64 (-rk2))) from (((Kept.refl (fun i => i = kd) _).set (b := kd) 1 _ (.inl rfl)).set (b := kd) 2 _ (.inl rfl)).set (b := kd) 4 _ (.inl rfl))
      have t27 := (unhide HKd2).1.2
      have HRa7 := hide (((unhide HRa).keep (unhide HB)).kept (unhide K7) (fun i e => e ▸ t27))
      have HR7 := hide ((((unhide HR6).keep (unhide HB)).kept (unhide K7) (fun i e => e ▸ t27)).swap)
      rw [tell_turn (kn_turn N f n)] at HR7
      have HSame := hide (same_any (unhide HRa7) (unhide HR7) (unhide HFit))
      obtain ⟨-, ⟨k0, k1, k2, k3, k4⟩, -⟩ := unhide HKc2
      obtain ⟨-, ⟨l0, l1, l2, l3, l4⟩, lf⟩ := unhide HKd2
      have lf1 := lf 1 (by decide)
      have lf2 := lf 2 (by decide)
      have lf4 := lf 4 (by decide)
      clear lf t27
      go_wp2_with fail
      refine (unhide HSame).mono ?_
      rintro e w10 ⟨rfl, hb10⟩
      have S10 := hide hb10
      clear hb10
      go_wp2
      go_ret
      exact ⟨rfl, btrans (Kept.back (btrans (btrans (unhide S3) (unhide T6)) (unhide HB)) (unhide K7) (btrans (btrans (unhide S3) (unhide T6)) (unhide HB)).size (fun i e => by have := (unhide S3).size; omega)) (unhide S10)⟩
theorem turns_any (n : Int) (W : World) (q : Option Addr) (l c : Nat) (f : Nat → Sx) (hs : Sc W q l f) (hl : l * 40 + 4096 ≤ 140737488355328) : LawIs 5 #[.int .i64 n, .slice q l c] W := by
  by_cases h : n < 1 ∨ 128 < n
  · exact turns_new n W q l c f hs hl h
  · obtain ⟨N, rfl⟩ : ∃ N : Nat, n = N := ⟨n.toNat, by omega⟩
    exact turns_ok (by omega) (by omega) hs hl
end Go.Proofs.Ytnolblcfafdnpaa
