/-
  What the reference's Read answers of a text whose first line is right (grid 4).
-/
import Derived.Test.YtncjbmafefeajaaDoorRefF
namespace Go.Proofs.YtncjbmafefeajaaDoor
open Go.RowKit

set_option maxHeartbeats 8000000 in
set_option maxRecDepth 100000 in
theorem rread_rows4 (s : ByteArray) (W : World) (h : s.size ≤ 65536) (h6 : st s 0 [226, 150, 179] = false) (h4 : st s 0 [226, 150, 161] = true) (hl : lf s 3 = true) : RReads s W 4 := by
  have h3 := lf_lt hl
  obtain ⟨i0, hi, hz0, hz1, hz2⟩ := info_parts info3
  obtain ⟨j0, ji, jz0, jz1, jz2⟩ := info_parts info22
  have Hsigns := hide signs_any
  have HB := hide bad_any
  have H6 := hide (fun W => starts_any s 0 [226, 150, 179] W (by omega) (by decide) (by decide))
  have H4 := hide (fun W => starts_any s 0 [226, 150, 161] W (by omega) (by decide) (by decide))
  have HL := hide (fun W => starts_any s 3 [10] W (by omega) (by decide) (by decide))
  rw [h6] at H6
  rw [h4] at H4
  rw [st_lf, hl] at HL
  clear h6 h4 hl
  have h' : decide ((65536 : Int) < (s.size : Int)) = false := by simp; omega
  obtain ⟨D0, F0, S0⟩ := two_boxes W
  have C := OwnD.new ((W.alloc (.cells #[.int .i64 0, .int .i64 0, .int .i64 0, .slice none 0 0] 27)).alloc (.cells #[.int .i64 0, .int .i64 0] 30)) 4 0 0 none 0 0 27
  rw [World.size_alloc, World.size_alloc] at C
  have D := D0.alloc (.cells #[.int .i64 4, .int .i64 0, .int .i64 0, .slice none 0 0] 27)
  have F := F0.alloc (.cells #[.int .i64 4, .int .i64 0, .int .i64 0, .slice none 0 0] 27)
  have HS := hide (bal (o := .cells #[.int .i64 4, .int .i64 0, .int .i64 0, .slice none 0 0] 27) S0)
  have hsz : W.heap.size + 1 + 1 < (((W.alloc (.cells #[.int .i64 0, .int .i64 0, .int .i64 0, .slice none 0 0] 27)).alloc (.cells #[.int .i64 0, .int .i64 0] 30)).alloc (.cells #[.int .i64 4, .int .i64 0, .int .i64 0, .slice none 0 0] 27)).heap.size := by simp
  clear D0 F0 S0
  unfold RReads
  go_enter Tryd.func9, Tryd.ntmps9
  go_wp2_with fail
  generalize ((W.alloc (.cells #[.int .i64 0, .int .i64 0, .int .i64 0, .slice none 0 0] 27)).alloc (.cells #[.int .i64 0, .int .i64 0] 30)).alloc (.cells #[.int .i64 4, .int .i64 0, .int .i64 0, .slice none 0 0] 27) = w0 at *
  refine (unhide H6 _).mono ?_
  rintro e w1 ⟨rfl, rfl⟩
  go_wp2_with fail
  refine (unhide H4 _).mono ?_
  rintro e w1 ⟨rfl, rfl⟩
  go_wp2_with fail
  refine (unhide HL _).mono ?_
  rintro e w1 ⟨rfl, rfl⟩
  go_wp2
  clear H6 H4 HL
  have HCb := hide C
  have HD := hide D
  have HFb := hide F
  clear C D F
  go_loopw [6, 7] (fun i v wr => ∃ (p k cap : Nat) (q : Option Addr) (rows : List (List Int)) (vs : List Value), i = .int .i64 p ∧ v = .slice q k cap ∧ k = rows.length ∧ RowsPre s 4 rows p ∧ wr.ownsRow w1.heap.size 25 1 (.slice q k cap) k vs ∧ RowsAt wr w1.heap.size vs rows ∧ Below w1.heap.size w1 wr) (fun i _ _ => s.size + 1 - (intOf i).toNat)
  case atStart => exact ⟨4, 0, 0, none, [], [], rfl, rfl, rfl, .nil, World.ownsRow_nil _ _ _ _, ⟨rfl, fun j v cs h => by simp at h⟩, Below.refl _ _⟩
  case round =>
    obtain ⟨p, k, cap, q, rows, vs, rfl, rfl, hkl, hpre, hown, hrows, hbel⟩ := hrel
    have hr := hpre.range
    have hp := hr.1 (by omega)
    have hk : k ≤ 64 := by have := hr.2.1; omega
    have Hpre := hide hpre
    have Hwide := hide (show ∀ cs ∈ rows, cs.length ≤ 64 from fun cs hc => (hr.2.2 cs hc).2.1)
    have Hkl := hide hkl
    clear hr hpre hkl
    by_cases hk0 : k = 0
    · subst hk0
      have Hgo := hide (show rows = [] ∨ p < s.size from Or.inl (List.length_eq_zero_iff.1 (unhide Hkl).symm))
      by_cases hd : p < s.size
      · skip
        obtain ⟨wo, rfl⟩ : ∃ wo : World, wo = wr := ⟨_, rfl⟩
        go_wp2
        go_loopw [6, 9] (fun i v wr2 => ∃ (e1 : Nat) (cs : List Int), i = .int .i64 e1 ∧ Pre s p cs e1 ∧ wr2.ownsRow wo.heap.size 3 1 v cs.length (intsV cs) ∧ Below wo.heap.size wo wr2) (fun i _ _ => s.size - (intOf i).toNat)
        case atStart => exact ⟨p, [], rfl, .nil, World.ownsRow_nil _ _ _ _, Below.refl _ _⟩
        case round =>
          obtain ⟨e1, cs, rfl, hcs, hownc, hbc⟩ := hrel
          have hrc := hcs.range
          have he1 : e1 ≤ s.size := hrc.2.1 hp
          have hpe : p ≤ e1 := by omega
          have hcl : cs.length ≤ 65536 := by omega
          obtain ⟨qv, cv, rfl⟩ := own_form hownc
          have Hcs := hide hcs
          clear hcs hrc
          have HL := hide (fun W => starts_any s e1 [10] W (by omega) (by decide) (by decide))
          rw [st_lf] at HL
          by_cases hz : cs.length = 0
          · have hzz : ((cs.length : Int) == 0) = true := by simp [hz]
            have Hz := hide hz
            clear hz
            have HSg := hide (unhide Hsigns wr)
            go_wp2_with fail
            refine (unhide HSg).mono ?_
            rintro e w3 ⟨g, capg, rfl, hsg, hb3⟩
            have HC := hide (fun (k : Nat) (hk : k < 62) => sign_cell hsg hk)
            have HT := hide (fun (k : Nat) (hk : k < 62) (w : World) => starts_any s e1 (sb k) w (by omega) (by have := sb_len k hk; omega) (sb_len k hk).2)
            have own1 := own_keep hownc hb3
            have S1 := btrans hbc hb3
            clear hsg hownc hb3 hbc HSg
            cases hS : signAt s e1 with
            | none =>
              have Hst := hide (fun k hk => st_none s e1 k hk hS)
              have HS' := hide hS
              clear hS
              obtain ⟨w4, rfl⟩ : ∃ w4 : World, w4 = w3 := ⟨_, rfl⟩
              go_wp2
              go_loopw [64, 10] (fun i f wr4 => ∃ j : Nat, j ≤ 62 ∧ i = .int .i64 j ∧ f = .int .i64 (-1) ∧ wr4 = w4) (fun i _ _ => 62 - (intOf i).toNat)
              case atStart => exact ⟨0, by omega, rfl, rfl, rfl⟩
              case round =>
                obtain ⟨j, hj, rfl, rfl, rfl⟩ := hrel
                by_cases hlt : j < 62
                · have hcell := unhide HC j hlt
                  have HT1 := hide (unhide HT j hlt wr)
                  rw [unhide Hst j hlt] at HT1
                  generalize (⟨(sb (j : Nat)).toArray⟩ : ByteArray) = t at *
                  go_wp2_with fail
                  refine (unhide HT1).mono ?_
                  rintro e w5 ⟨rfl, rfl⟩
                  go_wp2
                  go_roundw
                  case rel => exact ⟨j + 1, by omega, by go_num, rfl, trivial⟩
                  case measure => simp [intOf]; omega
                · have e : j = 62 := by omega
                  subst e
                  go_wp2_with fail
                  refine (unhide HB _ _ _).mono ?_
                  rintro e w5 ⟨rfl, hb5⟩
                  have St := btrans (btrans hbel S1) hb5
                  have D1 := (unhide HD).keep St
                  have F1 := (unhide HFb).keep St
                  have S9 := btrans (unhide HS) St
                  clear St hb5
                  obtain ⟨⟨-, d⟩, df⟩ := D1
                  obtain ⟨-, f, ff⟩ := F1
                  go_wp2
                  exact bodyPost_ret (v := .tuple #[ch 0 0 0 none 0 0, .agg #[.int .i64 2, .int .i64 e1]]) (by simp [results, Tryd.results9, go_sem, d, f]) rfl (RPost.fail ⟨rows, p, cs, e1, unhide Hpre, unhide Hgo, unhide Hcs, unhide HS', Or.inl ⟨Or.inl (List.length_eq_zero_iff.1 (unhide Hz)), rfl, rfl⟩⟩ (bset (bset (bset (bset (bset (bset S9 (by dsimp only; omega)) (by dsimp only; omega)) (by dsimp only; omega)) (by dsimp only; omega)) (by dsimp only; omega)) (by dsimp only; omega)))
            | some qq =>
              obtain ⟨c0, n⟩ := qq
              obtain ⟨c, hc, rfl, rfl⟩ := signAt_form s e1 c0 n hS
              have hrg := signAt_range s e1 _ _ hS
              have Hst := hide (fun k hk => st_signs s e1 c k hc hk hS)
              have HS' := hide hS
              clear hS
              obtain ⟨w4, rfl⟩ : ∃ w4 : World, w4 = w3 := ⟨_, rfl⟩
              go_wp2
              go_loopw [64, 10] (fun i f wr4 => ∃ j : Nat, j ≤ 62 ∧ i = .int .i64 j ∧ (j ≤ c ∧ f = .int .i64 (-1) ∨ c < j ∧ f = .int .i64 c) ∧ wr4 = w4) (fun i _ _ => 62 - (intOf i).toNat)
              case atStart => exact ⟨0, by omega, rfl, Or.inl ⟨by omega, rfl⟩, rfl⟩
              case round =>
                obtain ⟨j, hj, rfl, hf, rfl⟩ := hrel
                by_cases hlt : j < 62
                · have hcell := unhide HC j hlt
                  have HT1 := hide (unhide HT j hlt wr)
                  rw [unhide Hst j hlt] at HT1
                  generalize (⟨(sb (j : Nat)).toArray⟩ : ByteArray) = t at *
                  have Hf := hide hf
                  clear hf
                  by_cases hjc : j = c
                  · subst hjc
                    rw [show decide (j = j) = true by simp] at HT1
                    go_wp2_with fail
                    refine (unhide HT1).mono ?_
                    rintro e w5 ⟨rfl, rfl⟩
                    go_wp2
                    go_roundw
                    case rel => exact ⟨j + 1, by omega, by go_num, Or.inr ⟨by omega, rfl⟩, trivial⟩
                    case measure => simp [intOf]; omega
                  · rw [show decide (j = c) = false by simp [hjc]] at HT1
                    go_wp2_with fail
                    refine (unhide HT1).mono ?_
                    rintro e w5 ⟨rfl, rfl⟩
                    go_wp2
                    go_roundw
                    case rel => exact ⟨j + 1, by omega, by go_num, (unhide Hf).imp (fun h => ⟨by omega, h.2⟩) (fun h => ⟨by omega, h.2⟩), trivial⟩
                    case measure => simp [intOf]; omega
                · have e : j = 62 := by omega
                  subst e
                  obtain ⟨-, rfl⟩ : c < 62 ∧ _ := hf.resolve_left (by omega)
                  have hs1 := S1.size
                  go_wp2_with (at_builtin; refine wpList_append_own _ rfl _ _ 25 rfl wo.heap.size 3 i0 (.int .i64 0) 1 8 Tryd.underlying25 hi hz0 hz1 hz2 rfl (by decide) _ _ _ rfl (own1.alloc _) ⟨wr.heap.size, 0, none⟩ 1 1 [.int .i64 c] rfl rfl ?c1x0 ?c2x0 ?c3x0 ?c4x0 ?c5x0 ?_)
                  case c2x0 => rfl
                  case c3x0 => unfold maxLen; omega
                  case c4x0 => omega
                  case c5x0 => first | omega | (simp; omega)
                  intro v' w6 hown' hgrow _
                  have S2 := (S1.alloc (by omega) _).grown hgrow (by simp; omega) (fun k hk => (own1.lt k hk).1)
                  have HSg2 := hide (unhide Hsigns w6)
                  go_wp2_with fail
                  refine (unhide HSg2).mono ?_
                  rintro e w7 ⟨g2, capg2, rfl, hsg2, hb7⟩
                  have hcell2 := sign_cell hsg2 hc
                  have own2 := own_keep hown' hb7
                  have S3 := btrans S2 hb7
                  clear hsg2 hown' S2 hb7
                  have hlen : (⟨(sb (c : Nat)).toArray⟩ : ByteArray).size = (sb (c : Nat)).length := rfl
                  have Hlen := hide hlen
                  clear hlen
                  generalize (⟨(sb (c : Nat)).toArray⟩ : ByteArray) = t at *
                  have hlt3 : t.size ≤ 3 := by rw [unhide Hlen]; exact (sb_len c hc).1
                  go_wp2
                  go_roundw
                  case rel => exact ⟨e1 + (sb c).length, cs ++ [(c : Int)], by rw [← unhide Hlen]; go_num, .snoc (unhide Hcs) (unhide HS'), by simpa [intsV] using own2, S3⟩
                  case measure => simp [intOf]; rw [unhide Hlen]; omega
          · have hzz : ((cs.length : Int) == 0) = false := by simp [hz]
            cases hl : lf s e1 with
            | false =>
              rw [hl] at HL
              have Hlf := hide hl
              clear hl hz
              go_wp2_with fail
              refine (unhide HL _).mono ?_
              rintro e wr ⟨rfl, rfl⟩
              have HSg := hide (unhide Hsigns wr)
              go_wp2_with fail
              refine (unhide HSg).mono ?_
              rintro e w3 ⟨g, capg, rfl, hsg, hb3⟩
              have HC := hide (fun (k : Nat) (hk : k < 62) => sign_cell hsg hk)
              have HT := hide (fun (k : Nat) (hk : k < 62) (w : World) => starts_any s e1 (sb k) w (by omega) (by have := sb_len k hk; omega) (sb_len k hk).2)
              have own1 := own_keep hownc hb3
              have S1 := btrans hbc hb3
              clear hsg hownc hb3 hbc HSg
              cases hS : signAt s e1 with
              | none =>
                have Hst := hide (fun k hk => st_none s e1 k hk hS)
                have HS' := hide hS
                clear hS
                obtain ⟨w4, rfl⟩ : ∃ w4 : World, w4 = w3 := ⟨_, rfl⟩
                go_wp2
                go_loopw [64, 10] (fun i f wr4 => ∃ j : Nat, j ≤ 62 ∧ i = .int .i64 j ∧ f = .int .i64 (-1) ∧ wr4 = w4) (fun i _ _ => 62 - (intOf i).toNat)
                case atStart => exact ⟨0, by omega, rfl, rfl, rfl⟩
                case round =>
                  obtain ⟨j, hj, rfl, rfl, rfl⟩ := hrel
                  by_cases hlt : j < 62
                  · have hcell := unhide HC j hlt
                    have HT1 := hide (unhide HT j hlt wr)
                    rw [unhide Hst j hlt] at HT1
                    generalize (⟨(sb (j : Nat)).toArray⟩ : ByteArray) = t at *
                    go_wp2_with fail
                    refine (unhide HT1).mono ?_
                    rintro e w5 ⟨rfl, rfl⟩
                    go_wp2
                    go_roundw
                    case rel => exact ⟨j + 1, by omega, by go_num, rfl, trivial⟩
                    case measure => simp [intOf]; omega
                  · have e : j = 62 := by omega
                    subst e
                    go_wp2_with fail
                    refine (unhide HB _ _ _).mono ?_
                    rintro e w5 ⟨rfl, hb5⟩
                    have St := btrans (btrans hbel S1) hb5
                    have D1 := (unhide HD).keep St
                    have F1 := (unhide HFb).keep St
                    have S9 := btrans (unhide HS) St
                    clear St hb5
                    obtain ⟨⟨-, d⟩, df⟩ := D1
                    obtain ⟨-, f, ff⟩ := F1
                    go_wp2
                    exact bodyPost_ret (v := .tuple #[ch 0 0 0 none 0 0, .agg #[.int .i64 2, .int .i64 e1]]) (by simp [results, Tryd.results9, go_sem, d, f]) rfl (RPost.fail ⟨rows, p, cs, e1, unhide Hpre, unhide Hgo, unhide Hcs, unhide HS', Or.inl ⟨Or.inr (unhide Hlf), rfl, rfl⟩⟩ (bset (bset (bset (bset (bset (bset S9 (by dsimp only; omega)) (by dsimp only; omega)) (by dsimp only; omega)) (by dsimp only; omega)) (by dsimp only; omega)) (by dsimp only; omega)))
              | some qq =>
                obtain ⟨c0, n⟩ := qq
                obtain ⟨c, hc, rfl, rfl⟩ := signAt_form s e1 c0 n hS
                have hrg := signAt_range s e1 _ _ hS
                have Hst := hide (fun k hk => st_signs s e1 c k hc hk hS)
                have HS' := hide hS
                clear hS
                obtain ⟨w4, rfl⟩ : ∃ w4 : World, w4 = w3 := ⟨_, rfl⟩
                go_wp2
                go_loopw [64, 10] (fun i f wr4 => ∃ j : Nat, j ≤ 62 ∧ i = .int .i64 j ∧ (j ≤ c ∧ f = .int .i64 (-1) ∨ c < j ∧ f = .int .i64 c) ∧ wr4 = w4) (fun i _ _ => 62 - (intOf i).toNat)
                case atStart => exact ⟨0, by omega, rfl, Or.inl ⟨by omega, rfl⟩, rfl⟩
                case round =>
                  obtain ⟨j, hj, rfl, hf, rfl⟩ := hrel
                  by_cases hlt : j < 62
                  · have hcell := unhide HC j hlt
                    have HT1 := hide (unhide HT j hlt wr)
                    rw [unhide Hst j hlt] at HT1
                    generalize (⟨(sb (j : Nat)).toArray⟩ : ByteArray) = t at *
                    have Hf := hide hf
                    clear hf
                    by_cases hjc : j = c
                    · subst hjc
                      rw [show decide (j = j) = true by simp] at HT1
                      go_wp2_with fail
                      refine (unhide HT1).mono ?_
                      rintro e w5 ⟨rfl, rfl⟩
                      go_wp2
                      go_roundw
                      case rel => exact ⟨j + 1, by omega, by go_num, Or.inr ⟨by omega, rfl⟩, trivial⟩
                      case measure => simp [intOf]; omega
                    · rw [show decide (j = c) = false by simp [hjc]] at HT1
                      go_wp2_with fail
                      refine (unhide HT1).mono ?_
                      rintro e w5 ⟨rfl, rfl⟩
                      go_wp2
                      go_roundw
                      case rel => exact ⟨j + 1, by omega, by go_num, (unhide Hf).imp (fun h => ⟨by omega, h.2⟩) (fun h => ⟨by omega, h.2⟩), trivial⟩
                      case measure => simp [intOf]; omega
                  · have e : j = 62 := by omega
                    subst e
                    obtain ⟨-, rfl⟩ : c < 62 ∧ _ := hf.resolve_left (by omega)
                    have hs1 := S1.size
                    go_wp2_with (at_builtin; refine wpList_append_own _ rfl _ _ 25 rfl wo.heap.size 3 i0 (.int .i64 0) 1 8 Tryd.underlying25 hi hz0 hz1 hz2 rfl (by decide) _ _ _ rfl (own1.alloc _) ⟨wr.heap.size, 0, none⟩ 1 1 [.int .i64 c] rfl rfl ?c1x1 ?c2x1 ?c3x1 ?c4x1 ?c5x1 ?_)
                    case c2x1 => rfl
                    case c3x1 => unfold maxLen; omega
                    case c4x1 => omega
                    case c5x1 => first | omega | (simp; omega)
                    intro v' w6 hown' hgrow _
                    have S2 := (S1.alloc (by omega) _).grown hgrow (by simp; omega) (fun k hk => (own1.lt k hk).1)
                    have HSg2 := hide (unhide Hsigns w6)
                    go_wp2_with fail
                    refine (unhide HSg2).mono ?_
                    rintro e w7 ⟨g2, capg2, rfl, hsg2, hb7⟩
                    have hcell2 := sign_cell hsg2 hc
                    have own2 := own_keep hown' hb7
                    have S3 := btrans S2 hb7
                    clear hsg2 hown' S2 hb7
                    have hlen : (⟨(sb (c : Nat)).toArray⟩ : ByteArray).size = (sb (c : Nat)).length := rfl
                    have Hlen := hide hlen
                    clear hlen
                    generalize (⟨(sb (c : Nat)).toArray⟩ : ByteArray) = t at *
                    have hlt3 : t.size ≤ 3 := by rw [unhide Hlen]; exact (sb_len c hc).1
                    go_wp2
                    go_roundw
                    case rel => exact ⟨e1 + (sb c).length, cs ++ [(c : Int)], by rw [← unhide Hlen]; go_num, .snoc (unhide Hcs) (unhide HS'), by simpa [intsV] using own2, S3⟩
                    case measure => simp [intOf]; rw [unhide Hlen]; omega
            | true =>
              have Hlf := hide hl
              have Hnone := hide (lf_none hl)
              have Hcz := hide (show cs ≠ [] from fun h => hz (by rw [h]; rfl))
              have hlt2 := lf_lt hl
              rw [hl] at HL
              clear hl
              have ownR := own_keep hown hbc
              have rowsR := hrows.keep hbc
              have S1 := btrans hbel hbc
              have ownC := Joins.ownsRow_le hownc hbel.size
              clear hown hrows hbel hbc hownc
              go_wp2_with fail
              refine (unhide HL _).mono ?_
              rintro e wr ⟨rfl, rfl⟩
              clear HL
              have Hemp := hide (show rows = [] from List.length_eq_zero_iff.1 (unhide Hkl).symm)
              by_cases h64 : 64 < cs.length
              · have Hw := hide (show wrongR rows cs = 5 by rw [unhide Hemp]; simp [wrongR, h64])
                have h65 : decide ((64 : Int) < (cs.length : Int)) = true := by simp; omega
                clear ownR rowsR ownC
                go_wp2_with fail
                refine (unhide HB _ _ _).mono ?_
                rintro e w5 ⟨rfl, hb5⟩
                have St := btrans S1 hb5
                have D1 := (unhide HD).keep St
                have F1 := (unhide HFb).keep St
                have S9 := btrans (unhide HS) St
                clear St hb5
                obtain ⟨⟨-, d⟩, df⟩ := D1
                obtain ⟨-, f, ff⟩ := F1
                go_wp2
                exact bodyPost_ret (v := .tuple #[ch 0 0 0 none 0 0, .agg #[.int .i64 5, .int .i64 p]]) (by simp [results, Tryd.results9, go_sem, d, f]) rfl (RPost.fail ⟨rows, p, cs, e1, unhide Hpre, unhide Hgo, unhide Hcs, unhide Hnone, Or.inr ⟨⟨unhide Hcz, unhide Hlf⟩, by rw [unhide Hw]; decide, (unhide Hw).symm, rfl⟩⟩ (bset (bset (bset (bset (bset (bset S9 (by dsimp only; omega)) (by dsimp only; omega)) (by dsimp only; omega)) (by dsimp only; omega)) (by dsimp only; omega)) (by dsimp only; omega)))
              · have Hw := hide (show wrongR rows cs = 0 by rw [unhide Hemp]; simp [wrongR, h64])
                have h65 : decide ((64 : Int) < (cs.length : Int)) = false := by simp; omega
                have hs1 := S1.size
                go_wp2_with (at_builtin; refine wpList_append_own _ rfl _ _ 45 rfl w1.heap.size 25 j0 (.slice none 0 0) 1 24 Tryd.underlying45 ji jz0 jz1 jz2 rfl (by decide) _ _ _ rfl (ownR.alloc _) ⟨wr.heap.size, 0, none⟩ 1 1 [.slice qv cs.length cv] rfl rfl ?c1x2 ?c2x2 ?c3x2 ?c4x2 ?c5x2 ?_)
                case c1x2 =>
                  intro j u hj
                  match j, hj with
                  | 0, hj => simp at hj; subst hj; simp [Addr.add]
                case c2x2 => intro u hu; simp at hu; subst hu; rfl
                case c3x2 => unfold maxLen; omega
                case c4x2 => omega
                case c5x2 => first | omega | (simp; omega)
                intro v' w6 hown' hgrow _
                have S3 := (S1.alloc (by omega) _).grown hgrow (by simp; omega) (fun k hk => (ownR.lt k hk).1)
                have rows3 := (rowsR.snoc ownC).grown ownR hgrow
                obtain ⟨g', cap', rfl⟩ := own_slice hown' (by omega)
                have HR3 := hide rows3
                have HO3 := hide hown'
                have HS3 := hide S3
                clear S1 rowsR ownR ownC hgrow rows3 hown' S3
                go_wp2
                go_roundw
                case rel => exact ⟨e1 + 1, 0 + 1, cap', _, rows ++ [cs], _, by go_num, rfl, by simp [unhide Hkl], .snoc (unhide Hpre) (unhide Hcs) (unhide Hnone) (unhide Hcz) (unhide Hlf) (unhide Hw), unhide HO3, unhide HR3, unhide HS3⟩
                case measure => simp [intOf]; omega
      · have hd2 : decide (p < s.size) = false := by simp; omega
        clear hd
        obtain ⟨wo, rfl⟩ : ∃ wo : World, wo = wr := ⟨_, rfl⟩
        go_wp2
        go_loopw [6, 9] (fun i v wr2 => ∃ (e1 : Nat) (cs : List Int), i = .int .i64 e1 ∧ Pre s p cs e1 ∧ wr2.ownsRow wo.heap.size 3 1 v cs.length (intsV cs) ∧ Below wo.heap.size wo wr2) (fun i _ _ => s.size - (intOf i).toNat)
        case atStart => exact ⟨p, [], rfl, .nil, World.ownsRow_nil _ _ _ _, Below.refl _ _⟩
        case round =>
          obtain ⟨e1, cs, rfl, hcs, hownc, hbc⟩ := hrel
          have hrc := hcs.range
          have he1 : e1 ≤ s.size := hrc.2.1 hp
          have hpe : p ≤ e1 := by omega
          have hcl : cs.length ≤ 65536 := by omega
          obtain ⟨qv, cv, rfl⟩ := own_form hownc
          have Hcs := hide hcs
          clear hcs hrc
          have HL := hide (fun W => starts_any s e1 [10] W (by omega) (by decide) (by decide))
          rw [st_lf] at HL
          by_cases hz : cs.length = 0
          · have hzz : ((cs.length : Int) == 0) = true := by simp [hz]
            have Hz := hide hz
            clear hz
            have HSg := hide (unhide Hsigns wr)
            go_wp2_with fail
            refine (unhide HSg).mono ?_
            rintro e w3 ⟨g, capg, rfl, hsg, hb3⟩
            have HC := hide (fun (k : Nat) (hk : k < 62) => sign_cell hsg hk)
            have HT := hide (fun (k : Nat) (hk : k < 62) (w : World) => starts_any s e1 (sb k) w (by omega) (by have := sb_len k hk; omega) (sb_len k hk).2)
            have own1 := own_keep hownc hb3
            have S1 := btrans hbc hb3
            clear hsg hownc hb3 hbc HSg
            cases hS : signAt s e1 with
            | none =>
              have Hst := hide (fun k hk => st_none s e1 k hk hS)
              have HS' := hide hS
              clear hS
              obtain ⟨w4, rfl⟩ : ∃ w4 : World, w4 = w3 := ⟨_, rfl⟩
              go_wp2
              go_loopw [64, 10] (fun i f wr4 => ∃ j : Nat, j ≤ 62 ∧ i = .int .i64 j ∧ f = .int .i64 (-1) ∧ wr4 = w4) (fun i _ _ => 62 - (intOf i).toNat)
              case atStart => exact ⟨0, by omega, rfl, rfl, rfl⟩
              case round =>
                obtain ⟨j, hj, rfl, rfl, rfl⟩ := hrel
                by_cases hlt : j < 62
                · have hcell := unhide HC j hlt
                  have HT1 := hide (unhide HT j hlt wr)
                  rw [unhide Hst j hlt] at HT1
                  generalize (⟨(sb (j : Nat)).toArray⟩ : ByteArray) = t at *
                  go_wp2_with fail
                  refine (unhide HT1).mono ?_
                  rintro e w5 ⟨rfl, rfl⟩
                  go_wp2
                  go_roundw
                  case rel => exact ⟨j + 1, by omega, by go_num, rfl, trivial⟩
                  case measure => simp [intOf]; omega
                · have e : j = 62 := by omega
                  subst e
                  go_wp2_with fail
                  refine (unhide HB _ _ _).mono ?_
                  rintro e w5 ⟨rfl, hb5⟩
                  have St := btrans (btrans hbel S1) hb5
                  have D1 := (unhide HD).keep St
                  have F1 := (unhide HFb).keep St
                  have S9 := btrans (unhide HS) St
                  clear St hb5
                  obtain ⟨⟨-, d⟩, df⟩ := D1
                  obtain ⟨-, f, ff⟩ := F1
                  go_wp2
                  exact bodyPost_ret (v := .tuple #[ch 0 0 0 none 0 0, .agg #[.int .i64 2, .int .i64 e1]]) (by simp [results, Tryd.results9, go_sem, d, f]) rfl (RPost.fail ⟨rows, p, cs, e1, unhide Hpre, unhide Hgo, unhide Hcs, unhide HS', Or.inl ⟨Or.inl (List.length_eq_zero_iff.1 (unhide Hz)), rfl, rfl⟩⟩ (bset (bset (bset (bset (bset (bset S9 (by dsimp only; omega)) (by dsimp only; omega)) (by dsimp only; omega)) (by dsimp only; omega)) (by dsimp only; omega)) (by dsimp only; omega)))
            | some qq =>
              obtain ⟨c0, n⟩ := qq
              obtain ⟨c, hc, rfl, rfl⟩ := signAt_form s e1 c0 n hS
              have hrg := signAt_range s e1 _ _ hS
              have Hst := hide (fun k hk => st_signs s e1 c k hc hk hS)
              have HS' := hide hS
              clear hS
              obtain ⟨w4, rfl⟩ : ∃ w4 : World, w4 = w3 := ⟨_, rfl⟩
              go_wp2
              go_loopw [64, 10] (fun i f wr4 => ∃ j : Nat, j ≤ 62 ∧ i = .int .i64 j ∧ (j ≤ c ∧ f = .int .i64 (-1) ∨ c < j ∧ f = .int .i64 c) ∧ wr4 = w4) (fun i _ _ => 62 - (intOf i).toNat)
              case atStart => exact ⟨0, by omega, rfl, Or.inl ⟨by omega, rfl⟩, rfl⟩
              case round =>
                obtain ⟨j, hj, rfl, hf, rfl⟩ := hrel
                by_cases hlt : j < 62
                · have hcell := unhide HC j hlt
                  have HT1 := hide (unhide HT j hlt wr)
                  rw [unhide Hst j hlt] at HT1
                  generalize (⟨(sb (j : Nat)).toArray⟩ : ByteArray) = t at *
                  have Hf := hide hf
                  clear hf
                  by_cases hjc : j = c
                  · subst hjc
                    rw [show decide (j = j) = true by simp] at HT1
                    go_wp2_with fail
                    refine (unhide HT1).mono ?_
                    rintro e w5 ⟨rfl, rfl⟩
                    go_wp2
                    go_roundw
                    case rel => exact ⟨j + 1, by omega, by go_num, Or.inr ⟨by omega, rfl⟩, trivial⟩
                    case measure => simp [intOf]; omega
                  · rw [show decide (j = c) = false by simp [hjc]] at HT1
                    go_wp2_with fail
                    refine (unhide HT1).mono ?_
                    rintro e w5 ⟨rfl, rfl⟩
                    go_wp2
                    go_roundw
                    case rel => exact ⟨j + 1, by omega, by go_num, (unhide Hf).imp (fun h => ⟨by omega, h.2⟩) (fun h => ⟨by omega, h.2⟩), trivial⟩
                    case measure => simp [intOf]; omega
                · have e : j = 62 := by omega
                  subst e
                  obtain ⟨-, rfl⟩ : c < 62 ∧ _ := hf.resolve_left (by omega)
                  have hs1 := S1.size
                  go_wp2_with (at_builtin; refine wpList_append_own _ rfl _ _ 25 rfl wo.heap.size 3 i0 (.int .i64 0) 1 8 Tryd.underlying25 hi hz0 hz1 hz2 rfl (by decide) _ _ _ rfl (own1.alloc _) ⟨wr.heap.size, 0, none⟩ 1 1 [.int .i64 c] rfl rfl ?c1x3 ?c2x3 ?c3x3 ?c4x3 ?c5x3 ?_)
                  case c2x3 => rfl
                  case c3x3 => unfold maxLen; omega
                  case c4x3 => omega
                  case c5x3 => first | omega | (simp; omega)
                  intro v' w6 hown' hgrow _
                  have S2 := (S1.alloc (by omega) _).grown hgrow (by simp; omega) (fun k hk => (own1.lt k hk).1)
                  have HSg2 := hide (unhide Hsigns w6)
                  go_wp2_with fail
                  refine (unhide HSg2).mono ?_
                  rintro e w7 ⟨g2, capg2, rfl, hsg2, hb7⟩
                  have hcell2 := sign_cell hsg2 hc
                  have own2 := own_keep hown' hb7
                  have S3 := btrans S2 hb7
                  clear hsg2 hown' S2 hb7
                  have hlen : (⟨(sb (c : Nat)).toArray⟩ : ByteArray).size = (sb (c : Nat)).length := rfl
                  have Hlen := hide hlen
                  clear hlen
                  generalize (⟨(sb (c : Nat)).toArray⟩ : ByteArray) = t at *
                  have hlt3 : t.size ≤ 3 := by rw [unhide Hlen]; exact (sb_len c hc).1
                  go_wp2
                  go_roundw
                  case rel => exact ⟨e1 + (sb c).length, cs ++ [(c : Int)], by rw [← unhide Hlen]; go_num, .snoc (unhide Hcs) (unhide HS'), by simpa [intsV] using own2, S3⟩
                  case measure => simp [intOf]; rw [unhide Hlen]; omega
          · have hzz : ((cs.length : Int) == 0) = false := by simp [hz]
            cases hl : lf s e1 with
            | false =>
              rw [hl] at HL
              have Hlf := hide hl
              clear hl hz
              go_wp2_with fail
              refine (unhide HL _).mono ?_
              rintro e wr ⟨rfl, rfl⟩
              have HSg := hide (unhide Hsigns wr)
              go_wp2_with fail
              refine (unhide HSg).mono ?_
              rintro e w3 ⟨g, capg, rfl, hsg, hb3⟩
              have HC := hide (fun (k : Nat) (hk : k < 62) => sign_cell hsg hk)
              have HT := hide (fun (k : Nat) (hk : k < 62) (w : World) => starts_any s e1 (sb k) w (by omega) (by have := sb_len k hk; omega) (sb_len k hk).2)
              have own1 := own_keep hownc hb3
              have S1 := btrans hbc hb3
              clear hsg hownc hb3 hbc HSg
              cases hS : signAt s e1 with
              | none =>
                have Hst := hide (fun k hk => st_none s e1 k hk hS)
                have HS' := hide hS
                clear hS
                obtain ⟨w4, rfl⟩ : ∃ w4 : World, w4 = w3 := ⟨_, rfl⟩
                go_wp2
                go_loopw [64, 10] (fun i f wr4 => ∃ j : Nat, j ≤ 62 ∧ i = .int .i64 j ∧ f = .int .i64 (-1) ∧ wr4 = w4) (fun i _ _ => 62 - (intOf i).toNat)
                case atStart => exact ⟨0, by omega, rfl, rfl, rfl⟩
                case round =>
                  obtain ⟨j, hj, rfl, rfl, rfl⟩ := hrel
                  by_cases hlt : j < 62
                  · have hcell := unhide HC j hlt
                    have HT1 := hide (unhide HT j hlt wr)
                    rw [unhide Hst j hlt] at HT1
                    generalize (⟨(sb (j : Nat)).toArray⟩ : ByteArray) = t at *
                    go_wp2_with fail
                    refine (unhide HT1).mono ?_
                    rintro e w5 ⟨rfl, rfl⟩
                    go_wp2
                    go_roundw
                    case rel => exact ⟨j + 1, by omega, by go_num, rfl, trivial⟩
                    case measure => simp [intOf]; omega
                  · have e : j = 62 := by omega
                    subst e
                    go_wp2_with fail
                    refine (unhide HB _ _ _).mono ?_
                    rintro e w5 ⟨rfl, hb5⟩
                    have St := btrans (btrans hbel S1) hb5
                    have D1 := (unhide HD).keep St
                    have F1 := (unhide HFb).keep St
                    have S9 := btrans (unhide HS) St
                    clear St hb5
                    obtain ⟨⟨-, d⟩, df⟩ := D1
                    obtain ⟨-, f, ff⟩ := F1
                    go_wp2
                    exact bodyPost_ret (v := .tuple #[ch 0 0 0 none 0 0, .agg #[.int .i64 2, .int .i64 e1]]) (by simp [results, Tryd.results9, go_sem, d, f]) rfl (RPost.fail ⟨rows, p, cs, e1, unhide Hpre, unhide Hgo, unhide Hcs, unhide HS', Or.inl ⟨Or.inr (unhide Hlf), rfl, rfl⟩⟩ (bset (bset (bset (bset (bset (bset S9 (by dsimp only; omega)) (by dsimp only; omega)) (by dsimp only; omega)) (by dsimp only; omega)) (by dsimp only; omega)) (by dsimp only; omega)))
              | some qq =>
                obtain ⟨c0, n⟩ := qq
                obtain ⟨c, hc, rfl, rfl⟩ := signAt_form s e1 c0 n hS
                have hrg := signAt_range s e1 _ _ hS
                have Hst := hide (fun k hk => st_signs s e1 c k hc hk hS)
                have HS' := hide hS
                clear hS
                obtain ⟨w4, rfl⟩ : ∃ w4 : World, w4 = w3 := ⟨_, rfl⟩
                go_wp2
                go_loopw [64, 10] (fun i f wr4 => ∃ j : Nat, j ≤ 62 ∧ i = .int .i64 j ∧ (j ≤ c ∧ f = .int .i64 (-1) ∨ c < j ∧ f = .int .i64 c) ∧ wr4 = w4) (fun i _ _ => 62 - (intOf i).toNat)
                case atStart => exact ⟨0, by omega, rfl, Or.inl ⟨by omega, rfl⟩, rfl⟩
                case round =>
                  obtain ⟨j, hj, rfl, hf, rfl⟩ := hrel
                  by_cases hlt : j < 62
                  · have hcell := unhide HC j hlt
                    have HT1 := hide (unhide HT j hlt wr)
                    rw [unhide Hst j hlt] at HT1
                    generalize (⟨(sb (j : Nat)).toArray⟩ : ByteArray) = t at *
                    have Hf := hide hf
                    clear hf
                    by_cases hjc : j = c
                    · subst hjc
                      rw [show decide (j = j) = true by simp] at HT1
                      go_wp2_with fail
                      refine (unhide HT1).mono ?_
                      rintro e w5 ⟨rfl, rfl⟩
                      go_wp2
                      go_roundw
                      case rel => exact ⟨j + 1, by omega, by go_num, Or.inr ⟨by omega, rfl⟩, trivial⟩
                      case measure => simp [intOf]; omega
                    · rw [show decide (j = c) = false by simp [hjc]] at HT1
                      go_wp2_with fail
                      refine (unhide HT1).mono ?_
                      rintro e w5 ⟨rfl, rfl⟩
                      go_wp2
                      go_roundw
                      case rel => exact ⟨j + 1, by omega, by go_num, (unhide Hf).imp (fun h => ⟨by omega, h.2⟩) (fun h => ⟨by omega, h.2⟩), trivial⟩
                      case measure => simp [intOf]; omega
                  · have e : j = 62 := by omega
                    subst e
                    obtain ⟨-, rfl⟩ : c < 62 ∧ _ := hf.resolve_left (by omega)
                    have hs1 := S1.size
                    go_wp2_with (at_builtin; refine wpList_append_own _ rfl _ _ 25 rfl wo.heap.size 3 i0 (.int .i64 0) 1 8 Tryd.underlying25 hi hz0 hz1 hz2 rfl (by decide) _ _ _ rfl (own1.alloc _) ⟨wr.heap.size, 0, none⟩ 1 1 [.int .i64 c] rfl rfl ?c1x4 ?c2x4 ?c3x4 ?c4x4 ?c5x4 ?_)
                    case c2x4 => rfl
                    case c3x4 => unfold maxLen; omega
                    case c4x4 => omega
                    case c5x4 => first | omega | (simp; omega)
                    intro v' w6 hown' hgrow _
                    have S2 := (S1.alloc (by omega) _).grown hgrow (by simp; omega) (fun k hk => (own1.lt k hk).1)
                    have HSg2 := hide (unhide Hsigns w6)
                    go_wp2_with fail
                    refine (unhide HSg2).mono ?_
                    rintro e w7 ⟨g2, capg2, rfl, hsg2, hb7⟩
                    have hcell2 := sign_cell hsg2 hc
                    have own2 := own_keep hown' hb7
                    have S3 := btrans S2 hb7
                    clear hsg2 hown' S2 hb7
                    have hlen : (⟨(sb (c : Nat)).toArray⟩ : ByteArray).size = (sb (c : Nat)).length := rfl
                    have Hlen := hide hlen
                    clear hlen
                    generalize (⟨(sb (c : Nat)).toArray⟩ : ByteArray) = t at *
                    have hlt3 : t.size ≤ 3 := by rw [unhide Hlen]; exact (sb_len c hc).1
                    go_wp2
                    go_roundw
                    case rel => exact ⟨e1 + (sb c).length, cs ++ [(c : Int)], by rw [← unhide Hlen]; go_num, .snoc (unhide Hcs) (unhide HS'), by simpa [intsV] using own2, S3⟩
                    case measure => simp [intOf]; rw [unhide Hlen]; omega
            | true =>
              have Hlf := hide hl
              have Hnone := hide (lf_none hl)
              have Hcz := hide (show cs ≠ [] from fun h => hz (by rw [h]; rfl))
              have hlt2 := lf_lt hl
              rw [hl] at HL
              clear hl
              have ownR := own_keep hown hbc
              have rowsR := hrows.keep hbc
              have S1 := btrans hbel hbc
              have ownC := Joins.ownsRow_le hownc hbel.size
              clear hown hrows hbel hbc hownc
              go_wp2_with fail
              refine (unhide HL _).mono ?_
              rintro e wr ⟨rfl, rfl⟩
              clear HL
              have Hemp := hide (show rows = [] from List.length_eq_zero_iff.1 (unhide Hkl).symm)
              by_cases h64 : 64 < cs.length
              · have Hw := hide (show wrongR rows cs = 5 by rw [unhide Hemp]; simp [wrongR, h64])
                have h65 : decide ((64 : Int) < (cs.length : Int)) = true := by simp; omega
                clear ownR rowsR ownC
                go_wp2_with fail
                refine (unhide HB _ _ _).mono ?_
                rintro e w5 ⟨rfl, hb5⟩
                have St := btrans S1 hb5
                have D1 := (unhide HD).keep St
                have F1 := (unhide HFb).keep St
                have S9 := btrans (unhide HS) St
                clear St hb5
                obtain ⟨⟨-, d⟩, df⟩ := D1
                obtain ⟨-, f, ff⟩ := F1
                go_wp2
                exact bodyPost_ret (v := .tuple #[ch 0 0 0 none 0 0, .agg #[.int .i64 5, .int .i64 p]]) (by simp [results, Tryd.results9, go_sem, d, f]) rfl (RPost.fail ⟨rows, p, cs, e1, unhide Hpre, unhide Hgo, unhide Hcs, unhide Hnone, Or.inr ⟨⟨unhide Hcz, unhide Hlf⟩, by rw [unhide Hw]; decide, (unhide Hw).symm, rfl⟩⟩ (bset (bset (bset (bset (bset (bset S9 (by dsimp only; omega)) (by dsimp only; omega)) (by dsimp only; omega)) (by dsimp only; omega)) (by dsimp only; omega)) (by dsimp only; omega)))
              · have Hw := hide (show wrongR rows cs = 0 by rw [unhide Hemp]; simp [wrongR, h64])
                have h65 : decide ((64 : Int) < (cs.length : Int)) = false := by simp; omega
                have hs1 := S1.size
                go_wp2_with (at_builtin; refine wpList_append_own _ rfl _ _ 45 rfl w1.heap.size 25 j0 (.slice none 0 0) 1 24 Tryd.underlying45 ji jz0 jz1 jz2 rfl (by decide) _ _ _ rfl (ownR.alloc _) ⟨wr.heap.size, 0, none⟩ 1 1 [.slice qv cs.length cv] rfl rfl ?c1x5 ?c2x5 ?c3x5 ?c4x5 ?c5x5 ?_)
                case c1x5 =>
                  intro j u hj
                  match j, hj with
                  | 0, hj => simp at hj; subst hj; simp [Addr.add]
                case c2x5 => intro u hu; simp at hu; subst hu; rfl
                case c3x5 => unfold maxLen; omega
                case c4x5 => omega
                case c5x5 => first | omega | (simp; omega)
                intro v' w6 hown' hgrow _
                have S3 := (S1.alloc (by omega) _).grown hgrow (by simp; omega) (fun k hk => (ownR.lt k hk).1)
                have rows3 := (rowsR.snoc ownC).grown ownR hgrow
                obtain ⟨g', cap', rfl⟩ := own_slice hown' (by omega)
                have HR3 := hide rows3
                have HO3 := hide hown'
                have HS3 := hide S3
                clear S1 rowsR ownR ownC hgrow rows3 hown' S3
                go_wp2
                go_roundw
                case rel => exact ⟨e1 + 1, 0 + 1, cap', _, rows ++ [cs], _, by go_num, rfl, by simp [unhide Hkl], .snoc (unhide Hpre) (unhide Hcs) (unhide Hnone) (unhide Hcz) (unhide Hlf) (unhide Hw), unhide HO3, unhide HR3, unhide HS3⟩
                case measure => simp [intOf]; omega
    · by_cases hps0 : p < s.size
      · have Hgo := hide (show rows = [] ∨ p < s.size from Or.inr hps0)
        obtain ⟨wo, rfl⟩ : ∃ wo : World, wo = wr := ⟨_, rfl⟩
        go_wp2
        go_loopw [6, 9] (fun i v wr2 => ∃ (e1 : Nat) (cs : List Int), i = .int .i64 e1 ∧ Pre s p cs e1 ∧ wr2.ownsRow wo.heap.size 3 1 v cs.length (intsV cs) ∧ Below wo.heap.size wo wr2) (fun i _ _ => s.size - (intOf i).toNat)
        case atStart => exact ⟨p, [], rfl, .nil, World.ownsRow_nil _ _ _ _, Below.refl _ _⟩
        case round =>
          obtain ⟨e1, cs, rfl, hcs, hownc, hbc⟩ := hrel
          have hrc := hcs.range
          have he1 : e1 ≤ s.size := hrc.2.1 hp
          have hpe : p ≤ e1 := by omega
          have hcl : cs.length ≤ 65536 := by omega
          obtain ⟨qv, cv, rfl⟩ := own_form hownc
          have Hcs := hide hcs
          clear hcs hrc
          have HL := hide (fun W => starts_any s e1 [10] W (by omega) (by decide) (by decide))
          rw [st_lf] at HL
          by_cases hz : cs.length = 0
          · have hzz : ((cs.length : Int) == 0) = true := by simp [hz]
            have Hz := hide hz
            clear hz
            have HSg := hide (unhide Hsigns wr)
            go_wp2_with fail
            refine (unhide HSg).mono ?_
            rintro e w3 ⟨g, capg, rfl, hsg, hb3⟩
            have HC := hide (fun (k : Nat) (hk : k < 62) => sign_cell hsg hk)
            have HT := hide (fun (k : Nat) (hk : k < 62) (w : World) => starts_any s e1 (sb k) w (by omega) (by have := sb_len k hk; omega) (sb_len k hk).2)
            have own1 := own_keep hownc hb3
            have S1 := btrans hbc hb3
            clear hsg hownc hb3 hbc HSg
            cases hS : signAt s e1 with
            | none =>
              have Hst := hide (fun k hk => st_none s e1 k hk hS)
              have HS' := hide hS
              clear hS
              obtain ⟨w4, rfl⟩ : ∃ w4 : World, w4 = w3 := ⟨_, rfl⟩
              go_wp2
              go_loopw [64, 10] (fun i f wr4 => ∃ j : Nat, j ≤ 62 ∧ i = .int .i64 j ∧ f = .int .i64 (-1) ∧ wr4 = w4) (fun i _ _ => 62 - (intOf i).toNat)
              case atStart => exact ⟨0, by omega, rfl, rfl, rfl⟩
              case round =>
                obtain ⟨j, hj, rfl, rfl, rfl⟩ := hrel
                by_cases hlt : j < 62
                · have hcell := unhide HC j hlt
                  have HT1 := hide (unhide HT j hlt wr)
                  rw [unhide Hst j hlt] at HT1
                  generalize (⟨(sb (j : Nat)).toArray⟩ : ByteArray) = t at *
                  go_wp2_with fail
                  refine (unhide HT1).mono ?_
                  rintro e w5 ⟨rfl, rfl⟩
                  go_wp2
                  go_roundw
                  case rel => exact ⟨j + 1, by omega, by go_num, rfl, trivial⟩
                  case measure => simp [intOf]; omega
                · have e : j = 62 := by omega
                  subst e
                  go_wp2_with fail
                  refine (unhide HB _ _ _).mono ?_
                  rintro e w5 ⟨rfl, hb5⟩
                  have St := btrans (btrans hbel S1) hb5
                  have D1 := (unhide HD).keep St
                  have F1 := (unhide HFb).keep St
                  have S9 := btrans (unhide HS) St
                  clear St hb5
                  obtain ⟨⟨-, d⟩, df⟩ := D1
                  obtain ⟨-, f, ff⟩ := F1
                  go_wp2
                  exact bodyPost_ret (v := .tuple #[ch 0 0 0 none 0 0, .agg #[.int .i64 2, .int .i64 e1]]) (by simp [results, Tryd.results9, go_sem, d, f]) rfl (RPost.fail ⟨rows, p, cs, e1, unhide Hpre, unhide Hgo, unhide Hcs, unhide HS', Or.inl ⟨Or.inl (List.length_eq_zero_iff.1 (unhide Hz)), rfl, rfl⟩⟩ (bset (bset (bset (bset (bset (bset S9 (by dsimp only; omega)) (by dsimp only; omega)) (by dsimp only; omega)) (by dsimp only; omega)) (by dsimp only; omega)) (by dsimp only; omega)))
            | some qq =>
              obtain ⟨c0, n⟩ := qq
              obtain ⟨c, hc, rfl, rfl⟩ := signAt_form s e1 c0 n hS
              have hrg := signAt_range s e1 _ _ hS
              have Hst := hide (fun k hk => st_signs s e1 c k hc hk hS)
              have HS' := hide hS
              clear hS
              obtain ⟨w4, rfl⟩ : ∃ w4 : World, w4 = w3 := ⟨_, rfl⟩
              go_wp2
              go_loopw [64, 10] (fun i f wr4 => ∃ j : Nat, j ≤ 62 ∧ i = .int .i64 j ∧ (j ≤ c ∧ f = .int .i64 (-1) ∨ c < j ∧ f = .int .i64 c) ∧ wr4 = w4) (fun i _ _ => 62 - (intOf i).toNat)
              case atStart => exact ⟨0, by omega, rfl, Or.inl ⟨by omega, rfl⟩, rfl⟩
              case round =>
                obtain ⟨j, hj, rfl, hf, rfl⟩ := hrel
                by_cases hlt : j < 62
                · have hcell := unhide HC j hlt
                  have HT1 := hide (unhide HT j hlt wr)
                  rw [unhide Hst j hlt] at HT1
                  generalize (⟨(sb (j : Nat)).toArray⟩ : ByteArray) = t at *
                  have Hf := hide hf
                  clear hf
                  by_cases hjc : j = c
                  · subst hjc
                    rw [show decide (j = j) = true by simp] at HT1
                    go_wp2_with fail
                    refine (unhide HT1).mono ?_
                    rintro e w5 ⟨rfl, rfl⟩
                    go_wp2
                    go_roundw
                    case rel => exact ⟨j + 1, by omega, by go_num, Or.inr ⟨by omega, rfl⟩, trivial⟩
                    case measure => simp [intOf]; omega
                  · rw [show decide (j = c) = false by simp [hjc]] at HT1
                    go_wp2_with fail
                    refine (unhide HT1).mono ?_
                    rintro e w5 ⟨rfl, rfl⟩
                    go_wp2
                    go_roundw
                    case rel => exact ⟨j + 1, by omega, by go_num, (unhide Hf).imp (fun h => ⟨by omega, h.2⟩) (fun h => ⟨by omega, h.2⟩), trivial⟩
                    case measure => simp [intOf]; omega
                · have e : j = 62 := by omega
                  subst e
                  obtain ⟨-, rfl⟩ : c < 62 ∧ _ := hf.resolve_left (by omega)
                  have hs1 := S1.size
                  go_wp2_with (at_builtin; refine wpList_append_own _ rfl _ _ 25 rfl wo.heap.size 3 i0 (.int .i64 0) 1 8 Tryd.underlying25 hi hz0 hz1 hz2 rfl (by decide) _ _ _ rfl (own1.alloc _) ⟨wr.heap.size, 0, none⟩ 1 1 [.int .i64 c] rfl rfl ?c1x6 ?c2x6 ?c3x6 ?c4x6 ?c5x6 ?_)
                  case c2x6 => rfl
                  case c3x6 => unfold maxLen; omega
                  case c4x6 => omega
                  case c5x6 => first | omega | (simp; omega)
                  intro v' w6 hown' hgrow _
                  have S2 := (S1.alloc (by omega) _).grown hgrow (by simp; omega) (fun k hk => (own1.lt k hk).1)
                  have HSg2 := hide (unhide Hsigns w6)
                  go_wp2_with fail
                  refine (unhide HSg2).mono ?_
                  rintro e w7 ⟨g2, capg2, rfl, hsg2, hb7⟩
                  have hcell2 := sign_cell hsg2 hc
                  have own2 := own_keep hown' hb7
                  have S3 := btrans S2 hb7
                  clear hsg2 hown' S2 hb7
                  have hlen : (⟨(sb (c : Nat)).toArray⟩ : ByteArray).size = (sb (c : Nat)).length := rfl
                  have Hlen := hide hlen
                  clear hlen
                  generalize (⟨(sb (c : Nat)).toArray⟩ : ByteArray) = t at *
                  have hlt3 : t.size ≤ 3 := by rw [unhide Hlen]; exact (sb_len c hc).1
                  go_wp2
                  go_roundw
                  case rel => exact ⟨e1 + (sb c).length, cs ++ [(c : Int)], by rw [← unhide Hlen]; go_num, .snoc (unhide Hcs) (unhide HS'), by simpa [intsV] using own2, S3⟩
                  case measure => simp [intOf]; rw [unhide Hlen]; omega
          · have hzz : ((cs.length : Int) == 0) = false := by simp [hz]
            cases hl : lf s e1 with
            | false =>
              rw [hl] at HL
              have Hlf := hide hl
              clear hl hz
              go_wp2_with fail
              refine (unhide HL _).mono ?_
              rintro e wr ⟨rfl, rfl⟩
              have HSg := hide (unhide Hsigns wr)
              go_wp2_with fail
              refine (unhide HSg).mono ?_
              rintro e w3 ⟨g, capg, rfl, hsg, hb3⟩
              have HC := hide (fun (k : Nat) (hk : k < 62) => sign_cell hsg hk)
              have HT := hide (fun (k : Nat) (hk : k < 62) (w : World) => starts_any s e1 (sb k) w (by omega) (by have := sb_len k hk; omega) (sb_len k hk).2)
              have own1 := own_keep hownc hb3
              have S1 := btrans hbc hb3
              clear hsg hownc hb3 hbc HSg
              cases hS : signAt s e1 with
              | none =>
                have Hst := hide (fun k hk => st_none s e1 k hk hS)
                have HS' := hide hS
                clear hS
                obtain ⟨w4, rfl⟩ : ∃ w4 : World, w4 = w3 := ⟨_, rfl⟩
                go_wp2
                go_loopw [64, 10] (fun i f wr4 => ∃ j : Nat, j ≤ 62 ∧ i = .int .i64 j ∧ f = .int .i64 (-1) ∧ wr4 = w4) (fun i _ _ => 62 - (intOf i).toNat)
                case atStart => exact ⟨0, by omega, rfl, rfl, rfl⟩
                case round =>
                  obtain ⟨j, hj, rfl, rfl, rfl⟩ := hrel
                  by_cases hlt : j < 62
                  · have hcell := unhide HC j hlt
                    have HT1 := hide (unhide HT j hlt wr)
                    rw [unhide Hst j hlt] at HT1
                    generalize (⟨(sb (j : Nat)).toArray⟩ : ByteArray) = t at *
                    go_wp2_with fail
                    refine (unhide HT1).mono ?_
                    rintro e w5 ⟨rfl, rfl⟩
                    go_wp2
                    go_roundw
                    case rel => exact ⟨j + 1, by omega, by go_num, rfl, trivial⟩
                    case measure => simp [intOf]; omega
                  · have e : j = 62 := by omega
                    subst e
                    go_wp2_with fail
                    refine (unhide HB _ _ _).mono ?_
                    rintro e w5 ⟨rfl, hb5⟩
                    have St := btrans (btrans hbel S1) hb5
                    have D1 := (unhide HD).keep St
                    have F1 := (unhide HFb).keep St
                    have S9 := btrans (unhide HS) St
                    clear St hb5
                    obtain ⟨⟨-, d⟩, df⟩ := D1
                    obtain ⟨-, f, ff⟩ := F1
                    go_wp2
                    exact bodyPost_ret (v := .tuple #[ch 0 0 0 none 0 0, .agg #[.int .i64 2, .int .i64 e1]]) (by simp [results, Tryd.results9, go_sem, d, f]) rfl (RPost.fail ⟨rows, p, cs, e1, unhide Hpre, unhide Hgo, unhide Hcs, unhide HS', Or.inl ⟨Or.inr (unhide Hlf), rfl, rfl⟩⟩ (bset (bset (bset (bset (bset (bset S9 (by dsimp only; omega)) (by dsimp only; omega)) (by dsimp only; omega)) (by dsimp only; omega)) (by dsimp only; omega)) (by dsimp only; omega)))
              | some qq =>
                obtain ⟨c0, n⟩ := qq
                obtain ⟨c, hc, rfl, rfl⟩ := signAt_form s e1 c0 n hS
                have hrg := signAt_range s e1 _ _ hS
                have Hst := hide (fun k hk => st_signs s e1 c k hc hk hS)
                have HS' := hide hS
                clear hS
                obtain ⟨w4, rfl⟩ : ∃ w4 : World, w4 = w3 := ⟨_, rfl⟩
                go_wp2
                go_loopw [64, 10] (fun i f wr4 => ∃ j : Nat, j ≤ 62 ∧ i = .int .i64 j ∧ (j ≤ c ∧ f = .int .i64 (-1) ∨ c < j ∧ f = .int .i64 c) ∧ wr4 = w4) (fun i _ _ => 62 - (intOf i).toNat)
                case atStart => exact ⟨0, by omega, rfl, Or.inl ⟨by omega, rfl⟩, rfl⟩
                case round =>
                  obtain ⟨j, hj, rfl, hf, rfl⟩ := hrel
                  by_cases hlt : j < 62
                  · have hcell := unhide HC j hlt
                    have HT1 := hide (unhide HT j hlt wr)
                    rw [unhide Hst j hlt] at HT1
                    generalize (⟨(sb (j : Nat)).toArray⟩ : ByteArray) = t at *
                    have Hf := hide hf
                    clear hf
                    by_cases hjc : j = c
                    · subst hjc
                      rw [show decide (j = j) = true by simp] at HT1
                      go_wp2_with fail
                      refine (unhide HT1).mono ?_
                      rintro e w5 ⟨rfl, rfl⟩
                      go_wp2
                      go_roundw
                      case rel => exact ⟨j + 1, by omega, by go_num, Or.inr ⟨by omega, rfl⟩, trivial⟩
                      case measure => simp [intOf]; omega
                    · rw [show decide (j = c) = false by simp [hjc]] at HT1
                      go_wp2_with fail
                      refine (unhide HT1).mono ?_
                      rintro e w5 ⟨rfl, rfl⟩
                      go_wp2
                      go_roundw
                      case rel => exact ⟨j + 1, by omega, by go_num, (unhide Hf).imp (fun h => ⟨by omega, h.2⟩) (fun h => ⟨by omega, h.2⟩), trivial⟩
                      case measure => simp [intOf]; omega
                  · have e : j = 62 := by omega
                    subst e
                    obtain ⟨-, rfl⟩ : c < 62 ∧ _ := hf.resolve_left (by omega)
                    have hs1 := S1.size
                    go_wp2_with (at_builtin; refine wpList_append_own _ rfl _ _ 25 rfl wo.heap.size 3 i0 (.int .i64 0) 1 8 Tryd.underlying25 hi hz0 hz1 hz2 rfl (by decide) _ _ _ rfl (own1.alloc _) ⟨wr.heap.size, 0, none⟩ 1 1 [.int .i64 c] rfl rfl ?c1x7 ?c2x7 ?c3x7 ?c4x7 ?c5x7 ?_)
                    case c2x7 => rfl
                    case c3x7 => unfold maxLen; omega
                    case c4x7 => omega
                    case c5x7 => first | omega | (simp; omega)
                    intro v' w6 hown' hgrow _
                    have S2 := (S1.alloc (by omega) _).grown hgrow (by simp; omega) (fun k hk => (own1.lt k hk).1)
                    have HSg2 := hide (unhide Hsigns w6)
                    go_wp2_with fail
                    refine (unhide HSg2).mono ?_
                    rintro e w7 ⟨g2, capg2, rfl, hsg2, hb7⟩
                    have hcell2 := sign_cell hsg2 hc
                    have own2 := own_keep hown' hb7
                    have S3 := btrans S2 hb7
                    clear hsg2 hown' S2 hb7
                    have hlen : (⟨(sb (c : Nat)).toArray⟩ : ByteArray).size = (sb (c : Nat)).length := rfl
                    have Hlen := hide hlen
                    clear hlen
                    generalize (⟨(sb (c : Nat)).toArray⟩ : ByteArray) = t at *
                    have hlt3 : t.size ≤ 3 := by rw [unhide Hlen]; exact (sb_len c hc).1
                    go_wp2
                    go_roundw
                    case rel => exact ⟨e1 + (sb c).length, cs ++ [(c : Int)], by rw [← unhide Hlen]; go_num, .snoc (unhide Hcs) (unhide HS'), by simpa [intsV] using own2, S3⟩
                    case measure => simp [intOf]; rw [unhide Hlen]; omega
            | true =>
              have Hlf := hide hl
              have Hnone := hide (lf_none hl)
              have Hcz := hide (show cs ≠ [] from fun h => hz (by rw [h]; rfl))
              have hlt2 := lf_lt hl
              rw [hl] at HL
              clear hl
              have ownR := own_keep hown hbc
              have rowsR := hrows.keep hbc
              have S1 := btrans hbel hbc
              have ownC := Joins.ownsRow_le hownc hbel.size
              clear hown hrows hbel hbc hownc
              go_wp2_with fail
              refine (unhide HL _).mono ?_
              rintro e wr ⟨rfl, rfl⟩
              clear HL
              have Hne := hide (show rows ≠ [] from fun h => hk0 (by rw [unhide Hkl, h]; rfl))
              obtain ⟨gq, cq, hqe⟩ := own_slice ownR (by omega)
              cases hqe
              obtain ⟨q0, c0, hc0⟩ := rows_head ownR rowsR (unhide Hkl) (unhide Hne)
              have hd0 : decide ((0 : Int) < (k : Int)) = true := by simp; omega
              have hhl : headLen rows ≤ 64 := by
                have := unhide Hne
                unfold headLen
                rcases hrr : rows with _ | ⟨r, rs⟩
                · exact absurd hrr this
                · exact unhide Hwide r (by rw [hrr]; simp)
              have Hhd := hide (show headLen rows = (rows.headD []).length from rfl)
              have hkk : rows.length = k := (unhide Hkl).symm
              have Hkk := hide hkk
              clear hkk
              by_cases hq : cs.length = headLen rows
              · have hq2 : ((cs.length : Int) != (headLen rows : Int)) = false := by simp; omega
                by_cases h64 : 64 < cs.length
                · exact absurd h64 (by omega)
                · have h65 : decide ((64 : Int) < (cs.length : Int)) = false := by simp; omega
                  by_cases hk64 : k = 64
                  · have Hw := hide (show wrongR rows cs = 5 by
                      unfold wrongR
                      rw [if_neg (by rw [← unhide Hhd]; exact fun h => h.2 hq), if_pos (Or.inr (by rw [unhide Hkk]; omega))])
                    have hk65 : ((k : Int) == 64) = true := by simp; omega
                    have Hq := hide hq
                    clear hq hk64
                    clear ownR rowsR ownC
                    go_wp2_with fail
                    refine (unhide HB _ _ _).mono ?_
                    rintro e w5 ⟨rfl, hb5⟩
                    have St := btrans S1 hb5
                    have D1 := (unhide HD).keep St
                    have F1 := (unhide HFb).keep St
                    have S9 := btrans (unhide HS) St
                    clear St hb5
                    obtain ⟨⟨-, d⟩, df⟩ := D1
                    obtain ⟨-, f, ff⟩ := F1
                    go_wp2
                    exact bodyPost_ret (v := .tuple #[ch 0 0 0 none 0 0, .agg #[.int .i64 5, .int .i64 p]]) (by simp [results, Tryd.results9, go_sem, d, f]) rfl (RPost.fail ⟨rows, p, cs, e1, unhide Hpre, unhide Hgo, unhide Hcs, unhide Hnone, Or.inr ⟨⟨unhide Hcz, unhide Hlf⟩, by rw [unhide Hw]; decide, (unhide Hw).symm, rfl⟩⟩ (bset (bset (bset (bset (bset (bset S9 (by dsimp only; omega)) (by dsimp only; omega)) (by dsimp only; omega)) (by dsimp only; omega)) (by dsimp only; omega)) (by dsimp only; omega)))
                  · have Hw := hide (show wrongR rows cs = 0 by
                      unfold wrongR
                      rw [if_neg (by rw [← unhide Hhd]; exact fun h => h.2 hq), if_neg (by rw [unhide Hkk]; omega)])
                    have hk65 : ((k : Int) == 64) = false := by simp; omega
                    have Hq := hide hq
                    clear hq
                    have hs1 := S1.size
                    go_wp2_with (at_builtin; refine wpList_append_own _ rfl _ _ 45 rfl w1.heap.size 25 j0 (.slice none 0 0) 1 24 Tryd.underlying45 ji jz0 jz1 jz2 rfl (by decide) _ _ _ rfl (ownR.alloc _) ⟨wr.heap.size, 0, none⟩ 1 1 [.slice qv cs.length cv] rfl rfl ?c1x8 ?c2x8 ?c3x8 ?c4x8 ?c5x8 ?_)
                    case c1x8 =>
                      intro j u hj
                      match j, hj with
                      | 0, hj => simp at hj; subst hj; simp [Addr.add]
                    case c2x8 => intro u hu; simp at hu; subst hu; rfl
                    case c3x8 => unfold maxLen; omega
                    case c4x8 => omega
                    case c5x8 => first | omega | (simp; omega)
                    intro v' w6 hown' hgrow _
                    have S3 := (S1.alloc (by omega) _).grown hgrow (by simp; omega) (fun k hk => (ownR.lt k hk).1)
                    have rows3 := (rowsR.snoc ownC).grown ownR hgrow
                    obtain ⟨g', cap', rfl⟩ := own_slice hown' (by omega)
                    have HR3 := hide rows3
                    have HO3 := hide hown'
                    have HS3 := hide S3
                    clear S1 rowsR ownR ownC hgrow rows3 hown' S3
                    go_wp2
                    go_roundw
                    case rel => exact ⟨e1 + 1, k + 1, cap', _, rows ++ [cs], _, by go_num, rfl, by simp [unhide Hkl], .snoc (unhide Hpre) (unhide Hcs) (unhide Hnone) (unhide Hcz) (unhide Hlf) (unhide Hw), unhide HO3, unhide HR3, unhide HS3⟩
                    case measure => simp [intOf]; omega
              · have Hw := hide (show wrongR rows cs = 8 by
                  unfold wrongR
                  rw [if_pos ⟨unhide Hne, by rw [← unhide Hhd]; exact hq⟩])
                have hq2 : ((cs.length : Int) != (headLen rows : Int)) = true := by simp; omega
                clear hq
                clear ownR rowsR ownC
                go_wp2_with fail
                refine (unhide HB _ _ _).mono ?_
                rintro e w5 ⟨rfl, hb5⟩
                have St := btrans S1 hb5
                have D1 := (unhide HD).keep St
                have F1 := (unhide HFb).keep St
                have S9 := btrans (unhide HS) St
                clear St hb5
                obtain ⟨⟨-, d⟩, df⟩ := D1
                obtain ⟨-, f, ff⟩ := F1
                go_wp2
                exact bodyPost_ret (v := .tuple #[ch 0 0 0 none 0 0, .agg #[.int .i64 8, .int .i64 p]]) (by simp [results, Tryd.results9, go_sem, d, f]) rfl (RPost.fail ⟨rows, p, cs, e1, unhide Hpre, unhide Hgo, unhide Hcs, unhide Hnone, Or.inr ⟨⟨unhide Hcz, unhide Hlf⟩, by rw [unhide Hw]; decide, (unhide Hw).symm, rfl⟩⟩ (bset (bset (bset (bset (bset (bset S9 (by dsimp only; omega)) (by dsimp only; omega)) (by dsimp only; omega)) (by dsimp only; omega)) (by dsimp only; omega)) (by dsimp only; omega)))
      · have hd2 : decide (p < s.size) = false := by simp; omega
        have Hgood := hide (show RowsGood s 4 rows from ⟨p, unhide Hpre, fun h => hk0 (by rw [unhide Hkl, h]; rfl), hps0⟩)
        have Hne := hide (show rows ≠ [] from fun h => hk0 (by rw [unhide Hkl, h]; rfl))
        have hkl := unhide Hkl
        subst hkl
        obtain ⟨gr, cap0, hqe⟩ := own_slice hown (by omega)
        obtain ⟨rfl, rfl⟩ : q = some ⟨gr, 0, none⟩ ∧ cap0 = cap := by injection hqe with e1 _ e3; exact ⟨e1, e3.symm⟩
        obtain ⟨q0, c0, hc0⟩ := rows_head hown hrows rfl (unhide Hne)
        have Dc := (unhide HCb).keep hbel
        have hcb1 := Dc.1.2.2.1
        have hcb2 := Dc.1.2.2.2.1
        have hcf1 := Dc.2.2.1
        have hcf2 := Dc.2.2.2.1
        have hcz := Dc.1.1
        have Hd := hide (show headLen rows = headLen rows from rfl)
        have hlen64 : rows.length ≤ 64 := hk
        have hl1 : 1 ≤ rows.length := by omega
        have hk2 : ((rows.length : Int) == 0) = false := beq_eq_false_iff_ne.2 (by omega)
        generalize hwd : headLen rows = wd at *
        have Hwd := hide hwd
        clear hwd Hd
        have DL := Dc.set12 wd rows.length
        have hne1 : W.heap.size + 1 + 1 ≠ W.heap.size := by omega
        have hne2 : W.heap.size + 1 + 1 ≠ W.heap.size + 1 := by omega
        have D2 := (((unhide HD).keep hbel).far (c := W.heap.size + 1 + 1) (o := 1) (v := .int .i64 wd) hne1).far (c := W.heap.size + 1 + 1) (o := 2) (v := .int .i64 rows.length) hne1
        have F2 := (((unhide HFb).keep hbel).far (c := W.heap.size + 1 + 1) (o := 1) (v := .int .i64 wd) hne2).far (c := W.heap.size + 1 + 1) (o := 2) (v := .int .i64 rows.length) hne2
        have S2 := bset (p := ⟨W.heap.size + 1 + 1, 2, none⟩) (u := .int .i64 rows.length) (bset (p := ⟨W.heap.size + 1 + 1, 1, none⟩) (u := .int .i64 wd) (btrans (unhide HS) hbel) (by dsimp only; omega)) (by dsimp only; omega)
        have own2 := ownsRow_setCell_below (a := ⟨W.heap.size + 1 + 1, 2, none⟩) (ownsRow_setCell_below (a := ⟨W.heap.size + 1 + 1, 1, none⟩) hown hsz (.int .i64 wd)) hsz (.int .i64 rows.length)
        have rows2 : RowsAt ((wr.setCell ⟨W.heap.size + 1 + 1, 1, none⟩ (.int .i64 wd)).setCell ⟨W.heap.size + 1 + 1, 2, none⟩ (.int .i64 rows.length)) w1.heap.size vs rows := ⟨hrows.1, fun j v cs h1 h2 => ownsRow_setCell_below (ownsRow_setCell_below (hrows.2 j v cs h1 h2) hsz _) hsz _⟩
        clear hown hrows Dc hbel
        go_wp2
        clear hc0 hcb1 hcb2 hcf1 hcf2
        generalize (wr.setCell ⟨W.heap.size + 1 + 1, 1, none⟩ (.int .i64 wd)).setCell ⟨W.heap.size + 1 + 1, 2, none⟩ (.int .i64 rows.length) = wL at *
        have HDL := hide DL
        have HD2 := hide D2
        have HF2 := hide F2
        have HS2 := hide S2
        have Hown2 := hide own2
        have Hrows2 := hide rows2
        have hzL : W.heap.size + 1 + 1 < wL.heap.size := DL.1.1
        clear DL D2 F2 S2 own2 rows2 hcz
        go_loopw [139] (fun i wr => ∃ (y cap : Nat) (q : Option Addr), y ≤ rows.length ∧ i = .int .i64 y ∧ OwnD wr (W.heap.size + 1 + 1) 4 wd rows.length q (lowCells rows y).length cap ∧ wr.ownsRow wL.heap.size 3 1 (.slice q (lowCells rows y).length cap) (lowCells rows y).length (intsV (lowCells rows y)) ∧ wL.grownBy wr (some (W.heap.size + 1 + 1))) (fun i _ => rows.length - (intOf i).toNat)
        case atStart => exact ⟨0, 0, none, Nat.zero_le _, rfl, unhide HDL, World.ownsRow_nil _ _ _ _, World.grownBy.refl _ _⟩
        case round =>
          obtain ⟨y, cap, q, hy, rfl, DC, hown, hgr⟩ := hrel
          by_cases hlt : y < rows.length
          · obtain ⟨m, hm⟩ : ∃ m : Nat, m = rows.length - 1 - y := ⟨_, rfl⟩
            have hmi : (rows.length : Int) - 1 - (y : Int) = (m : Int) := by omega
            have hml : m < rows.length := by omega
            obtain ⟨cs, hcs⟩ : ∃ cs, rows[m]? = some cs := ⟨_, List.getElem?_eq_getElem hml⟩
            obtain ⟨vm, hvm⟩ : ∃ vm, vs[m]? = some vm := ⟨_, List.getElem?_eq_getElem (by have := (unhide Hrows2).1; omega)⟩
            have hcw : 1 ≤ cs.length ∧ cs.length ≤ 64 := by
              have := (unhide Hpre).range.2.2 cs (List.mem_of_getElem? hcs)
              exact ⟨this.1, this.2.1⟩
            have ownm0 := (unhide Hrows2).2 m vm cs hvm hcs
            obtain ⟨gm, cm, rfl⟩ := own_slice ownm0 hcw.1
            have hgm := ownm0.lt gm rfl
            have hcb : wL.cell? ⟨gr, m, none⟩ = some (.slice (some ⟨gm, 0, none⟩) cs.length cm) := by
              rw [(unhide Hown2).cellAt m (by omega)]; exact hvm
            have hgr0 := (unhide Hown2).lt gr rfl
            have n1 : some gr ≠ some (W.heap.size + 1 + 1) := fun e => by have := Option.some.inj e; omega
            have n2 : some gm ≠ some (W.heap.size + 1 + 1) := fun e => by have := Option.some.inj e; omega
            have Hcell := hide (show ∀ V, wL.grownBy V (some (W.heap.size + 1 + 1)) → V.cell? ⟨gr, m, none⟩ = some (.slice (some ⟨gm, 0, none⟩) cs.length cm) from fun V hV => gcell hV hgr0.2 n1 hcb)
            have ownm : wr.ownsRow w1.heap.size 3 1 (.slice (some ⟨gm, 0, none⟩) cs.length cm) cs.length (intsV cs) := ownm0.kept hgr (Or.inr (fun e => n2 (by rw [← e]; rfl)))
            clear hcb ownm0
            have hcc := ownm.cells (g := gm) rfl
            have Hlow := hide (lowCells_succ rows y cs (by rw [← hm]; exact hcs) hlt)
            have hle := lowCells_le rows y (fun cs hc => ((unhide Hpre).range.2.2 cs hc).2.1)
            have d3 := DC.1.2.2.2.2
            have f3 := DC.2.2.2.2
            have hdlt := DC.1.1
            have hgz := hgr.size
            clear hcs hvm ownm hm n1 n2
            generalize lowCells rows y = lo at *
            go_wp2_with fail
            refine wp_region_noPanic ?_
            refine wp_region_held_drew (S := fun V => wL.grownBy V (some (W.heap.size + 1 + 1))) (by kernel_rfl) (gtrans hgr (gbelow _ (Below.drew (Below.refl _ _)))) ?_
            intro _
            have hSd := gtrans hgr (gbelow (some (W.heap.size + 1 + 1)) (Below.drew (Below.refl wr.heap.size wr)))
            refine wpAnyH_take (i := 0) (oi := _) (v := .pointer (some ⟨W.heap.size + 1 + 1, 3, none⟩)) g13_0 (by kernel_rfl) (by kernel_rfl) (by kernel_rfl) (fun _ _ _ h => h) (Or.inl ⟨by rfl, ?_⟩) (by assumption) ?_
            · intro w hSw
              try dsimp only at hSw
              go_simp
            simp only [Act.put, List.setIfInBounds_toArray, List.set_cons_zero, List.set_cons_succ]
            refine wpAnyH_take (i := 2) (oi := _) (v := .slice (some ⟨gr, 0, none⟩) rows.length cap0) g13_2 (by kernel_rfl) (by kernel_rfl) (by kernel_rfl) (fun _ _ _ h => h) (Or.inl ⟨by rfl, ?_⟩) (by assumption) ?_
            · intro w hSw
              try dsimp only at hSw
              go_simp
            simp only [Act.put, List.setIfInBounds_toArray, List.set_cons_zero, List.set_cons_succ]
            refine wpAnyH_take (i := 3) (oi := _) (v := .slice (some ⟨gr, 0, none⟩) rows.length cap0) g13_3 (by kernel_rfl) (by kernel_rfl) (by kernel_rfl) (fun _ _ _ h => h) (Or.inl ⟨by rfl, ?_⟩) (by assumption) ?_
            · intro w hSw
              try dsimp only at hSw
              go_simp
            simp only [Act.put, List.setIfInBounds_toArray, List.set_cons_zero, List.set_cons_succ]
            refine wpAnyH_take (i := 4) (oi := _) (v := .int .i64 rows.length) g13_4 (by kernel_rfl) (by kernel_rfl) (by kernel_rfl) (fun _ _ _ h => h) (Or.inl ⟨by rfl, ?_⟩) (by assumption) ?_
            · intro w hSw
              try dsimp only at hSw
              go_simp
            simp only [Act.put, List.setIfInBounds_toArray, List.set_cons_zero, List.set_cons_succ]
            refine wpAnyH_take (i := 5) (oi := _) (v := .int .i64 ((rows.length : Int) - 1)) g13_5 (by kernel_rfl) (by kernel_rfl) (by kernel_rfl) (fun _ _ _ h => h) (Or.inl ⟨by rfl, ?_⟩) (by assumption) ?_
            · intro w hSw
              try dsimp only at hSw
              go_simp
              exact (Go.IntWalk.i64_left _).trans (Go.IntWalk.wrap64_in _ (by omega))
            simp only [Act.put, List.setIfInBounds_toArray, List.set_cons_zero, List.set_cons_succ]
            refine wpAnyH_take (i := 6) (oi := _) (v := .int .i64 y) g13_6 (by kernel_rfl) (by kernel_rfl) (by kernel_rfl) (fun _ _ _ h => h) (Or.inl ⟨by rfl, ?_⟩) (by assumption) ?_
            · intro w hSw
              try dsimp only at hSw
              go_simp
            simp only [Act.put, List.setIfInBounds_toArray, List.set_cons_zero, List.set_cons_succ]
            refine wpAnyH_take (i := 7) (oi := _) (v := .int .i64 m) g13_7 (by kernel_rfl) (by kernel_rfl) (by kernel_rfl) (fun _ _ _ h => h) (Or.inl ⟨by rfl, ?_⟩) (by assumption) ?_
            · intro w hSw
              try dsimp only at hSw
              go_simp
              exact (Go.IntWalk.i64_left _).trans (Go.IntWalk.wrap64_in _ (by omega))
            simp only [Act.put, List.setIfInBounds_toArray, List.set_cons_zero, List.set_cons_succ]
            refine wpAnyH_take (i := 8) (oi := _) (v := .pointer (some ⟨gr, m, none⟩)) g13_8 (by kernel_rfl) (by kernel_rfl) (by kernel_rfl) (fun _ _ _ h => h) (Or.inl ⟨by rfl, ?_⟩) (by assumption) ?_
            · intro w hSw
              try dsimp only at hSw
              go_simp
            simp only [Act.put, List.setIfInBounds_toArray, List.set_cons_zero, List.set_cons_succ]
            refine wpAnyH_take (i := 9) (oi := _) (v := .slice (some ⟨gm, 0, none⟩) cs.length cm) g13_9 (by kernel_rfl) (by kernel_rfl) (by kernel_rfl) (fun _ _ _ h => h) (Or.inl ⟨by rfl, ?_⟩) (by assumption) ?_
            · intro w hSw
              try dsimp only at hSw
              have hcw' := unhide Hcell w hSw
              go_simp
            simp only [Act.put, List.setIfInBounds_toArray, List.set_cons_zero, List.set_cons_succ]
            refine wpAnyH_ready (rs := [1]) (by kernel_rfl) (by simp) ?_
            refine AllReadyH.cons (o := _) g13_1 (fun K hK => ?_) AllReadyH.nil
            go_simp
            refine hK.out _ _ hSd (fun _ => ?_)
            clear hK K
            refine wpAnyH_ready (rs := [10]) (by kernel_rfl) (by simp) ?_
            refine AllReadyH.cons (o := _) g13_10 (fun K hK => ?_) AllReadyH.nil
            refine wp_append_own _ _ _ 25 rfl wL.heap.size 3 i0 (.int .i64 0) 1 8 Tryd.underlying25 hi hz0 hz1 hz2 rfl (by decide) (.slice q lo.length cap) lo.length (intsV lo) rfl hown.drew ⟨gm, 0, none⟩ cs.length cm (intsV cs) rfl ?c1x9 ?c2x9 ?c3x9 ?c4x9 ?c5x9 ?c6x9 ?_
            case c1x9 => simp [intsV]
            case c2x9 => exact hcc
            case c3x9 => intro u hu; simp [intsV] at hu; obtain ⟨c, _, rfl⟩ := hu; rfl
            case c4x9 => unfold maxLen; omega
            case c5x9 => omega
            case c6x9 => simp; omega
            intro v' w4 hown' hgrow _
            have hne : some (W.heap.size + 1 + 1) ≠ (Value.slice q lo.length cap).ownBlock := fun e => by have := (hown.lt _ e.symm).1; omega
            have G4 := gmore hSd hgrow (fun j e => (hown.lt j e).1)
            have D4 := (DC.keep (Below.drew (Below.refl _ _))).grown hgrow hne
            obtain ⟨q', cap', rfl⟩ := own_form hown'
            refine hK.out _ _ G4 (fun _ => ?_)
            clear hK K hown hgrow d3 f3 DC hgr hSd hne
            have d3 := D4.1.2.2.2.2
            have f3 := D4.2.2.2.2
            refine wpAnyH_ready (rs := [11]) (by kernel_rfl) (by simp) ?_
            refine AllReadyH.cons (o := _) g13_11 (fun K hK => ?_) AllReadyH.nil
            go_simp
            refine hK.out _ _ G4 (fun _ => ?_)
            clear hK K
            refine wpAnyH_ready (rs := [12]) (by kernel_rfl) (by simp) ?_
            refine AllReadyH.cons (o := _) g13_12 (fun K hK => ?_) AllReadyH.nil
            go_simp
            have G5 := gset G4 3 (.slice q' (lo.length + cs.length) cap')
            have D5 := D4.set3 q' (lo.length + cs.length) cap'
            have own5 := ownsRow_setCell_below (a := ⟨W.heap.size + 1 + 1, 3, none⟩) hown' hzL (.slice q' (lo.length + cs.length) cap')
            refine hK.out _ _ G5 (fun _ => ?_)
            refine wpAnyH_done (by kernel_rfl) ?_ _
            refine NoPanic.normal ?_
            clear hK K
            go_wp2
            go_roundw
            case rel =>
              refine ⟨y + 1, cap', q', by omega, by go_num, ?_, ?_, G5⟩
              · rw [unhide Hlow, List.length_append]; exact D5
              · rw [unhide Hlow, List.length_append]; simpa [intsV] using own5
            case measure => simp [intOf]; omega
          · have e : y = rows.length := by omega
            have cl : ¬ ((y : Int) < (rows.length : Int)) := by omega
            have m1 : some W.heap.size ≠ some (W.heap.size + 1 + 1) := fun e => by have := Option.some.inj e; omega
            have m2 : some (W.heap.size + 1) ≠ some (W.heap.size + 1 + 1) := fun e => by have := Option.some.inj e; omega
            have D6 := (unhide HD2).grown hgr m1
            have F6 := (unhide HF2).grown hgr m2
            have S6 := (unhide HS2).grown hgr (unhide HS2).size (fun k hk => by cases hk; omega)
            have Hown := hide hown
            have He := hide e
            have hzr := hgr.size
            clear e hown m1 m2 hgr
            obtain ⟨⟨-, d⟩, df⟩ := D6
            obtain ⟨-, f, ff⟩ := F6
            obtain ⟨⟨-, c⟩, -⟩ := DC
            generalize hN : (lowCells rows y).length = NN at *
            have HN := hide hN
            clear hN
            go_wp2
            refine bodyPost_ret (v := .tuple #[ch 4 wd rows.length q NN cap, .agg #[.int .i64 0, .int .i64 0]]) (by simp [results, Tryd.results9, go_sem, d, f]) rfl ⟨Or.inr ⟨rows, q, cap, unhide Hgood, ?_, ?_⟩, bset (bset (bset (bset (bset (bset S6 (by dsimp only; omega)) (by dsimp only; omega)) (by dsimp only; omega)) (by dsimp only; omega)) (by dsimp only; omega)) (by dsimp only; omega)⟩
            · rw [unhide Hwd, ← unhide He, unhide HN]
            · rw [← unhide He, unhide HN]
              exact Joins.ownsRow_le (ownsRow_setCell_below (ownsRow_setCell_below (ownsRow_setCell_below (ownsRow_setCell_below (ownsRow_setCell_below (ownsRow_setCell_below (unhide Hown) (by dsimp only; omega) _) (by dsimp only; omega) _) (by dsimp only; omega) _) (by dsimp only; omega) _) (by dsimp only; omega) _) (by dsimp only; omega) _) (by omega)
end Go.Proofs.YtncjbmafefeajaaDoor
