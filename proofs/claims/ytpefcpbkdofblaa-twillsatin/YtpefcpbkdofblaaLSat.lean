/-
  TwillSatin: the law's walk.
-/
import Derived.Test.YtpefcpbkdofblaaLSatM
namespace Go.Proofs.Ytpefcpbkdofblaa
open Go.RowKit Go.Shelf

theorem bit_nums (y x w : Nat) (hw : w ≤ 64) (hy : y < w) (hx : x < w) : ∃ k yw : Nat, k = y * w + x ∧ wrap64 ((y : Int) * (w : Int)) = (yw : Int) ∧ (yw : Int) + (x : Int) = (k : Int) ∧ (0 : Int) ≤ (yw : Int) ∧ (yw : Int) ≤ 4096 ∧ (0 : Int) ≤ (k : Int) ∧ (k : Int) ≤ 4160 ∧ (0 : Int) ≤ (x : Int) := by
  have h1 : y * w ≤ 4096 := Nat.mul_le_mul (show y ≤ 64 by omega) hw
  refine ⟨y * w + x, y * w, rfl, ?_, by simp, by omega, by omega, by omega, by omega, by omega⟩
  rw [← Int.natCast_mul]; exact Go.IntWalk.wrap64_in _ (by omega)

def SatIs (e m : Int) (W : World) : Prop := Calls Try.prog 5 #[.int .i64 e, .int .i64 m] W fun r V => r = .returned (.bool true) ∧ Below W.heap.size W V

set_option maxHeartbeats 1000000 in
theorem sat_out (e m : Int) (W : World) (h : ¬ (1 ≤ e ∧ e ≤ 64 ∧ 0 ≤ m ∧ m < e)) : SatIs e m W := by
  unfold SatIs
  have q : e < 1 ∨ (decide (e < 1) = false ∧ 64 < e) ∨ (decide (e < 1) = false ∧ decide (64 < e) = false ∧ m < 0) ∨ (decide (e < 1) = false ∧ decide (64 < e) = false ∧ decide (m < 0) = false ∧ e ≤ m) := by
    simp only [decide_eq_false_iff_not]
    omega
  have HA := hide (fun V => alive_any V)
  clear h
  rcases q with q | ⟨q1, q⟩ | ⟨q1, q2, q⟩ | ⟨q1, q2, q3, q⟩
  all_goals
    go_enter Try.func5, Try.ntmps5
    go_wp2_with fail
    refine (unhide HA _).mono ?_
    rintro r w1 ⟨rfl, hb⟩
    go_wp2
    go_ret
    exact ⟨rfl, hb⟩

set_option maxRecDepth 100000 in
set_option maxHeartbeats 4000000 in
theorem sat_in (e m : Nat) (W : World) (h1 : 1 ≤ e) (h2 : e ≤ 64) (hm : m < e) : SatIs e m W := by
  unfold SatIs
  obtain ⟨i0, hi, hz0, hz1, hz2⟩ := info_parts info3
  have HA := hide (fun V => alive_any V)
  have hby : i0.bytes * e ≤ 281474976710656 := by rw [hz2]; omega
  have hml : e ≤ maxLen := by unfold maxLen; omega
  have g1 : decide ((e : Int) < 1) = false := by simp; omega
  have g2 : decide ((64 : Int) < (e : Int)) = false := by simp; omega
  have g3 : decide ((m : Int) < 0) = false := by simp
  have g4 : decide ((e : Int) ≤ (m : Int)) = false := by simp; omega
  have g5 : ¬ ((e : Int) ≤ (m : Int)) := by omega
  obtain ⟨g0, hg0⟩ : ∃ g0 : Bool, decide ((1 : Int) < (e : Int)) = g0 := ⟨_, rfl⟩
  have Hg0 := hide (show g0 = gdP e m 0 0 by rw [gd_start, ← hg0, Bool.eq_iff_iff]; simp; omega)
  go_enter Try.func5, Try.ntmps5
  go_wp2_with fail
  refine (unhide HA _).mono ?_
  rintro r w1 ⟨rfl, hb1⟩
  go_wp2_with (refine wpList_make_full _ rfl _ _ 22 rfl w1.heap.size 3 i0 _ 1 Try.underlying22 hi hz0 hz1 .i64 .i64 (e : Int) (e : Int) e rfl rfl rfl rfl hby hml (Nat.le_refl _) ?_)
  intro wm hown hgrow
  have R0 := hide (irow_made hown)
  have S0 := (Below.refl _ w1).grown hgrow (Nat.le_refl _) (fun k hk => by cases hk)
  have HS := hide (btrans hb1 S0)
  have hbq0 : W.heap.size ≤ w1.heap.size := hb1.size
  clear S0 hown hgrow hi hz0 hz1 hz2 hby hml g1 g2 g3 g4 g5 hb1 HA
  go_wp2
  generalize w1.heap.size = bq at *
  clear hg0
  go_loopw [6, 7] (fun g i wr => ∃ y : Nat, y ≤ e ∧ i = .int .i64 y ∧ g = .bool (gdP e m y 0) ∧ IRow wr bq e (atF e m y) ∧ Below W.heap.size W wr) (fun _ i _ => e - (intOf i).toNat)
  case atStart => exact ⟨0, Nat.zero_le _, rfl, by rw [unhide Hg0], by rw [atF_zero]; exact unhide R0, unhide HS⟩
  case round =>
    clear R0 HS Hg0
    obtain ⟨y, hy, rfl, rfl, hR, hb⟩ := hrel
    by_cases hlt : y < e
    · have q0 : (y : Int) < (e : Int) := by omega
      have q00 : (0 : Int) ≤ (y : Int) := by omega
      have Hst := hide (sat_st e m y h2 hm hlt)
      have hf := (hR.2 y hlt).2
      have hc := (hR.2 y hlt).1
      have hRn := hR.set y (y * m % e)
      rw [atF_succ] at hRn
      obtain ⟨ym, u, hu, e2, e3, b1, b2, b3, b4⟩ := unhide Hst
      rw [← hu] at hRn
      have HRn := hide hRn
      have Hbn := hide (bset (p := ⟨bq, y, none⟩) (u := .int .i64 (u : Nat)) hb hbq0)
      have Hgr := hide (gd_row e m y)
      have Hst2 := hide (fun z => gd_step e m y z)
      generalize hgg : gdP e m y 0 = g at *
      have Hgg := hide hgg
      have Hu := hide hu
      clear hR hb hRn Hst hgg hu
      go_wp2
      clear e2 e3 hf hc
      generalize wr.setCell ⟨bq, y, none⟩ (.int .i64 (u : Int)) = wo at *
      go_loopw [6, 8] (fun g i wr => ∃ z : Nat, z ≤ y ∧ i = .int .i64 z ∧ g = .bool (gdP e m y z) ∧ IRow wr bq e (atF e m (y + 1)) ∧ Below W.heap.size W wr) (fun _ i _ => y - (intOf i).toNat)
      case atStart => exact ⟨0, Nat.zero_le _, rfl, by rw [unhide Hgg], unhide HRn, unhide Hbn⟩
      case round =>
        clear HRn Hbn Hgg
        obtain ⟨z, hz, rfl, rfl, hR, hb⟩ := hrel
        by_cases hlz : z < y
        · have qz : (z : Int) < (y : Int) := by omega
          have qz0 : (0 : Int) ≤ (z : Int) := by omega
          have qze : (z : Int) < (e : Int) := by omega
          have c1 := (hR.2 z (by omega)).1
          have c2 := (hR.2 y hlt).1
          rw [show atF e m (y + 1) z = z * m % e by unfold atF; rw [if_pos (by omega)]] at c1
          rw [show atF e m (y + 1) y = y * m % e by unfold atF; rw [if_pos (by omega)]] at c2
          have hs := unhide Hst2 z
          obtain ⟨a1, ha1⟩ : ∃ a1, a1 = z * m % e := ⟨_, rfl⟩
          obtain ⟨a2, ha2⟩ : ∃ a2, a2 = y * m % e := ⟨_, rfl⟩
          rw [← ha1, ← ha2] at hs
          rw [← ha1] at c1
          rw [← ha2] at c2
          have Hs := hide hs
          have HR := hide hR
          have Hb := hide hb
          clear hs hR hb ha1 ha2
          generalize gdP e m y z = g at *
          cases g
          · go_wp2_with fail
            go_quiet (fail)
            go_wp2
            go_roundw
            case rel => exact ⟨z + 1, by omega, by go_num, by rw [unhide Hs]; rfl, (unhide HR).keep (Joins.below_draws _ _ _), btrans (unhide Hb) (Joins.below_draws _ _ _)⟩
            case measure => simp [intOf]; omega
          · by_cases hne : a1 = a2
            · have hne' : ((a1 : Int) != (a2 : Int)) = false := by simp [hne]
              have Hv := hide (show gdP e m y (z + 1) = false by rw [unhide Hs]; simp [hne])
              clear hne Hs
              go_wp2_with fail
              go_quiet (fail)
              go_wp2
              go_roundw
              case rel => exact ⟨z + 1, by omega, by go_num, by rw [unhide Hv], (unhide HR).keep (Joins.below_draws _ _ _), btrans (unhide Hb) (Joins.below_draws _ _ _)⟩
              case measure => simp [intOf]; omega
            · have hne' : ((a1 : Int) != (a2 : Int)) = true := by simp; omega
              have Hv := hide (show gdP e m y (z + 1) = true by rw [unhide Hs]; simp [hne])
              clear hne Hs
              go_wp2_with fail
              go_quiet (fail)
              go_wp2
              go_roundw
              case rel => exact ⟨z + 1, by omega, by go_num, by rw [unhide Hv], (unhide HR).keep (Joins.below_draws _ _ _), btrans (unhide Hb) (Joins.below_draws _ _ _)⟩
              case measure => simp [intOf]; omega
        · obtain rfl : z = y := by omega
          have cl : ¬ ((z : Int) < (z : Int)) := by omega
          have HR := hide hR
          have Hb := hide hb
          clear hR hb
          go_wp2
          go_roundw
          case rel => exact ⟨z + 1, by omega, by go_num, by rw [unhide Hgr], unhide HR, unhide Hb⟩
          case measure => simp [intOf]; omega
    · obtain rfl : y = e := by omega
      have cl : ¬ ((y : Int) < (y : Int)) := by omega
      have HR := hide hR
      have Hb := hide hb
      have Hsa := hide (good_satin y m (by omega))
      have Hat := hide (show ∀ j, j < y → atF y m y j = j * m % y from fun j hj => by unfold atF; rw [if_pos hj])
      generalize gdP y m y 0 = G at *
      clear hR hb
      have Herr := hide (fun V hs => satin_err2 y (m : Int) V h1 h2 hs)
      have Hok := hide (fun V hs => satin_ok y m V h2 hs)
      go_wp2
      go_loopw [6, 9] (fun g i wr => ∃ (z : Nat) (b : Bool), z ≤ y ∧ i = .int .i64 z ∧ g = .bool b ∧ ((z = 0 ∧ b = G) ∨ (1 ≤ z ∧ G = true ∧ b = (decide (1 < m) && decide (m < y - 1)))) ∧ IRow wr bq y (atF y m y) ∧ Below W.heap.size W wr) (fun _ i _ => y - (intOf i).toNat)
      case atStart => exact ⟨0, G, Nat.zero_le _, rfl, rfl, .inl ⟨rfl, rfl⟩, unhide HR, unhide Hb⟩
      case round =>
        clear HR Hb
        obtain ⟨z, b, hz, rfl, rfl, hgb, hR, hb⟩ := hrel
        have Hgb := hide hgb
        have HR := hide hR
        have Hb := hide hb
        clear hgb hR hb
        by_cases hlz : z < y
        · have qz : (z : Int) < (y : Int) := by omega
          have qz0 : (0 : Int) ≤ (z : Int) := by omega
          cases b
          · have Hno := hide (show saB y m = false by
              rw [← unhide Hsa]
              rcases unhide Hgb with ⟨-, h⟩ | ⟨-, h, h'⟩
              · rw [← h]; rfl
              · rw [← h']; simp)
            clear Hgb HR
            go_wp2_with fail
            refine (unhide Herr _ (unhide Hno)).mono ?_
            rintro r w2 ⟨rfl, hb2⟩
            have S := hide (bal (o := .cells #[.int .i64 0, .int .i64 0, .slice none 0 0] 25) (btrans (unhide Hb) hb2))
            clear hb2 Hb
            go_wp2
            go_ret
            exact ⟨rfl, unhide S⟩
          · have HG := hide (show G = true by
              rcases unhide Hgb with ⟨-, h⟩ | ⟨-, h, -⟩
              · exact h.symm
              · exact h)
            obtain ⟨yy, a0, a1, t, t2, hyy, ha0, ha1, e1, e2, e3, e4, b1, b2, b3, b4, b5, b6, b7, b8, b9⟩ := sat_d y m z h2 hm hlz
            have c1 := ((unhide HR).2 z hlz).1
            have c2 := ((unhide HR).2 yy hyy).1
            rw [unhide Hat z hlz, ← ha0] at c1
            rw [unhide Hat yy hyy, ← ha1] at c2
            clear ha0 ha1 Hgb
            by_cases d1 : (1 : Int) < (m : Int)
            · by_cases d2 : (m : Int) < (y : Int) - 1
              · have HD := hide (show (decide (1 < m) && decide (m < y - 1)) = true by simp; omega)
                go_wp2_with fail
                go_quiet (fail)
                go_wp2
                clear e1 e2 e3 e4
                go_roundw
                case rel => exact ⟨z + 1, true, by omega, by go_num, rfl, .inr ⟨by omega, unhide HG, (unhide HD).symm⟩, (unhide HR).keep (Joins.below_draws _ _ _), btrans (unhide Hb) (Joins.below_draws _ _ _)⟩
                case measure => simp [intOf]; omega
              · have HD := hide (show (decide (1 < m) && decide (m < y - 1)) = false by simp; omega)
                have Hd2 := hide (show decide ((m : Int) < (y : Int) - 1) = false by simpa using d2)
                go_wp2_with fail
                go_quiet (fail)
                go_wp2
                clear e1 e2 e3 e4
                go_roundw
                case rel => exact ⟨z + 1, false, by omega, by go_num, by rw [unhide Hd2], .inr ⟨by omega, unhide HG, (unhide HD).symm⟩, (unhide HR).keep (Joins.below_draws _ _ _), btrans (unhide Hb) (Joins.below_draws _ _ _)⟩
                case measure => simp [intOf]; omega
            · have HD := hide (show (decide (1 < m) && decide (m < y - 1)) = false by simp; omega)
              have d1' : decide ((1 : Int) < (m : Int)) = false := by simpa using d1
              go_wp2_with fail
              go_quiet (fail)
              go_wp2
              clear e1 e2 e3 e4
              go_roundw
              case rel => exact ⟨z + 1, false, by omega, by go_num, rfl, .inr ⟨by omega, unhide HG, (unhide HD).symm⟩, (unhide HR).keep (Joins.below_draws _ _ _), btrans (unhide Hb) (Joins.below_draws _ _ _)⟩
              case measure => simp [intOf]; omega
        · have hzy : z = y := by omega
          have cz : ¬ ((z : Int) < (y : Int)) := by omega
          have cz' : decide ((z : Int) < (y : Int)) = false := by simpa using cz
          have Hg2 := hide (show G = true ∧ b = (decide (1 < m) && decide (m < y - 1)) by
            rcases unhide Hgb with ⟨h, -⟩ | ⟨-, h⟩
            · omega
            · exact h)
          clear hzy Hgb
          cases b
          · have Hno := hide (show saB y m = false by rw [← unhide Hsa, ← (unhide Hg2).2]; simp)
            clear Hg2 HR
            go_wp2_with fail
            refine (unhide Herr _ (unhide Hno)).mono ?_
            rintro r w2 ⟨rfl, hb2⟩
            have S := hide (bal (o := .cells #[.int .i64 0, .int .i64 0, .slice none 0 0] 25) (btrans (unhide Hb) hb2))
            clear hb2 Hb
            go_wp2
            go_ret
            exact ⟨rfl, unhide S⟩
          · have Hyes := hide (show saB y m = true by rw [← unhide Hsa, ← (unhide Hg2).2, (unhide Hg2).1]; rfl)
            clear Hg2
            go_wp2_with fail
            refine (unhide Hok _ (unhide Hyes)).mono ?_
            rintro r w2 ⟨q, cp, rfl, ⟨hT, -⟩, hb2⟩
            obtain ⟨ee, hee⟩ : ∃ ee, ee = y * y := ⟨_, rfl⟩
            rw [← hee] at hT ⊢
            have hb3 := bal (o := .cells #[.int .i64 y, .int .i64 y, .slice q ee cp] 25) hb2
            have S := hide (btrans (unhide Hb) hb3)
            have HT := hide (Tb.new hT)
            have HR2 := hide ((unhide HR).keep hb3)
            have hyy : ((y : Int) != (y : Int)) = false := by simp
            have Hee := hide hee
            clear hb2 hb3 hT Hb HR Hyes Hok Herr hee
            go_wp2
            generalize w2.alloc (.cells #[.int .i64 y, .int .i64 y, .slice q ee cp] 25) = w3 at *
            generalize w2.heap.size = bx at *
            have Hbit := hide (show ∀ v x, v < y → x < y → saF y m (v * y + x) = ((x : Int) == ((v * m % y : Nat) : Int)) from fun v x _ hx => by
              unfold saF
              rw [dm_div _ _ _ hx, dm_mod _ _ _ hx]
              generalize v * m % y = a
              rw [Bool.eq_iff_iff, beq_iff_eq, beq_iff_eq, Int.natCast_inj])
            go_loopw [13] (fun i wr => ∃ v : Nat, v ≤ y ∧ i = .int .i64 v ∧ Below w3.heap.size w3 wr) (fun i _ => y - (intOf i).toNat)
            case atStart => exact ⟨0, Nat.zero_le _, rfl, Below.refl _ _⟩
            case round =>
              obtain ⟨v, hv, rfl, hbv⟩ := hrel
              have Hbv := hide hbv
              clear hbv
              by_cases hlv : v < y
              · have qv : (v : Int) < (y : Int) := by omega
                have qv0 : (0 : Int) ≤ (v : Int) := by omega
                go_wp2
                go_loopw [14] (fun i wr => ∃ x : Nat, x ≤ y ∧ i = .int .i64 x ∧ Below w3.heap.size w3 wr) (fun i _ => y - (intOf i).toNat)
                case atStart => exact ⟨0, Nat.zero_le _, rfl, unhide Hbv⟩
                case round =>
                  clear Hbv
                  obtain ⟨x, hx, rfl, hbv⟩ := hrel
                  by_cases hlx : x < y
                  · have qx : (x : Int) < (y : Int) := by omega
                    obtain ⟨k, vy, hk, e1, e2, b1, b2, b3, b4, b5⟩ := bit_nums v x y h2 hlv hlx
                    have hkl : k < ee := by rw [hk, unhide Hee]; exact row_lt hlx hlv
                    have hkl' : (k : Int) < (ee : Int) := Int.ofNat_lt.2 hkl
                    have c1 := (((unhide HR2).keep hbv).2 v hlv).1
                    rw [unhide Hat v hlv] at c1
                    have c2 := ((unhide HT).1.keep hbv).2.2.2
                    obtain ⟨b0, o0, rfl, l0, c3⟩ := bs_at ((unhide HT).2.2.2.2.keep hbv) hkl
                    rw [hk, unhide Hbit v x hlv hlx, ← hk] at c3
                    have Hbv := hide hbv
                    generalize v * m % y = a at *
                    generalize hcc : ((x : Int) == ((a : Nat) : Int)) = c at *
                    clear hbv l0 hk
                    cases c
                    all_goals
                      go_wp2_with fail
                      go_quiet (fail)
                      go_wp2
                      clear e1 e2
                      go_roundw
                      case rel => exact ⟨x + 1, by omega, by go_num, btrans (unhide Hbv) (Joins.below_draws _ _ _)⟩
                      case measure => simp [intOf]; omega
                  · obtain rfl : x = y := by omega
                    have cl : ¬ ((x : Int) < (x : Int)) := by omega
                    go_wp2
                    go_roundw
                    case rel => exact ⟨v + 1, by omega, by go_num, hbv⟩
                    case measure => simp [intOf]; omega
              · obtain rfl : v = y := by omega
                have cl : ¬ ((v : Int) < (v : Int)) := by omega
                go_wp2
                go_ret
                exact ⟨rfl, btrans (unhide S) (unhide Hbv)⟩

theorem sat_any (e m : Int) (W : World) : SatIs e m W := by
  by_cases h : 1 ≤ e ∧ e ≤ 64 ∧ 0 ≤ m ∧ m < e
  · obtain ⟨e', rfl⟩ := Int.eq_ofNat_of_zero_le (show 0 ≤ e by omega)
    obtain ⟨m', rfl⟩ := Int.eq_ofNat_of_zero_le (show 0 ≤ m by omega)
    exact sat_in e' m' W (by omega) (by omega) (by omega)
  · exact sat_out e m W h
end Go.Proofs.Ytpefcpbkdofblaa
