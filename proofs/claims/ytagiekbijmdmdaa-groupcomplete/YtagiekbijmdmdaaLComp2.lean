/-
  The walk of GroupComplete at a right chart: it answers true.
-/
import Derived.Test.YtagiekbijmdmdaaLComp
namespace Go.Proofs.Ytagiekbijmdmdaa
open Go.RowKit

set_option maxHeartbeats 2000000 in
theorem comp_wrong (g w h : Int) (p : Option Addr) (n cap : Nat) (px : Nat → Int) (w' h' N b o : Nat) (t : Int) (f : Bool) (x y : Int) (W : World) (r : Right W g w h p n px w' h' N b o) (er : Int) (her : wE g t x y = er) (hp : 1 ≤ er) : CompIs g w h p n cap t f x y W := by
  have HM := hide (fun V (r : Right V g w h p n px w' h' N b o) => moves_ok g w h p n cap px w' h' N b o V r)
  have HT := hide (fun V (r : Right V g w h p n px w' h' N b o) => torus_any g w h p n cap px V (Or.inr ⟨b, o, r.hp, r.row⟩))
  rw [r.hE, r.hN] at HT
  have HW := hide (wrong_any g t f x y)
  rw [her] at HW
  have hl := moves_len w' h' N px g r.hN1.2 r.hg
  generalize movesL w' h' N px g = L at *
  have B0 := bal (o := .cells #[.int .i64 t, .bool f, .int .i64 x, .int .i64 y] 45) (bal (o := .cells #[.int .i64 g, .int .i64 w, .int .i64 h, .slice p n cap] 24) (Below.refl W.heap.size W))
  have Hr := hide (r.keep B0)
  have HB := hide B0
  have C0 := (Ch.OwnC.new W g w h p n cap 24).alloc (.cells #[.int .i64 t, .bool f, .int .i64 x, .int .i64 y] 45)
  have M0 := OwnM.new (W.alloc (.cells #[.int .i64 g, .int .i64 w, .int .i64 h, .slice p n cap] 24)) t f x y 45
  rw [World.size_alloc] at M0
  clear her r B0
  unfold CompIs
  go_enter Try.func6, Try.ntmps6
  go_wp2_with fail
  generalize (W.alloc (.cells #[.int .i64 g, .int .i64 w, .int .i64 h, .slice p n cap] 24)).alloc (.cells #[.int .i64 t, .bool f, .int .i64 x, .int .i64 y] 45) = w0 at *
  refine (alive_any _).mono ?_
  rintro e w1 ⟨rfl, hb⟩
  have S1 := hb
  have c := (C0.keep S1).2
  go_wp2_with fail
  clear c
  refine (unhide HM _ ((unhide Hr).keep S1)).mono ?_
  rintro e w2 ⟨q, cp, rfl, -, hb⟩
  have S2 := btrans S1 hb
  have c := (C0.keep S2).2
  go_wp2_with fail
  clear c
  refine (unhide HT _ ((unhide Hr).keep S2)).mono ?_
  rintro e w3 ⟨rfl, hb⟩
  have S3 := btrans S2 hb
  have c := (C0.keep S3).2
  have m := (M0.keep S3).2.1
  go_wp2_with fail
  clear c m
  refine (unhide HW _).mono ?_
  rintro e w4 ⟨rfl, hb⟩
  have S4 := btrans S3 hb
  clear hb
  have he : (er != 0) = true := by simp; omega
  go_wp2
  go_ret
  exact ⟨rfl, btrans (unhide HB) S4⟩

set_option maxHeartbeats 8000000 in
set_option maxRecDepth 100000 in
theorem comp_ok (g w h : Int) (p : Option Addr) (n cap : Nat) (px : Nat → Int) (w' h' N b o : Nat) (t : Nat) (f : Bool) (x y : Int) (W : World) (r : Right W g w h p n px w' h' N b o) (her : wE g t x y = 0) : CompIs g w h p n cap t f x y W := by
  have HM := hide (fun V (r : Right V g w h p n px w' h' N b o) => moves_ok g w h p n cap px w' h' N b o V r)
  have HT := hide (fun V (r : Right V g w h p n px w' h' N b o) => torus_any g w h p n cap px V (Or.inr ⟨b, o, r.hp, r.row⟩))
  rw [r.hE, r.hN] at HT
  have HW := hide (wrong_any g t f x y)
  rw [her] at HW
  have HA := hide (fun V (r : Right V g w h p n px w' h' N b o) (u v : Int) => r.at cap u v)
  have HK := hide (fun V (r : Right V g w h p n px w' h' N b o) => keeps_ok g w h p n cap px w' h' N b o t f x y V r her)
  have hw0 := wE_zero g t x y her
  have hN1 := r.hN1
  have HO := hide (fun (i j : Nat) (hi : i < N) (hj : j < N) => to_any g t f x y i j r.hg hw0.2.1 ((sz_small (by omega) (by omega)).mono (by decide)) (Sz.sm hw0.2.2))
  rw [Int.toNat_natCast] at HO
  have hl := moves_len w' h' N px g r.hN1.2 r.hg
  have HH := hide (fun V q cp (hm : MRow V q (movesL w' h' N px g)) => has_any q cp (movesL w' h' N px g) N t f x y V (by omega) hl hm)
  have hP := pat_per w' h' N px
  obtain ⟨kb, hkb⟩ : ∃ kb : Bool, kb = kpV w' h' N px g t f (x % N) (y % N) := ⟨_, rfl⟩
  have k1 : kb = true ↔ Kp (pat w' h' N px) g t f x y := by
    rw [hkb, kpV_iff w' h' N px g t f _ _ hN1.1]
    have ex : (x % N) % N = x % N := Int.emod_emod_of_dvd _ (Int.dvd_refl _)
    have ey : (y % N) % N = y % N := Int.emod_emod_of_dvd _ (Int.dvd_refl _)
    exact ⟨fun q => q.cong hP ex ey, fun q => q.cong hP ex.symm ey.symm⟩
  have k2 : hasB (movesL w' h' N px g) t f (x % N) (y % N) = kb := by
    rw [Bool.eq_iff_iff, has_iff w' h' N px g t f x y hN1.1 hw0.2.1.2, k1]
  have k3 : abB (pat w' h' N px) g t f x y N (N * N) = kb := by
    rw [Bool.eq_iff_iff, abB_kp hN1.1 hP, k1]
  rw [← hkb] at HK
  rw [k2] at HH
  have Hk3 := hide k3
  clear k1 k2 k3 hkb hP
  generalize movesL w' h' N px g = L at *
  generalize pat w' h' N px = P at *
  have B0 := bal (o := .cells #[.int .i64 t, .bool f, .int .i64 x, .int .i64 y] 45) (bal (o := .cells #[.int .i64 g, .int .i64 w, .int .i64 h, .slice p n cap] 24) (Below.refl W.heap.size W))
  have Hr := hide (r.keep B0)
  have HB := hide B0
  have C0 := (Ch.OwnC.new W g w h p n cap 24).alloc (.cells #[.int .i64 t, .bool f, .int .i64 x, .int .i64 y] 45)
  have M0 := OwnM.new (W.alloc (.cells #[.int .i64 g, .int .i64 w, .int .i64 h, .slice p n cap] 24)) t f x y 45
  rw [World.size_alloc] at M0
  clear her r B0 hw0
  unfold CompIs
  go_enter Try.func6, Try.ntmps6
  go_wp2_with fail
  generalize (W.alloc (.cells #[.int .i64 g, .int .i64 w, .int .i64 h, .slice p n cap] 24)).alloc (.cells #[.int .i64 t, .bool f, .int .i64 x, .int .i64 y] 45) = w0 at *
  have HC0 := hide C0
  have HM0 := hide M0
  clear C0 M0
  refine (alive_any _).mono ?_
  rintro e w1 ⟨rfl, hb⟩
  have S1 := hb
  have c := ((unhide HC0).keep S1).2
  go_wp2_with fail
  clear c
  refine (unhide HM _ ((unhide Hr).keep S1)).mono ?_
  rintro e w2 ⟨q, cp, rfl, hm, hb⟩
  have S2 := btrans S1 hb
  have Hm := hide hm.1
  clear hm
  have c := ((unhide HC0).keep S2).2
  go_wp2_with fail
  clear c
  refine (unhide HT _ ((unhide Hr).keep S2)).mono ?_
  rintro e w3 ⟨rfl, hb⟩
  have S3 := btrans S2 hb
  have Hm3 := hide ((unhide Hm).keep hb)
  have c := ((unhide HC0).keep S3).2
  have m := ((unhide HM0).keep S3).2.1
  go_wp2_with fail
  clear c m
  refine (unhide HW _).mono ?_
  rintro e w4 ⟨rfl, hb⟩
  have S4 := btrans S3 hb
  have Hm4 := hide ((unhide Hm3).keep hb)
  clear hb Hm Hm3 S1 S2 S3 HM HT HW
  go_wp2
  go_loopw [9, 10] (fun a v wr => ∃ i : Nat, i ≤ N ∧ v = .int .i64 i ∧ a = .bool (abB P g t f x y N (i * N)) ∧ MRow wr q L ∧ Below w0.heap.size w0 wr) (fun _ v _ => N - (intOf v).toNat)
  case atStart => exact ⟨0, Nat.zero_le _, rfl, by simp [abB], unhide Hm4, S4⟩
  case round =>
    clear Hm4 S4
    obtain ⟨i, hi, rfl, rfl, hm, hbel⟩ := hrel
    by_cases hlt : i < N
    · have hlt' : (i : Int) < (N : Int) := by omega
      go_wp2
      obtain ⟨wo, rfl⟩ : ∃ wo : World, wo = wr := ⟨_, rfl⟩
      have Hm1 := hide hm
      have Hb1 := hide hbel
      clear hm hbel
      go_loopw [9, 11] (fun a v wr2 => ∃ j : Nat, j ≤ N ∧ v = .int .i64 j ∧ a = .bool (abB P g t f x y N (i * N + j)) ∧ MRow wr2 q L ∧ Below w0.heap.size w0 wr2) (fun _ v _ => N - (intOf v).toNat)
      case atStart => exact ⟨0, Nat.zero_le _, rfl, rfl, unhide Hm1, unhide Hb1⟩
      case round =>
        clear Hm1 Hb1
        obtain ⟨j, hj, rfl, rfl, hm, hbel⟩ := hrel
        by_cases hltj : j < N
        · have hltj' : (j : Int) < (N : Int) := by omega
          have Hab := hide (show abB P g t f x y N (i * N + (j + 1)) = (abB P g t f x y N (i * N + j) && (P j i == P (mv g t f x y j i).1 (mv g t f x y j i).2)) by
            have e := xy_of N j i hltj
            show abB P g t f x y N (i * N + j + 1) = _
            rw [abB_succ, e.1, e.2])
          have HO1 := hide (unhide HO j i hltj hlt)
          generalize abB P g t f x y N (i * N + j) = ab at *
          generalize (mv g t f x y j i).1 = X at *
          generalize (mv g t f x y j i).2 = Y at *
          have HA1 := hide (fun V (hb : Below w0.heap.size w0 V) => unhide HA V ((unhide Hr).keep hb) j i)
          have HA2 := hide (fun V (hb : Below w0.heap.size w0 V) => unhide HA V ((unhide Hr).keep hb) X Y)
          generalize P j i = p1 at *
          generalize P X Y = p2 at *
          have c := ((unhide HC0).keep hbel).2
          go_wp2_with fail
          clear c
          refine (unhide HA1 _ hbel).mono ?_
          rintro e w5 ⟨rfl, hb⟩
          have S5 := btrans hbel hb
          have Hm5 := hide (hm.keep hb)
          clear hb hm hbel
          have C5 := (unhide HC0).keep S5
          have M5 := (unhide HM0).keep S5
          have Mk := hide (show ∀ V, Below w5.heap.size w5 V → Below w5.heap.size w5 V ∧ (V.cell? ⟨W.heap.size, 0, none⟩ = some (.int .i64 g) ∧ V.cell? ⟨W.heap.size, 1, none⟩ = some (.int .i64 w) ∧ V.cell? ⟨W.heap.size, 2, none⟩ = some (.int .i64 h) ∧ V.cell? ⟨W.heap.size, 3, none⟩ = some (.slice p n cap)) ∧ CM V (W.heap.size + 1) t f x y from fun V hV => ⟨hV, (C5.keep hV).2, (M5.keep hV).2.1⟩)
          clear C5 M5
          go_wp2_with fail
          go_region_held3 (fun V => Below w5.heap.size w5 V ∧ (V.cell? ⟨W.heap.size, 0, none⟩ = some (.int .i64 g) ∧ V.cell? ⟨W.heap.size, 1, none⟩ = some (.int .i64 w) ∧ V.cell? ⟨W.heap.size, 2, none⟩ = some (.int .i64 h) ∧ V.cell? ⟨W.heap.size, 3, none⟩ = some (.slice p n cap)) ∧ CM V (W.heap.size + 1) t f x y)
            (first
              | (exact unhide Mk _ (Below.drew (Below.refl _ _)))
              | (exact unhide Mk _ (btrans (by assumption : Below w5.heap.size w5 _ ∧ _).1 hb)))
            (first
              | (go_at_call 31; refine (unhide HO1 _).mono ?_; rintro e w6 ⟨rfl, hb⟩)
              | (go_at_call 30; refine (unhide HA2 _ (btrans S5 (by assumption : Below w5.heap.size w5 _ ∧ _).1)).mono ?_; rintro e w7 ⟨rfl, hb⟩))
          have hS7 := (by assumption : Below w5.heap.size w5 _ ∧ _).1
          have S7 := btrans S5 hS7
          have Hm7 := hide ((unhide Hm5).keep hS7)
          clear hb hS7 Mk S5 Hm5
          cases ab with
          | false =>
            have Hab2 := hide (show abB P g t f x y N (i * N + (j + 1)) = false by rw [unhide Hab]; rfl)
            clear Hab
            go_wp2
            go_roundw
            case rel => exact ⟨j + 1, by omega, by go_num, by rw [unhide Hab2], unhide Hm7, S7⟩
            case measure => simp [intOf]; omega
          | true =>
            have Hab2 := hide (show abB P g t f x y N (i * N + (j + 1)) = (p1 == p2) by rw [unhide Hab]; simp)
            clear Hab
            go_wp2
            go_roundw
            case rel => exact ⟨j + 1, by omega, by go_num, by rw [unhide Hab2], unhide Hm7, S7⟩
            case measure => simp [intOf]; omega
        · have e : j = N := by omega
          subst e
          have cl : ¬ ((j : Int) < (j : Int)) := by omega
          have Hs := hide (show (i + 1) * j = i * j + j by rw [Nat.add_mul, Nat.one_mul])
          have Hm1 := hide hm
          have Hb1 := hide hbel
          clear hm hbel
          go_wp2
          go_roundw
          case rel => exact ⟨i + 1, by omega, by go_num, by rw [unhide Hs], unhide Hm1, unhide Hb1⟩
          case measure => simp [intOf]; omega
    · have e : i = N := by omega
      subst e
      have cl : ¬ ((i : Int) < (i : Int)) := by omega
      rw [unhide Hk3]
      have c := ((unhide HC0).keep hbel).2
      have m := ((unhide HM0).keep hbel).2.1
      have HK1 := hide (unhide HK _ ((unhide Hr).keep hbel))
      go_wp2_with fail
      clear c m
      refine (unhide HK1).mono ?_
      rintro e w5 ⟨rfl, hb⟩
      have S5 := btrans hbel hb
      have m5 := hm.keep hb
      have m := ((unhide HM0).keep S5).2.1
      have HH1 := hide (unhide HH _ q cp m5)
      clear hb hbel hm HK1 m5
      go_wp2_with fail
      clear m
      refine (unhide HH1).mono ?_
      rintro e w6 ⟨rfl, hb⟩
      have S6 := btrans S5 hb
      clear hb S5
      go_wp2
      go_ret
      exact ⟨ret_bool (by simp), btrans (unhide HB) S6⟩
/-- whatever the chart and the move -/
theorem comp_walk (g w h : Int) (p : Option Addr) (n cap : Nat) (px : Nat → Int) (t : Int) (f : Bool) (x y : Int) (W : World) (hc : Ch.Cells W p n px) : CompIs g w h p n cap t f x y W := by
  by_cases he : toE g w h n px = 0
  · obtain ⟨w', h', N, b, o, r⟩ := right_of hc he
    by_cases hm : wE g t x y = 0
    · obtain ⟨k, rfl⟩ := Int.eq_ofNat_of_zero_le (wE_zero g t x y hm).2.1.1
      exact comp_ok g w h p n cap px w' h' N b o k f x y W r hm
    · exact comp_wrong g w h p n cap px w' h' N b o t f x y W r _ rfl (wE_pos _ _ _ _ hm)
  · exact comp_err g w h p n cap px t f x y W hc _ rfl (toE_pos he)
end Go.Proofs.Ytagiekbijmdmdaa
