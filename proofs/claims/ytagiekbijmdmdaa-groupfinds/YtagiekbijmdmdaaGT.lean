/-
  What Moved of the reference answers of a right chart.
-/
import Derived.Test.YtagiekbijmdmdaaGS
namespace Go.Proofs.Ytagiekbijmdmdaa
open Go.RowKit

set_option maxHeartbeats 8000000 in
set_option maxRecDepth 100000 in
theorem rmoved_ok (g w h : Int) (p : Option Addr) (n cap : Nat) (px : Nat → Int) (w' h' N b o : Nat) (t : Nat) (f : Bool) (x y : Int) (W : World) (r : Right W g w h p n px w' h' N b o) (her : wE g t x y = 0) : MovedOk 23 g w h p n cap t f x y W N (mcF (tgtR g t f x y N) (srcR (pat w' h' N px) N) (N * N)) := by
  have HT := hide (fun V (r : Right V g w h p n px w' h' N b o) => rtorus_any g w h p n cap px V (Or.inr ⟨b, o, r.hp, r.row⟩))
  rw [r.hE, r.hN] at HT
  have HW := hide (rwrong_any g t f x y)
  rw [her] at HW
  have hw0 := wE_zero g t x y her
  have hN1 := r.hN1
  have HA := hide (fun V (r : Right V g w h p n px w' h' N b o) (u v : Int) => r.cell cap u v)
  have HO := hide (fun (i j : Nat) (hi : i < N) (hj : j < N) => to_any g t f x y i j r.hg hw0.2.1 ((sz_small (by omega) (by omega)).mono (by decide)) (Sz.sm hw0.2.2))
  rw [Int.toNat_natCast] at HO
  have HOn := hide (fun (V : World) (u v : Int) => on_any N u v V (by omega))
  have Hcl := hide (fun (u v : Int) => cby_lt N u v 0 0 hN1.1)
  have Htg := hide (show ∀ a c : Nat, a < N → tgtR g t f x y N (c * N + a) = cby N (mv g t f x y a c).1 (mv g t f x y a c).2 0 0 from fun a c ha => by
    unfold tgtR; rw [(xy_of N a c ha).1, (xy_of N a c ha).2])
  have Hsr := hide (show ∀ a c : Nat, a < N → srcR (pat w' h' N px) N (c * N + a) = pat w' h' N px a c from fun a c ha => by
    unfold srcR; rw [(xy_of N a c ha).1, (xy_of N a c ha).2])
  have Hmc := hide (show ∀ i, mcF (tgtR g t f x y N) (srcR (pat w' h' N px) N) (i + 1) = put (mcF (tgtR g t f x y N) (srcR (pat w' h' N px) N) i) (tgtR g t f x y N i) (srcR (pat w' h' N px) N i) from fun i => rfl)
  have Hnew := hide (fun (V : World) (k : Nat) (hk : k ≤ 9223372036854775807) => irow_new V k (tgtR g t f x y N) (srcR (pat w' h' N px) N) hk)
  generalize srcR (pat w' h' N px) N = src at *
  generalize pat w' h' N px = P at *
  generalize tgtR g t f x y N = tgt at *
  obtain ⟨k, hk⟩ : ∃ k, k = N * N := ⟨_, rfl⟩
  have hk5 : k ≤ 576 := by rw [hk]; exact Nat.mul_le_mul hN1.2 hN1.2
  have ek : IntKind.i64.wrap ((N : Int) * (N : Int)) = (k : Int) := by
    rw [hk, ← Int.natCast_mul]
    exact (Go.IntWalk.i64_left _).trans (Go.IntWalk.wrap64_in _ (by rw [← hk]; omega))
  have Hk := hide hk
  have hmk := run_make_row' (P := Try.prog) 22 3 (.int .i64 0) 8 Try.underlying22 info3 rfl .i64 .i64 k (by omega) (by omega)
  have B0 := bal (o := .cells #[.int .i64 0, .int .i64 0, .int .i64 0, .slice none 0 0] 24) (bal (o := .cells #[.int .i64 t, .bool f, .int .i64 x, .int .i64 y] 45) (bal (o := .cells #[.int .i64 g, .int .i64 w, .int .i64 h, .slice p n cap] 24) (Below.refl W.heap.size W)))
  have D0 := R4.new ((W.alloc (.cells #[.int .i64 g, .int .i64 w, .int .i64 h, .slice p n cap] 24)).alloc (.cells #[.int .i64 t, .bool f, .int .i64 x, .int .i64 y] 45)) 24
  have C0 := ((Ch.OwnC.new W g w h p n cap 24).alloc (.cells #[.int .i64 t, .bool f, .int .i64 x, .int .i64 y] 45)).alloc (.cells #[.int .i64 0, .int .i64 0, .int .i64 0, .slice none 0 0] 24)
  have M0 := (OwnM.new (W.alloc (.cells #[.int .i64 g, .int .i64 w, .int .i64 h, .slice p n cap] 24)) t f x y 45).alloc (.cells #[.int .i64 0, .int .i64 0, .int .i64 0, .slice none 0 0] 24)
  simp only [World.size_alloc] at D0 M0
  have hz : W.heap.size + 1 + 1 < (((W.alloc (.cells #[.int .i64 g, .int .i64 w, .int .i64 h, .slice p n cap] 24)).alloc (.cells #[.int .i64 t, .bool f, .int .i64 x, .int .i64 y] 45)).alloc (.cells #[.int .i64 0, .int .i64 0, .int .i64 0, .slice none 0 0] 24)).heap.size := by simp
  have Hr := hide (r.keep B0)
  have HB := hide B0
  have HC0 := hide C0
  have HM0 := hide M0
  clear her r B0 C0 M0 hw0 hk
  unfold MovedOk
  go_enter Try.func23, Try.ntmps23
  go_wp2_with fail
  generalize ((W.alloc (.cells #[.int .i64 g, .int .i64 w, .int .i64 h, .slice p n cap] 24)).alloc (.cells #[.int .i64 t, .bool f, .int .i64 x, .int .i64 y] 45)).alloc (.cells #[.int .i64 0, .int .i64 0, .int .i64 0, .slice none 0 0] 24) = w0 at *
  refine (unhide HT _ (unhide Hr)).mono ?_
  rintro e w1 ⟨rfl, hb⟩
  have S1 := hb
  have c := ((unhide HC0).keep hb).2
  have m := ((unhide HM0).keep hb).2.1
  clear hb
  go_wp2_with fail
  clear c m
  refine (unhide HW _).mono ?_
  rintro e w3 ⟨rfl, hb⟩
  have S3 := btrans S1 hb
  have hz3 := Nat.lt_of_lt_of_le hz S3.size
  have C3 := (unhide HC0).keep S3
  have Mk := hide (show ∀ V, Below w3.heap.size w3 V → Below w3.heap.size w3 V ∧ V.cell? ⟨W.heap.size, 0, none⟩ = some (.int .i64 g) from fun V hV => ⟨hV, (C3.keep hV).2.1⟩)
  clear hb S1 C3
  go_wp2_with fail
  go_region_held3 (fun V => Below w3.heap.size w3 V ∧ V.cell? ⟨W.heap.size, 0, none⟩ = some (.int .i64 g))
    (first
      | (exact unhide Mk _ (Below.drew (Below.refl _ _)))
      | (exact unhide Mk _ (Below.drew (bal (Below.refl _ _))))
      | (exact unhide Mk _ (Below.drew (bal (bal (Below.refl _ _))))))
    (fail)
  · have IV := ((unhide Hnew w3 k (by omega)).keep (bal (o := .cells #[.int .i64 g, .int .i64 N, .int .i64 N, .slice (some ⟨w3.heap.size, 0, none⟩) k k] 24) (Below.refl _ _))).keep (Below.drew (Below.refl _ _))
    have OV := (Ch.OwnC.new (w3.alloc (.cells (madeCells #[.int .i64 0] k) 3)) g N N (some ⟨w3.heap.size, 0, none⟩) k k 24).keep (Below.drew (Below.refl _ _))
    have SV := Below.drew (bal (o := .cells #[.int .i64 g, .int .i64 N, .int .i64 N, .slice (some ⟨w3.heap.size, 0, none⟩) k k] 24) (bal (o := .cells (madeCells #[.int .i64 0] k) 3) (Below.refl w3.heap.size w3)))
    simp only [World.size_alloc] at IV OV
    have hbI : w3.heap.size ≤ w3.heap.size := by omega
    have hzI : w3.heap.size < w3.heap.size + 2 := by omega
    have n1 : some W.heap.size ≠ some (w3.heap.size) := fun e => by have := Option.some.inj e; omega
    have n2 : some (W.heap.size + 1) ≠ some (w3.heap.size) := fun e => by have := Option.some.inj e; omega
    have n3 : some (W.heap.size + 1 + 1) ≠ some (w3.heap.size) := fun e => by have := Option.some.inj e; omega
    have n4 : some (w3.heap.size + 1) ≠ some (w3.heap.size) := fun e => by have := Option.some.inj e; omega
    have HN1 := hide n1
    have HN2 := hide n2
    have HN3 := hide n3
    have HN4 := hide n4
    clear n1 n2 n3 n4 Mk
    have SW := btrans S3 SV
    have S3s := S3.size
    have HgV := hide (gbelow (some (w3.heap.size)) SW)
    generalize ((w3.alloc (.cells (madeCells #[.int .i64 0] k) 3)).alloc (.cells #[.int .i64 g, .int .i64 N, .int .i64 N, .slice (some ⟨w3.heap.size, 0, none⟩) k k] 24)).drew = V at *
    have HD := hide (fun (U : World) (hU : V.grownBy U (some (w3.heap.size))) => r4_grown (R4.keep D0 hz SW) (Nat.lt_of_lt_of_le hz SW.size) hU (unhide HN3))
    have HIV := hide IV
    have HOV := hide OV
    have HSW := hide SW
    have hzV : w3.heap.size + 2 ≤ V.heap.size := by have := IV.1; have := OV.1; omega
    clear IV OV SV SW S3
    have hmk0 := True.intro
    clear hmk ek
    go_wp2
    go_loopw [10] (fun a wr => ∃ c : Nat, c ≤ N ∧ a = .int .i64 c ∧ IRow wr (w3.heap.size) k (mcF tgt src (c * N)) ∧ V.grownBy wr (some (w3.heap.size))) (fun a _ => N - (intOf a).toNat)
    case atStart => exact ⟨0, Nat.zero_le _, rfl, by rw [Nat.zero_mul]; exact unhide HIV, World.grownBy.refl _ _⟩
    case round =>
      obtain ⟨c, hc, rfl, hI, hgr⟩ := hrel
      by_cases hlt : c < N
      · have hlt' : (c : Int) < (N : Int) := by omega
        have HI0 := hide hI
        have Hg0 := hide hgr
        clear hI hgr
        go_wp2
        obtain ⟨wo, rfl⟩ : ∃ wo : World, wo = wr := ⟨_, rfl⟩
        go_loopw [11] (fun v wr2 => ∃ a : Nat, a ≤ N ∧ v = .int .i64 a ∧ IRow wr2 (w3.heap.size) k (mcF tgt src (c * N + a)) ∧ V.grownBy wr2 (some (w3.heap.size))) (fun v _ => N - (intOf v).toNat)
        case atStart => exact ⟨0, Nat.zero_le _, rfl, unhide HI0, unhide Hg0⟩
        case round =>
          clear HI0 Hg0
          obtain ⟨a, ha, rfl, hI, hgr⟩ := hrel
          by_cases hla : a < N
          · have hla' : (a : Int) < (N : Int) := by omega
            have HO1 := hide (unhide HO a c hla hlt)
            have e1 := unhide Htg a c hla
            have e2 := unhide Hsr a c hla
            have Hm1 := hide (unhide Hmc (c * N + a))
            rw [e1, e2] at Hm1
            have hcl := unhide Hcl (mv g t f x y a c).1 (mv g t f x y a c).2
            rw [Int.add_zero, Int.add_zero] at hcl
            clear e1 e2
            generalize (mv g t f x y a c).1 = X at *
            generalize (mv g t f x y a c).2 = Y at *
            have HA1 := hide (fun U (hU : w0.grownBy U (some (w3.heap.size))) (hn : some b ≠ some (w3.heap.size)) => unhide HA U { (unhide Hr) with row := Row.grown (unhide Hr).row hU hn } a c)
            generalize P a c = pv at *
            have HOn1 := hide (fun U => unhide HOn U X Y)
            have hx := em_range X N hN1
            have hy := em_range Y N hN1
            have hy2 := Int.emod_lt_of_pos Y (show (0 : Int) < N by omega)
            generalize X % (N : Int) = zx at *
            generalize Y % (N : Int) = zy at *
            generalize cby N X Y 0 0 = j at *
            have hjk : j < k := by rw [unhide Hk]; exact hcl.1
            obtain ⟨zm, hzm⟩ : ∃ zm : Int, zm = zy * N := ⟨_, rfl⟩
            have hzm0 : 0 ≤ zm ∧ zm ≤ 576 := by
              rw [hzm]
              exact ⟨Int.mul_nonneg hy.1 (by omega), Int.le_trans (Int.mul_le_mul hy.2 (show (N : Int) ≤ 24 by omega) (by omega) (by omega)) (by decide)⟩
            have q1 : IntKind.i64.wrap (zy * (N : Int)) = zm := by
              rw [← hzm]; exact (Go.IntWalk.i64_left _).trans (Go.IntWalk.wrap64_in _ (by omega))
            have q2 : IntKind.i64.wrap (zm + zx) = (j : Int) := by
              rw [← hcl.2, ← hzm]; exact (Go.IntWalk.i64_left _).trans (Go.IntWalk.wrap64_in _ (by omega))
            have Hq1 := hide q1
            have Hq2 := hide q2
            have hj0 : (0 : Int) ≤ (j : Int) := by omega
            have hj2 : (j : Int) < (k : Int) := by omega
            clear q1 q2 hzm hcl hy2
            have hVr := hgr.size
            have cc := unhide HC0
            have c5 := gcell (gtrans (unhide HgV) hgr) cc.1 (unhide HN1) cc.2.1
            have mm := unhide HM0
            have g4 := gtrans (unhide HgV) hgr
            have m5 : CM wr (W.heap.size + 1) t f x y := ⟨gcell g4 mm.1 (unhide HN2) mm.2.1.1, gcell g4 mm.1 (unhide HN2) mm.2.1.2.1, gcell g4 mm.1 (unhide HN2) mm.2.1.2.2.1, gcell g4 mm.1 (unhide HN2) mm.2.1.2.2.2⟩
            obtain ⟨m50, m51, m52, m53⟩ := m5
            clear cc mm
            go_wp2_with fail
            clear c5 m50 m51 m52 m53
            refine (unhide HO1 _).mono ?_
            rintro e w5 ⟨rfl, hb⟩
            have g5 := gtrans g4 (gbelow (some (w3.heap.size)) hb)
            have hr5 := gtrans hgr (gbelow (some (w3.heap.size)) hb)
            have I5 := hI.keep hb
            clear hb g4 hgr hI
            go_wp2_with fail
            refine (unhide HOn1 _).mono ?_
            rintro e w6 ⟨rfl, hb⟩
            have hb6 := bal (o := .cells #[.int .i64 zx, .int .i64 zy] 33) hb
            have g6 := gtrans g5 (gbelow (some (w3.heap.size)) hb6)
            have hr6 := gtrans hr5 (gbelow (some (w3.heap.size)) hb6)
            have I6 := I5.keep hb6
            have Z6 := Own.new w6 zx zy 33
            have n5 : some w6.heap.size ≠ some (w3.heap.size) := fun e => by have := Option.some.inj e; have := I5.1; have := hb.size; omega
            clear hb hb6 g5 hr5 I5
            go_wp2_with fail
            generalize w6.alloc (.cells #[.int .i64 zx, .int .i64 zy] 33) = w7 at *
            have cc := unhide HC0
            have ov := unhide HOV
            have Mk := hide (show ∀ U, w7.grownBy U (some (w3.heap.size)) → (U.cell? ⟨W.heap.size, 0, none⟩ = some (.int .i64 g) ∧ U.cell? ⟨W.heap.size, 1, none⟩ = some (.int .i64 w) ∧ U.cell? ⟨W.heap.size, 2, none⟩ = some (.int .i64 h) ∧ U.cell? ⟨W.heap.size, 3, none⟩ = some (.slice p n cap)) ∧ U.cell? ⟨w3.heap.size + 1, 3, none⟩ = some (.slice (some ⟨w3.heap.size, 0, none⟩) k k) ∧ (U.cell? ⟨w6.heap.size, 0, none⟩ = some (.int .i64 zx) ∧ U.cell? ⟨w6.heap.size, 1, none⟩ = some (.int .i64 zy)) from fun U hU =>
              ⟨⟨gcell (gtrans g6 hU) cc.1 (unhide HN1) cc.2.1, gcell (gtrans g6 hU) cc.1 (unhide HN1) cc.2.2.1, gcell (gtrans g6 hU) cc.1 (unhide HN1) cc.2.2.2.1, gcell (gtrans g6 hU) cc.1 (unhide HN1) cc.2.2.2.2⟩, gcell (gtrans hr6 hU) ov.1 (unhide HN4) ov.2.2.2.2, Z6.grown2 hU n5⟩)
            have HA2 := hide (fun U (hU : w7.grownBy U (some (w3.heap.size))) => unhide HA1 U (gtrans g6 hU) (fun e => by have := Option.some.inj e; have := (unhide Hr).row.1; omega))
            have HI6 := hide I6
            have Hg6 := hide g6
            have Hr6 := hide hr6
            have q1 := unhide Hq1
            have q2 := unhide Hq2
            clear cc ov Z6 n5 I6 g6 hr6
            have hb2 := True.intro
            go_region_held3 (fun U => (w7.grownBy U (some (w3.heap.size)) ∧ w7.heap.size ≤ U.heap.size) ∧ ((U.cell? ⟨W.heap.size, 0, none⟩ = some (.int .i64 g) ∧ U.cell? ⟨W.heap.size, 1, none⟩ = some (.int .i64 w) ∧ U.cell? ⟨W.heap.size, 2, none⟩ = some (.int .i64 h) ∧ U.cell? ⟨W.heap.size, 3, none⟩ = some (.slice p n cap)) ∧ U.cell? ⟨w3.heap.size + 1, 3, none⟩ = some (.slice (some ⟨w3.heap.size, 0, none⟩) k k) ∧ (U.cell? ⟨w6.heap.size, 0, none⟩ = some (.int .i64 zx) ∧ U.cell? ⟨w6.heap.size, 1, none⟩ = some (.int .i64 zy))) ∧ (U.cell? ⟨w3.heap.size, j, none⟩ = some (hat U (w3.heap.size) j) ∧ U.frozen? ⟨w3.heap.size, j, none⟩ = false))
              (first
                | (exact ⟨⟨gbelow _ (Below.drew (Below.refl _ _)), Nat.le_refl _⟩, unhide Mk _ (gbelow _ (Below.drew (Below.refl _ _))), hat_of (((unhide HI6).keep (Below.drew (Below.refl _ _))).2 j hjk).1, (((unhide HI6).keep (Below.drew (Below.refl _ _))).2 j hjk).2⟩)
                | (exact ⟨⟨gbelow _ hb2, hb2.size⟩, unhide Mk _ (gbelow _ hb2), hat_of (((unhide HI6).keep hb2).2 j hjk).1, (((unhide HI6).keep hb2).2 j hjk).2⟩)
                | (exact ⟨⟨gset (gbelow _ hb2) j _, by simpa using hb2.size⟩, unhide Mk _ (gset (gbelow _ hb2) j _), hat_of ((((unhide HI6).keep hb2).set j _ hjk).2 j hjk).1, ((((unhide HI6).keep hb2).set j _ hjk).2 j hjk).2⟩))
              (first
                | (go_at_call 48; refine (unhide HA2 _ (gbelow _ (Below.drew (Below.refl _ _)))).mono ?_; rintro e w8 ⟨rfl, hb⟩; have hb2 := btrans (Below.drew (Below.refl w7.heap.size w7)) hb))
            have I8 := ((unhide HI6).keep hb2).set j pv hjk
            have hr8 := gtrans (unhide Hr6) (gset (gbelow (some (w3.heap.size)) hb2) j (.int .i64 pv))
            clear Mk hb q1 q2 HI6 Hg6 Hr6
            go_wp2
            go_roundw
            case rel => exact ⟨a + 1, by omega, by go_num, by rw [show c * N + (a + 1) = c * N + a + 1 from rfl, unhide Hm1]; exact I8, hr8⟩
            case measure => simp [intOf]; omega
          · have e : a = N := by omega
            subst e
            have cl : ¬ ((a : Int) < (a : Int)) := by omega
            have Hs := hide (show (c + 1) * a = c * a + a by rw [Nat.add_mul, Nat.one_mul])
            have HI1 := hide hI
            have Hg1 := hide hgr
            clear hI hgr
            go_wp2
            go_roundw
            case rel => exact ⟨c + 1, by omega, by go_num, by rw [unhide Hs]; exact unhide HI1, unhide Hg1⟩
            case measure => simp [intOf]; omega
      · have e : c = N := by omega
        subst e
        have cl : ¬ ((c : Int) < (c : Int)) := by omega
        have ov := unhide HOV
        have o0 := gcell hgr ov.1 (unhide HN4) ov.2.1
        have o1 := gcell hgr ov.1 (unhide HN4) ov.2.2.1
        have o2 := gcell hgr ov.1 (unhide HN4) ov.2.2.2.1
        have o3 := gcell hgr ov.1 (unhide HN4) ov.2.2.2.2
        have HS := hide (btrans (unhide HB) ((unhide HSW).grown hgr (unhide HSW).size (fun k hk => by cases hk; have := (unhide HSW).size; have := S3s; omega)))
        have hzr : W.heap.size + 1 + 1 < wr.heap.size := by have := hgr.size; omega
        have Hrow := hide hI.row
        obtain ⟨⟨d0, d1, d2, d3⟩, f0, f1, f2, f3⟩ := unhide HD wr hgr
        have hne : W.heap.size + 1 + 1 ≠ w3.heap.size := by omega
        clear ov hgr hI
        go_wp2
        refine bodyPost_ret (v := .tuple #[Ch.ch g c c (some ⟨w3.heap.size, 0, none⟩) k k, .int .i64 0]) (by simp [results, Try.results23, go_sem, d0, d1, d2, d3]) rfl ⟨_, by rw [unhide Hk], ?_, bset (bset (bset (bset (unhide HS) (by dsimp only; omega)) (by dsimp only; omega)) (by dsimp only; omega)) (by dsimp only; omega)⟩
        rw [← unhide Hk] at Hrow ⊢
        exact row_far (row_far (row_far (row_far (unhide Hrow) hne) hne) hne) hne
  · have IV := (unhide Hnew (w3.alloc (.cells #[.int .i64 g, .int .i64 N, .int .i64 N, .slice (some ⟨w3.heap.size + 1, 0, none⟩) k k] 24)) k (by omega)).keep (Below.drew (Below.refl _ _))
    have OV := ((Ch.OwnC.new w3 g N N (some ⟨w3.heap.size + 1, 0, none⟩) k k 24).alloc (.cells (madeCells #[.int .i64 0] k) 3)).keep (Below.drew (Below.refl _ _))
    have SV := Below.drew (bal (o := .cells (madeCells #[.int .i64 0] k) 3) (bal (o := .cells #[.int .i64 g, .int .i64 N, .int .i64 N, .slice (some ⟨w3.heap.size + 1, 0, none⟩) k k] 24) (Below.refl w3.heap.size w3)))
    simp only [World.size_alloc] at IV OV
    have hbI : w3.heap.size ≤ w3.heap.size + 1 := by omega
    have hzI : w3.heap.size + 1 < w3.heap.size + 2 := by omega
    have n1 : some W.heap.size ≠ some (w3.heap.size + 1) := fun e => by have := Option.some.inj e; omega
    have n2 : some (W.heap.size + 1) ≠ some (w3.heap.size + 1) := fun e => by have := Option.some.inj e; omega
    have n3 : some (W.heap.size + 1 + 1) ≠ some (w3.heap.size + 1) := fun e => by have := Option.some.inj e; omega
    have n4 : some (w3.heap.size) ≠ some (w3.heap.size + 1) := fun e => by have := Option.some.inj e; omega
    have HN1 := hide n1
    have HN2 := hide n2
    have HN3 := hide n3
    have HN4 := hide n4
    clear n1 n2 n3 n4 Mk
    have SW := btrans S3 SV
    have S3s := S3.size
    have HgV := hide (gbelow (some (w3.heap.size + 1)) SW)
    generalize ((w3.alloc (.cells #[.int .i64 g, .int .i64 N, .int .i64 N, .slice (some ⟨w3.heap.size + 1, 0, none⟩) k k] 24)).alloc (.cells (madeCells #[.int .i64 0] k) 3)).drew = V at *
    have HD := hide (fun (U : World) (hU : V.grownBy U (some (w3.heap.size + 1))) => r4_grown (R4.keep D0 hz SW) (Nat.lt_of_lt_of_le hz SW.size) hU (unhide HN3))
    have HIV := hide IV
    have HOV := hide OV
    have HSW := hide SW
    have hzV : w3.heap.size + 2 ≤ V.heap.size := by have := IV.1; have := OV.1; omega
    clear IV OV SV SW S3
    have hmk0 := True.intro
    clear hmk ek
    go_wp2
    go_loopw [10] (fun a wr => ∃ c : Nat, c ≤ N ∧ a = .int .i64 c ∧ IRow wr (w3.heap.size + 1) k (mcF tgt src (c * N)) ∧ V.grownBy wr (some (w3.heap.size + 1))) (fun a _ => N - (intOf a).toNat)
    case atStart => exact ⟨0, Nat.zero_le _, rfl, by rw [Nat.zero_mul]; exact unhide HIV, World.grownBy.refl _ _⟩
    case round =>
      obtain ⟨c, hc, rfl, hI, hgr⟩ := hrel
      by_cases hlt : c < N
      · have hlt' : (c : Int) < (N : Int) := by omega
        have HI0 := hide hI
        have Hg0 := hide hgr
        clear hI hgr
        go_wp2
        obtain ⟨wo, rfl⟩ : ∃ wo : World, wo = wr := ⟨_, rfl⟩
        go_loopw [11] (fun v wr2 => ∃ a : Nat, a ≤ N ∧ v = .int .i64 a ∧ IRow wr2 (w3.heap.size + 1) k (mcF tgt src (c * N + a)) ∧ V.grownBy wr2 (some (w3.heap.size + 1))) (fun v _ => N - (intOf v).toNat)
        case atStart => exact ⟨0, Nat.zero_le _, rfl, unhide HI0, unhide Hg0⟩
        case round =>
          clear HI0 Hg0
          obtain ⟨a, ha, rfl, hI, hgr⟩ := hrel
          by_cases hla : a < N
          · have hla' : (a : Int) < (N : Int) := by omega
            have HO1 := hide (unhide HO a c hla hlt)
            have e1 := unhide Htg a c hla
            have e2 := unhide Hsr a c hla
            have Hm1 := hide (unhide Hmc (c * N + a))
            rw [e1, e2] at Hm1
            have hcl := unhide Hcl (mv g t f x y a c).1 (mv g t f x y a c).2
            rw [Int.add_zero, Int.add_zero] at hcl
            clear e1 e2
            generalize (mv g t f x y a c).1 = X at *
            generalize (mv g t f x y a c).2 = Y at *
            have HA1 := hide (fun U (hU : w0.grownBy U (some (w3.heap.size + 1))) (hn : some b ≠ some (w3.heap.size + 1)) => unhide HA U { (unhide Hr) with row := Row.grown (unhide Hr).row hU hn } a c)
            generalize P a c = pv at *
            have HOn1 := hide (fun U => unhide HOn U X Y)
            have hx := em_range X N hN1
            have hy := em_range Y N hN1
            have hy2 := Int.emod_lt_of_pos Y (show (0 : Int) < N by omega)
            generalize X % (N : Int) = zx at *
            generalize Y % (N : Int) = zy at *
            generalize cby N X Y 0 0 = j at *
            have hjk : j < k := by rw [unhide Hk]; exact hcl.1
            obtain ⟨zm, hzm⟩ : ∃ zm : Int, zm = zy * N := ⟨_, rfl⟩
            have hzm0 : 0 ≤ zm ∧ zm ≤ 576 := by
              rw [hzm]
              exact ⟨Int.mul_nonneg hy.1 (by omega), Int.le_trans (Int.mul_le_mul hy.2 (show (N : Int) ≤ 24 by omega) (by omega) (by omega)) (by decide)⟩
            have q1 : IntKind.i64.wrap (zy * (N : Int)) = zm := by
              rw [← hzm]; exact (Go.IntWalk.i64_left _).trans (Go.IntWalk.wrap64_in _ (by omega))
            have q2 : IntKind.i64.wrap (zm + zx) = (j : Int) := by
              rw [← hcl.2, ← hzm]; exact (Go.IntWalk.i64_left _).trans (Go.IntWalk.wrap64_in _ (by omega))
            have Hq1 := hide q1
            have Hq2 := hide q2
            have hj0 : (0 : Int) ≤ (j : Int) := by omega
            have hj2 : (j : Int) < (k : Int) := by omega
            clear q1 q2 hzm hcl hy2
            have hVr := hgr.size
            have cc := unhide HC0
            have c5 := gcell (gtrans (unhide HgV) hgr) cc.1 (unhide HN1) cc.2.1
            have mm := unhide HM0
            have g4 := gtrans (unhide HgV) hgr
            have m5 : CM wr (W.heap.size + 1) t f x y := ⟨gcell g4 mm.1 (unhide HN2) mm.2.1.1, gcell g4 mm.1 (unhide HN2) mm.2.1.2.1, gcell g4 mm.1 (unhide HN2) mm.2.1.2.2.1, gcell g4 mm.1 (unhide HN2) mm.2.1.2.2.2⟩
            obtain ⟨m50, m51, m52, m53⟩ := m5
            clear cc mm
            go_wp2_with fail
            clear c5 m50 m51 m52 m53
            refine (unhide HO1 _).mono ?_
            rintro e w5 ⟨rfl, hb⟩
            have g5 := gtrans g4 (gbelow (some (w3.heap.size + 1)) hb)
            have hr5 := gtrans hgr (gbelow (some (w3.heap.size + 1)) hb)
            have I5 := hI.keep hb
            clear hb g4 hgr hI
            go_wp2_with fail
            refine (unhide HOn1 _).mono ?_
            rintro e w6 ⟨rfl, hb⟩
            have hb6 := bal (o := .cells #[.int .i64 zx, .int .i64 zy] 33) hb
            have g6 := gtrans g5 (gbelow (some (w3.heap.size + 1)) hb6)
            have hr6 := gtrans hr5 (gbelow (some (w3.heap.size + 1)) hb6)
            have I6 := I5.keep hb6
            have Z6 := Own.new w6 zx zy 33
            have n5 : some w6.heap.size ≠ some (w3.heap.size + 1) := fun e => by have := Option.some.inj e; have := I5.1; have := hb.size; omega
            clear hb hb6 g5 hr5 I5
            go_wp2_with fail
            generalize w6.alloc (.cells #[.int .i64 zx, .int .i64 zy] 33) = w7 at *
            have cc := unhide HC0
            have ov := unhide HOV
            have Mk := hide (show ∀ U, w7.grownBy U (some (w3.heap.size + 1)) → (U.cell? ⟨W.heap.size, 0, none⟩ = some (.int .i64 g) ∧ U.cell? ⟨W.heap.size, 1, none⟩ = some (.int .i64 w) ∧ U.cell? ⟨W.heap.size, 2, none⟩ = some (.int .i64 h) ∧ U.cell? ⟨W.heap.size, 3, none⟩ = some (.slice p n cap)) ∧ U.cell? ⟨w3.heap.size, 3, none⟩ = some (.slice (some ⟨w3.heap.size + 1, 0, none⟩) k k) ∧ (U.cell? ⟨w6.heap.size, 0, none⟩ = some (.int .i64 zx) ∧ U.cell? ⟨w6.heap.size, 1, none⟩ = some (.int .i64 zy)) from fun U hU =>
              ⟨⟨gcell (gtrans g6 hU) cc.1 (unhide HN1) cc.2.1, gcell (gtrans g6 hU) cc.1 (unhide HN1) cc.2.2.1, gcell (gtrans g6 hU) cc.1 (unhide HN1) cc.2.2.2.1, gcell (gtrans g6 hU) cc.1 (unhide HN1) cc.2.2.2.2⟩, gcell (gtrans hr6 hU) ov.1 (unhide HN4) ov.2.2.2.2, Z6.grown2 hU n5⟩)
            have HA2 := hide (fun U (hU : w7.grownBy U (some (w3.heap.size + 1))) => unhide HA1 U (gtrans g6 hU) (fun e => by have := Option.some.inj e; have := (unhide Hr).row.1; omega))
            have HI6 := hide I6
            have Hg6 := hide g6
            have Hr6 := hide hr6
            have q1 := unhide Hq1
            have q2 := unhide Hq2
            clear cc ov Z6 n5 I6 g6 hr6
            have hb2 := True.intro
            go_region_held3 (fun U => (w7.grownBy U (some (w3.heap.size + 1)) ∧ w7.heap.size ≤ U.heap.size) ∧ ((U.cell? ⟨W.heap.size, 0, none⟩ = some (.int .i64 g) ∧ U.cell? ⟨W.heap.size, 1, none⟩ = some (.int .i64 w) ∧ U.cell? ⟨W.heap.size, 2, none⟩ = some (.int .i64 h) ∧ U.cell? ⟨W.heap.size, 3, none⟩ = some (.slice p n cap)) ∧ U.cell? ⟨w3.heap.size, 3, none⟩ = some (.slice (some ⟨w3.heap.size + 1, 0, none⟩) k k) ∧ (U.cell? ⟨w6.heap.size, 0, none⟩ = some (.int .i64 zx) ∧ U.cell? ⟨w6.heap.size, 1, none⟩ = some (.int .i64 zy))) ∧ (U.cell? ⟨w3.heap.size + 1, j, none⟩ = some (hat U (w3.heap.size + 1) j) ∧ U.frozen? ⟨w3.heap.size + 1, j, none⟩ = false))
              (first
                | (exact ⟨⟨gbelow _ (Below.drew (Below.refl _ _)), Nat.le_refl _⟩, unhide Mk _ (gbelow _ (Below.drew (Below.refl _ _))), hat_of (((unhide HI6).keep (Below.drew (Below.refl _ _))).2 j hjk).1, (((unhide HI6).keep (Below.drew (Below.refl _ _))).2 j hjk).2⟩)
                | (exact ⟨⟨gbelow _ hb2, hb2.size⟩, unhide Mk _ (gbelow _ hb2), hat_of (((unhide HI6).keep hb2).2 j hjk).1, (((unhide HI6).keep hb2).2 j hjk).2⟩)
                | (exact ⟨⟨gset (gbelow _ hb2) j _, by simpa using hb2.size⟩, unhide Mk _ (gset (gbelow _ hb2) j _), hat_of ((((unhide HI6).keep hb2).set j _ hjk).2 j hjk).1, ((((unhide HI6).keep hb2).set j _ hjk).2 j hjk).2⟩))
              (first
                | (go_at_call 48; refine (unhide HA2 _ (gbelow _ (Below.drew (Below.refl _ _)))).mono ?_; rintro e w8 ⟨rfl, hb⟩; have hb2 := btrans (Below.drew (Below.refl w7.heap.size w7)) hb))
            have I8 := ((unhide HI6).keep hb2).set j pv hjk
            have hr8 := gtrans (unhide Hr6) (gset (gbelow (some (w3.heap.size + 1)) hb2) j (.int .i64 pv))
            clear Mk hb q1 q2 HI6 Hg6 Hr6
            go_wp2
            go_roundw
            case rel => exact ⟨a + 1, by omega, by go_num, by rw [show c * N + (a + 1) = c * N + a + 1 from rfl, unhide Hm1]; exact I8, hr8⟩
            case measure => simp [intOf]; omega
          · have e : a = N := by omega
            subst e
            have cl : ¬ ((a : Int) < (a : Int)) := by omega
            have Hs := hide (show (c + 1) * a = c * a + a by rw [Nat.add_mul, Nat.one_mul])
            have HI1 := hide hI
            have Hg1 := hide hgr
            clear hI hgr
            go_wp2
            go_roundw
            case rel => exact ⟨c + 1, by omega, by go_num, by rw [unhide Hs]; exact unhide HI1, unhide Hg1⟩
            case measure => simp [intOf]; omega
      · have e : c = N := by omega
        subst e
        have cl : ¬ ((c : Int) < (c : Int)) := by omega
        have ov := unhide HOV
        have o0 := gcell hgr ov.1 (unhide HN4) ov.2.1
        have o1 := gcell hgr ov.1 (unhide HN4) ov.2.2.1
        have o2 := gcell hgr ov.1 (unhide HN4) ov.2.2.2.1
        have o3 := gcell hgr ov.1 (unhide HN4) ov.2.2.2.2
        have HS := hide (btrans (unhide HB) ((unhide HSW).grown hgr (unhide HSW).size (fun k hk => by cases hk; have := (unhide HSW).size; have := S3s; omega)))
        have hzr : W.heap.size + 1 + 1 < wr.heap.size := by have := hgr.size; omega
        have Hrow := hide hI.row
        obtain ⟨⟨d0, d1, d2, d3⟩, f0, f1, f2, f3⟩ := unhide HD wr hgr
        have hne : W.heap.size + 1 + 1 ≠ w3.heap.size + 1 := by omega
        clear ov hgr hI
        go_wp2
        refine bodyPost_ret (v := .tuple #[Ch.ch g c c (some ⟨w3.heap.size + 1, 0, none⟩) k k, .int .i64 0]) (by simp [results, Try.results23, go_sem, d0, d1, d2, d3]) rfl ⟨_, by rw [unhide Hk], ?_, bset (bset (bset (bset (unhide HS) (by dsimp only; omega)) (by dsimp only; omega)) (by dsimp only; omega)) (by dsimp only; omega)⟩
        rw [← unhide Hk] at Hrow ⊢
        exact row_far (row_far (row_far (row_far (unhide Hrow) hne) hne) hne) hne
end Go.Proofs.Ytagiekbijmdmdaa
