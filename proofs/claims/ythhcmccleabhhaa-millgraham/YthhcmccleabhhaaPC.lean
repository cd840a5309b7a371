/-
  What is asked first; MillGraham's walk.
-/
import Derived.Test.YthhcmccleabhhaaPB
import Derived.Deep.RegionWith
namespace Go.Proofs.Ythhcmccleabhhaa
open Go.RowKit

theorem sm_max {f : Nat → Nat} {c : Nat} (n N : Nat) (hN : n ≤ N) (h : ∀ k, k < n → f k ≤ c) : sm f n ≤ N * c := Nat.le_trans (sm_most n h) (Nat.mul_le_mul_right _ hN)
def p34 : Nat → Nat := fun k => if k = 0 then 3 else 4
theorem is34 (W : World) : Is (W.alloc (.cells #[.int .i64 3, .int .i64 4] 3)) (some ⟨W.heap.size, 0, none⟩) 2 (fun k => (p34 k : Int)) :=
  .inr ⟨W.heap.size, 0, rfl, by simp, fun k hk => by
    obtain h | h : k = 0 ∨ k = 1 := by omega
    · subst h; simp [go_sem, p34]
    · subst h; simp [go_sem, p34]⟩
set_option maxHeartbeats 1000000 in
theorem alive_any (W : World) : Calls Try.prog 12 #[] W fun e V => e = .returned (.bool true) ∧ Below W.heap.size W V := by
  have HC := hide (plan_ok (some ⟨W.heap.size, 0, none⟩) 2 2 2 1 rfl (by omega) (by omega) p34 (fun k _ => by unfold p34; split <;> omega) _ (is34 W))
  have Hb := hide (bnew W (.cells #[.int .i64 3, .int .i64 4] 3))
  rw [show la 1 p34 2 = 4 by decide] at HC
  go_enter Try.func12, Try.ntmps12
  go_wp2_with fail
  refine (unhide HC).mono ?_
  rintro e w1 ⟨q, cp, rfl, -, hb1⟩
  have Hb2 := hide (btrans (unhide Hb) hb1)
  clear hb1 HC Hb
  go_wp2
  go_ret
  exact ⟨rfl, unhide Hb2⟩

set_option maxRecDepth 100000 in
set_option maxHeartbeats 4000000 in
theorem graham_any (q : Option Addr) (n cap : Nat) (k : Int) (f : Nat → Int) (W : World) (hP : Is W q n f) : Calls Try.prog 5 #[.slice q n cap, .int .i64 k] W fun e V => e = .returned (.bool true) ∧ Below W.heap.size W V := by
  by_cases he : wE n k ≠ 0 ∨ aC n f = false
  · have HC := hide (fun V (hb : Below W.heap.size W V) => plan_err q n cap k f V (hP.keep hb) he)
    obtain ⟨er, hr⟩ : ∃ er, er = (if wE n k ≠ 0 then wE n k else 3) := ⟨_, rfl⟩
    rw [← hr] at HC
    have h1 : (er != 0) = true := by
      rw [hr]
      by_cases c : wE n k = 0
      · rw [if_neg (by simp [c])]; rfl
      · rw [if_pos c]; simpa using c
    clear hP he hr
    go_enter Try.func5, Try.ntmps5
    go_wp2_with fail
    refine (alive_any _).mono ?_
    rintro e w1 ⟨rfl, hb1⟩
    have HC1 := hide (unhide HC _ hb1)
    have Hb1 := hide hb1
    clear hb1 HC
    go_wp2_with fail
    refine (unhide HC1).mono ?_
    rintro e w2 ⟨q, cp, rfl, -, hb2⟩
    have Hb2 := hide (btrans (unhide Hb1) hb2)
    clear hb2 HC1 Hb1
    go_wp2
    go_ret
    exact ⟨rfl, unhide Hb2⟩
  · have h0 : wE n k = 0 := Classical.byContradiction fun h => he (.inl h)
    have h1 : aC n f = true := by cases h : aC n f; exact absurd (.inr h) he; rfl
    have hn : n ≤ 64 := by
      unfold wE at h0
      by_cases c : 64 < n
      · rw [if_pos c] at h0; cases h0
      · omega
    have hk : 1 ≤ k ∧ k ≤ 16 := by
      unfold wE at h0
      rw [if_neg (by omega)] at h0
      by_cases c : k < 1 ∨ 16 < k
      · rw [if_pos c] at h0; cases h0
      · omega
    obtain ⟨L, rfl⟩ : ∃ L : Nat, k = ((L + 1 : Nat) : Int) := ⟨(k - 1).toNat, by omega⟩
    obtain ⟨m, hm⟩ : ∃ m, m = L + 1 := ⟨_, rfl⟩
    rw [← hm] at hk ⊢
    have hm16 : m ≤ 16 := by omega
    have hf := of_decide_eq_true h1
    obtain ⟨p, hp⟩ : ∃ p : Nat → Nat, ∀ j, j < n → f j = (p j : Int) := ⟨fun j => (f j).toNat, fun j hj => by have := hf j hj; show f j = ((f j).toNat : Int); omega⟩
    have hpM : ∀ j, j < n → p j ≤ 1048576 := fun j hj => by have := hf j hj; have := hp j hj; omega
    have hP2 := hP.congr hp
    have HC := hide (fun V (hb : Below W.heap.size W V) => plan_ok q n cap m L hm hm16 hn p hpM V (hP2.keep hb))
    have HP := hide hP2
    have Hp := hide hpM
    have Hm := hide hm
    have Hgr := hide (la_graham L p (n := n) (M := mx p n) (fun k hk => mx_ge n k hk))
    have Hal := hide (la_all L p n)
    have Hmo := hide (la_most (L := L) (p := p) (n := n))
    have Hea := hide (fun i => la_each (L := L) (p := p) (n := n) (i := i))
    have Hlm := hide (show la L p n ≤ 67108864 from mx_le (L + 1) (fun k _ => Nat.le_trans (ld_max L p 1048576 n hpM k) (Nat.mul_le_mul_right _ hn)))
    obtain ⟨t, ht⟩ : ∃ t, t = la L p n := ⟨_, rfl⟩
    rw [← ht] at HC Hgr Hal Hmo Hea Hlm
    clear hP hP2 hpM hp hf h0 h1 he hm ht hk
    go_enter Try.func5, Try.ntmps5
    go_wp2_with fail
    refine (alive_any _).mono ?_
    rintro e w1 ⟨rfl, hb1⟩
    have HC1 := hide (unhide HC _ hb1)
    have Hb1 := hide hb1
    clear hb1 HC
    go_wp2_with fail
    refine (unhide HC1).mono ?_
    rintro e w2 ⟨qj, cj, rfl, hJ, hb2⟩
    have HJ := hide hJ
    have Hb2 := hide (btrans (unhide Hb1) hb2)
    have hnn : ((n : Int) != (n : Int)) = false := by simp
    clear hb2 HC1 Hb1 hJ
    go_wp2
    go_loopw [8, 9, 31] (fun s g i wr => ∃ x : Nat, x ≤ n ∧ i = .int .i64 (x : Int) ∧ s = .int .i64 ((sm p x : Nat) : Int) ∧ g = .int .i64 ((mx p x : Nat) : Int) ∧ Below w2.heap.size w2 wr) (fun _ _ i _ => n - (intOf i).toNat)
    case atStart => exact ⟨0, Nat.zero_le _, rfl, rfl, rfl, Below.refl _ _⟩
    case round =>
      obtain ⟨x, hx, rfl, rfl, rfl, hb⟩ := hrel
      by_cases hlt : x < n
      · obtain ⟨ja, jo, rfl, k0, k1⟩ := ((unhide HJ).keep hb).at hlt
        have q0 : (x : Int) < (n : Int) := by omega
        have q1 : (0 : Int) ≤ (x : Int) := by omega
        have HB := hide (B2.new wr (lo L p x : Int) (fr L p x : Int) 45)
        have Hb1 := hide (bal (o := .cells #[.int .i64 (lo L p x : Int), .int .i64 (fr L p x : Int)] 45) hb)
        have Hone := hide (fun y (hy : y < x) => one_job (L := L) (p := p) hy)
        have Hmon := hide (fun y (hy : y < x) => fr_mono L p (i := y) (j := x) (by omega))
        have Hlo := hide (show lo L p x < m by have := lo_le L p x; have := unhide Hm; omega)
        have Hex := hide (unhide Hea x hlt)
        have Hpx := hide (unhide Hp x hlt)
        have Hs := hide (show sm p (x + 1) = sm p x + p x from rfl)
        have Hg := hide (show mx p (x + 1) = if mx p x < p x then p x else mx p x from rfl)
        have Hsm := hide (show sm p x ≤ 67108864 from sm_max x 64 (by omega) (fun k hk => unhide Hp k (by omega)))
        clear hb
        obtain ⟨a, ha⟩ : ∃ a : Int, a = ((lo L p x : Nat) : Int) := ⟨_, rfl⟩
        obtain ⟨b, hb⟩ : ∃ b : Int, b = ((fr L p x : Nat) : Int) := ⟨_, rfl⟩
        have ha2 : 0 ≤ a ∧ a < (m : Int) := by have := unhide Hlo; omega
        have hb2 : 0 ≤ b ∧ b + (p x : Int) ≤ (t : Int) := by have := unhide Hex; omega
        have Hone2 := hide (show ∀ y, y < x → ((lo L p y : Nat) : Int) = a → ((fr L p y : Nat) : Int) + (p y : Int) ≤ b from fun y hy e => by have := unhide Hone y hy (by omega); omega)
        have Hmon2 := hide (show ∀ y, y < x → ((fr L p y : Nat) : Int) ≤ b from fun y hy => by have := unhide Hmon y hy; omega)
        rw [← ha] at k0 HB Hb1
        rw [← hb] at k1 HB Hb1
        clear ha hb Hone Hmon Hlo Hex
        go_upto_region 12 with fail
        generalize wr.alloc (.cells #[.int .i64 a, .int .i64 b] 45) = w3 at *
        generalize wr.heap.size = nb at *
        clear k0 k1
        have i0 := (unhide HB).2.1
        have i1 := (unhide HB).2.2
        obtain ⟨pa, po, rfl, u0⟩ := ((unhide HP).keep (btrans (unhide Hb2) (unhide Hb1))).at hlt
        obtain ⟨u, hu⟩ : ∃ u, u = p x := ⟨_, rfl⟩
        obtain ⟨A, hA⟩ : ∃ A, A = sm p x := ⟨_, rfl⟩
        obtain ⟨G, hG⟩ : ∃ G, G = mx p x := ⟨_, rfl⟩
        rw [← hu] at u0 hb2 Hpx Hs Hg
        rw [← hA] at Hs Hsm ⊢
        rw [← hG] at Hg ⊢
        have Hu := hide hu
        clear hu hA hG
        obtain ⟨c, hc⟩ : ∃ c : Int, c = b + (u : Int) := ⟨_, rfl⟩
        have e1 : b + (u : Int) = c := hc.symm
        have hlm := unhide Hlm
        have e2 : IntKind.i64.wrap c = c := Go.IntWalk.i64_in _ (by omega)
        have c0 : decide (a < 0) = false := decide_eq_false (by omega)
        have c1 : decide ((m : Int) ≤ a) = false := decide_eq_false (by omega)
        have c2 : decide (b < 0) = false := decide_eq_false (by omega)
        have c3 : decide ((t : Int) < c) = false := decide_eq_false (by omega)
        have Hab := hide (And.intro ha2 hb2)
        clear hc hlm ha2 hb2
        go_wp2_with fail
        go_quiet (fail)
        have Hb3 := hide (btrans (unhide Hb1) (Joins.below_draws w3.heap.size w3 nq))
        have HB3 := hide ((unhide HB).keep (Joins.below_draws w3.heap.size w3 nq))
        clear i0 i1 u0 e1 e2 c0 c1 c2 c3 Hb1 HB
        generalize w3.drewN nq = w4 at *
        go_upto_region 14 with fail
        obtain ⟨pa2, po2, hq2, u0⟩ := ((unhide HP).keep (btrans (unhide Hb2) (unhide Hb3))).at hlt
        cases hq2
        rw [← unhide Hu] at u0
        obtain ⟨A', hA'⟩ : ∃ A', A' = A + u := ⟨_, rfl⟩
        have e1 : (A : Int) + (u : Int) = (A' : Int) := by omega
        have hsm := unhide Hsm
        have hpx := unhide Hpx
        have e2 : (A' : Int) ≤ 68157440 := by omega
        have HA' := hide (show sm p (x + 1) = A' by rw [unhide Hs, hA'])
        obtain ⟨G', hG'⟩ : ∃ G', G' = if G < u then u else G := ⟨_, rfl⟩
        have HG' := hide (show mx p (x + 1) = G' by rw [unhide Hg, hG'])
        have HGe := hide hG'
        clear hA' hsm hpx Hs Hg hG'
        have Hin := hide (show ∀ y, y < x → ((lo L p y : Nat) : Int) = a → ((fr L p y : Nat) : Int) + (p y : Int) ≤ b from unhide Hone2)
        clear Hone2
        by_cases cg : G < u
        · have cg' : (G : Int) < (u : Int) := by omega
          have eG := unhide HGe
          rw [if_pos cg] at eG
          have HeG := hide eG
          clear eG HGe
          go_wp2
          clear u0 e1
          have Hb4 := hide (unhide Hb3)
          clear Hb3
          go_loopw [12] (fun k wr => ∃ y : Nat, y ≤ x ∧ k = .int .i64 (y : Int) ∧ Below w4.heap.size w4 wr) (fun k _ => x - (intOf k).toNat)
          case atStart => exact ⟨0, Nat.zero_le _, rfl, Below.refl _ _⟩
          case round =>
            obtain ⟨y, hy, rfl, hb5⟩ := hrel
            by_cases hlt2 : y < x
            · have hyn : y < n := by omega
              obtain ⟨ja2, jo2, hq3, k0, k1⟩ := ((unhide HJ).keep (btrans (unhide Hb4) hb5)).at hyn
              cases hq3
              obtain ⟨pa3, po3, hq4, v0⟩ := ((unhide HP).keep (btrans (btrans (unhide Hb2) (unhide Hb4)) hb5)).at hyn
              cases hq4
              have i0 := ((unhide HB3).keep hb5).2.1
              have i1 := ((unhide HB3).keep hb5).2.2
              have y0 : (y : Int) < (x : Int) := by omega
              have y1 : (0 : Int) ≤ (y : Int) := by omega
              have y2 : (y : Int) < (n : Int) := by omega
              have hin := unhide Hin y hlt2
              have hmon := unhide Hmon2 y hlt2
              have hpy := unhide Hp y hyn
              have Hb5 := hide hb5
              have hab := unhide Hab
              have hlm := unhide Hlm
              have hfy : (0 : Int) ≤ ((fr L p y : Nat) : Int) := by omega
              clear hb5
              obtain ⟨d, hd⟩ : ∃ d : Int, d = ((lo L p y : Nat) : Int) := ⟨_, rfl⟩
              obtain ⟨g, hg⟩ : ∃ g : Int, g = ((fr L p y : Nat) : Int) := ⟨_, rfl⟩
              obtain ⟨v, hv⟩ : ∃ v : Nat, v = p y := ⟨_, rfl⟩
              rw [← hd] at k0 hin
              rw [← hg] at k1 hin hmon hfy
              rw [← hv] at v0 hin hpy
              have Hfr := hide hg.symm
              clear hd hg hv
              obtain ⟨h, hh⟩ : ∃ h : Int, h = g + (v : Int) := ⟨_, rfl⟩
              have e1 : g + (v : Int) = h := hh.symm
              have e2 : IntKind.i64.wrap h = h := Go.IntWalk.i64_in _ (by omega)
              have g1 : decide (b < g) = false := decide_eq_false (by omega)
              have Hin2 := hide (show d = a → h ≤ b by omega)
              clear hin hmon hpy hab hlm hh hfy
              by_cases cd : d = a
              · have cd' : (d = a) = True := by simp [cd]
                have g2 : decide (b < h) = false := decide_eq_false (by have := unhide Hin2 cd; omega)
                clear cd
                go_wp2_with fail
                go_quiet (fail)
                have Hb6 := hide (btrans (unhide Hb5) (Joins.below_draws wr.heap.size wr nq))
                obtain ⟨ja4, jo4, hq5, k0, k1⟩ := ((unhide HJ).keep (btrans (unhide Hb4) (unhide Hb6))).at hyn
                cases hq5
                have i0 := ((unhide HB3).keep (unhide Hb6)).2.1
                have i1 := ((unhide HB3).keep (unhide Hb6)).2.2
                have f0 := unhide Hfr
                rw [f0] at k1
                clear k0 v0 g2 e1 e2 cd' f0
                generalize wr.drewN nq = w6 at *
                go_wp2_with fail
                go_quiet (fail)
                have Hb7 := hide (btrans (unhide Hb6) (Joins.below_draws w6.heap.size w6 nq))
                generalize w6.drewN nq = w7 at *
                clear k1 i0 i1 g1
                go_wp2
                go_roundw
                case rel => exact ⟨y + 1, by omega, by go_num, unhide Hb7⟩
                case measure => simp [intOf]; omega
              · have cd' : (d = a) = False := by simp [cd]
                clear cd
                go_wp2_with fail
                go_quiet (fail)
                have Hb6 := hide (btrans (unhide Hb5) (Joins.below_draws wr.heap.size wr nq))
                obtain ⟨ja4, jo4, hq5, k0, k1⟩ := ((unhide HJ).keep (btrans (unhide Hb4) (unhide Hb6))).at hyn
                cases hq5
                have i0 := ((unhide HB3).keep (unhide Hb6)).2.1
                have i1 := ((unhide HB3).keep (unhide Hb6)).2.2
                have f0 := unhide Hfr
                rw [f0] at k1
                clear k0 v0 e1 e2 cd' f0
                generalize wr.drewN nq = w6 at *
                go_wp2_with fail
                go_quiet (fail)
                have Hb7 := hide (btrans (unhide Hb6) (Joins.below_draws w6.heap.size w6 nq))
                generalize w6.drewN nq = w7 at *
                clear k1 i0 i1 g1
                go_wp2
                go_roundw
                case rel => exact ⟨y + 1, by omega, by go_num, unhide Hb7⟩
                case measure => simp [intOf]; omega
            · obtain rfl : x = y := by omega
              have Hb6 := hide (btrans (unhide Hb4) hb5)
              have cl : ¬ ((x : Int) < (x : Int)) := by omega
              clear hb5
              go_wp2
              go_roundw
              case rel => exact ⟨x + 1, by omega, by go_num, by rw [unhide HA'], by rw [unhide HG', unhide HeG], unhide Hb6⟩
              case measure => simp [intOf]; omega
        · have cg' : ¬ (G : Int) < (u : Int) := by omega
          have eG := unhide HGe
          rw [if_neg cg] at eG
          have HeG := hide eG
          clear eG HGe
          go_wp2
          clear u0 e1
          have Hb4 := hide (unhide Hb3)
          clear Hb3
          go_loopw [12] (fun k wr => ∃ y : Nat, y ≤ x ∧ k = .int .i64 (y : Int) ∧ Below w4.heap.size w4 wr) (fun k _ => x - (intOf k).toNat)
          case atStart => exact ⟨0, Nat.zero_le _, rfl, Below.refl _ _⟩
          case round =>
            obtain ⟨y, hy, rfl, hb5⟩ := hrel
            by_cases hlt2 : y < x
            · have hyn : y < n := by omega
              obtain ⟨ja2, jo2, hq3, k0, k1⟩ := ((unhide HJ).keep (btrans (unhide Hb4) hb5)).at hyn
              cases hq3
              obtain ⟨pa3, po3, hq4, v0⟩ := ((unhide HP).keep (btrans (btrans (unhide Hb2) (unhide Hb4)) hb5)).at hyn
              cases hq4
              have i0 := ((unhide HB3).keep hb5).2.1
              have i1 := ((unhide HB3).keep hb5).2.2
              have y0 : (y : Int) < (x : Int) := by omega
              have y1 : (0 : Int) ≤ (y : Int) := by omega
              have y2 : (y : Int) < (n : Int) := by omega
              have hin := unhide Hin y hlt2
              have hmon := unhide Hmon2 y hlt2
              have hpy := unhide Hp y hyn
              have Hb5 := hide hb5
              have hab := unhide Hab
              have hlm := unhide Hlm
              have hfy : (0 : Int) ≤ ((fr L p y : Nat) : Int) := by omega
              clear hb5
              obtain ⟨d, hd⟩ : ∃ d : Int, d = ((lo L p y : Nat) : Int) := ⟨_, rfl⟩
              obtain ⟨g, hg⟩ : ∃ g : Int, g = ((fr L p y : Nat) : Int) := ⟨_, rfl⟩
              obtain ⟨v, hv⟩ : ∃ v : Nat, v = p y := ⟨_, rfl⟩
              rw [← hd] at k0 hin
              rw [← hg] at k1 hin hmon hfy
              rw [← hv] at v0 hin hpy
              have Hfr := hide hg.symm
              clear hd hg hv
              obtain ⟨h, hh⟩ : ∃ h : Int, h = g + (v : Int) := ⟨_, rfl⟩
              have e1 : g + (v : Int) = h := hh.symm
              have e2 : IntKind.i64.wrap h = h := Go.IntWalk.i64_in _ (by omega)
              have g1 : decide (b < g) = false := decide_eq_false (by omega)
              have Hin2 := hide (show d = a → h ≤ b by omega)
              clear hin hmon hpy hab hlm hh hfy
              by_cases cd : d = a
              · have cd' : (d = a) = True := by simp [cd]
                have g2 : decide (b < h) = false := decide_eq_false (by have := unhide Hin2 cd; omega)
                clear cd
                go_wp2_with fail
                go_quiet (fail)
                have Hb6 := hide (btrans (unhide Hb5) (Joins.below_draws wr.heap.size wr nq))
                obtain ⟨ja4, jo4, hq5, k0, k1⟩ := ((unhide HJ).keep (btrans (unhide Hb4) (unhide Hb6))).at hyn
                cases hq5
                have i0 := ((unhide HB3).keep (unhide Hb6)).2.1
                have i1 := ((unhide HB3).keep (unhide Hb6)).2.2
                have f0 := unhide Hfr
                rw [f0] at k1
                clear k0 v0 g2 e1 e2 cd' f0
                generalize wr.drewN nq = w6 at *
                go_wp2_with fail
                go_quiet (fail)
                have Hb7 := hide (btrans (unhide Hb6) (Joins.below_draws w6.heap.size w6 nq))
                generalize w6.drewN nq = w7 at *
                clear k1 i0 i1 g1
                go_wp2
                go_roundw
                case rel => exact ⟨y + 1, by omega, by go_num, unhide Hb7⟩
                case measure => simp [intOf]; omega
              · have cd' : (d = a) = False := by simp [cd]
                clear cd
                go_wp2_with fail
                go_quiet (fail)
                have Hb6 := hide (btrans (unhide Hb5) (Joins.below_draws wr.heap.size wr nq))
                obtain ⟨ja4, jo4, hq5, k0, k1⟩ := ((unhide HJ).keep (btrans (unhide Hb4) (unhide Hb6))).at hyn
                cases hq5
                have i0 := ((unhide HB3).keep (unhide Hb6)).2.1
                have i1 := ((unhide HB3).keep (unhide Hb6)).2.2
                have f0 := unhide Hfr
                rw [f0] at k1
                clear k0 v0 e1 e2 cd' f0
                generalize wr.drewN nq = w6 at *
                go_wp2_with fail
                go_quiet (fail)
                have Hb7 := hide (btrans (unhide Hb6) (Joins.below_draws w6.heap.size w6 nq))
                generalize w6.drewN nq = w7 at *
                clear k1 i0 i1 g1
                go_wp2
                go_roundw
                case rel => exact ⟨y + 1, by omega, by go_num, unhide Hb7⟩
                case measure => simp [intOf]; omega
            · obtain rfl : x = y := by omega
              have Hb6 := hide (btrans (unhide Hb4) hb5)
              have cl : ¬ ((x : Int) < (x : Int)) := by omega
              clear hb5
              go_wp2
              go_roundw
              case rel => exact ⟨x + 1, by omega, by go_num, by rw [unhide HA'], by rw [unhide HG', unhide HeG], unhide Hb6⟩
              case measure => simp [intOf]; omega
      · obtain rfl : n = x := by omega
        have cl : ¬ ((n : Int) < (n : Int)) := by omega
        have Hb3 := hide (btrans (unhide Hb2) hb)
        have hs : sm p n ≤ 67108864 := sm_max n 64 (by omega) (fun k hk => unhide Hp k hk)
        have hg : mx p n ≤ 1048576 := mx_le n (unhide Hp)
        have hgr := unhide Hgr
        have hal := unhide Hal
        have hmo := unhide Hmo
        have hlm := unhide Hlm
        have hm := unhide Hm
        rw [← hm] at hgr hal
        obtain ⟨A, hA⟩ : ∃ A, A = sm p n := ⟨_, rfl⟩
        obtain ⟨G, hG⟩ : ∃ G, G = mx p n := ⟨_, rfl⟩
        rw [← hA] at hs hgr hal ⊢
        rw [← hG] at hg hgr hmo ⊢
        obtain ⟨y, hy⟩ : ∃ y, y = m * t := ⟨_, rfl⟩
        obtain ⟨z, hz⟩ : ∃ z, z = L * G := ⟨_, rfl⟩
        rw [← hy] at hgr hal
        rw [← hz] at hgr
        have hy2 : y ≤ 16 * 67108864 := by rw [hy]; exact Nat.mul_le_mul hm16 hlm
        have hz2 : z ≤ 16 * 1048576 := by rw [hz]; exact Nat.mul_le_mul (by omega) hg
        have e4 : (m : Int) - 1 = (L : Int) := by omega
        obtain ⟨B, hB⟩ : ∃ B, B = A + z := ⟨_, rfl⟩
        have e5 : (A : Int) + (z : Int) = (B : Int) := by omega
        have f1 : (y : Int) ≤ (B : Int) := by omega
        have f1' : decide ((y : Int) ≤ (B : Int)) = true := decide_eq_true f1
        have f2 : (A : Int) ≤ (y : Int) := by omega
        have f2' : decide ((A : Int) ≤ (y : Int)) = true := decide_eq_true f2
        have f3 : (G : Int) ≤ (t : Int) := by omega
        have f3' : decide ((G : Int) ≤ (t : Int)) = true := decide_eq_true f3
        have b2 : (B : Int) ≤ 100000000 := by omega
        have b3 : (L : Int) ≤ 16 := by omega
        have E1 := hide (show wrap64 ((m : Int) * (t : Int)) = (y : Int) from by rw [← Int.natCast_mul, ← hy]; exact wnat _ (by omega))
        have E3 := hide (show wrap64 ((L : Int) * (G : Int)) = (z : Int) from by rw [← Int.natCast_mul, ← hz]; exact wnat _ (by omega))
        clear hb hs hg hgr hal hmo hlm hm hA hG hy hz hy2 hz2 hB Hgr Hal Hmo Hea Hlm Hm
        have e1 := unhide E1
        have e3 := unhide E3
        clear E1 E3
        go_wp2
        go_ret
        exact ⟨ret_bool (by simp), unhide Hb3⟩
end Go.Proofs.Ythhcmccleabhhaa
