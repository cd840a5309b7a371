/-
  GroupLattice: the law's walk.
-/
import Derived.Test.YtagiekbijmdmdaaLB
import Derived.Test.YtagiekbijmdmdaaHC
import Derived.Test.YtagiekbijmdmdaaGJ
import Derived.Test.YtagiekbijmdmdaaGL
namespace Go.Proofs.Ytagiekbijmdmdaa
open Go.RowKit

def LatIs (g w h : Int) (p : Option Addr) (n cap : Nat) (x y : Int) (W : World) : Prop :=
  Calls Try.prog 8 #[Ch.ch g w h p n cap, .agg #[.int .i64 x, .int .i64 y]] W fun e w' => e = .returned (.bool true) ∧ Below W.heap.size W w'
/-- turn and flip of the move ahead of the k-th -/
def pv (L : List Mv) : Nat → Option (Nat × Bool)
  | 0 => none
  | k + 1 => (L[k]?).map key

theorem kd_new (prev : Option (Nat × Bool)) (m : Mv) (l : List Mv) (h : prev ≠ some (key m)) : kd prev (m :: l) = 1 + kd (some (key m)) l := by simp [kd, h]
theorem kd_old (m : Mv) (l : List Mv) : kd (some (key m)) (m :: l) = kd (some (key m)) l := by simp [kd]

set_option maxHeartbeats 4000000 in
set_option maxRecDepth 100000 in
theorem lat_err (g w h : Int) (p : Option Addr) (n cap : Nat) (px : Nat → Int) (x y : Int) (W : World) (hc : Ch.Cells W p n px) (er : Int) (her : toE g w h n px = er) (hp : 1 ≤ er) : LatIs g w h p n cap x y W := by
  have HF := hide (fun V (hc : Ch.Cells V p n px) => finest_err g w h p n cap px V hc er her hp)
  have HM := hide (fun V (hc : Ch.Cells V p n px) => moves_err g w h p n cap px V hc er her hp)
  have HT := hide (fun V (hc : Ch.Cells V p n px) => torus_any g w h p n cap px V hc)
  have hN0 : toN g w h n px = 0 := by unfold toN; rw [if_neg (by omega)]
  rw [her, hN0] at HT
  have B0 := bal (o := .cells #[.int .i64 x, .int .i64 y] 33) (bal (o := .cells #[.int .i64 g, .int .i64 w, .int .i64 h, .slice p n cap] 24) (Below.refl W.heap.size W))
  have Hc := hide (hc.keep B0)
  have HB := hide B0
  have HC0 := hide ((Ch.OwnC.new W g w h p n cap 24).alloc (.cells #[.int .i64 x, .int .i64 y] 33))
  have hee : (er != 0) = true := by simp; omega
  clear hc B0 hp her hN0
  unfold LatIs
  go_enter Try.func8, Try.ntmps8
  go_wp2_with fail
  generalize (W.alloc (.cells #[.int .i64 g, .int .i64 w, .int .i64 h, .slice p n cap] 24)).alloc (.cells #[.int .i64 x, .int .i64 y] 33) = w0 at *
  refine (alive_any _).mono ?_
  rintro e w1 ⟨rfl, hb⟩
  have S1 := hb
  have c := ((unhide HC0).keep S1).2
  go_wp2_with fail
  clear c
  refine (unhide HF _ ((unhide Hc).keep S1)).mono ?_
  rintro e w2 ⟨rfl, hb⟩
  have S2 := btrans S1 (bal (o := .cells #[.int .i64 0, .int .i64 0] 33) (bal (o := .cells #[.int .i64 0, .int .i64 0] 33) hb))
  have c := ((unhide HC0).keep S2).2
  clear hb S1
  go_wp2_with fail
  clear c
  generalize (w2.alloc (.cells #[.int .i64 0, .int .i64 0] 33)).alloc (.cells #[.int .i64 0, .int .i64 0] 33) = w3 at *
  refine (unhide HM _ ((unhide Hc).keep S2)).mono ?_
  rintro e w4 ⟨rfl, hb⟩
  have S4 := btrans S2 hb
  have c := ((unhide HC0).keep S4).2
  clear hb S2
  go_wp2_with fail
  clear c
  refine (unhide HT _ ((unhide Hc).keep S4)).mono ?_
  rintro e w5 ⟨rfl, hb⟩
  have S5 := btrans S4 hb
  clear hb S4
  go_wp2
  go_ret
  exact ⟨ret_bool (by simp), btrans (unhide HB) S5⟩

set_option maxHeartbeats 8000000 in
set_option maxRecDepth 100000 in
theorem lat_plain (g w h : Int) (p : Option Addr) (n cap : Nat) (x y : Int) (N s u v : Nat) (L : List Mv) (kb : Bool) (ke : Int) (W : World) (hN : 1 ≤ N ∧ N ≤ 24)
    (Rc : World → Prop) (hRc : ∀ V V', Rc V → Below V.heap.size V V' → Rc V')
    (hs : 1 ≤ s ∧ s ≤ N) (hv : 1 ≤ v ∧ v ≤ N) (hu : u < s) (hvN : N % v = 0) (hcount : L.length * s * v = kd none L * N * N) (hL2 : L.length ≤ 6912)
    (H1 : ∀ V, Rc V → Calls Try.prog 15 #[Ch.ch g w h p n cap] V fun e w' => e = .returned (.tuple #[.agg #[.int .i64 s, .int .i64 0], .agg #[.int .i64 u, .int .i64 v], .int .i64 0]) ∧ Below V.heap.size V w')
    (H2 : ∀ V, Rc V → Calls Try.prog 12 #[Ch.ch g w h p n cap] V fun e w' => ∃ q cp, e = .returned (.tuple #[.slice (some ⟨q, 0, none⟩) L.length cp, .int .i64 0]) ∧ MRow w' q L ∧ Below V.heap.size V w')
    (H3 : ∀ V, Rc V → Calls Try.prog 10 #[Ch.ch g w h p n cap] V fun e w' => e = .returned (.tuple #[.int .i64 N, .int .i64 0]) ∧ Below V.heap.size V w')
    (H4 : ∀ V, Rc V → Calls Try.prog 20 #[Ch.ch g w h p n cap, .agg #[.int .i64 0, .bool false, .int .i64 x, .int .i64 y]] V fun e w' => e = .returned (.tuple #[.bool kb, .int .i64 ke]) ∧ Below V.heap.size V w')
    (hk : ke ≠ 0 ∨ ke = 0 ∧ (-1048576 ≤ x ∧ x ≤ 1048576) ∧ (-1048576 ≤ y ∧ y ≤ 1048576) ∧ kb = (decide (y % v = 0) && decide ((x - y / v * u) % s = 0)))
    (hc : Rc W) : LatIs g w h p n cap x y W := by
  have HK := hide hk
  clear hk
  have K1 := hide H1
  have K2 := hide H2
  have K3 := hide H3
  have K4 := hide H4
  have HRc := hide hRc
  have Hct := hide hcount
  have B0 := bal (o := .cells #[.int .i64 x, .int .i64 y] 33) (bal (o := .cells #[.int .i64 g, .int .i64 w, .int .i64 h, .slice p n cap] 24) (Below.refl W.heap.size W))
  have Hc := hide (hRc _ _ hc B0)
  have HB := hide B0
  have HC0 := hide ((Ch.OwnC.new W g w h p n cap 24).alloc (.cells #[.int .i64 x, .int .i64 y] 33))
  have Z0 := Own.new (W.alloc (.cells #[.int .i64 g, .int .i64 w, .int .i64 h, .slice p n cap] 24)) x y 33
  rw [World.size_alloc] at Z0
  have HZ0 := hide Z0
  clear hc B0 Z0 H1 H2 H3 H4 hRc hcount
  unfold LatIs
  go_enter Try.func8, Try.ntmps8
  go_wp2_with fail
  generalize (W.alloc (.cells #[.int .i64 g, .int .i64 w, .int .i64 h, .slice p n cap] 24)).alloc (.cells #[.int .i64 x, .int .i64 y] 33) = w0 at *
  refine (alive_any _).mono ?_
  rintro e w1 ⟨rfl, hb⟩
  have S1 := hb
  have c := ((unhide HC0).keep S1).2
  go_wp2_with fail
  clear c
  refine (unhide K1 _ (unhide HRc _ _ (unhide Hc) S1)).mono ?_
  rintro e w2 ⟨rfl, hb⟩
  have hb2 := bal (o := .cells #[.int .i64 u, .int .i64 v] 33) (bal (o := .cells #[.int .i64 s, .int .i64 0] 33) hb)
  have S2 := btrans S1 hb2
  have HA := hide ((Own.new w2 s 0 33).alloc (.cells #[.int .i64 u, .int .i64 v] 33))
  have A1 := Own.new (w2.alloc (.cells #[.int .i64 s, .int .i64 0] 33)) u v 33
  rw [World.size_alloc] at A1
  have HU := hide A1
  have c := ((unhide HC0).keep S2).2
  clear hb hb2 S1 A1 K1
  go_wp2_with fail
  clear c
  generalize (w2.alloc (.cells #[.int .i64 s, .int .i64 0] 33)).alloc (.cells #[.int .i64 u, .int .i64 v] 33) = w3 at *
  generalize w2.heap.size = ba at *
  refine (unhide K2 _ (unhide HRc _ _ (unhide Hc) S2)).mono ?_
  rintro e w4 ⟨q, cp, rfl, hm, hb⟩
  have S4 := btrans S2 hb
  have Hm4 := hide hm
  have HA4 := hide ((unhide HA).keep hb)
  have HU4 := hide ((unhide HU).keep hb)
  have c := ((unhide HC0).keep S4).2
  clear hb S2 hm HA HU K2
  go_wp2_with fail
  clear c
  refine (unhide K3 _ (unhide HRc _ _ (unhide Hc) S4)).mono ?_
  rintro e wB ⟨rfl, hb⟩
  have HS := hide (btrans S4 hb)
  have Hm := hide ((unhide Hm4).keep hb)
  have HA := hide ((unhide HA4).keep hb)
  have HU := hide ((unhide HU4).keep hb)
  clear hb S4 Hm4 HA4 HU4 K3
  have a := (unhide HA).2.1
  have b := (unhide HU).2.1
  have d1 : decide ((s : Int) < 1) = false := by simp; omega
  have d2 : decide ((v : Int) < 1) = false := by simp; omega
  have d3 : decide ((u : Int) < 0) = false := by simp
  have d4 : decide ((s : Int) ≤ (u : Int)) = false := by simp; omega
  have d5 : (N : Int).tmod (v : Int) = 0 := by rw [ntmod, hvN]; rfl
  have d6 : v ≠ 0 := by omega
  have d7 : ¬ (s ≤ u) := by omega
  go_wp2
  clear a b d1 d2 d3 d4 d5 d6 d7
  go_loopw [12, 87] (fun c i wr => ∃ k cnt : Nat, k ≤ L.length ∧ i = .int .i64 k ∧ c = .int .i64 cnt ∧ cnt ≤ k ∧ cnt + kd (pv L k) (L.drop k) = kd none L ∧ MRow wr q L ∧ Below wB.heap.size wB wr) (fun _ i _ => L.length - (intOf i).toNat)
  case atStart => exact ⟨0, 0, Nat.zero_le _, rfl, rfl, Nat.le_refl _, by simp [pv], unhide Hm, Below.refl _ _⟩
  case round =>
    clear Hm
    obtain ⟨k, cnt, hk, rfl, rfl, hck, hcnt, hm, hbel⟩ := hrel
    by_cases hlt : k < L.length
    · have q1 : (0 : Int) ≤ (k : Int) := by omega
      have q2 : (k : Int) < (L.length : Int) := by omega
      obtain ⟨⟨a, b, X, Y⟩, hmk⟩ : ∃ m, L[k]? = some m := ⟨_, List.getElem?_eq_getElem hlt⟩
      have p1 := hm.2 k _ hmk
      have hdrop : L.drop k = (a, b, X, Y) :: L.drop (k + 1) := by
        rw [List.drop_eq_getElem_cons hlt]
        congr 1
        exact Option.some.inj ((List.getElem?_eq_getElem hlt).symm.trans hmk)
      have hpv : pv L (k + 1) = some (a, b) := by simp [pv, hmk, key]
      rw [hdrop] at hcnt
      have hbN := bal (o := .cells #[.int .i64 a, .bool b, .int .i64 X, .int .i64 Y] 45) (Below.refl wr.heap.size wr)
      have HSN := hide (btrans hbel hbN)
      have HmN := hide (hm.keep hbN)
      have Hl := hide hlt
      have Hpv := hide hpv
      cases k with
      | zero =>
        have Hcnt := hide (show 0 + 1 + kd (pv L (0 + 1)) (L.drop (0 + 1)) = kd none L by rw [kd_new _ _ _ (by simp [pv])] at hcnt; rw [hpv]; simp only [key] at hcnt; omega)
        have hc0 : cnt = 0 := by omega
        subst hc0
        clear hcnt hpv hdrop hmk hm hbel hbN hck
        simp only [Nat.zero_mul, Nat.zero_add] at p1
        go_wp2_with fail
        go_quiet (fail)
        go_wp2
        go_roundw
        case rel => exact ⟨1, 1, unhide Hl, rfl, rfl, Nat.le_refl _, unhide Hcnt, (unhide HmN).keep (Joins.below_draws _ _ _), btrans (unhide HSN) (Joins.below_draws _ _ _)⟩
        case measure => have := unhide Hl; simp [intOf]; omega
      | succ k =>
        obtain ⟨⟨a0, b0, X0, Y0⟩, hmk0⟩ : ∃ m, L[k]? = some m := ⟨_, List.getElem?_eq_getElem (by omega)⟩
        have p0 := hm.2 k _ hmk0
        have hpv0 : pv L (k + 1) = some (a0, b0) := by simp [pv, hmk0, key]
        rw [hpv0] at hcnt
        have q3 : (k : Int) < (L.length : Int) := by omega
        have q4 : (0 : Int) ≤ (k : Int) := by omega
        have e0 : (((k : Int) + 1) == 0) = false := beq_eq_false_iff_ne.2 (by omega)
        have e1 : IntKind.i64.wrap (k : Int) = (k : Int) := (Go.IntWalk.i64_left _).trans (Go.IntWalk.wrap64_in _ (by omega))
        have P0 := And.intro (keepC hbN hm.1 p0.1) (keepC hbN hm.1 p0.2.1)
        have hpv2 := hpv
        clear hpv hdrop hmk hmk0 hm hbel hbN hpv0 p0
        by_cases hbb : b0 = b
        · subst hbb
          by_cases haa : a0 = a
          · subst haa
            have Hcnt := hide (show cnt + 0 + kd (pv L (k + 2)) (L.drop (k + 2)) = kd none L by rw [hpv2]; rw [show some (a0, b0) = some (key (a0, b0, X, Y)) from rfl, kd_old] at hcnt; exact hcnt)
            clear hcnt hpv2
            go_wp2_with fail
            go_quiet (fail)
            go_wp2
            go_roundw
            case rel => exact ⟨k + 2, cnt + 0, unhide Hl, by go_num, by go_num, by omega, unhide Hcnt, (unhide HmN).keep (Joins.below_draws _ _ _), btrans (unhide HSN) (Joins.below_draws _ _ _)⟩
            case measure => have := unhide Hl; simp [intOf]; omega
          · have Hcnt := hide (show cnt + 1 + kd (pv L (k + 2)) (L.drop (k + 2)) = kd none L by rw [hpv2]; rw [kd_new _ _ _ (by simp [key, haa])] at hcnt; rw [Nat.add_assoc]; exact hcnt)
            have hne : ((a0 : Int) != (a : Int)) = true := by simp; omega
            clear hcnt hpv2
            go_wp2_with fail
            go_quiet (fail)
            go_wp2
            go_roundw
            case rel => exact ⟨k + 2, cnt + 1, unhide Hl, by go_num, by go_num, by omega, unhide Hcnt, (unhide HmN).keep (Joins.below_draws _ _ _), btrans (unhide HSN) (Joins.below_draws _ _ _)⟩
            case measure => have := unhide Hl; simp [intOf]; omega
        · have Hcnt := hide (show cnt + 1 + kd (pv L (k + 2)) (L.drop (k + 2)) = kd none L by rw [hpv2]; rw [kd_new _ _ _ (by simp [key, hbb])] at hcnt; rw [Nat.add_assoc]; exact hcnt)
          have hne : (b0 != b) = true := by simp [hbb]
          clear hcnt hpv2
          go_wp2_with fail
          go_quiet (fail)
          go_wp2
          go_roundw
          case rel => exact ⟨k + 2, cnt + 1, unhide Hl, by go_num, by go_num, by omega, unhide Hcnt, (unhide HmN).keep (Joins.below_draws _ _ _), btrans (unhide HSN) (Joins.below_draws _ _ _)⟩
          case measure => have := unhide Hl; simp [intOf]; omega
    · have e : k = L.length := by omega
      have hend : cnt = kd none L := by rw [e, List.drop_length] at hcnt; simp only [kd] at hcnt; omega
      have cl : ¬ ((k : Int) < (L.length : Int)) := by omega
      have hkd : cnt ≤ 6912 := by omega
      obtain ⟨A, hA⟩ : ∃ A : Nat, A = L.length * s := ⟨_, rfl⟩
      obtain ⟨B, hB⟩ : ∃ B : Nat, B = A * v := ⟨_, rfl⟩
      obtain ⟨C, hC⟩ : ∃ C : Nat, C = cnt * N := ⟨_, rfl⟩
      have hBC : B = C * N := by rw [hB, hA, hC, hend]; exact unhide Hct
      have bA : A ≤ 165888 := by rw [hA]; exact Nat.mul_le_mul hL2 (show s ≤ 24 by omega)
      have bB : B ≤ 3981312 := by rw [hB]; exact Nat.mul_le_mul bA (show v ≤ 24 by omega)
      have bC : C ≤ 165888 := by rw [hC]; exact Nat.mul_le_mul hkd hN.2
      have m1 : IntKind.i64.wrap ((L.length : Int) * (s : Int)) = (A : Int) := by
        rw [hA, ← Int.natCast_mul]; exact (Go.IntWalk.i64_left _).trans (Go.IntWalk.wrap64_in _ (by rw [← hA]; omega))
      have m2 : IntKind.i64.wrap ((A : Int) * (v : Int)) = (B : Int) := by
        rw [hB, ← Int.natCast_mul]; exact (Go.IntWalk.i64_left _).trans (Go.IntWalk.wrap64_in _ (by rw [← hB]; omega))
      have m3 : IntKind.i64.wrap ((cnt : Int) * (N : Int)) = (C : Int) := by
        rw [hC, ← Int.natCast_mul]; exact (Go.IntWalk.i64_left _).trans (Go.IntWalk.wrap64_in _ (by rw [← hC]; omega))
      have m4 : IntKind.i64.wrap ((C : Int) * (N : Int)) = (B : Int) := by
        rw [hBC, ← Int.natCast_mul]; exact (Go.IntWalk.i64_left _).trans (Go.IntWalk.wrap64_in _ (by rw [← hBC]; omega))
      have a := ((unhide HA).keep hbel).2.1
      have b := ((unhide HU).keep hbel).2.1
      have c := ((unhide HC0).keep (btrans (unhide HS) hbel)).2
      have z := ((unhide HZ0).keep (btrans (unhide HS) hbel)).2.1
      have HSe := hide (btrans (unhide HS) hbel)
      have Hbel := hide hbel
      clear hA hB hC hBC hend hcnt hm hbel hck hkd e
      go_wp2_with fail
      clear a b c z m1 m2 m3 m4
      refine (unhide K4 _ (unhide HRc _ _ (unhide Hc) (unhide HSe))).mono ?_
      rintro e w6 ⟨rfl, hb⟩
      have S6 := btrans (unhide HSe) hb
      have hbb := btrans (unhide Hbel) hb
      have a := ((unhide HA).keep hbb).2.1
      have b := ((unhide HU).keep hbb).2.1
      have z := ((unhide HZ0).keep S6).2.1
      have HS6 := hide (btrans (unhide HB) S6)
      clear hb S6 hbb K4 HSe Hbel
      rcases unhide HK with hk | ⟨rfl, hx, hy, hkb⟩
      · have hee : (ke != 0) = true := by simp [hk]
        clear HK hk a b z
        go_wp2
        go_ret
        exact ⟨ret_bool (by simp), unhide HS6⟩
      · have hv0 : v ≠ 0 := by omega
        have hs0 : s ≠ 0 := by omega
        clear HK
        by_cases hyv : y % v = 0
        · obtain ⟨Q, hQ⟩ : ∃ Q : Int, Q = y / v := ⟨_, rfl⟩
          have hdv : (v : Int) ∣ y := Int.dvd_of_emod_eq_zero hyv
          have f0 : y.tmod (v : Int) = 0 := Int.tmod_eq_zero_of_dvd hdv
          have f1 : y.tdiv (v : Int) = Q := by rw [hQ]; exact Int.tdiv_eq_ediv_of_dvd hdv
          have hQv : v * Q = y := by rw [hQ]; exact Int.mul_ediv_cancel' hdv
          have bQ : -1048576 ≤ Q ∧ Q ≤ 1048576 := by
            constructor
            · rw [hQ]; exact Int.le_ediv_of_mul_le (by omega) (by have : (1 : Int) ≤ v := by omega
                                                                  omega)
            · rw [hQ]; exact Int.ediv_le_of_le_mul (by omega) (by have : (1 : Int) ≤ v := by omega
                                                                  omega)
          obtain ⟨R, hR⟩ : ∃ R : Int, R = Q * u := ⟨_, rfl⟩
          have bR : -25165824 ≤ R ∧ R ≤ 25165824 := by
            have l1 := Int.mul_le_mul_of_nonneg_right bQ.1 (show (0 : Int) ≤ u by omega)
            have l2 := Int.mul_le_mul_of_nonneg_right bQ.2 (show (0 : Int) ≤ u by omega)
            rw [hR]
            omega
          have f2 : IntKind.i64.wrap (Q * (u : Int)) = R := by
            rw [← hR]; exact (Go.IntWalk.i64_left _).trans (Go.IntWalk.wrap64_in _ (by omega))
          have hkb2 : kb = ((x - R).tmod (s : Int) == 0) := by
            rw [hkb, ← hQ, ← hR, Bool.eq_iff_iff]
            simp only [hyv, decide_true, Bool.true_and, decide_eq_true_eq, beq_iff_eq]
            rw [← Int.dvd_iff_emod_eq_zero, ← Int.dvd_iff_tmod_eq_zero]
          clear hkb hyv hdv hQv hQ hR
          go_wp2_with fail
          go_quiet (fail)
          go_wp2
          go_ret
          exact ⟨ret_bool (by simp), btrans (unhide HS6) (Joins.below_draws _ _ _)⟩
        · have f0 : (y.tmod (v : Int) == 0) = false := by
            rw [beq_eq_false_iff_ne]
            intro k
            exact hyv (Int.emod_eq_zero_of_dvd (Int.dvd_of_tmod_eq_zero k))
          have hkf : kb = false := by rw [hkb]; simp [hyv]
          subst hkf
          clear hkb hyv
          go_wp2_with fail
          go_quiet (fail)
          go_wp2
          go_ret
          exact ⟨ret_bool (by simp), btrans (unhide HS6) (Joins.below_draws _ _ _)⟩
end Go.Proofs.Ytagiekbijmdmdaa
