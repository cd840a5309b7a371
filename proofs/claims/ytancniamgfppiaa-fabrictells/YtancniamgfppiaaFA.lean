/-
  alive; Cloth of anything; FabricCounts.
-/
import Derived.Test.YtancniamgfppiaaYF
import Derived.Test.YtancniamgfppiaaNC
namespace Go.Proofs.Ytancniamgfppiaa
open Go.RowKit

/-- Cloth of anything: it is refused, or all is done -/
theorem cloth_cases (n : Int) (W : World) (q : Option Addr) (l c : Nat) (f : Nat → Sx) (hs : Sc W q l f) (hl : l * 40 + 4096 ≤ 140737488355328) :
    (∃ er at_ : Int, er ≠ 0 ∧ ∀ V, Below W.heap.size W V → RunNo 7 #[.int .i64 n, .slice q l c] V er at_) ∨ ∃ N : Nat, n = N ∧ 1 ≤ N ∧ N ≤ 128 ∧ ∀ i, i < l → erS N f i = 0 := by
  by_cases h : n < 1 ∨ 128 < n
  · exact .inl ⟨3, 0, by decide, fun V _ => cloth_no (by decide) (fun U _ => run_new n U q l c h)⟩
  · obtain ⟨N, rfl⟩ : ∃ N : Nat, n = N := ⟨n.toNat, by omega⟩
    rcases first_bad N f l with h0 | ⟨k, h1, h2, h3⟩
    · exact .inr ⟨N, rfl, by omega, by omega, h0⟩
    · exact .inl ⟨erS N f k, k, h3, fun V hV => cloth_no h3 (fun U hU => run_bad (by omega) (by omega) (hs.keep (btrans hV hU)) hl k h1 h2 h3)⟩

/-- the two stitches of alive -/
def alY : List Sx := [⟨2, 0, 0, 1, 0⟩, ⟨2, 0, 0, 0, 0⟩]
def alG (j : Nat) : Sx := alY.getD j x0
theorem alG_all : ∀ i, i < 2 → erS 1 alG i = 0 := by decide
theorem alG_loops : (reN (tell 1 (knS 1 alG 2))).loops = [(0, []), (1, [])] := by decide
theorem alG_sc (W : World) : Sc (W.alloc (.cells #[.int .i64 2, .int .i64 0, .int .i64 0, .int .i64 1, .int .i64 0, .int .i64 2, .int .i64 0, .int .i64 0, .int .i64 0, .int .i64 0] 24)) (some ⟨W.heap.size, 0, none⟩) 2 alG :=
  own_sc (l := alY) (own_lit (B := 0) (e := 24) (z := 5) (k := 2) W #[.int .i64 2, .int .i64 0, .int .i64 0, .int .i64 1, .int .i64 0, .int .i64 2, .int .i64 0, .int .i64 0, .int .i64 0, .int .i64 0] (Nat.zero_le _) (by unfold maxLen; omega) rfl)

set_option maxRecDepth 100000 in
set_option maxHeartbeats 4000000 in
theorem alive_any (W : World) : Ans 14 #[] W (.bool true) := by
  unfold Ans
  have B0 := hide (bnew W (.cells #[.int .i64 2, .int .i64 0, .int .i64 0, .int .i64 1, .int .i64 0, .int .i64 2, .int .i64 0, .int .i64 0, .int .i64 0, .int .i64 0] 24))
  have HR := hide (cloth_ok (N := 1) (n := 2) (c := 2) (f := alG) (by omega) (by omega) (alG_sc W) (by omega) alG_all)
  go_enter Try.func14, Try.ntmps14
  go_wp2_with fail
  generalize W.alloc (.cells #[.int .i64 2, .int .i64 0, .int .i64 0, .int .i64 1, .int .i64 0, .int .i64 2, .int .i64 0, .int .i64 0, .int .i64 0, .int .i64 0] 24) = w0 at *
  refine (unhide HR).mono ?_
  rintro e w1 ⟨v, rfl, hK, hb1⟩
  obtain ⟨v1, v2, v3, v4, rfl, p1, p2, p3, p4⟩ := hK
  rw [alG_loops] at p1
  obtain ⟨g, cap, u, e1, e2, -, -⟩ := p1.at (j := 0) (by simp)
  subst e1
  obtain ⟨a4, a5, a6, rfl⟩ := p2.form
  obtain ⟨a7, a8, a9, rfl⟩ := p3.form
  obtain ⟨d1, d2, rfl⟩ := p4.form
  have S1 := hide (btrans (unhide B0) hb1)
  have c3 : w1.cell? ⟨g, 0, none⟩ = some (.int .i64 0) := e2
  have hg : g < w1.heap.size := World.block_lt_of_cell? w1 _ c3
  clear p1 p2 p3 p4 e2 hb1 HR B0
  simp only [List.length_cons, List.length_nil]
  generalize (reN (tell 1 (knS 1 alG 2))).loose.length = d3 at *
  generalize (reN (tell 1 (knS 1 alG 2))).rack = rk at *
  obtain ⟨t1, t2, t3⟩ := two_boxes w1 (.slice (some ⟨g, 0, none⟩) 2 cap) (.slice a4 a5 a6) (.slice a7 a8 a9) (.slice d1 d3 d2) rk 0 0
  have T1 := hide t3
  have HK := hide t1
  have HF := hide t2
  have C3 := hide (keepC (unhide T1) hg c3)
  clear c3 hg t1 t2 t3
  go_upto_region 2 with fail
  generalize (w1.alloc (.cells #[.slice (some ⟨g, 0, none⟩) 2 cap, .slice a4 a5 a6, .slice a7 a8 a9, .slice d1 d3 d2, .int .i64 rk] 29)).alloc (.cells #[.int .i64 0, .int .i64 0] 32) = w2 at *
  obtain ⟨-, ⟨k0, k1, k2, k3, k4⟩, -⟩ := unhide HK
  obtain ⟨-, ⟨f0, f1⟩, -⟩ := unhide HF
  have c3 := unhide C3
  go_wp2
  go_ret
  exact ⟨rfl, btrans (unhide S1) (unhide T1)⟩

set_option maxRecDepth 100000 in
set_option maxHeartbeats 4000000 in
theorem counts_no {W : World} {n : Int} {q : Option Addr} {l c : Nat} {k er at_ : Int} (her : er ≠ 0) (h : ∀ V, Below W.heap.size W V → RunNo 7 #[.int .i64 n, .slice q l c] V er at_) : LawIs 6 #[.int .i64 n, .slice q l c, .int .i64 k] W := by
  unfold LawIs
  have HA := hide (alive_any W)
  unfold Ans at HA
  unfold RunNo at h
  have HK := hide h
  have g0 : (er != 0) = true := by simpa using her
  clear h her
  go_enter Try.func6, Try.ntmps6
  go_wp2_with fail
  refine (unhide HA).mono ?_
  rintro e w1 ⟨rfl, hb1⟩
  have S1 := hide hb1
  clear hb1
  go_wp2_with fail
  refine (unhide HK _ (unhide S1)).mono ?_
  rintro e w2 ⟨rfl, hb2⟩
  have S2 := hide (btrans (unhide S1) hb2)
  clear hb2
  go_wp2
  go_ret
  exact ⟨rfl, bal (bal (unhide S2))⟩

theorem cn_yes {p : Nat → Bool} {n : Nat} (h : p n = true) : cn p (n + 1) = cn p n + 1 := by
  simp only [cn]
  rw [if_pos h]
theorem cn_no {p : Nat → Bool} {n : Nat} (h : p n = false) : cn p (n + 1) = cn p n := by
  simp only [cn]
  rw [if_neg (by simp [h])]
  rfl
set_option maxRecDepth 100000 in
set_option maxHeartbeats 8000000 in
theorem counts_ok {N : Nat} {W : World} {q : Option Addr} {n c : Nat} {f : Nat → Sx} {k : Int} (h1 : 1 ≤ N) (hN : N ≤ 128) (hs : Sc W q n f) (hn : n * 40 + 4096 ≤ 140737488355328) (hall : ∀ i, i < n → erS N f i = 0) : LawIs 6 #[.int .i64 (N : Int), .slice q n c, .int .i64 k] W := by
  unfold LawIs
  have HA := hide (alive_any W)
  unfold Ans at HA
  have HS0 := hide (fun V (hV : Below W.heap.size W V) => hs.keep hV)
  have HK := hide (fun V (hV : Below W.heap.size W V) => cloth_ok (c := c) h1 hN (hs.keep hV) hn hall)
  obtain ⟨m1, m2, m3⟩ := counts_math hall k
  have HM1 := hide m1
  have HM2 := hide m2
  clear hs hall m1 m2
  generalize reN (tell N (knS N f n)) = kn at *
  go_enter Try.func6, Try.ntmps6
  go_wp2_with fail
  refine (unhide HA).mono ?_
  rintro e w1 ⟨rfl, hb1⟩
  have S1 := hide hb1
  clear hb1
  go_wp2_with fail
  refine (unhide HK _ (unhide S1)).mono ?_
  rintro e w2 ⟨v, rfl, hR2, hb2⟩
  have S2 := hide (btrans (unhide S1) hb2)
  obtain ⟨v1, v2, v3, v4, rfl, p1, p2, p3, p4⟩ := hR2
  obtain ⟨a1, a2, hv1⟩ := p1.frm
  obtain ⟨a4, a5, a6, rfl⟩ := p2.form
  obtain ⟨a7, a8, a9, rfl⟩ := p3.form
  obtain ⟨d1, d2, rfl⟩ := p4.form
  have HP := hide (show ∀ V, Below w2.heap.size w2 V → ∀ x, x < kn.loops.length → ∃ g s m t, a1 = some ⟨g, 0, none⟩ ∧ V.cell? ⟨g, x * 2, none⟩ = some (.int .i64 (carF kn.loops x)) ∧ V.cell? ⟨g, x * 2 + 1, none⟩ = some (.slice s m t) from fun V hV x hx => by
    obtain ⟨g, cap, u, e1, e2, e3, e4⟩ := (p1.keep hV).at hx
    rw [hv1] at e1
    simp only [Value.slice.injEq] at e1
    obtain ⟨s, t, rfl⟩ := e4.form
    exact ⟨g, s, _, t, e1.1, by rw [e2, carF_at hx], e3⟩)
  subst hv1
  clear hb2 HA HK p1 p2 p3 p4
  obtain ⟨D, hD⟩ : ∃ D, D = carF kn.loops := ⟨_, rfl⟩
  obtain ⟨nl, hnl⟩ : ∃ n, n = kn.loops.length := ⟨_, rfl⟩
  rw [← hD, ← hnl] at HP HM1 HM2
  rw [← hnl] at m3
  rw [← hnl]
  clear hD hnl
  generalize kn.loose.length = no at *
  generalize kn.rack = rk at *
  obtain ⟨t1, t2, t3⟩ := two_boxes w2 (.slice a1 nl a2) (.slice a4 a5 a6) (.slice a7 a8 a9) (.slice d1 no d2) rk 0 0
  have T3 := hide t3
  have HKb := hide t1
  have HFb := hide t2
  have S3 := hide (btrans (unhide S2) t3)
  clear t1 t2 t3
  go_upto_region 4 with fail
  generalize (w2.alloc (.cells #[.slice a1 nl a2, .slice a4 a5 a6, .slice a7 a8 a9, .slice d1 no d2, .int .i64 rk] 29)).alloc (.cells #[.int .i64 0, .int .i64 0] 32) = w3 at *
  obtain ⟨fb, hfb⟩ : ∃ b, b = w2.heap.size + 1 := ⟨_, rfl⟩
  rw [← hfb] at HFb
  rw [← hfb]
  clear hfb
  obtain ⟨kb, hkb⟩ : ∃ b, b = w2.heap.size := ⟨_, rfl⟩
  rw [← hkb] at HKb
  rw [← hkb]
  clear hkb
  obtain ⟨-, ⟨f0, f1⟩, -⟩ := unhide HFb
  go_wp2
  clear f0 f1
  go_loopw [9, 28] (fun lv i wr => ∃ x y : Nat, x ≤ n ∧ y = cn (fun j => laB (f j) k) x ∧ lv = .int .i64 y ∧ i = .int .i64 x ∧ Below w3.heap.size w3 wr) (fun _ i _ => n - (intOf i).toNat)
  case atStart => exact ⟨0, 0, Nat.zero_le _, rfl, rfl, rfl, Below.refl _ _⟩
  case round =>
    obtain ⟨x, y, hx, hy, rfl, rfl, hB⟩ := hrel
    have HB := hide hB
    have Hy := hide hy
    have hyx : y ≤ x := by rw [hy]; exact cn_le _ _
    clear hB hy
    by_cases hlt : x < n
    · have q1 : (x : Int) < (n : Int) := by omega
      have q2 : (0 : Int) ≤ (x : Int) := by omega
      obtain ⟨b5, o5, rfl, c0, c1, c2, c3, c4⟩ := (unhide HS0 wr (btrans (unhide S3) (unhide HB))).at hlt
      have HX := hide (XB.new wr (f x))
      have HB1 := hide (btrans (unhide HB) (bnew wr (.cells #[.int .i64 (f x).dk, .int .i64 (f x).bed, .int .i64 (f x).ndl, .int .i64 (f x).car, .int .i64 (f x).tt] 24)))
      by_cases hb : laB (f x) k = true
      · have Hn2 := hide (show y + 1 = cn (fun j => laB (f j) k) (x + 1) by rw [cn_yes hb, unhide Hy])
        have hc : ((f x).dk = 1 ∨ (f x).dk = 2) ∧ (f x).car = k := by simpa [laB] using hb
        have g2 : ((f x).car == k) = true := by simp [hc.2]
        rcases hc.1 with hd | hd
        · have g1 : ((f x).dk == 1) = true := by simp [hd]
          clear hc hd hb
          go_upto_region 10 with fail
          generalize wr.alloc (.cells #[.int .i64 (f x).dk, .int .i64 (f x).bed, .int .i64 (f x).ndl, .int .i64 (f x).car, .int .i64 (f x).tt] 24) = w5 at *
          obtain ⟨-, x0, x1, x2, x3, x4⟩ := unhide HX
          generalize (f x).dk = dk at *
          generalize (f x).car = car at *
          go_wp2
          go_roundw
          case rel => exact ⟨x + 1, y + 1, by omega, unhide Hn2, by go_num, by go_num, unhide HB1⟩
          case measure => simp [intOf]; omega
        · have g1 : ((f x).dk == 1) = false := by simp [hd]
          have g3 : ((f x).dk == 2) = true := by simp [hd]
          clear hc hd hb
          go_upto_region 10 with fail
          generalize wr.alloc (.cells #[.int .i64 (f x).dk, .int .i64 (f x).bed, .int .i64 (f x).ndl, .int .i64 (f x).car, .int .i64 (f x).tt] 24) = w5 at *
          obtain ⟨-, x0, x1, x2, x3, x4⟩ := unhide HX
          generalize (f x).dk = dk at *
          generalize (f x).car = car at *
          go_wp2
          go_roundw
          case rel => exact ⟨x + 1, y + 1, by omega, unhide Hn2, by go_num, by go_num, unhide HB1⟩
          case measure => simp [intOf]; omega
      · have hc : laB (f x) k = false := by simpa using hb
        have Hn2 := hide (show y = cn (fun j => laB (f j) k) (x + 1) by rw [cn_no hc, unhide Hy])
        by_cases ha : (f x).dk = 1 ∨ (f x).dk = 2
        · have g2 : ((f x).car == k) = false := by
            unfold laB at hc
            rcases ha with e | e <;> simpa [e] using hc
          rcases ha with hd | hd
          · have g1 : ((f x).dk == 1) = true := by simp [hd]
            clear hc hd hb
            go_upto_region 10 with fail
            generalize wr.alloc (.cells #[.int .i64 (f x).dk, .int .i64 (f x).bed, .int .i64 (f x).ndl, .int .i64 (f x).car, .int .i64 (f x).tt] 24) = w5 at *
            obtain ⟨-, x0, x1, x2, x3, x4⟩ := unhide HX
            generalize (f x).dk = dk at *
            generalize (f x).car = car at *
            go_wp2
            go_roundw
            case rel => exact ⟨x + 1, y, by omega, unhide Hn2, rfl, by go_num, unhide HB1⟩
            case measure => simp [intOf]; omega
          · have g1 : ((f x).dk == 1) = false := by simp [hd]
            have g3 : ((f x).dk == 2) = true := by simp [hd]
            clear hc hd hb
            go_upto_region 10 with fail
            generalize wr.alloc (.cells #[.int .i64 (f x).dk, .int .i64 (f x).bed, .int .i64 (f x).ndl, .int .i64 (f x).car, .int .i64 (f x).tt] 24) = w5 at *
            obtain ⟨-, x0, x1, x2, x3, x4⟩ := unhide HX
            generalize (f x).dk = dk at *
            generalize (f x).car = car at *
            go_wp2
            go_roundw
            case rel => exact ⟨x + 1, y, by omega, unhide Hn2, rfl, by go_num, unhide HB1⟩
            case measure => simp [intOf]; omega
        · have g1 : ((f x).dk == 1) = false := by simp; omega
          have g3 : ((f x).dk == 2) = false := by simp; omega
          clear hc ha hb
          go_upto_region 10 with fail
          generalize wr.alloc (.cells #[.int .i64 (f x).dk, .int .i64 (f x).bed, .int .i64 (f x).ndl, .int .i64 (f x).car, .int .i64 (f x).tt] 24) = w5 at *
          obtain ⟨-, x0, x1, x2, x3, x4⟩ := unhide HX
          generalize (f x).dk = dk at *
          generalize (f x).car = car at *
          go_wp2
          go_roundw
          case rel => exact ⟨x + 1, y, by omega, unhide Hn2, rfl, by go_num, unhide HB1⟩
          case measure => simp [intOf]; omega
    · obtain rfl : n = x := by omega
      have cl : ¬ ((n : Int) < (n : Int)) := by omega
      have Hy2 := hide (show y = cn (fun p => decide (D p = k)) nl by rw [unhide HM1]; exact unhide Hy)
      have HB4 := hide (btrans (unhide T3) (unhide HB))
      obtain ⟨-, ⟨k0, k1, k2, k3, k4⟩, -⟩ := (unhide HKb).keep (unhide HB)
      go_wp2
      clear k0 k1 k2 k3 k4
      go_loopw [10, 52] (fun tv i wq => ∃ z t : Nat, z ≤ nl ∧ t = cn (fun p => decide (D p = k)) z ∧ tv = .int .i64 t ∧ i = .int .i64 z ∧ Below w3.heap.size w3 wq) (fun _ i _ => nl - (intOf i).toNat)
      case atStart => exact ⟨0, 0, Nat.zero_le _, rfl, rfl, rfl, unhide HB⟩
      case round =>
        clear HB HB4 Hy
        obtain ⟨z, t, hz, ht, rfl, rfl, hB5⟩ := hrel
        have HB5 := hide hB5
        have Ht := hide ht
        have htz : t ≤ z := by rw [ht]; exact cn_le _ _
        clear hB5 ht
        by_cases hlz : z < nl
        · have q1 : (z : Int) < (nl : Int) := by omega
          have q2 : (0 : Int) ≤ (z : Int) := by omega
          obtain ⟨g, s, m, t', rfl, e1, e2⟩ := unhide HP wr (btrans (unhide T3) (unhide HB5)) z hlz
          have Hdz := hide (show ∀ y, y + 1 = z → D y ≤ D z from fun y e => by rw [← e]; exact unhide HM2 y (by omega))
          have HB6 := hide (btrans (unhide HB5) (bnew wr (.cells #[.int .i64 (D z), .slice s m t'] 43)))
          have HPy := hide (show ∀ y, y + 1 = z → (wr.alloc (.cells #[.int .i64 (D z), .slice s m t'] 43)).cell? ⟨g, y * 2, none⟩ = some (.int .i64 (D y)) from fun y e => by
            obtain ⟨g', -, -, -, e0, e3, -⟩ := unhide HP _ (btrans (unhide T3) (unhide HB6)) y (by omega)
            cases e0
            exact e3)
          have HK6 := hide ((unhide HKb).keep (unhide HB6))
          have Hn3 := hide (show cn (fun p => decide (D p = k)) (z + 1) = if D z = k then t + 1 else t by
            by_cases e : D z = k
            · rw [cn_yes (by simpa using e), if_pos e, unhide Ht]
            · rw [cn_no (by simpa using e), if_neg e, unhide Ht])
          have J0 := hide (show (wr.alloc (.cells #[.int .i64 (D z), .slice s m t'] 43)).cell? ⟨wr.heap.size, 0, none⟩ = some (.int .i64 (D z)) ∧ (wr.alloc (.cells #[.int .i64 (D z), .slice s m t'] 43)).cell? ⟨wr.heap.size, 1, none⟩ = some (.slice s m t') by constructor <;> simp [go_sem])
          obtain ⟨dz, hdz⟩ : ∃ d, d = D z := ⟨_, rfl⟩
          rw [← hdz] at e1 Hdz HB6 HPy HK6 Hn3 J0
          clear hdz
          obtain ⟨-, ⟨k0, k1, k2, k3, k4⟩, -⟩ := unhide HK6
          by_cases hz0 : 0 < z
          · obtain ⟨y', hy'⟩ : ∃ y, y + 1 = z := ⟨z - 1, by omega⟩
            have e3 := unhide HPy y' hy'
            have e4 := unhide Hdz y' hy'
            have e5 : ¬ (D y' > dz) := by omega
            have e6 : decide (D y' > dz) = false := by simpa using e5
            have e7 : (z : Int) - 1 = (y' : Int) := by omega
            have e8 : IntKind.i64.wrap (y' : Int) = (y' : Int) := Go.IntWalk.i64_in _ (by omega)
            have e9 : decide (0 < z) = true := by simpa using hz0
            have e10 : (y' : Int) < (nl : Int) := by omega
            have e11 : (0 : Int) ≤ (y' : Int) := by omega
            generalize D y' = dy at *
            clear hy' e4
            by_cases hk : dz = k
            · have g1 : (dz == k) = true := by simp [hk]
              have Hn2 := hide (show t + 1 = cn (fun p => decide (D p = k)) (z + 1) by rw [unhide Hn3, if_pos hk])
              clear hk
              go_upto_region 16 with fail
              generalize wr.alloc (.cells #[.int .i64 dz, .slice s m t'] 43) = w6 at *
              obtain ⟨j0, j1⟩ := unhide J0
              go_wp2
              go_quiet (fail)
              go_wp2
              go_roundw
              case rel => exact ⟨z + 1, t + 1, by omega, unhide Hn2, by go_num, by go_num, (unhide HB6).trans (Joins.below_draws _ _ _)⟩
              case measure => simp [intOf]; omega
            · have g1 : (dz == k) = false := by simpa using hk
              have Hn2 := hide (show t = cn (fun p => decide (D p = k)) (z + 1) by rw [unhide Hn3, if_neg hk])
              clear hk
              go_upto_region 16 with fail
              generalize wr.alloc (.cells #[.int .i64 dz, .slice s m t'] 43) = w6 at *
              obtain ⟨j0, j1⟩ := unhide J0
              go_wp2
              go_quiet (fail)
              go_wp2
              go_roundw
              case rel => exact ⟨z + 1, t, by omega, unhide Hn2, rfl, by go_num, (unhide HB6).trans (Joins.below_draws _ _ _)⟩
              case measure => simp [intOf]; omega
          · have e9 : decide (0 < z) = false := by simpa using hz0
            by_cases hk : dz = k
            · have g1 : (dz == k) = true := by simp [hk]
              have Hn2 := hide (show t + 1 = cn (fun p => decide (D p = k)) (z + 1) by rw [unhide Hn3, if_pos hk])
              clear hk
              go_upto_region 16 with fail
              generalize wr.alloc (.cells #[.int .i64 dz, .slice s m t'] 43) = w6 at *
              obtain ⟨j0, j1⟩ := unhide J0
              go_wp2
              go_quiet (fail)
              go_wp2
              go_roundw
              case rel => exact ⟨z + 1, t + 1, by omega, unhide Hn2, by go_num, by go_num, (unhide HB6).trans (Joins.below_draws _ _ _)⟩
              case measure => simp [intOf]; omega
            · have g1 : (dz == k) = false := by simpa using hk
              have Hn2 := hide (show t = cn (fun p => decide (D p = k)) (z + 1) by rw [unhide Hn3, if_neg hk])
              clear hk
              go_upto_region 16 with fail
              generalize wr.alloc (.cells #[.int .i64 dz, .slice s m t'] 43) = w6 at *
              obtain ⟨j0, j1⟩ := unhide J0
              go_wp2
              go_quiet (fail)
              go_wp2
              go_roundw
              case rel => exact ⟨z + 1, t, by omega, unhide Hn2, rfl, by go_num, (unhide HB6).trans (Joins.below_draws _ _ _)⟩
              case measure => simp [intOf]; omega
        · obtain rfl : nl = z := by omega
          have cl : ¬ ((nl : Int) < (nl : Int)) := by omega
          have e : y = t := by rw [unhide Hy2, unhide Ht]
          subst e
          go_wp2
          go_ret
          exact ⟨by simp, btrans (unhide S3) (unhide HB5)⟩
theorem counts_any (n : Int) (k : Int) (W : World) (q : Option Addr) (l c : Nat) (f : Nat → Sx) (hs : Sc W q l f) (hl : l * 40 + 4096 ≤ 140737488355328) : LawIs 6 #[.int .i64 n, .slice q l c, .int .i64 k] W := by
  rcases cloth_cases n W q l c f hs hl with ⟨er, at_, her, h⟩ | ⟨N, rfl, h1, h2, h3⟩
  · exact counts_no her h
  · exact counts_ok h1 h2 hs hl h3
end Go.Proofs.Ytancniamgfppiaa
