/-
  KnitSkips: what is refused changes nothing.
-/
import Derived.Test.YtnolblcfafdnpaaLwA
namespace Go.Proofs.Ytnolblcfafdnpaa
open Go.RowKit

/-- the law's answer -/
def LawIs (F : Nat) (args : Array Value) (W : World) : Prop := Calls Try.prog F args W fun e w' => e = .returned (.bool true) ∧ Below W.heap.size W w'
theorem two_boxes (W : World) (v0 v1 v2 v3 : Value) (r : Int) (x y : Int) : KB ((W.alloc (.cells #[v0, v1, v2, v3, .int .i64 r] 27)).alloc (.cells #[.int .i64 x, .int .i64 y] 30)) W.heap.size v0 v1 v2 v3 r ∧ FB ((W.alloc (.cells #[v0, v1, v2, v3, .int .i64 r] 27)).alloc (.cells #[.int .i64 x, .int .i64 y] 30)) (W.heap.size + 1) x y ∧ Below W.heap.size W ((W.alloc (.cells #[v0, v1, v2, v3, .int .i64 r] 27)).alloc (.cells #[.int .i64 x, .int .i64 y] 30)) :=
  ⟨(KB.new W v0 v1 v2 v3 r).keep (bnew _ _), by have := FB.new (W.alloc (.cells #[v0, v1, v2, v3, .int .i64 r] 27)) x y; simpa using this, btrans (bnew _ _) (bnew _ _)⟩
theorem err_at {W : World} {B N x n cap : Nat} {f : Nat → Sx} {q : Option Addr} (h : W.ownsRow B 28 1 (.slice q n cap) n (errV N f n)) (hx : x < n) : ∃ g, q = some ⟨g, 0, none⟩ ∧ W.cell? ⟨g, x, none⟩ = some (.int .i64 (erS N f x)) := by
  obtain ⟨g, c, e⟩ := own_slice h (by omega)
  simp only [Value.slice.injEq] at e
  obtain ⟨rfl, -, rfl⟩ := e
  exact ⟨g, rfl, by rw [h.cellAt x (by omega)]; simp [errV, hx]⟩
/-- the parts of what is told -/
theorem KR.parts {W : World} {B : Nat} {v : Value} {k : Kn} (h : KR W B v k) : ∃ a1 a2 a3 a4 a5 a6 a7 a8 a9 d1 d2 d3, v = .agg #[.slice a1 a2 a3, .slice a4 a5 a6, .slice a7 a8 a9, .slice d1 d3 d2, .int .i64 k.rack] := by
  obtain ⟨v1, v2, v3, v4, rfl, p1, p2, p3, p4⟩ := h
  obtain ⟨a1, a2, a3, rfl⟩ := p1.form
  obtain ⟨a4, a5, a6, rfl⟩ := p2.form
  obtain ⟨a7, a8, a9, rfl⟩ := p3.form
  obtain ⟨d1, d2, rfl⟩ := p4.form
  exact ⟨_, _, _, _, _, _, _, _, _, _, _, _, rfl⟩

set_option maxRecDepth 100000 in
set_option maxHeartbeats 4000000 in
theorem skips_new (n : Int) (W : World) (q : Option Addr) (l c : Nat) (h : n < 1 ∨ 128 < n) : LawIs 6 #[.int .i64 n, .slice q l c] W := by
  unfold LawIs
  have HA := hide (alive_any W)
  unfold Ans at HA
  have HK := hide (fun V => knit_new n V q l c h)
  clear h
  go_enter Try.func6, Try.ntmps6
  go_wp2_with fail
  refine (unhide HA).mono ?_
  rintro e w1 ⟨rfl, hb1⟩
  have S1 := hide hb1
  clear hb1
  go_wp2_with fail
  refine (unhide HK _).mono ?_
  rintro e w2 ⟨rfl, hb2⟩
  have S2 := hide (btrans (unhide S1) hb2)
  clear hb2
  go_wp2
  go_ret
  exact ⟨rfl, bal (unhide S2)⟩

set_option maxRecDepth 100000 in
set_option maxHeartbeats 4000000 in
theorem skips_ok {N : Nat} {W : World} {q : Option Addr} {n c : Nat} {f : Nat → Sx} (h1 : 1 ≤ N) (hN : N ≤ 128) (hs : Sc W q n f) (hn : n * 40 + 4096 ≤ 140737488355328) : LawIs 6 #[.int .i64 (N : Int), .slice q n c] W := by
  unfold LawIs
  have HA := hide (alive_any W)
  unfold Ans at HA
  have HS0 := hide (fun V (hV : Below W.heap.size W V) => hs.keep hV)
  have HK := hide (show ∀ V, Below W.heap.size W V → KnitOk 10 N n f #[.int .i64 (N : Int), .slice q n c] V from fun V hV => knit_ok h1 hN (hs.keep hV) hn)
  unfold KnitOk at HK
  have HFit := hide (Fit.of (N := N) (Iv.kn N f n) (Th.kn N f n) hN)
  clear hs
  go_enter Try.func6, Try.ntmps6
  go_wp2_with fail
  refine (unhide HA).mono ?_
  rintro e w1 ⟨rfl, hb1⟩
  have S1 := hide hb1
  clear hb1
  go_wp2_with fail
  refine (unhide HK _ (unhide S1)).mono ?_
  rintro e w2 ⟨ov, v, rfl, hO2, hR2, hb2⟩
  have S2 := hide (btrans (unhide S1) hb2)
  obtain ⟨eq, ec, rfl⟩ := own_form hO2
  obtain ⟨a1, a2, a3, a4, a5, a6, a7, a8, a9, d1, d2, d3, rfl⟩ := hR2.parts
  have HR2 := hide hR2
  have HO2 := hide hO2
  clear hb2 hR2 hO2 HA HK
  obtain ⟨rk, hrk⟩ : ∃ rk, rk = (tell N (knS N f n)).rack := ⟨_, rfl⟩
  rw [← hrk] at HR2
  rw [← hrk]
  have Hrk := hide hrk
  clear hrk
  have T3 := hide (bnew w2 (.cells #[.slice a1 a2 a3, .slice a4 a5 a6, .slice a7 a8 a9, .slice d1 d3 d2, .int .i64 rk] 27))
  have HKb := hide (KB.new w2 (.slice a1 a2 a3) (.slice a4 a5 a6) (.slice a7 a8 a9) (.slice d1 d3 d2) rk)
  have HR3 := hide ((unhide HR2).keep (unhide T3))
  have HO3 := hide (own_keep (unhide HO2) (unhide T3))
  have S3 := hide (btrans (unhide S2) (unhide T3))
  clear S2 HR2 HO2 T3
  have gn : ((n : Int) != (n : Int)) = false := by simp
  go_upto_region 4 with fail
  generalize w2.alloc (.cells #[.slice a1 a2 a3, .slice a4 a5 a6, .slice a7 a8 a9, .slice d1 d3 d2, .int .i64 rk] 27) = w3 at *
  obtain ⟨kb, hkb⟩ : ∃ kb, kb = w2.heap.size := ⟨_, rfl⟩
  rw [← hkb] at HKb
  rw [← hkb]
  clear hkb
  go_wp2
  go_loopw [8, 31] (fun dv i wr => ∃ x : Nat, x ≤ n ∧ i = .int .i64 x ∧ wr.ownsRow w3.heap.size 44 5 dv (okL N f x).length (stV (okL N f x)) ∧ Below w3.heap.size w3 wr) (fun _ i _ => n - (intOf i).toNat)
  case atStart => exact ⟨0, Nat.zero_le _, rfl, World.ownsRow_nil _ _ _ _, Below.refl _ _⟩
  case round =>
    obtain ⟨x, hx, rfl, hD, hB⟩ := hrel
    obtain ⟨dq, dc, rfl⟩ := own_form hD
    have HD := hide hD
    have HB := hide hB
    clear hD hB
    by_cases hlt : x < n
    · have q1 : (x : Int) < (n : Int) := by omega
      have q2 : (0 : Int) ≤ (x : Int) := by omega
      obtain ⟨b5, o5, rfl, c0, c1, c2, c3, c4⟩ := (unhide HS0 wr (btrans (unhide S3) (unhide HB))).at hlt
      obtain ⟨eg, rfl, ce⟩ := err_at (own_keep (unhide HO3) (btrans (unhide HB) (bnew wr (.cells #[.int .i64 (f x).dk, .int .i64 (f x).bed, .int .i64 (f x).ndl, .int .i64 (f x).car, .int .i64 (f x).tt] 44)))) hlt
      have CE := hide ce
      have HX := hide (XB.new wr (f x))
      have HB1 := hide (btrans (unhide HB) (bnew wr (.cells #[.int .i64 (f x).dk, .int .i64 (f x).bed, .int .i64 (f x).ndl, .int .i64 (f x).car, .int .i64 (f x).tt] 44)))
      have HD1 := hide (own_keep (unhide HD) (bnew wr (.cells #[.int .i64 (f x).dk, .int .i64 (f x).bed, .int .i64 (f x).ndl, .int .i64 (f x).car, .int .i64 (f x).tt] 44)))
      have hdl := okL_le N f x
      clear ce
      by_cases h0 : erS N f x = 0
      · have Hok := hide (show okL N f (x + 1) = okL N f x ++ [f x] by simp only [okL]; rw [if_pos h0])
        have g0 : (erS N f x == 0) = true := by simp [h0]
        obtain ⟨er, her⟩ : ∃ er, er = erS N f x := ⟨_, rfl⟩
        rw [← her] at g0 CE
        clear h0 her
        obtain ⟨dn, hdn⟩ : ∃ dn, dn = (okL N f x).length := ⟨_, rfl⟩
        rw [← hdn] at HD1 hdl
        rw [← hdn]
        have Hdn := hide hdn
        clear hdn
        go_upto_region 12 with fail
        generalize wr.alloc (.cells #[.int .i64 (f x).dk, .int .i64 (f x).bed, .int .i64 (f x).ndl, .int .i64 (f x).car, .int .i64 (f x).tt] 44) = w5 at *
        have ce := unhide CE
        obtain ⟨-, x0, x1, x2, x3, x4⟩ := unhide HX
        have HD2 := hide (own_keep (unhide HD1) (bnew w5 (.cells #[.int .i64 (f x).dk, .int .i64 (f x).bed, .int .i64 (f x).ndl, .int .i64 (f x).car, .int .i64 (f x).tt] 44)))
        have HY2 := hide (own_lit (B := 0) (e := 44) (z := 5) (k := 1) w5 #[.int .i64 (f x).dk, .int .i64 (f x).bed, .int .i64 (f x).ndl, .int .i64 (f x).car, .int .i64 (f x).tt] (Nat.zero_le _) (by unfold maxLen; omega) rfl)
        have H1 := hide (show ∀ u ∈ (#[Value.int .i64 (f x).dk, .int .i64 (f x).bed, .int .i64 (f x).ndl, .int .i64 (f x).car, .int .i64 (f x).tt] : Array Value).toList, u.oneCell' = true by
          intro u hu
          simp at hu
          rcases hu with rfl | rfl | rfl | rfl | rfl <;> rfl)
        have hsz5 := (unhide HB1).size
        go_wp2_with (at_builtin; refine wl_app rfl rfl Try.underlying22 info44 rfl (by decide) (B := w3.heap.size) (C := 0) (n := dn) (m := 1) rfl rfl (unhide HD2) (unhide HY2) (unhide H1) (by unfold maxLen; omega) (by omega) (by simp; omega) ?_)
        intro v' w6 hown' hgrow _
        have HB6 := hide ((btrans (unhide HB1) (bnew w5 (.cells #[.int .i64 (f x).dk, .int .i64 (f x).bed, .int .i64 (f x).ndl, .int .i64 (f x).car, .int .i64 (f x).tt] 44))).grown hgrow (by simp; omega) (fun k hk => ((unhide HD2).lt k hk).1))
        have HD6 := hide hown'
        obtain ⟨q', cap', rfl⟩ := own_form hown'
        clear hown' hgrow x0 x1 x2 x3 x4 c0 c1 c2 c3 c4 ce
        go_wp2
        go_roundw
        case rel => exact ⟨x + 1, by omega, by go_num, by rw [unhide Hok, stV_snoc, List.length_append]; exact (unhide Hdn) ▸ unhide HD6, unhide HB6⟩
        case measure => simp [intOf]; omega
      · have Hok := hide (show okL N f (x + 1) = okL N f x by simp only [okL]; rw [if_neg h0])
        have g0 : (erS N f x == 0) = false := by simpa using h0
        obtain ⟨er, her⟩ : ∃ er, er = erS N f x := ⟨_, rfl⟩
        rw [← her] at g0 CE
        clear h0 her
        go_upto_region 12 with fail
        generalize wr.alloc (.cells #[.int .i64 (f x).dk, .int .i64 (f x).bed, .int .i64 (f x).ndl, .int .i64 (f x).car, .int .i64 (f x).tt] 44) = w5 at *
        have ce := unhide CE
        go_wp2
        go_roundw
        case rel => exact ⟨x + 1, by omega, by go_num, by rw [unhide Hok]; exact unhide HD1, unhide HB1⟩
        case measure => simp [intOf]; omega
    · obtain rfl : n = x := by omega
      have cl : ¬ ((n : Int) < (n : Int)) := by omega
      have hsk := skips N f n
      have hle := okL_le N f n
      have HRun := hide (run_ok (N := N) (c := dc) h1 hN (own_sc (unhide HD)) (by omega) hsk.2)
      rw [hsk.1] at HRun
      have HKb2 := hide ((unhide HKb).keep (unhide HB))
      clear hsk hle
      go_wp2_with fail
      refine (unhide HRun).mono ?_
      rintro e w8 ⟨v8, rfl, hR8, hb8⟩
      obtain ⟨e1, e2, e3, e4, e5, e6, e7, e8, e9, e10, e11, e12, rfl⟩ := hR8.parts
      have T8 := hide (btrans (unhide HB) hb8)
      have HR8 := hide hR8
      rw [← unhide Hrk] at HR8
      rw [← unhide Hrk]
      have HKb8 := hide ((unhide HKb2).keep hb8)
      clear hR8 hb8 HRun
      obtain ⟨tb1, tb2, tb3⟩ := two_boxes w8 (.slice e1 e2 e3) (.slice e4 e5 e6) (.slice e7 e8 e9) (.slice e10 e12 e11) rk 0 0
      have H1 := hide tb1
      have H2 := hide tb2
      have H3 := hide tb3
      have HKb9 := hide ((unhide HKb8).keep tb3)
      have T9 := hide (btrans (unhide T8) tb3)
      have HSame := hide (same_any ((unhide HR3).keep (unhide T9)) ((unhide HR8).keep tb3) (unhide HFit))
      clear tb1 tb2 tb3 HKb8
      go_upto_region 16 with fail
      generalize (w8.alloc (.cells #[.slice e1 e2 e3, .slice e4 e5 e6, .slice e7 e8 e9, .slice e10 e12 e11, .int .i64 rk] 27)).alloc (.cells #[.int .i64 0, .int .i64 0] 30) = w9 at *
      obtain ⟨-, ⟨k0, k1, k2, k3, k4⟩, -⟩ := unhide HKb9
      obtain ⟨-, ⟨l0, l1, l2, l3, l4⟩, -⟩ := unhide H1
      obtain ⟨-, ⟨m0, m1⟩, -⟩ := unhide H2
      go_wp2_with fail
      refine (unhide HSame).mono ?_
      rintro e w10 ⟨rfl, hb10⟩
      have S10 := hide (btrans (btrans (unhide S3) (unhide T9)) hb10)
      clear hb10
      go_wp2
      go_ret
      exact ⟨rfl, unhide S10⟩
theorem skips_any (n : Int) (W : World) (q : Option Addr) (l c : Nat) (f : Nat → Sx) (hs : Sc W q l f) (hl : l * 40 + 4096 ≤ 140737488355328) : LawIs 6 #[.int .i64 n, .slice q l c] W := by
  by_cases h : n < 1 ∨ 128 < n
  · exact skips_new n W q l c h
  · obtain ⟨N, rfl⟩ : ∃ N : Nat, n = N := ⟨n.toNat, by omega⟩
    exact skips_ok (by omega) (by omega) hs hl
end Go.Proofs.Ytnolblcfafdnpaa
