/-
  The reference's String.
-/
import Derived.Test.YtbmgjoocpbikkaaRF
namespace Go.Proofs.Ytbmgjoocpbikkaa
open Go.RowKit

theorem ir_new {W : World} {B n cap b : Nat} {q : Option Addr} {f : Nat → Int} (h : IR W B (.slice q n cap) n f) {a : Addr} (e : q = some a) (hb : b < B) : a.block ≠ b := by
  rcases h.2 with ⟨e1, _⟩ | ⟨g, c, cur, e1, e2, _⟩
  · cases e1; cases e
  · cases e1; cases e; dsimp only; omega

set_option maxRecDepth 100000 in
set_option maxHeartbeats 4000000 in
theorem rstring_wrong (g w h : Int) (p : Option Addr) (n cap : Nat) (px : Nat → Int) (W : World) (hI : T.Is W p n px) (ht : Ch.wE g w h n px ≠ 0) : Calls Try.prog 10 #[Ch.ch g w h p n cap] W (StP g w h n px W) := by
  have hq : pE g w h n px = Ch.wE g w h n px := by unfold pE; rw [if_neg ht]
  have HR := hide (show StrR g w h n px (Ch.wE g w h n px) 0 0 (fun _ => 0) from .inl ⟨by rw [hq]; exact ht, hq.symm, rfl, rfl⟩)
  have B0 := hide (bal (o := .cells #[.slice none 0 0, .slice none 0 0] 24) (bnew W (.cells #[.int .i64 g, .int .i64 w, .int .i64 h, .slice p n cap] 29)))
  have O0 := hide ((OwnC.new W g w h p n cap 29).keep (bnew _ (.cells #[.slice none 0 0, .slice none 0 0] 24)))
  have hZ := Bx.new (W.alloc (.cells #[.int .i64 g, .int .i64 w, .int .i64 h, .slice p n cap] 29)) #[.slice none 0 0, .slice none 0 0] 24
  rw [World.size_alloc] at hZ
  have Z0 := hide hZ
  have HP := hide (show Calls Try.prog 26 #[Ch.ch g w h p n cap] _ (ErIs _ (Ch.wE g w h n px)) from Ch.rwrong_any g w h p n cap px _ (hI.keep (unhide B0)))
  clear hZ
  have hne : (Ch.wE g w h n px != 0) = true := by simp [ht]
  clear hI ht hq
  generalize Ch.wE g w h n px = er at *
  go_enter Try.func10, Try.ntmps10
  go_upto_region 3 with (go_at_call 26; refine (unhide HP).mono ?_; rintro e w1 ⟨rfl, hb1⟩)
  have hz := ((unhide Z0).keep hb1)
  obtain ⟨x0, y0⟩ := hz.2 0 _ rfl
  obtain ⟨x1, y1⟩ := hz.2 1 _ rfl
  obtain ⟨w12, hw12, hb12, hk12, hx12⟩ := put24 (btrans (unhide B0) hb1) (show W.heap.size ≤ W.heap.size + 1 by omega) hz rfl (.slice none 0 0) (.slice none 0 0)
  have HX := hide hx12
  have HB := hide hb12
  clear hx12 hb12 hk12
  go_wp2_with fail
  have u0 := ((unhide HX).2 0 _ rfl).1
  have u1 := ((unhide HX).2 1 _ rfl).1
  exact bodyPost_ret (v := .tuple #[sg none 0 0 none 0 0, .int .i64 er]) (by simp [results, Try.results10, go_sem, u0, u1]) rfl (StP.err (unhide HR) (unhide HB))

set_option maxRecDepth 100000 in
set_option maxHeartbeats 4000000 in
theorem rstring_grid (g w h : Int) (p : Option Addr) (n cap : Nat) (px : Nat → Int) (W : World) (hI : T.Is W p n px) (ht : Ch.wE g w h n px = 0) (hg : g ≠ 4) : Calls Try.prog 10 #[Ch.ch g w h p n cap] W (StP g w h n px W) := by
  have hq : pE g w h n px = 8 := by unfold pE; rw [if_pos ht, if_neg hg]
  have HR := hide (show StrR g w h n px 8 0 0 (fun _ => 0) from .inl ⟨by rw [hq]; decide, hq.symm, rfl, rfl⟩)
  have B0 := hide (bal (o := .cells #[.slice none 0 0, .slice none 0 0] 24) (bnew W (.cells #[.int .i64 g, .int .i64 w, .int .i64 h, .slice p n cap] 29)))
  have O0 := hide ((OwnC.new W g w h p n cap 29).keep (bnew _ (.cells #[.slice none 0 0, .slice none 0 0] 24)))
  have hZ := Bx.new (W.alloc (.cells #[.int .i64 g, .int .i64 w, .int .i64 h, .slice p n cap] 29)) #[.slice none 0 0, .slice none 0 0] 24
  rw [World.size_alloc] at hZ
  have Z0 := hide hZ
  have HP := hide (show Calls Try.prog 26 #[Ch.ch g w h p n cap] _ (ErIs _ (Ch.wE g w h n px)) from Ch.rwrong_any g w h p n cap px _ (hI.keep (unhide B0)))
  clear hZ
  rw [ht] at HP
  have hne : (g != 4) = true := by simp [hg]
  clear hI ht hg hq
  go_enter Try.func10, Try.ntmps10
  go_upto_region 5 with (go_at_call 26; refine (unhide HP).mono ?_; rintro e w1 ⟨rfl, hb1⟩; obtain ⟨_, o0, o1, o2, o3⟩ := (unhide O0).keep hb1)
  clear o0 o1 o2 o3
  have hz := ((unhide Z0).keep hb1)
  obtain ⟨x0, y0⟩ := hz.2 0 _ rfl
  obtain ⟨x1, y1⟩ := hz.2 1 _ rfl
  obtain ⟨w12, hw12, hb12, hk12, hx12⟩ := put24 (btrans (unhide B0) hb1) (show W.heap.size ≤ W.heap.size + 1 by omega) hz rfl (.slice none 0 0) (.slice none 0 0)
  have HX := hide hx12
  have HB := hide hb12
  clear hx12 hb12 hk12
  go_wp2_with fail
  have u0 := ((unhide HX).2 0 _ rfl).1
  have u1 := ((unhide HX).2 1 _ rfl).1
  exact bodyPost_ret (v := .tuple #[sg none 0 0 none 0 0, .int .i64 8]) (by simp [results, Try.results10, go_sem, u0, u1]) rfl (StP.err (unhide HR) (unhide HB))

set_option maxRecDepth 100000 in
set_option maxHeartbeats 4000000 in
theorem rstring_ok (w h : Nat) (p : Option Addr) (n cap : Nat) (px : Nat → Int) (W : World) (hI : T.Is W p n px) (he : pE 4 w h n px = 0) : Calls Try.prog 10 #[Ch.ch 4 w h p n cap] W (StP 4 w h n px W) := by
  obtain ⟨_, ⟨hw1, hw2⟩, ⟨hh1, hh2⟩, hn, hpx⟩ := pE_zero he
  have w1 : 1 ≤ w := by omega
  have w2 : w ≤ 64 := by omega
  have h1 : 1 ≤ h := by omega
  have h2 : h ≤ 64 := by omega
  have hnn : n = w * h := by rw [← Int.natCast_mul] at hn; exact Int.ofNat.inj hn
  have hpx2 : ∀ k, k < w * h → 0 ≤ px k ∧ px k ≤ 61 := fun k hk => hpx k (by rw [hnn]; exact hk)
  have Hok := hide (show (pic w h px).Ok from pic_ok hpx2)
  have HW := hide (fun (V : World) (hI : T.Is V p n px) {q1 q2 : Option Addr} {c1 c2 : Nat} {g : Nat → Int} (k1 : T.Is V q1 w g) (k2 : T.Is V q2 h (fun y => g (w + y))) (hR : InR (pic w h px) g) => follows_any (cap := cap) (c1 := c1) (c2 := c2) ⟨w1, w2⟩ ⟨h1, h2⟩ hnn hI hpx2 k1 k2 hR)
  have hwe : Ch.wE 4 w h n px = 0 := by
    unfold pE at he
    split at he
    · assumption
    · exact he
  have B0 := hide (bal (o := .cells #[.slice none 0 0, .slice none 0 0] 24) (bnew W (.cells #[.int .i64 4, .int .i64 w, .int .i64 h, .slice p n cap] 29)))
  have O0 := hide ((OwnC.new W 4 w h p n cap 29).keep (bnew _ (.cells #[.slice none 0 0, .slice none 0 0] 24)))
  have hZ := Bx.new (W.alloc (.cells #[.int .i64 4, .int .i64 w, .int .i64 h, .slice p n cap] 29)) #[.slice none 0 0, .slice none 0 0] 24
  rw [World.size_alloc] at hZ
  have Z0 := hide hZ
  have HP := hide (show Calls Try.prog 26 #[Ch.ch 4 w h p n cap] _ (ErIs _ (Ch.wE 4 w h n px)) from Ch.rwrong_any 4 w h p n cap px _ (hI.keep (unhide B0)))
  clear hZ
  rw [hwe] at HP
  have He := hide he
  have HI := hide hI
  clear hI he hwe hw1 hw2 hh1 hh2 hn hpx hnn hpx2
  go_enter Try.func10, Try.ntmps10
  go_upto_region 6 with (go_at_call 26; refine (unhide HP).mono ?_; rintro e w5 ⟨rfl, hb1⟩; obtain ⟨_, o0, o1, o2, o3⟩ := (unhide O0).keep hb1)
  clear o0 o1 o2 o3 HP
  have O1 := hide ((unhide O0).keep hb1)
  have Z1 := hide ((unhide Z0).keep hb1)
  have B1 := hide (btrans (unhide B0) hb1)
  have HI1 := hide ((unhide HI).keep (unhide B1))
  clear hb1 O0 Z0 B0 HI
  go_wp2
  go_loopw [5, 7] (fun v c wr => ∃ x : Nat, x ≤ w ∧ c = .int .i64 x ∧ IR wr w5.heap.size v x (fun _ => -1) ∧ Below w5.heap.size w5 wr) (fun _ c _ => w - (intOf c).toNat)
  case atStart => exact ⟨0, by omega, rfl, IR.nil _ _ _, Below.refl _ _⟩
  case round =>
    obtain ⟨x, hx, rfl, hi, hb⟩ := hrel
    have HIR := hide hi
    have HBR := hide hb
    obtain ⟨-, o0, o1, o2, o3⟩ := (unhide O1).keep hb
    by_cases hlt : x < w
    · have qx : (x : Int) < (w : Int) := by omega
      have hO := own_keep hi (bnew wr (.cells #[.int .i64 (-1)] 3))
      have hsz := hb.size
      clear hi hb
      go_wp2_with (at_builtin; refine wl_app rfl rfl Try.underlying22 info3 rfl (by decide) rfl rfl hO (lit_row wr (.int .i64 (-1)) 3) (lit_one rfl) (by unfold maxLen; omega) (by omega) (by rw [World.size_alloc]; omega) ?_)
      intro v' w7 hown' hgrow _
      have HN := hide (show IR w7 w5.heap.size v' (x + 1) (fun _ => -1) from by unfold IR; rw [vals_succ]; exact hown')
      have HBN := hide (show Below w5.heap.size w5 w7 from (bal (o := .cells #[.int .i64 (-1)] 3) (unhide HBR)).grown hgrow (by rw [World.size_alloc]; omega) (fun k hk => (hO.lt k hk).1))
      clear hown' hgrow hO o0 o1 o2 o3
      go_wp2
      go_roundw
      case rel => exact ⟨x + 1, by omega, by go_num, unhide HN, unhide HBN⟩
      case measure => simp [intOf]; omega
    · obtain rfl : w = x := by omega
      have cl : ¬ ((w : Int) < (w : Int)) := by omega
      clear hi hb
      obtain ⟨qe, ce, rfl⟩ := (unhide HIR).form
      have IE := hide ((unhide HIR).is)
      have NE := hide (show ∀ a, qe = some a → a.block ≠ W.heap.size + 1 from fun a ea => ir_new (unhide HIR) ea (unhide Z1).1)
      have O2 := hide ((unhide O1).keep (unhide HBR))
      have Z2 := hide ((unhide Z1).keep (unhide HBR))
      have B2 := hide (btrans (unhide B1) (unhide HBR))
      have HI2 := hide ((unhide HI1).keep (unhide HBR))
      clear HIR HBR O1 Z1 B1 HI1
      go_wp2
      clear o0 o1 o2 o3
      generalize wr = w8 at *
      go_loopw [6, 8] (fun v c wr => ∃ x : Nat, x ≤ h ∧ c = .int .i64 x ∧ IR wr w8.heap.size v x (fun _ => -1) ∧ Below w8.heap.size w8 wr) (fun _ c _ => h - (intOf c).toNat)
      case atStart => exact ⟨0, by omega, rfl, IR.nil _ _ _, Below.refl _ _⟩
      case round =>
        obtain ⟨x, hx, rfl, hi, hb⟩ := hrel
        have HIR := hide hi
        have HBR := hide hb
        obtain ⟨-, o0, o1, o2, o3⟩ := (unhide O2).keep hb
        by_cases hlt : x < h
        · have qx : (x : Int) < (h : Int) := by omega
          have hO := own_keep hi (bnew wr (.cells #[.int .i64 (-1)] 3))
          have hsz := hb.size
          clear hi hb
          go_wp2_with (at_builtin; refine wl_app rfl rfl Try.underlying22 info3 rfl (by decide) rfl rfl hO (lit_row wr (.int .i64 (-1)) 3) (lit_one rfl) (by unfold maxLen; omega) (by omega) (by rw [World.size_alloc]; omega) ?_)
          intro v' w7 hown' hgrow _
          have HN := hide (show IR w7 w8.heap.size v' (x + 1) (fun _ => -1) from by unfold IR; rw [vals_succ]; exact hown')
          have HBN := hide (show Below w8.heap.size w8 w7 from (bal (o := .cells #[.int .i64 (-1)] 3) (unhide HBR)).grown hgrow (by rw [World.size_alloc]; omega) (fun k hk => (hO.lt k hk).1))
          clear hown' hgrow hO o0 o1 o2 o3
          go_wp2
          go_roundw
          case rel => exact ⟨x + 1, by omega, by go_num, unhide HN, unhide HBN⟩
          case measure => simp [intOf]; omega
        · obtain rfl : h = x := by omega
          have cl : ¬ ((h : Int) < (h : Int)) := by omega
          clear hi hb
          obtain ⟨qp, cp, rfl⟩ := (unhide HIR).form
          have IP := hide ((unhide HIR).is)
          have NP := hide (show ∀ a, qp = some a → a.block ≠ W.heap.size + 1 from fun a ea => ir_new (unhide HIR) ea (unhide Z2).1)
          have IE3 := hide ((unhide IE).keep (unhide HBR))
          have O3 := hide ((unhide O2).keep (unhide HBR))
          have Z3 := hide ((unhide Z2).keep (unhide HBR))
          have B3 := hide (btrans (unhide B2) (unhide HBR))
          have HI3 := hide ((unhide HI2).keep (unhide HBR))
          clear HIR HBR O2 Z2 B2 HI2 IE
          go_wp2
          clear o0 o1 o2 o3
          generalize wr = w9 at *
          obtain ⟨Kk, hKk⟩ : ∃ Kk, Kk = w + h := ⟨_, rfl⟩
          have eK : (w : Int) + (h : Int) = (Kk : Int) := by omega
          have hK128 : Kk ≤ 128 := by omega
          have HK := hide hKk
          have HNE := hide (show (∀ a, qe = some a → a.block ≠ W.heap.size + 1) ∧ (∀ a, qp = some a → a.block ≠ W.heap.size + 1) from ⟨unhide NE, unhide NP⟩)
          have HS0 := hide (Inv.start (pic w h px) (fun _ => -1) (fun _ _ => rfl) (unhide Hok))
          clear hKk
          go_loopw [5, 6, 9] (fun v5 v6 v9 wr => ∃ (k : Nat) (q1 : Option Addr) (c1 : Nat) (q2 : Option Addr) (c2 : Nat) (G : Nat → Int), v5 = .slice q1 w c1 ∧ v6 = .slice q2 h c2 ∧ v9 = .int .i64 k ∧ k ≤ Kk ∧ T.Is wr q1 w G ∧ T.Is wr q2 h (fun y => G (w + y)) ∧ Below w9.heap.size w9 wr ∧ Inv (pic w h px) k G ∧ (∀ a, q1 = some a → a.block ≠ W.heap.size + 1) ∧ (∀ a, q2 = some a → a.block ≠ W.heap.size + 1)) (fun _ _ v9 _ => Kk - (intOf v9).toNat)
          case atStart => exact ⟨0, qe, ce, qp, cp, fun _ => -1, rfl, rfl, rfl, by omega, unhide IE3, unhide IP, Below.refl _ _, unhide HS0, (unhide HNE).1, (unhide HNE).2⟩
          case round =>
            clear IE3 IP HS0
            obtain ⟨k, q1, c1, q2, c2, G, rfl, rfl, rfl, hk, j1, j2, hb, hinv, n1, n2⟩ := hrel
            have N1 := hide n1
            have N2 := hide n2
            clear n1 n2
            have J1 := hide j1
            have J2 := hide j2
            have HB := hide hb
            have HV := hide hinv
            clear j1 j2 hinv
            obtain ⟨-, o0, o1, o2, o3⟩ := (unhide O3).keep hb
            by_cases hlt : k < Kk
            · have qk : (k : Int) < (Kk : Int) := by omega
              have HkP := hide (show k < (pic w h px).n by show k < w + h; rw [← unhide HK]; exact hlt)
              by_cases hkw : k < w
              · have qw : (k : Int) < (w : Int) := by omega
                have qw2 : ¬ (w : Int) ≤ (k : Int) := by omega
                have qw3 : (0 : Int) ≤ (k : Int) := by omega
                obtain ⟨b1, i1, e1, _, hcell⟩ := ((unhide J1)).at hkw
                subst e1
                have hd := (unhide HV).2.1 k (unhide HkP)
                by_cases hgk : G k = -1
                · have Hgk := hide hgk
                  rw [hgk] at hcell
                  clear hgk hd
                  go_wp2
                  clear o0 o1 o2 o3 hcell
                  go_loopw [5, 6, 10, 11] (fun v5 v6 v10 v11 wr => ∃ (nn : Nat) (found : Bool) (q1' : Option Addr) (c1' : Nat) (q2' : Option Addr) (c2' : Nat) (G' : Nat → Int), v5 = .slice q1' w c1' ∧ v6 = .slice q2' h c2' ∧ v10 = .bool found ∧ v11 = .int .i64 nn ∧ nn ≤ 62 ∧ T.Is wr q1' w G' ∧ T.Is wr q2' h (fun y => G' (w + y)) ∧ Below w9.heap.size w9 wr ∧ (∀ a, q1' = some a → a.block ≠ W.heap.size + 1) ∧ (∀ a, q2' = some a → a.block ≠ W.heap.size + 1) ∧ (found = false → G' = G ∧ ∀ m : Int, 0 ≤ m → m < (nn : Int) → Nv (pic w h px) G k m) ∧ (found = true → ∃ m : Int, 0 ≤ m ∧ Step (pic w h px) G k m G' ∧ ∀ m' : Int, 0 ≤ m' → m' < m → Nv (pic w h px) G k m')) (fun _ _ _ v11 _ => 62 - (intOf v11).toNat)
                  case atStart => exact ⟨0, false, _, c1, _, c2, G, rfl, rfl, rfl, rfl, by omega, unhide J1, unhide J2, unhide HB, unhide N1, unhide N2, (fun _ => ⟨rfl, fun m a b => by omega⟩), fun e => by cases e⟩
                  case round =>
                    clear J1 J2 HB N1 N2
                    obtain ⟨nn, found, q1', c1', q2', c2', G', rfl, rfl, rfl, rfl, hn62, j1, j2, hb, n1, n2, hf0, hf1⟩ := hrel
                    have N1 := hide n1
                    have N2 := hide n2
                    clear n1 n2
                    have HB := hide hb
                    cases found
                    · obtain ⟨rfl, hnv⟩ := hf0 rfl
                      have HNv := hide hnv
                      clear hf0 hf1 hnv
                      by_cases hn : nn < 62
                      · have qn : (nn : Int) < 62 := by omega
                        have J1 := hide j1
                        have J2 := hide j2
                        clear hb
                        have hL1 := own_lit (B := wr.heap.size) (e := 3) (z := 1) (k := 0) wr #[] (Nat.le_refl _) (by unfold maxLen; omega) rfl
                        have I1' := j1.keep (bnew wr (.cells #[] 3))
                        have I2 := j2
                        obtain ⟨pk, hpk⟩ : ∃ pk : Nat → Int, pk = fun y => G' (w + y) := ⟨_, rfl⟩
                        rw [← hpk] at I2
                        have Hpk := hide hpk
                        clear hpk j1 j2
                        go_wp2_with (at_builtin; refine wl_src rfl rfl Try.underlying22 info3 rfl (by decide) rfl rfl hL1 (is_src I1' w1 c1') (vals_one G' w) (by unfold maxLen; omega) (by omega) (by simp) ?_)
                        intro v4 w4 hown4 hgrow4 hat4
                        have b4 : Below wr.heap.size wr w4 := (bnew wr (.cells #[] 3)).grown hgrow4 (by simp) (fun k hk => by have := (hL1.lt k hk).1; omega)
                        have hA4 : IR w4 wr.heap.size v4 w G' := hown4
                        have I2' := (I2.keep b4).keep (bnew w4 (.cells #[] 3))
                        have hL2 := own_lit (B := wr.heap.size) (e := 3) (z := 1) (k := 0) w4 #[] b4.size (by unfold maxLen; omega) rfl
                        have hA5 := own_keep hA4 (bnew w4 (.cells #[] 3))
                        clear hown4 hgrow4 hat4
                        go_wp2_with (at_builtin; refine wl_src rfl rfl Try.underlying22 info3 rfl (by decide) rfl rfl hL2 (is_src I2' h1 c2') (vals_one pk h) (by unfold maxLen; omega) (by omega) (by have := b4.size; rw [World.size_alloc]; omega) ?_)
                        intro v6 w6 hown6 hgrow6 hat6
                        have hD : Df v4 (.slice (some ⟨w4.heap.size, 0, none⟩) 0 0) := Df.new hA4 0
                        have hA6 : IR w6 wr.heap.size v4 w G' := hD.symm.kept hA5 hgrow6
                        have hD6 : Df v6 v4 := hD.symm.app hA5 (by rw [World.size_alloc]; exact hat6)
                        have b6 : Below wr.heap.size wr w6 := (b4.trans ((bnew w4 (.cells #[] 3)).mono b4.size)).grown hgrow6 (by have := b4.size; rw [World.size_alloc]; omega) (fun k hk => (hL2.lt k hk).1)
                        have hB6 : IR w6 wr.heap.size v6 h pk := hown6
                        obtain ⟨ba, ca, rfl, hra, hba⟩ := hA6.slice w1
                        obtain ⟨bb, cb, rfl, hrb, hbb⟩ := hB6.slice h1
                        have hne : ba ≠ bb := fun e => hD6 bb rfl (by rw [e]; rfl)
                        have hF : FR w6 w6 ba bb w h G' := ⟨hra, hrb.congr (fun j _ => by rw [unhide Hpk]), Kept.refl _ _⟩
                        have HB6 := hide b6
                        have Hge := hide (show wr.heap.size ≤ ba ∧ wr.heap.size ≤ bb from ⟨hba, hbb⟩)
                        clear hown6 hgrow6 hat6 hD hA6 hD6 hB6 hra hrb hba hbb hA4 hA5 hL1 hL2 I1' I2' I2 b4 b6 Hpk
                        have HO6 := (unhide O3).keep ((unhide HB).trans ((unhide HB6).mono (unhide HB).size))
                        obtain ⟨-, o0, o1, o2, o3⟩ := HO6
                        have hO3' := (unhide O3).keep ((unhide HB).trans ((unhide HB6).mono (unhide HB).size))
                        have hfe := (hF.1.2 k hkw).2
                        have hce := (hF.1.2 k hkw).1
                        obtain ⟨w7, hw7⟩ : ∃ w7, w6.setCell ⟨ba, k, none⟩ (.int .i64 (nn : Int)) = w7 := ⟨_, rfl⟩
                        have hF7 : FR w6 w7 ba bb w h (put G' k nn) := by rw [← hw7]; exact hF.setE hne hkw (nn : Int)
                        have hB7 : Below wr.heap.size wr w7 := two_fresh (unhide HB6) (unhide HB6).size (unhide Hge).1 (unhide Hge).2 hF7.2.2
                        have HB7 := hide ((unhide HB).trans (hB7.mono (unhide HB).size))
                        obtain ⟨-, p0, p1, p2, p3⟩ := (unhide O3).keep (unhide HB7)
                        have HC := hide (HW w7 ((unhide HI3).keep (unhide HB7)) (c1 := ca) (c2 := cb) hF7.1.is0 hF7.2.1.is0 ((unhide HV).2.1.put k (show (0 : Int) ≤ (nn : Int) by omega) (show (nn : Int) ≤ 61 by omega)))
                        have Hw7 := hide (show W.heap.size + 1 < w7.heap.size by have := (unhide Z3).1; have := (unhide HB7).size; omega)
                        have HJ := hide (And.intro ((unhide J1).keep hB7) ((unhide J2).keep hB7))
                        clear hF hF7 hB7 hne J1 J2 HB HB6 Hge hO3'
                        go_wp2_with (go_at_call 27; refine (unhide HC).mono ?_; rintro e w8 ⟨hb8, hcase⟩; clear o0 o1 o2 o3 p0 p1 p2 p3 hfe hce hw7; have HB8 := hide ((unhide HB7).trans (hb8.mono (unhide HB7).size)); have HJ8 := hide (And.intro ((unhide HJ).1.keep hb8) ((unhide HJ).2.keep hb8)); clear hb8; rcases hcase with ⟨r1, d1, r2, d2, G2, rfl, k1, k2, hFw, m1, m2⟩ | ⟨rfl, hNf⟩)
                        · have K1 := hide k1
                          have K2 := hide k2
                          have M1 := hide (show ∀ a : Addr, r1 = some a → a.block ≠ W.heap.size + 1 from fun a e => by have := m1 a e; have := (unhide Hw7); omega)
                          have M2 := hide (show ∀ a : Addr, r2 = some a → a.block ≠ W.heap.size + 1 from fun a e => by have := m2 a e; have := (unhide Hw7); omega)
                          clear m1 m2
                          have HSt := hide (hFw.toStep (unhide HkP) (unhide Hgk) (by omega))
                          clear k1 k2 hFw
                          go_roundw
                          case rel => exact ⟨nn + 1, true, r1, d1, r2, d2, G2, rfl, rfl, rfl, by go_num, by omega, unhide K1, unhide K2, unhide HB8, unhide M1, unhide M2, (fun e => by cases e), fun _ => ⟨(nn : Int), by omega, unhide HSt, unhide HNv⟩⟩
                          case measure => simp [intOf]; omega
                        · have HNf := hide hNf.nv
                          clear hNf
                          go_roundw
                          case rel =>
                            refine ⟨nn + 1, false, q1', c1', q2', c2', G', rfl, rfl, rfl, by go_num, by omega, (unhide HJ8).1, (unhide HJ8).2, unhide HB8, unhide N1, unhide N2, (fun _ => ⟨rfl, fun m a b => ?_⟩), fun e => by cases e⟩
                            by_cases em : m = (nn : Int)
                            · rw [em]; exact unhide HNf
                            · exact unhide HNv m a (by omega)
                          case measure => simp [intOf]; omega
                      · obtain rfl : nn = 62 := by omega
                        have hz := (unhide Z3).keep hb
                        obtain ⟨x0, y0⟩ := hz.2 0 _ rfl
                        obtain ⟨x1, y1⟩ := hz.2 1 _ rfl
                        obtain ⟨w12, hw12, hb12, hk12, hx12⟩ := put24 (btrans (unhide B3) hb) (show W.heap.size ≤ W.heap.size + 1 by omega) hz rfl (.slice none 0 0) (.slice none 0 0)
                        have HX := hide hx12
                        have HB12 := hide hb12
                        have HR := hide (show StrR 4 w h n px 6 0 0 (fun _ => 0) from .inr ⟨unhide He, .inr ⟨rfl, rfl, rfl, fun a b ea eb => by
                          obtain rfl : w = a := by omega
                          obtain rfl : h = b := by omega
                          exact (unhide HV).none (unhide Hok) (unhide HkP) (fun m a b => unhide HNv m a (by omega))⟩⟩)
                        clear hb12 hx12 hk12 hz j1 j2 hb
                        go_wp2_with fail
                        have u0 := ((unhide HX).2 0 _ rfl).1
                        have u1 := ((unhide HX).2 1 _ rfl).1
                        exact bodyPost_ret (v := .tuple #[sg none 0 0 none 0 0, .int .i64 6]) (by simp [results, Try.results10, go_sem, u0, u1]) rfl (StP.err (unhide HR) (unhide HB12))
                    · obtain ⟨m, m0, hst, hlow⟩ := hf1 rfl
                      have HN := hide ((unhide HV).step (unhide HkP) m0 hst hlow)
                      have J1 := hide j1
                      have J2 := hide j2
                      clear hf0 hf1 hst hlow j1 j2 hb
                      by_cases hn : nn < 62
                      · have qn : (nn : Int) < 62 := by omega
                        go_wp2
                        go_roundw
                        case rel => exact ⟨k + 1, q1', c1', q2', c2', G', rfl, rfl, by go_num, by omega, unhide J1, unhide J2, unhide HB, unhide HN, unhide N1, unhide N2⟩
                        case measure => simp [intOf]; omega
                      · obtain rfl : nn = 62 := by omega
                        go_wp2
                        go_roundw
                        case rel => exact ⟨k + 1, q1', c1', q2', c2', G', rfl, rfl, by go_num, by omega, unhide J1, unhide J2, unhide HB, unhide HN, unhide N1, unhide N2⟩
                        case measure => simp [intOf]; omega
                · have HN := hide ((unhide HV).skip hgk)
                  have l1 : (0 : Int) ≤ G k := by omega
                  clear hd hgk
                  generalize G k = d at *
                  go_wp2
                  go_roundw
                  case rel => exact ⟨k + 1, _, c1, _, c2, G, rfl, rfl, by go_num, by omega, unhide J1, unhide J2, unhide HB, unhide HN, unhide N1, unhide N2⟩
                  case measure => simp [intOf]; omega
              · obtain ⟨y, hy⟩ : ∃ y, k = w + y := ⟨k - w, by omega⟩
                have Hky := hide hy
                have hyh : y < h := by have := unhide HK; omega
                have qw : ¬ (k : Int) < (w : Int) := by omega
                have qw2 : (w : Int) ≤ (k : Int) := by omega
                have qy0 : (k : Int) - (w : Int) = (y : Int) := by omega
                have qy1 : (y : Int) < (h : Int) := by omega
                clear hy
                obtain ⟨b1, i1, e1, _, hcell⟩ := ((unhide J2)).at hyh
                subst e1
                have hd := (unhide HV).2.1 k (unhide HkP)
                rw [← unhide Hky] at hcell
                by_cases hgk : G k = -1
                · have Hgk := hide hgk
                  rw [hgk] at hcell
                  clear hgk hd
                  go_wp2
                  clear o0 o1 o2 o3 hcell
                  go_loopw [5, 6, 10, 11] (fun v5 v6 v10 v11 wr => ∃ (nn : Nat) (found : Bool) (q1' : Option Addr) (c1' : Nat) (q2' : Option Addr) (c2' : Nat) (G' : Nat → Int), v5 = .slice q1' w c1' ∧ v6 = .slice q2' h c2' ∧ v10 = .bool found ∧ v11 = .int .i64 nn ∧ nn ≤ 62 ∧ T.Is wr q1' w G' ∧ T.Is wr q2' h (fun y => G' (w + y)) ∧ Below w9.heap.size w9 wr ∧ (∀ a, q1' = some a → a.block ≠ W.heap.size + 1) ∧ (∀ a, q2' = some a → a.block ≠ W.heap.size + 1) ∧ (found = false → G' = G ∧ ∀ m : Int, 0 ≤ m → m < (nn : Int) → Nv (pic w h px) G k m) ∧ (found = true → ∃ m : Int, 0 ≤ m ∧ Step (pic w h px) G k m G' ∧ ∀ m' : Int, 0 ≤ m' → m' < m → Nv (pic w h px) G k m')) (fun _ _ _ v11 _ => 62 - (intOf v11).toNat)
                  case atStart => exact ⟨0, false, _, c1, _, c2, G, rfl, rfl, rfl, rfl, by omega, unhide J1, unhide J2, unhide HB, unhide N1, unhide N2, (fun _ => ⟨rfl, fun m a b => by omega⟩), fun e => by cases e⟩
                  case round =>
                    clear J1 J2 HB N1 N2
                    obtain ⟨nn, found, q1', c1', q2', c2', G', rfl, rfl, rfl, rfl, hn62, j1, j2, hb, n1, n2, hf0, hf1⟩ := hrel
                    have N1 := hide n1
                    have N2 := hide n2
                    clear n1 n2
                    have HB := hide hb
                    cases found
                    · obtain ⟨rfl, hnv⟩ := hf0 rfl
                      have HNv := hide hnv
                      clear hf0 hf1 hnv
                      by_cases hn : nn < 62
                      · have qn : (nn : Int) < 62 := by omega
                        have J1 := hide j1
                        have J2 := hide j2
                        clear hb
                        have hL1 := own_lit (B := wr.heap.size) (e := 3) (z := 1) (k := 0) wr #[] (Nat.le_refl _) (by unfold maxLen; omega) rfl
                        have I1' := j1.keep (bnew wr (.cells #[] 3))
                        have I2 := j2
                        obtain ⟨pk, hpk⟩ : ∃ pk : Nat → Int, pk = fun y => G' (w + y) := ⟨_, rfl⟩
                        rw [← hpk] at I2
                        have Hpk := hide hpk
                        clear hpk j1 j2
                        go_wp2_with (at_builtin; refine wl_src rfl rfl Try.underlying22 info3 rfl (by decide) rfl rfl hL1 (is_src I1' w1 c1') (vals_one G' w) (by unfold maxLen; omega) (by omega) (by simp) ?_)
                        intro v4 w4 hown4 hgrow4 hat4
                        have b4 : Below wr.heap.size wr w4 := (bnew wr (.cells #[] 3)).grown hgrow4 (by simp) (fun k hk => by have := (hL1.lt k hk).1; omega)
                        have hA4 : IR w4 wr.heap.size v4 w G' := hown4
                        have I2' := (I2.keep b4).keep (bnew w4 (.cells #[] 3))
                        have hL2 := own_lit (B := wr.heap.size) (e := 3) (z := 1) (k := 0) w4 #[] b4.size (by unfold maxLen; omega) rfl
                        have hA5 := own_keep hA4 (bnew w4 (.cells #[] 3))
                        clear hown4 hgrow4 hat4
                        go_wp2_with (at_builtin; refine wl_src rfl rfl Try.underlying22 info3 rfl (by decide) rfl rfl hL2 (is_src I2' h1 c2') (vals_one pk h) (by unfold maxLen; omega) (by omega) (by have := b4.size; rw [World.size_alloc]; omega) ?_)
                        intro v6 w6 hown6 hgrow6 hat6
                        have hD : Df v4 (.slice (some ⟨w4.heap.size, 0, none⟩) 0 0) := Df.new hA4 0
                        have hA6 : IR w6 wr.heap.size v4 w G' := hD.symm.kept hA5 hgrow6
                        have hD6 : Df v6 v4 := hD.symm.app hA5 (by rw [World.size_alloc]; exact hat6)
                        have b6 : Below wr.heap.size wr w6 := (b4.trans ((bnew w4 (.cells #[] 3)).mono b4.size)).grown hgrow6 (by have := b4.size; rw [World.size_alloc]; omega) (fun k hk => (hL2.lt k hk).1)
                        have hB6 : IR w6 wr.heap.size v6 h pk := hown6
                        obtain ⟨ba, ca, rfl, hra, hba⟩ := hA6.slice w1
                        obtain ⟨bb, cb, rfl, hrb, hbb⟩ := hB6.slice h1
                        have hne : ba ≠ bb := fun e => hD6 bb rfl (by rw [e]; rfl)
                        have hF : FR w6 w6 ba bb w h G' := ⟨hra, hrb.congr (fun j _ => by rw [unhide Hpk]), Kept.refl _ _⟩
                        have HB6 := hide b6
                        have Hge := hide (show wr.heap.size ≤ ba ∧ wr.heap.size ≤ bb from ⟨hba, hbb⟩)
                        clear hown6 hgrow6 hat6 hD hA6 hD6 hB6 hra hrb hba hbb hA4 hA5 hL1 hL2 I1' I2' I2 b4 b6 Hpk
                        have HO6 := (unhide O3).keep ((unhide HB).trans ((unhide HB6).mono (unhide HB).size))
                        obtain ⟨-, o0, o1, o2, o3⟩ := HO6
                        have hO3' := (unhide O3).keep ((unhide HB).trans ((unhide HB6).mono (unhide HB).size))
                        have hfe := (hF.2.1.2 y hyh).2
                        have hce := (hF.2.1.2 y hyh).1
                        obtain ⟨w7, hw7⟩ : ∃ w7, w6.setCell ⟨bb, y, none⟩ (.int .i64 (nn : Int)) = w7 := ⟨_, rfl⟩
                        have hF7 : FR w6 w7 ba bb w h (put G' k nn) := by rw [← hw7, unhide Hky]; exact hF.setP hne (y := y) (nn : Int)
                        have hB7 : Below wr.heap.size wr w7 := two_fresh (unhide HB6) (unhide HB6).size (unhide Hge).1 (unhide Hge).2 hF7.2.2
                        have HB7 := hide ((unhide HB).trans (hB7.mono (unhide HB).size))
                        obtain ⟨-, p0, p1, p2, p3⟩ := (unhide O3).keep (unhide HB7)
                        have HC := hide (HW w7 ((unhide HI3).keep (unhide HB7)) (c1 := ca) (c2 := cb) hF7.1.is0 hF7.2.1.is0 ((unhide HV).2.1.put k (show (0 : Int) ≤ (nn : Int) by omega) (show (nn : Int) ≤ 61 by omega)))
                        have Hw7 := hide (show W.heap.size + 1 < w7.heap.size by have := (unhide Z3).1; have := (unhide HB7).size; omega)
                        have HJ := hide (And.intro ((unhide J1).keep hB7) ((unhide J2).keep hB7))
                        clear hF hF7 hB7 hne J1 J2 HB HB6 Hge hO3'
                        go_wp2_with (go_at_call 27; refine (unhide HC).mono ?_; rintro e w8 ⟨hb8, hcase⟩; clear o0 o1 o2 o3 p0 p1 p2 p3 hfe hce hw7; have HB8 := hide ((unhide HB7).trans (hb8.mono (unhide HB7).size)); have HJ8 := hide (And.intro ((unhide HJ).1.keep hb8) ((unhide HJ).2.keep hb8)); clear hb8; rcases hcase with ⟨r1, d1, r2, d2, G2, rfl, k1, k2, hFw, m1, m2⟩ | ⟨rfl, hNf⟩)
                        · have K1 := hide k1
                          have K2 := hide k2
                          have M1 := hide (show ∀ a : Addr, r1 = some a → a.block ≠ W.heap.size + 1 from fun a e => by have := m1 a e; have := (unhide Hw7); omega)
                          have M2 := hide (show ∀ a : Addr, r2 = some a → a.block ≠ W.heap.size + 1 from fun a e => by have := m2 a e; have := (unhide Hw7); omega)
                          clear m1 m2
                          have HSt := hide (hFw.toStep (unhide HkP) (unhide Hgk) (by omega))
                          clear k1 k2 hFw
                          go_roundw
                          case rel => exact ⟨nn + 1, true, r1, d1, r2, d2, G2, rfl, rfl, rfl, by go_num, by omega, unhide K1, unhide K2, unhide HB8, unhide M1, unhide M2, (fun e => by cases e), fun _ => ⟨(nn : Int), by omega, unhide HSt, unhide HNv⟩⟩
                          case measure => simp [intOf]; omega
                        · have HNf := hide hNf.nv
                          clear hNf
                          go_roundw
                          case rel =>
                            refine ⟨nn + 1, false, q1', c1', q2', c2', G', rfl, rfl, rfl, by go_num, by omega, (unhide HJ8).1, (unhide HJ8).2, unhide HB8, unhide N1, unhide N2, (fun _ => ⟨rfl, fun m a b => ?_⟩), fun e => by cases e⟩
                            by_cases em : m = (nn : Int)
                            · rw [em]; exact unhide HNf
                            · exact unhide HNv m a (by omega)
                          case measure => simp [intOf]; omega
                      · obtain rfl : nn = 62 := by omega
                        have hz := (unhide Z3).keep hb
                        obtain ⟨x0, y0⟩ := hz.2 0 _ rfl
                        obtain ⟨x1, y1⟩ := hz.2 1 _ rfl
                        obtain ⟨w12, hw12, hb12, hk12, hx12⟩ := put24 (btrans (unhide B3) hb) (show W.heap.size ≤ W.heap.size + 1 by omega) hz rfl (.slice none 0 0) (.slice none 0 0)
                        have HX := hide hx12
                        have HB12 := hide hb12
                        have HR := hide (show StrR 4 w h n px 6 0 0 (fun _ => 0) from .inr ⟨unhide He, .inr ⟨rfl, rfl, rfl, fun a b ea eb => by
                          obtain rfl : w = a := by omega
                          obtain rfl : h = b := by omega
                          exact (unhide HV).none (unhide Hok) (unhide HkP) (fun m a b => unhide HNv m a (by omega))⟩⟩)
                        clear hb12 hx12 hk12 hz j1 j2 hb
                        go_wp2_with fail
                        have u0 := ((unhide HX).2 0 _ rfl).1
                        have u1 := ((unhide HX).2 1 _ rfl).1
                        exact bodyPost_ret (v := .tuple #[sg none 0 0 none 0 0, .int .i64 6]) (by simp [results, Try.results10, go_sem, u0, u1]) rfl (StP.err (unhide HR) (unhide HB12))
                    · obtain ⟨m, m0, hst, hlow⟩ := hf1 rfl
                      have HN := hide ((unhide HV).step (unhide HkP) m0 hst hlow)
                      have J1 := hide j1
                      have J2 := hide j2
                      clear hf0 hf1 hst hlow j1 j2 hb
                      by_cases hn : nn < 62
                      · have qn : (nn : Int) < 62 := by omega
                        go_wp2
                        go_roundw
                        case rel => exact ⟨k + 1, q1', c1', q2', c2', G', rfl, rfl, by go_num, by omega, unhide J1, unhide J2, unhide HB, unhide HN, unhide N1, unhide N2⟩
                        case measure => simp [intOf]; omega
                      · obtain rfl : nn = 62 := by omega
                        go_wp2
                        go_roundw
                        case rel => exact ⟨k + 1, q1', c1', q2', c2', G', rfl, rfl, by go_num, by omega, unhide J1, unhide J2, unhide HB, unhide HN, unhide N1, unhide N2⟩
                        case measure => simp [intOf]; omega
                · have HN := hide ((unhide HV).skip hgk)
                  have l1 : (0 : Int) ≤ G k := by omega
                  clear hd hgk
                  generalize G k = d at *
                  go_wp2
                  go_roundw
                  case rel => exact ⟨k + 1, _, c1, _, c2, G, rfl, rfl, by go_num, by omega, unhide J1, unhide J2, unhide HB, unhide HN, unhide N1, unhide N2⟩
                  case measure => simp [intOf]; omega
            · obtain rfl : Kk = k := by omega
              have cl : ¬ ((Kk : Int) < (Kk : Int)) := by omega
              have hz := (unhide Z3).keep hb
              obtain ⟨x0, y0⟩ := hz.2 0 _ rfl
              obtain ⟨x1, y1⟩ := hz.2 1 _ rfl
              obtain ⟨w13, hw13, hb13, hk13, hx13⟩ := put24 (btrans (unhide B3) hb) (show W.heap.size ≤ W.heap.size + 1 by omega) hz rfl (.slice q1 w c1) (.slice q2 h c2)
              have HX := hide hx13
              have HB13 := hide hb13
              have A1 := hide (is_but (unhide J1) hk13 (unhide N1))
              have A2 := hide (is_but (unhide J2) hk13 (unhide N2))
              have HV' := hide (show First (pic w h px) G from Inv.first (unhide Hok) (by show Inv (pic w h px) (w + h) G; rw [← unhide HK]; exact unhide HV))
              clear hb13 hx13 hz hk13
              go_wp2_with fail
              have u0 := ((unhide HX).2 0 _ rfl).1
              have u1 := ((unhide HX).2 1 _ rfl).1
              exact bodyPost_ret (v := .tuple #[sg q1 w c1 q2 h c2, .int .i64 0]) (by simp [results, Try.results10, go_sem, u0, u1]) rfl ⟨0, w, h, G, q1, c1, q2, c2, rfl, unhide A1, unhide A2, unhide HB13, .inr ⟨unhide He, .inl ⟨rfl, rfl, rfl, unhide HV'⟩⟩⟩
end Go.Proofs.Ytbmgjoocpbikkaa
