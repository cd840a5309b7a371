/-
  Shown: what is seen of a cloth.
-/
import Derived.Test.YtbmgjoocpbikkaaAp
namespace Go.Proofs.Ytbmgjoocpbikkaa
open Go.RowKit

/-- what is seen -/
def shw (w : Nat) (e p : Nat → Int) (f : Nat → Bool) (k : Nat) : Int := if f k then e (k % w) else p (k / w)
/-- what is wrong, or 0 -/
def shE (n m : Nat) (e p : Nat → Int) (w h : Int) (nb : Nat) : Int := if sE n m e p = 0 then (if T.wE w h nb = 0 then (if (n : Int) = w ∧ (m : Int) = h then 0 else 8) else T.wE w h nb) else sE n m e p
/-- what Shown tells -/
def ShR (n m : Nat) (e p : Nat → Int) (w h : Int) (nb : Nat) (f : Nat → Bool) (er g1 w1 h1 : Int) (k : Nat) (px : Nat → Int) : Prop :=
  (shE n m e p w h nb ≠ 0 ∧ er = shE n m e p w h nb ∧ g1 = 0 ∧ w1 = 0 ∧ h1 = 0 ∧ k = 0) ∨
  (shE n m e p w h nb = 0 ∧ er = 0 ∧ g1 = 4 ∧ w1 = (n : Int) ∧ h1 = (m : Int) ∧ k = n * m ∧ ∀ j, j < k → px j = shw n e p f j)
/-- what Shown answers -/
def ShP (n m : Nat) (e p : Nat → Int) (w h : Int) (nb : Nat) (f : Nat → Bool) (W : World) : Ending → World → Prop := fun e' w' =>
  ∃ er g1 w1 h1 k px q c, e' = .returned (.tuple #[Ch.ch g1 w1 h1 q k c, .int .i64 er]) ∧ T.Is w' q k px ∧ Below W.heap.size W w' ∧ ShR n m e p w h nb f er g1 w1 h1 k px
theorem ShP.err {n m : Nat} {e p : Nat → Int} {w h : Int} {nb : Nat} {f : Nat → Bool} {W w' : World} {er : Int} (h1 : shE n m e p w h nb ≠ 0) (h2 : er = shE n m e p w h nb) (hb : Below W.heap.size W w') : ShP n m e p w h nb f W (.returned (.tuple #[Ch.ch 0 0 0 none 0 0, .int .i64 er])) w' :=
  ⟨er, 0, 0, 0, 0, fun _ => 0, none, 0, rfl, .inl rfl, hb, .inl ⟨h1, h2, rfl, rfl, rfl, rfl⟩⟩
theorem put29 {B : Nat} {W0 W : World} (hb : Below B W0 W) {b : Nat} (hB : B ≤ b) {cs : List Value} (h : Bx W b cs) (hl : cs.length = 4) (v0 v1 v2 v3 : Value) :
    ∃ w', ((((W.setCell ⟨b, 0, none⟩ v0).setCell ⟨b, 1, none⟩ v1).setCell ⟨b, 2, none⟩ v2).setCell ⟨b, 3, none⟩ v3) = w' ∧ Below B W0 w' ∧ Kept (fun i => i = b) W w' ∧ Bx w' b [v0, v1, v2, v3] := by
  refine ⟨_, rfl, bset1 (bset1 (bset1 (bset1 hb hB _ _) hB _ _) hB _ _) hB _ _, (((kset _ b 0 _).trans (kset _ b 1 _)).trans (kset _ b 2 _)).trans (kset _ b 3 _), ?_⟩
  have := (((h.set 0 v0).set 1 v1).set 2 v2).set 3 v3
  obtain ⟨c0, c1, c2, c3, rfl⟩ : ∃ c0 c1 c2 c3, cs = [c0, c1, c2, c3] := by
    match cs, hl with
    | [c0, c1, c2, c3], _ => exact ⟨c0, c1, c2, c3, rfl⟩
  exact this

theorem OwnS.but' {w4 wr : World} {b bx : Nat} {p : Option Addr} {n c : Nat} {q : Option Addr} {m d : Nat} (k : OwnS w4 b p n c q m d) (h : Kept (fun i => i = bx) w4 wr) (hne : b ≠ bx) : OwnS wr b p n c q m d :=
  ⟨Nat.lt_of_lt_of_le k.1 h.size, h.cell k.1 hne k.2.1, h.cell k.1 hne k.2.2⟩
theorem OwnM_but {w4 wr : World} {b bx : Nat} {w h : Int} {p : Option Addr} {n cap : Nat} (k : T.OwnM w4 b w h p n cap) (hh : Kept (fun i => i = bx) w4 wr) (hne : b ≠ bx) : T.OwnM wr b w h p n cap :=
  ⟨Nat.lt_of_lt_of_le k.1 hh.size, hh.cell k.1 hne k.2.1, hh.cell k.1 hne k.2.2.1, hh.cell k.1 hne k.2.2.2⟩
theorem OwnC_but {w4 wr : World} {b bx : Nat} {g w h : Int} {p : Option Addr} {n cap : Nat} (k : OwnC w4 b g w h p n cap) (hh : Kept (fun i => i = bx) w4 wr) (hne : b ≠ bx) : OwnC wr b g w h p n cap := k.but hh hne

set_option maxRecDepth 100000 in
set_option maxHeartbeats 4000000 in
theorem shown_ok (q1 : Option Addr) (n c1 : Nat) (q2 : Option Addr) (m c2 : Nat) (e p : Nat → Int) (q3 : Option Addr) (nb c3 : Nat) (f : Nat → Bool) (W : World) (h1 : T.Is W q1 n e) (h2 : T.Is W q2 m p) (h3 : T.Rt W n m q3 nb c3 f) (hs : sE n m e p = 0) :
    Calls Try.prog 6 #[sg q1 n c1 q2 m c2, T.tr n m q3 nb c3] W (ShP n m e p n m nb f W) := by
  obtain ⟨⟨n1, n2⟩, ⟨m1, m2⟩, -, -⟩ := sE_zero hs
  have hnb := h3.2.2.1
  have hwe : T.wE n m nb = 0 := by
    unfold T.wE
    rw [if_pos (by simp [T.sd]; omega), if_pos (by rw [hnb]; simp)]
  have HE := hide (show shE n m e p n m nb = 0 by unfold shE; rw [if_pos hs, if_pos hwe, if_pos ⟨rfl, rfl⟩])
  have B0 := hide (bal (o := .cells #[.int .i64 0, .int .i64 0, .int .i64 0, .slice none 0 0] 29) (bal (o := .cells #[.int .i64 n, .int .i64 m, .slice q3 nb c3] 27) (bnew W (.cells #[.slice q1 n c1, .slice q2 m c2] 24))))
  have OS := hide (((OwnS.new W q1 n c1 q2 m c2 24).keep (bnew _ (.cells #[.int .i64 n, .int .i64 m, .slice q3 nb c3] 27))).keep (bnew _ (.cells #[.int .i64 0, .int .i64 0, .int .i64 0, .slice none 0 0] 29)))
  have hM := T.OwnM.new (W.alloc (.cells #[.slice q1 n c1, .slice q2 m c2] 24)) n m q3 nb c3 27
  rw [World.size_alloc] at hM
  have OM := hide (hM.keep (bnew _ (.cells #[.int .i64 0, .int .i64 0, .int .i64 0, .slice none 0 0] 29)))
  have hZ := Bx.new ((W.alloc (.cells #[.slice q1 n c1, .slice q2 m c2] 24)).alloc (.cells #[.int .i64 n, .int .i64 m, .slice q3 nb c3] 27)) #[.int .i64 0, .int .i64 0, .int .i64 0, .slice none 0 0] 29
  rw [World.size_alloc, World.size_alloc] at hZ
  have OZ := hide hZ
  have Hs := hide (threads_any q1 n c1 q2 m c2 e p _ (h1.keep (unhide B0)) (h2.keep (unhide B0)))
  rw [hs] at Hs
  have Ht := hide (fun V => T.wrong_any n m q3 nb c3 V)
  unfold T.WrongIs at Ht
  rw [hwe] at Ht
  have Hg := hide (fun V => goes_any q1 n c1 q2 m c2 n m V)
  rw [show (decide ((n : Int) = n) && decide ((m : Int) = m)) = true by simp] at Hg
  have H1 := hide h1
  have H2 := hide h2
  have H3 := hide h3
  have Hn := hide hnb
  clear h1 h2 h3 hM hZ hs hwe hnb
  go_enter Try.func6, Try.ntmps6
  go_upto_region 10 with (first
    | (go_at_call 16; refine (unhide Hs).mono ?_; rintro e' w1 ⟨rfl, hb1⟩; obtain ⟨_, o0, o1⟩ := (unhide OS).keep hb1; obtain ⟨_, o2, o3, o4⟩ := (unhide OM).keep hb1)
    | (go_at_call 17; refine (unhide Ht _).mono ?_; rintro e' w2 ⟨rfl, hb2⟩; clear o0 o1 o2 o3 o4; obtain ⟨_, o0, o1⟩ := ((unhide OS).keep hb1).keep hb2; obtain ⟨_, o2, o3, o4⟩ := ((unhide OM).keep hb1).keep hb2)
    | (go_at_call 18; refine (unhide Hg _).mono ?_; rintro e' w3 ⟨rfl, hb3⟩; clear o0 o1 o2 o3 o4; obtain ⟨_, o0, o1⟩ := (((unhide OS).keep hb1).keep hb2).keep hb3; obtain ⟨_, o2, o3, o4⟩ := (((unhide OM).keep hb1).keep hb2).keep hb3))
  clear o0 o1 o2 o3 o4
  have hb4 := btrans (btrans (btrans (unhide B0) hb1) hb2) hb3
  have HB4 := hide (bal (o := .cells #[.int .i64 4, .int .i64 n, .int .i64 m, .slice none 0 0] 29) hb4)
  have OS4 := hide (((((unhide OS).keep hb1).keep hb2).keep hb3).keep (bnew w3 (.cells #[.int .i64 4, .int .i64 n, .int .i64 m, .slice none 0 0] 29)))
  have OM4 := hide (((((unhide OM).keep hb1).keep hb2).keep hb3).keep (bnew w3 (.cells #[.int .i64 4, .int .i64 n, .int .i64 m, .slice none 0 0] 29)))
  have hz3 := (((unhide OZ).keep hb1).keep hb2).keep hb3
  have OZ4 := hide (hz3.keep (bnew w3 (.cells #[.int .i64 4, .int .i64 n, .int .i64 m, .slice none 0 0] 29)))
  have hbx := hz3.1
  have HAP := hide (show AP 3 [.int .i64 4, .int .i64 n, .int .i64 m, .slice none 0 0] 3 (w3.alloc (.cells #[.int .i64 4, .int .i64 n, .int .i64 m, .slice none 0 0] 29)) w3.heap.size (w3.alloc (.cells #[.int .i64 4, .int .i64 n, .int .i64 m, .slice none 0 0] 29)) (.slice none 0 0) 0 [] from AP.new (Bx.new w3 #[.int .i64 4, .int .i64 n, .int .i64 m, .slice none 0 0] 29))
  have Hne := hide (show W.heap.size ≠ w3.heap.size ∧ W.heap.size + 1 ≠ w3.heap.size ∧ W.heap.size + 1 + 1 ≠ w3.heap.size ∧ W.heap.size ≤ w3.heap.size by omega)
  clear hb1 hb2 hb3 hb4 hz3 hbx B0 OS OM OZ Hs Ht Hg
  obtain ⟨_, o0, o1⟩ := unhide OS4
  generalize w3.alloc (.cells #[.int .i64 4, .int .i64 n, .int .i64 m, .slice none 0 0] 29) = w4 at *
  generalize w3.heap.size = bx at *
  go_wp2
  clear o0 o1
  obtain ⟨F, hF⟩ : ∃ F, F = shw n e p f := ⟨_, rfl⟩
  have HF := hide hF
  clear hF
  have HBb := hide (fun (wr : World) (v : Value) (k : Nat) (xs : List Value) (h : AP 3 [.int .i64 4, .int .i64 n, .int .i64 m, .slice none 0 0] 3 w4 bx wr v k xs) => show Below W.heap.size W wr from Kept.back (unhide HB4) h.1 (unhide HB4).size (fun q e => by rw [e]; exact (unhide Hne).2.2.2))
  go_loopw [42] (fun i wr => ∃ (y : Nat) (v : Value), y ≤ m ∧ i = .int .i64 y ∧ AP 3 [.int .i64 4, .int .i64 n, .int .i64 m, .slice none 0 0] 3 w4 bx wr v (y * n) (vals F (y * n))) (fun i _ => m - (intOf i).toNat)
  case atStart => exact ⟨0, _, by omega, rfl, by rw [Nat.zero_mul]; exact unhide HAP⟩
  case round =>
    clear HAP
    obtain ⟨y, v, hy, rfl, hA⟩ := hrel
    have HA := hide hA
    have HBw := hide (unhide HBb _ _ _ _ hA)
    clear hA
    by_cases hlt : y < m
    · have qy : (y : Int) < (m : Int) := by omega
      obtain ⟨b2, i2, rfl, _, hcp⟩ := ((unhide H2).keep (unhide HBw)).at hlt
      obtain ⟨_, o0, o1⟩ := (unhide OS4).but' (unhide HA).1 (unhide Hne).1
      obtain ⟨py, hpy⟩ : ∃ z, z = p y := ⟨_, rfl⟩
      have Hpy := hide hpy
      rw [← hpy] at hcp
      clear hpy
      go_wp2
      clear o0 o1 hcp
      have A0 := hide (show AP 3 [.int .i64 4, .int .i64 n, .int .i64 m, .slice none 0 0] 3 w4 bx wr v (y * n + 0) (vals F (y * n + 0)) from unhide HA)
      clear HA HBw
      go_loopw [50] (fun i wr => ∃ (x : Nat) (v : Value), x ≤ n ∧ i = .int .i64 x ∧ AP 3 [.int .i64 4, .int .i64 n, .int .i64 m, .slice none 0 0] 3 w4 bx wr v (y * n + x) (vals F (y * n + x))) (fun i _ => n - (intOf i).toNat)
      case atStart => exact ⟨0, _, by omega, rfl, unhide A0⟩
      case round =>
        clear A0
        obtain ⟨x, v, hx, rfl, hA⟩ := hrel
        have HA := hide hA
        have HBw := hide (unhide HBb _ _ _ _ hA)
        clear hA
        by_cases hlx : x < n
        · have qx : (x : Int) < (n : Int) := by omega
          obtain ⟨yw, k, -, -, hk2, e1, e2, hk, hn4, hyw, hmod, hdiv⟩ := place_nums n2 m2 (unhide Hn) hlx hlt
          rw [← hk2] at HA
          obtain ⟨b1, i1, rfl, _, hce⟩ := ((unhide H1).keep (unhide HBw)).at hlx
          obtain ⟨b3, i3, rfl, _, hcf⟩ := T.bs_at ((unhide H3).2.2.2.keep (unhide HBw)) hk
          obtain ⟨_, o2, o3, o4⟩ := OwnM_but (unhide OM4) (unhide HA).1 (unhide Hne).2.1
          obtain ⟨x3, y3⟩ := (unhide HA).2.1.2 3 v rfl
          have HFk := hide (show F k = if f k then e x else p y by rw [unhide HF]; unfold shw; rw [hmod, hdiv])
          have Hk := hide (show y * n + (x + 1) = k + 1 by omega)
          have qk : (k : Int) < (nb : Int) := by omega
          have qk0 : (0 : Int) ≤ (k : Int) := by omega
          have hk4 : k ≤ 4096 := by omega
          clear hmod hdiv hk2 hk hn4
          generalize f k = bt at *
          generalize e x = ex at *
          have hsz := (unhide HA).1.size
          cases bt
          · have HC := hide (show py = F k by rw [unhide HFk, unhide Hpy]; rfl)
            have HO := hide (own_keep (unhide HA).2.2.1 (bnew wr (.cells #[.int .i64 py] 3)))
            have HS := hide ((unhide HA).keep (bnew wr (.cells #[.int .i64 py] 3)))
            have HL := hide (lit_row wr (.int .i64 py) 3)
            go_wp2_with (at_builtin; refine wl_app rfl rfl Try.underlying22 info3 rfl (by decide) rfl rfl (unhide HO) (unhide HL) (lit_one rfl) (by unfold maxLen; omega) (by omega) (by rw [World.size_alloc]; omega) ?_)
            intro v' w5 hown' hgrow _
            obtain ⟨hx5, hk5⟩ := (unhide HS).grown hgrow
            obtain ⟨x5, y5⟩ := hx5.2 3 v rfl
            obtain ⟨q5, cp5, rfl⟩ := own_form hown'
            have HN := hide (show AP 3 [.int .i64 4, .int .i64 n, .int .i64 m, .slice none 0 0] 3 w4 bx (w5.setCell ⟨bx, 3, none⟩ (.slice q5 (k + 1) cp5)) (.slice q5 (k + 1) cp5) (y * n + (x + 1)) (vals F (y * n + (x + 1))) from by
              rw [unhide Hk]
              exact AP.step ⟨hx5, hk5⟩ (unhide HA).2.2.2 (by rw [vals_succ, ← unhide HC]; exact hown'))
            clear hown' hgrow hx5 hk5 HO HS HL o2 o3 o4 x3 y3 hce hcf
            go_wp2
            go_roundw
            case rel => exact ⟨x + 1, _, by omega, by go_num, unhide HN⟩
            case measure => simp [intOf]; omega
          · have HC := hide (show ex = F k by rw [unhide HFk]; rfl)
            have HO := hide (own_keep (unhide HA).2.2.1 (bnew wr (.cells #[.int .i64 ex] 3)))
            have HS := hide ((unhide HA).keep (bnew wr (.cells #[.int .i64 ex] 3)))
            have HL := hide (lit_row wr (.int .i64 ex) 3)
            go_wp2_with (at_builtin; refine wl_app rfl rfl Try.underlying22 info3 rfl (by decide) rfl rfl (unhide HO) (unhide HL) (lit_one rfl) (by unfold maxLen; omega) (by omega) (by rw [World.size_alloc]; omega) ?_)
            intro v' w5 hown' hgrow _
            obtain ⟨hx5, hk5⟩ := (unhide HS).grown hgrow
            obtain ⟨x5, y5⟩ := hx5.2 3 v rfl
            obtain ⟨q5, cp5, rfl⟩ := own_form hown'
            have HN := hide (show AP 3 [.int .i64 4, .int .i64 n, .int .i64 m, .slice none 0 0] 3 w4 bx (w5.setCell ⟨bx, 3, none⟩ (.slice q5 (k + 1) cp5)) (.slice q5 (k + 1) cp5) (y * n + (x + 1)) (vals F (y * n + (x + 1))) from by
              rw [unhide Hk]
              exact AP.step ⟨hx5, hk5⟩ (unhide HA).2.2.2 (by rw [vals_succ, ← unhide HC]; exact hown'))
            clear hown' hgrow hx5 hk5 HO HS HL o2 o3 o4 x3 y3 hce hcf
            go_wp2
            go_roundw
            case rel => exact ⟨x + 1, _, by omega, by go_num, unhide HN⟩
            case measure => simp [intOf]; omega
        · obtain rfl : x = n := by omega
          have cl : ¬ ((x : Int) < (x : Int)) := by omega
          have HN := hide (show AP 3 [.int .i64 4, .int .i64 x, .int .i64 m, .slice none 0 0] 3 w4 bx wr v ((y + 1) * x) (vals F ((y + 1) * x)) by rw [← row_next]; exact unhide HA)
          go_wp2
          go_roundw
          case rel => exact ⟨y + 1, _, by omega, by go_num, unhide HN⟩
          case measure => simp [intOf]; omega
    · obtain rfl : y = m := by omega
      have cl : ¬ ((y : Int) < (y : Int)) := by omega
      obtain ⟨x0, y0⟩ := (unhide HA).2.1.2 0 _ rfl
      obtain ⟨x1, y1⟩ := (unhide HA).2.1.2 1 _ rfl
      obtain ⟨x2, y2⟩ := (unhide HA).2.1.2 2 _ rfl
      obtain ⟨x3, y3⟩ := (unhide HA).2.1.2 3 _ rfl
      have hz := (unhide OZ4).but (unhide HA).1 (unhide Hne).2.2.1
      obtain ⟨z0, a0⟩ := hz.2 0 _ rfl
      obtain ⟨z1, a1⟩ := hz.2 1 _ rfl
      obtain ⟨z2, a2⟩ := hz.2 2 _ rfl
      obtain ⟨z3, a3⟩ := hz.2 3 _ rfl
      obtain ⟨q5, cp5, rfl⟩ := own_form (unhide HA).2.2.1
      obtain ⟨w6, hw6, hb6, hk6, hx6⟩ := put29 (unhide HBw) (show W.heap.size ≤ W.heap.size + 1 + 1 by omega) hz rfl (.int .i64 4) (.int .i64 n) (.int .i64 y) (.slice q5 (y * n) cp5)
      have HX := hide hx6
      have HB6 := hide hb6
      have HI := hide (show T.Is w6 q5 (y * n) F from ir_of (own_but (unhide HA).2.2.1 hk6 (fun i hi e' => by have := ((unhide HA).2.2.1.lt i hi).1; have := (unhide OZ4).1; omega)))
      have Hyn := hide (Nat.mul_comm y n)
      clear hx6 hb6 hk6 hz
      generalize y * n = kk at *
      go_wp2_with fail
      have u0 := ((unhide HX).2 0 _ rfl).1
      have u1 := ((unhide HX).2 1 _ rfl).1
      have u2 := ((unhide HX).2 2 _ rfl).1
      have u3 := ((unhide HX).2 3 _ rfl).1
      exact bodyPost_ret (v := .tuple #[Ch.ch 4 n y q5 kk cp5, .int .i64 0]) (by simp [results, Try.results6, go_sem, u0, u1, u2, u3]) rfl ⟨0, 4, n, y, kk, F, q5, cp5, rfl, unhide HI, unhide HB6, .inr ⟨unhide HE, rfl, rfl, rfl, rfl, unhide Hyn, fun j _ => by rw [unhide HF]⟩⟩
end Go.Proofs.Ytbmgjoocpbikkaa
