/-
  The walk of GroupCloses: it answers true.
-/
import Derived.Test.YtagiekbijmdmdaaGN
namespace Go.Proofs.Ytagiekbijmdmdaa
open Go.RowKit

def ClosIs (g w h : Int) (p : Option Addr) (n cap : Nat) (i k : Int) (W : World) : Prop :=
  Calls Try.prog 5 #[Ch.ch g w h p n cap, .int .i64 i, .int .i64 k] W fun e w' => e = .returned (.bool true) ∧ Below W.heap.size W w'

set_option maxHeartbeats 2000000 in
theorem clos_err (g w h : Int) (p : Option Addr) (n cap : Nat) (px : Nat → Int) (i k : Int) (W : World) (hc : Ch.Cells W p n px) (er : Int) (her : toE g w h n px = er) (hp : 1 ≤ er) : ClosIs g w h p n cap i k W := by
  have HM := hide (fun V (hc : Ch.Cells V p n px) => moves_err g w h p n cap px V hc er her hp)
  have HT := hide (fun V (hc : Ch.Cells V p n px) => torus_any g w h p n cap px V hc)
  rw [her] at HT
  generalize toN g w h n px = N at *
  have B0 := bal (o := .cells #[.int .i64 g, .int .i64 w, .int .i64 h, .slice p n cap] 24) (Below.refl W.heap.size W)
  have Hc := hide (hc.keep B0)
  have HB := hide B0
  have C0 := Ch.OwnC.new W g w h p n cap 24
  clear her hc B0
  unfold ClosIs
  go_enter Try.func5, Try.ntmps5
  go_wp2_with fail
  generalize W.alloc (.cells #[.int .i64 g, .int .i64 w, .int .i64 h, .slice p n cap] 24) = w0 at *
  refine (alive_any _).mono ?_
  rintro e w1 ⟨rfl, hb⟩
  have S1 := hb
  have c := (C0.keep S1).2
  go_wp2_with fail
  clear c
  refine (unhide HM _ ((unhide Hc).keep S1)).mono ?_
  rintro e w2 ⟨rfl, hb⟩
  have S2 := btrans S1 hb
  have c := (C0.keep S2).2
  go_wp2_with fail
  clear c
  refine (unhide HT _ ((unhide Hc).keep S2)).mono ?_
  rintro e w3 ⟨rfl, hb⟩
  have S3 := btrans S2 hb
  clear hb
  have he : (er != 0) = true := by simp; omega
  go_wp2
  go_ret
  exact ⟨ret_bool (by simp), btrans (unhide HB) S3⟩

set_option maxHeartbeats 4000000 in
set_option maxRecDepth 100000 in
theorem clos_ok (g w h : Int) (p : Option Addr) (n cap : Nat) (px : Nat → Int) (w' h' N b o : Nat) (i k : Int) (W : World) (r : Right W g w h p n px w' h' N b o) (hi : 0 ≤ i ∧ i ≤ 9223372036854775807) (hk : 0 ≤ k ∧ k ≤ 9223372036854775807) : ClosIs g w h p n cap i k W := by
  have HM := hide (fun V (r : Right V g w h p n px w' h' N b o) => moves_ok g w h p n cap px w' h' N b o V r)
  have HT := hide (fun V (r : Right V g w h p n px w' h' N b o) => torus_any g w h p n cap px V (Or.inr ⟨b, o, r.hp, r.row⟩))
  rw [r.hE, r.hN] at HT
  have hN1 := r.hN1
  have hg := r.hg
  have hl := moves_len w' h' N px g r.hN1.2 r.hg
  have hl1 := moves_pos w' h' N px g r.hN1.1 r.hg
  have hhead := moves_head w' h' N px g r.hN1.1 r.hg
  obtain ⟨a, rfl⟩ := Int.eq_ofNat_of_zero_le hi.1
  obtain ⟨c, rfl⟩ := Int.eq_ofNat_of_zero_le hk.1
  obtain ⟨⟨t1, f1, x1, y1⟩, hm1⟩ : ∃ m, (movesL w' h' N px g)[a % (movesL w' h' N px g).length]? = some m := ⟨_, List.getElem?_eq_getElem (Nat.mod_lt _ hl1)⟩
  obtain ⟨⟨t2, f2, x2, y2⟩, hm2⟩ : ∃ m, (movesL w' h' N px g)[c % (movesL w' h' N px g).length]? = some m := ⟨_, List.getElem?_eq_getElem (Nat.mod_lt _ hl1)⟩
  obtain ⟨k11, k12, k13, k14⟩ := (mem_moves w' h' N px g t1 f1 x1 y1 hN1.1).1 (List.mem_of_getElem? hm1)
  obtain ⟨k21, k22, k23, k24⟩ := (mem_moves w' h' N px g t2 f2 x2 y2 hN1.1).1 (List.mem_of_getElem? hm2)
  have ht1 : (0 : Int) ≤ (t1 : Int) ∧ (t1 : Int) < g := by omega
  have ht2 : (0 : Int) ≤ (t2 : Int) ∧ (t2 : Int) < g := by omega
  have HCo := hide (compose_small g t1 f1 x1 y1 t2 f2 x2 y2 hg ht1 ht2 (by omega) (by omega) (by omega) (by omega))
  have HIn := hide (inverse_small g t1 f1 x1 y1 hg ht1 (by omega) (by omega))
  have hc1 := cT_range g t1 f1 t2 hg
  have hb1 := bt_range g t1 f1 hg ht1
  obtain ⟨T, hT⟩ := Int.eq_ofNat_of_zero_le hc1.1
  obtain ⟨U, hU⟩ := Int.eq_ofNat_of_zero_le hb1.1
  have kc := Kp.comp (P := pat w' h' N px) hg ht1 ht2 k14 k24
  have ki := Kp.inv (P := pat w' h' N px) hg ht1 k14
  rw [hT, Int.toNat_natCast] at kc
  rw [hU, Int.toNat_natCast] at ki
  have e1 := (has_iff w' h' N px g T (cF f1 f2) _ _ hN1.1 (by omega)).2 kc
  have e2 := (has_iff w' h' N px g U f1 _ _ hN1.1 (by omega)).2 ki
  have HH1 := hide (fun V q cp (hm : MRow V q (movesL w' h' N px g)) => has_any q cp (movesL w' h' N px g) N T (cF f1 f2) (mv g (t1 : Int).toNat f1 x1 y1 x2 y2).1 (mv g (t1 : Int).toNat f1 x1 y1 x2 y2).2 V (by omega) hl hm)
  have HH2 := hide (fun V q cp (hm : MRow V q (movesL w' h' N px g)) => has_any q cp (movesL w' h' N px g) N U f1 (iP g t1 f1 x1 y1).1 (iP g t1 f1 x1 y1).2 V (by omega) hl hm)
  rw [e1] at HH1
  rw [e2] at HH2
  rw [hT] at HCo
  rw [hU] at HIn
  clear e1 e2 kc ki hT hU k14 k24 hc1 hb1
  generalize (mv g (t1 : Int).toNat f1 x1 y1 x2 y2).1 = cx at *
  generalize (mv g (t1 : Int).toNat f1 x1 y1 x2 y2).2 = cy at *
  generalize (iP g t1 f1 x1 y1).1 = vx at *
  generalize (iP g t1 f1 x1 y1).2 = vy at *
  generalize cF f1 f2 = F at *
  have ea := hide (ntmod a (movesL w' h' N px g).length)
  have ec := hide (ntmod c (movesL w' h' N px g).length)
  have la : a % (movesL w' h' N px g).length < (movesL w' h' N px g).length := Nat.mod_lt _ hl1
  have lc : c % (movesL w' h' N px g).length < (movesL w' h' N px g).length := Nat.mod_lt _ hl1
  generalize a % (movesL w' h' N px g).length = ia at *
  generalize c % (movesL w' h' N px g).length = ic at *
  generalize movesL w' h' N px g = L at *
  have Hm1 := hide hm1
  have Hm2 := hide hm2
  have Hhead := hide hhead
  have B0 := bal (o := .cells #[.int .i64 g, .int .i64 w, .int .i64 h, .slice p n cap] 24) (Below.refl W.heap.size W)
  have Hr := hide (r.keep B0)
  have HB := hide B0
  have HC0 := hide (Ch.OwnC.new W g w h p n cap 24)
  clear r B0 hm1 hm2 hhead
  unfold ClosIs
  go_enter Try.func5, Try.ntmps5
  go_wp2_with fail
  generalize W.alloc (.cells #[.int .i64 g, .int .i64 w, .int .i64 h, .slice p n cap] 24) = w0 at *
  refine (alive_any _).mono ?_
  rintro e w1 ⟨rfl, hb⟩
  have S1 := hb
  have c0 := ((unhide HC0).keep S1).2
  go_wp2_with fail
  clear c0
  refine (unhide HM _ ((unhide Hr).keep S1)).mono ?_
  rintro e w2 ⟨q, cp, rfl, hm, hb⟩
  have S2 := btrans S1 hb
  have Hm := hide hm.1
  clear hm
  have c0 := ((unhide HC0).keep S2).2
  go_wp2_with fail
  clear c0
  refine (unhide HT _ ((unhide Hr).keep S2)).mono ?_
  rintro e w3 ⟨rfl, hb⟩
  have S3 := btrans S2 hb
  have Hm3 := hide ((unhide Hm).keep hb)
  clear hb Hm S1 S2 HM HT Hr
  have h0 := (unhide Hm3).2 0 _ (unhide Hhead)
  have p1 := (unhide Hm3).2 ia _ (unhide Hm1)
  have p2 := (unhide Hm3).2 ic _ (unhide Hm2)
  simp only [Nat.zero_mul, Nat.zero_add] at h0
  obtain ⟨z0, z1, z2, z3⟩ := h0
  have hl0 : ((L.length : Int) == 0) = false := beq_eq_false_iff_ne.2 (by omega)
  have hN0 : decide ((N : Int) < 1) = false := by simp; omega
  have hi0 : decide ((a : Int) < 0) = false := by simp
  have hk0 : decide ((c : Int) < 0) = false := by simp
  have hLn : L.length ≠ 0 := by omega
  go_wp2_with fail
  clear z0 z1 z2 z3 hl0 hN0 hi0 hk0
  have ea' := unhide ea
  have ec' := unhide ec
  have q1 : (0 : Int) ≤ (ia : Int) := by omega
  have q2 : (ia : Int) < (L.length : Int) := by omega
  have q3 : (0 : Int) ≤ (ic : Int) := by omega
  have q4 : (ic : Int) < (L.length : Int) := by omega
  have hqz := (unhide Hm3).1
  have Mk := hide (show ∀ V, Below w3.heap.size w3 V → Below w3.heap.size w3 V ∧ (V.cell? ⟨q, ia * 4, none⟩ = some (.int .i64 t1) ∧ V.cell? ⟨q, ia * 4 + 1, none⟩ = some (.bool f1) ∧ V.cell? ⟨q, ia * 4 + 2, none⟩ = some (.int .i64 x1) ∧ V.cell? ⟨q, ia * 4 + 3, none⟩ = some (.int .i64 y1)) ∧ (V.cell? ⟨q, ic * 4, none⟩ = some (.int .i64 t2) ∧ V.cell? ⟨q, ic * 4 + 1, none⟩ = some (.bool f2) ∧ V.cell? ⟨q, ic * 4 + 2, none⟩ = some (.int .i64 x2) ∧ V.cell? ⟨q, ic * 4 + 3, none⟩ = some (.int .i64 y2)) from fun V hV =>
    ⟨hV, ⟨keepC hV hqz p1.1, keepC hV hqz p1.2.1, keepC hV hqz p1.2.2.1, keepC hV hqz p1.2.2.2⟩, ⟨keepC hV hqz p2.1, keepC hV hqz p2.2.1, keepC hV hqz p2.2.2.1, keepC hV hqz p2.2.2.2⟩⟩)
  clear p1 p2
  go_region_held3 (fun V => Below w3.heap.size w3 V ∧ (V.cell? ⟨q, ia * 4, none⟩ = some (.int .i64 t1) ∧ V.cell? ⟨q, ia * 4 + 1, none⟩ = some (.bool f1) ∧ V.cell? ⟨q, ia * 4 + 2, none⟩ = some (.int .i64 x1) ∧ V.cell? ⟨q, ia * 4 + 3, none⟩ = some (.int .i64 y1)) ∧ (V.cell? ⟨q, ic * 4, none⟩ = some (.int .i64 t2) ∧ V.cell? ⟨q, ic * 4 + 1, none⟩ = some (.bool f2) ∧ V.cell? ⟨q, ic * 4 + 2, none⟩ = some (.int .i64 x2) ∧ V.cell? ⟨q, ic * 4 + 3, none⟩ = some (.int .i64 y2)))
    (first
      | (exact unhide Mk _ (Below.drew (Below.refl _ _)))
      | (exact unhide Mk _ (Below.drew (bal (Below.refl _ _))))
      | (exact unhide Mk _ (Below.drew (bal (bal (Below.refl _ _))))))
    (fail)
  · -- way
    have MF := ((OwnM.new w3 t1 f1 x1 y1 45).alloc (.cells #[.int .i64 t2, .bool f2, .int .i64 x2, .int .i64 y2] 45)).keep (Below.drew (Below.refl _ _))
    have MH := (OwnM.new (w3.alloc (.cells #[.int .i64 t1, .bool f1, .int .i64 x1, .int .i64 y1] 45)) t2 f2 x2 y2 45).keep (Below.drew (Below.refl _ _))
    simp only [World.size_alloc] at MF MH
    have SV := Below.drew (bal (o := .cells #[.int .i64 t2, .bool f2, .int .i64 x2, .int .i64 y2] 45) (bal (o := .cells #[.int .i64 t1, .bool f1, .int .i64 x1, .int .i64 y1] 45) (Below.refl w3.heap.size w3)))
    generalize ((w3.alloc (.cells #[.int .i64 t1, .bool f1, .int .i64 x1, .int .i64 y1] 45)).alloc (.cells #[.int .i64 t2, .bool f2, .int .i64 x2, .int .i64 y2] 45)).drew = V at *
    clear Mk ea' ec' q1 q2 q3 q4 hqz
    have S4 := btrans S3 SV
    have Hm4 := hide ((unhide Hm3).keep SV)
    have HMF := hide MF
    have c0 := ((unhide HC0).keep S4).2
    have mf := MF.2.1
    have mh := MH.2.1
    clear SV MF MH
    go_wp2_with fail
    clear c0 mf mh
    refine (unhide HCo _).mono ?_
    rintro e w4 ⟨rfl, hb⟩
    have hb4 := bal (o := .cells #[.int .i64 T, .bool F, .int .i64 cx, .int .i64 cy] 45) hb
    have S5 := btrans S4 hb4
    have Hm5 := hide ((unhide Hm4).keep hb4)
    have MF5 := (unhide HMF).keep hb4
    have HX := hide (OwnM.new w4 T F cx cy 45)
    have c0 := ((unhide HC0).keep S5).2
    have mf := MF5.2.1
    clear hb hb4 MF5 S4 Hm4 HMF HCo
    go_wp2_with fail
    clear c0 mf
    generalize w4.alloc (.cells #[.int .i64 T, .bool F, .int .i64 cx, .int .i64 cy] 45) = w5 at *
    refine (unhide HIn _).mono ?_
    rintro e w6 ⟨rfl, hb⟩
    have hb6 := bal (o := .cells #[.int .i64 U, .bool f1, .int .i64 vx, .int .i64 vy] 45) hb
    have S6 := btrans S5 hb6
    have Hm6 := hide ((unhide Hm5).keep hb6)
    have X6 := (unhide HX).keep hb6
    have Y6 := OwnM.new w6 U f1 vx vy 45
    have mx := X6.2.1
    have HY := hide Y6
    clear hb hb6 X6 Y6 S5 Hm5 HX HIn
    go_wp2_with fail
    clear mx
    generalize w6.alloc (.cells #[.int .i64 U, .bool f1, .int .i64 vx, .int .i64 vy] 45) = w7 at *
    refine (unhide HH1 _ _ _ (unhide Hm6)).mono ?_
    rintro e w8 ⟨rfl, hb⟩
    have S8 := btrans S6 hb
    have Hm8 := hide ((unhide Hm6).keep hb)
    have my := ((unhide HY).keep hb).2.1
    clear hb S6 Hm6 HH1 HY
    go_wp2_with fail
    clear my
    refine (unhide HH2 _ _ _ (unhide Hm8)).mono ?_
    rintro e w9 ⟨rfl, hb⟩
    have S9 := btrans S8 hb
    clear hb S8
    go_wp2
    go_ret
    exact ⟨rfl, btrans (unhide HB) S9⟩
  · -- way
    have MF := (OwnM.new (w3.alloc (.cells #[.int .i64 t2, .bool f2, .int .i64 x2, .int .i64 y2] 45)) t1 f1 x1 y1 45).keep (Below.drew (Below.refl _ _))
    have MH := ((OwnM.new w3 t2 f2 x2 y2 45).alloc (.cells #[.int .i64 t1, .bool f1, .int .i64 x1, .int .i64 y1] 45)).keep (Below.drew (Below.refl _ _))
    simp only [World.size_alloc] at MF MH
    have SV := Below.drew (bal (o := .cells #[.int .i64 t1, .bool f1, .int .i64 x1, .int .i64 y1] 45) (bal (o := .cells #[.int .i64 t2, .bool f2, .int .i64 x2, .int .i64 y2] 45) (Below.refl w3.heap.size w3)))
    generalize ((w3.alloc (.cells #[.int .i64 t2, .bool f2, .int .i64 x2, .int .i64 y2] 45)).alloc (.cells #[.int .i64 t1, .bool f1, .int .i64 x1, .int .i64 y1] 45)).drew = V at *
    clear Mk ea' ec' q1 q2 q3 q4 hqz
    have S4 := btrans S3 SV
    have Hm4 := hide ((unhide Hm3).keep SV)
    have HMF := hide MF
    have c0 := ((unhide HC0).keep S4).2
    have mf := MF.2.1
    have mh := MH.2.1
    clear SV MF MH
    go_wp2_with fail
    clear c0 mf mh
    refine (unhide HCo _).mono ?_
    rintro e w4 ⟨rfl, hb⟩
    have hb4 := bal (o := .cells #[.int .i64 T, .bool F, .int .i64 cx, .int .i64 cy] 45) hb
    have S5 := btrans S4 hb4
    have Hm5 := hide ((unhide Hm4).keep hb4)
    have MF5 := (unhide HMF).keep hb4
    have HX := hide (OwnM.new w4 T F cx cy 45)
    have c0 := ((unhide HC0).keep S5).2
    have mf := MF5.2.1
    clear hb hb4 MF5 S4 Hm4 HMF HCo
    go_wp2_with fail
    clear c0 mf
    generalize w4.alloc (.cells #[.int .i64 T, .bool F, .int .i64 cx, .int .i64 cy] 45) = w5 at *
    refine (unhide HIn _).mono ?_
    rintro e w6 ⟨rfl, hb⟩
    have hb6 := bal (o := .cells #[.int .i64 U, .bool f1, .int .i64 vx, .int .i64 vy] 45) hb
    have S6 := btrans S5 hb6
    have Hm6 := hide ((unhide Hm5).keep hb6)
    have X6 := (unhide HX).keep hb6
    have Y6 := OwnM.new w6 U f1 vx vy 45
    have mx := X6.2.1
    have HY := hide Y6
    clear hb hb6 X6 Y6 S5 Hm5 HX HIn
    go_wp2_with fail
    clear mx
    generalize w6.alloc (.cells #[.int .i64 U, .bool f1, .int .i64 vx, .int .i64 vy] 45) = w7 at *
    refine (unhide HH1 _ _ _ (unhide Hm6)).mono ?_
    rintro e w8 ⟨rfl, hb⟩
    have S8 := btrans S6 hb
    have Hm8 := hide ((unhide Hm6).keep hb)
    have my := ((unhide HY).keep hb).2.1
    clear hb S6 Hm6 HH1 HY
    go_wp2_with fail
    clear my
    refine (unhide HH2 _ _ _ (unhide Hm8)).mono ?_
    rintro e w9 ⟨rfl, hb⟩
    have S9 := btrans S8 hb
    clear hb S8
    go_wp2
    go_ret
    exact ⟨rfl, btrans (unhide HB) S9⟩

set_option maxHeartbeats 2000000 in
set_option maxRecDepth 100000 in
theorem clos_neg (g w h : Int) (p : Option Addr) (n cap : Nat) (px : Nat → Int) (w' h' N b o : Nat) (i k : Int) (W : World) (r : Right W g w h p n px w' h' N b o) (hik : decide (i < 0) = true ∨ decide (i < 0) = false ∧ decide (k < 0) = true) : ClosIs g w h p n cap i k W := by
  have HM := hide (fun V (r : Right V g w h p n px w' h' N b o) => moves_ok g w h p n cap px w' h' N b o V r)
  have HT := hide (fun V (r : Right V g w h p n px w' h' N b o) => torus_any g w h p n cap px V (Or.inr ⟨b, o, r.hp, r.row⟩))
  rw [r.hE, r.hN] at HT
  have hN1 := r.hN1
  have hl := moves_len w' h' N px g r.hN1.2 r.hg
  have hl1 := moves_pos w' h' N px g r.hN1.1 r.hg
  have Hhead := hide (moves_head w' h' N px g r.hN1.1 r.hg)
  generalize movesL w' h' N px g = L at *
  have B0 := bal (o := .cells #[.int .i64 g, .int .i64 w, .int .i64 h, .slice p n cap] 24) (Below.refl W.heap.size W)
  have Hr := hide (r.keep B0)
  have HB := hide B0
  have HC0 := hide (Ch.OwnC.new W g w h p n cap 24)
  clear r B0
  unfold ClosIs
  rcases hik with hi | ⟨hi, hk⟩
  all_goals
    go_enter Try.func5, Try.ntmps5
    go_wp2_with fail
    generalize W.alloc (.cells #[.int .i64 g, .int .i64 w, .int .i64 h, .slice p n cap] 24) = w0 at *
    refine (alive_any _).mono ?_
    rintro e w1 ⟨rfl, hb⟩
    have S1 := hb
    have c0 := ((unhide HC0).keep S1).2
    go_wp2_with fail
    clear c0
    refine (unhide HM _ ((unhide Hr).keep S1)).mono ?_
    rintro e w2 ⟨q, cp, rfl, hm, hb⟩
    have S2 := btrans S1 hb
    have Hm := hide hm.1
    clear hm
    have c0 := ((unhide HC0).keep S2).2
    go_wp2_with fail
    clear c0
    refine (unhide HT _ ((unhide Hr).keep S2)).mono ?_
    rintro e w3 ⟨rfl, hb⟩
    have S3 := btrans S2 hb
    have Hm3 := hide ((unhide Hm).keep hb)
    clear hb Hm S1 S2
    have h0 := (unhide Hm3).2 0 _ (unhide Hhead)
    simp only [Nat.zero_mul, Nat.zero_add] at h0
    obtain ⟨z0, z1, z2, z3⟩ := h0
    have hl0 : ((L.length : Int) == 0) = false := beq_eq_false_iff_ne.2 (by omega)
    have hN0 : decide ((N : Int) < 1) = false := by simp; omega
    have hLn : L.length ≠ 0 := by omega
    go_wp2
    go_ret
    exact ⟨rfl, btrans (unhide HB) S3⟩

theorem wf_i64 {i : Int} (h : (Lit.int .i64 i).wf = true) : -9223372036854775808 ≤ i ∧ i ≤ 9223372036854775807 := by
  have h2 : (decide (IntKind.i64.min ≤ i) && decide (i ≤ IntKind.i64.max)) = true := h
  rw [Bool.and_eq_true, decide_eq_true_eq, decide_eq_true_eq] at h2
  have e1 : IntKind.i64.min = -9223372036854775808 := by decide
  have e2 : IntKind.i64.max = 9223372036854775807 := by decide
  rw [e1, e2] at h2
  exact h2
/-- whatever the chart and the numbers -/
theorem clos_walk (g w h : Int) (p : Option Addr) (n cap : Nat) (px : Nat → Int) (i k : Int) (W : World) (hc : Ch.Cells W p n px) (wi : (Lit.int .i64 i).wf = true) (wk : (Lit.int .i64 k).wf = true) : ClosIs g w h p n cap i k W := by
  have hi := wf_i64 wi
  have hk := wf_i64 wk
  by_cases he : toE g w h n px = 0
  · obtain ⟨w', h', N, b, o, r⟩ := right_of hc he
    by_cases h1 : i < 0
    · exact clos_neg g w h p n cap px w' h' N b o i k W r (Or.inl (by simpa using h1))
    · by_cases h2 : k < 0
      · exact clos_neg g w h p n cap px w' h' N b o i k W r (Or.inr ⟨by simpa using h1, by simpa using h2⟩)
      · exact clos_ok g w h p n cap px w' h' N b o i k W r (by omega) (by omega)
  · exact clos_err g w h p n cap px i k W hc _ rfl (toE_pos he)
end Go.Proofs.Ytagiekbijmdmdaa
