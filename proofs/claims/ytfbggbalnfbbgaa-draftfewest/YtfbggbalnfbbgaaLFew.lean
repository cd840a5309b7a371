/-
  DraftFewest: the law's walk.
-/
import Derived.Test.YtfbggbalnfbbgaaLFewM
namespace Go.Proofs.Ytfbggbalnfbbgaa
open Go.RowKit Go.Shelf

def FewestIs (F : Nat) (q1 : Option Addr) (n1 c1 : Nat) (w h : Int) (p : Option Addr) (n cap : Nat) (q2 : Option Addr) (n2 c2 : Nat) (wm hm : Int) (pm : Option Addr) (nm cm : Nat) (W : World) : Prop :=
  Calls Try.prog F #[dr q1 n1 c1 w h p n cap q2 n2 c2, tr wm hm pm nm cm] W fun e V => e = .returned (.bool true) ∧ Below W.heap.size W V

set_option maxRecDepth 100000 in
set_option maxHeartbeats 4000000 in
theorem few_ac (q1 : Option Addr) (n1 c1 : Nat) (w h : Int) (p : Option Addr) (n cap : Nat) (q2 : Option Addr) (n2 c2 : Nat) (wm hm : Int) (pm : Option Addr) (nm cm : Nat) (f1 f2 : Nat → Int) (W : World) (h1 : Is W q1 n1 f1) (h2 : Is W q2 n2 f2) (er : Int) (her : dE n1 f1 w h n n2 f2 = er) (hp : 1 ≤ er) (ee : Int) (hee : 1 ≤ ee) (HA0 : ∀ V, Below W.heap.size W V → FewErr 11 wm hm pm nm cm V ee) :
    FewestIs 5 q1 n1 c1 w h p n cap q2 n2 c2 wm hm pm nm cm W := by
  have bb0 := bal (o := .cells #[.int .i64 wm, .int .i64 hm, .slice pm nm cm] 25) (Below.refl _ (W.alloc (.cells #[.slice q1 n1 c1, .int .i64 w, .int .i64 h, .slice p n cap, .slice q2 n2 c2] 27)))
  have HB := hide (btrans (bal (o := .cells #[.slice q1 n1 c1, .int .i64 w, .int .i64 h, .slice p n cap, .slice q2 n2 c2] 27) (Below.refl W.heap.size W)) bb0)
  have HO := hide ((OwnR.new W q1 n1 c1 w h p n cap q2 n2 c2).keep bb0)
  have M0 := OwnM.new (W.alloc (.cells #[.slice q1 n1 c1, .int .i64 w, .int .i64 h, .slice p n cap, .slice q2 n2 c2] 27)) wm hm pm nm cm 25
  simp only [World.size_alloc] at M0
  have HM := hide M0
  clear bb0 M0
  have H8 := hide (fun V (hV : Below W.heap.size W V) => draw_err q1 n1 c1 f1 w h p n cap q2 n2 c2 f2 V (h1.keep hV) (h2.keep hV) er her hp)
  have hp' : (er != 0) = true := by simp; omega
  clear h1 h2 her
  have H11 := hide HA0
  have hee' : (ee == 0) = false := by simp; omega
  clear HA0 hee
  unfold FewestIs
  go_enter Try.func5, Try.ntmps5
  go_wp2_with fail
  generalize (W.alloc (.cells #[.slice q1 n1 c1, .int .i64 w, .int .i64 h, .slice p n cap, .slice q2 n2 c2] 27)).alloc (.cells #[.int .i64 wm, .int .i64 hm, .slice pm nm cm] 25) = w0 at *
  refine (dalive_any _).mono ?_
  rintro e w1 ⟨rfl, hb⟩
  have S1 := hide (btrans (unhide HB) hb)
  have O1 := hide ((unhide HO).keep hb)
  have M1 := hide ((unhide HM).keep hb)
  have m1 := (unhide M1).2
  clear hb HB HO HM
  go_wp2_with fail
  clear m1
  refine (unhide H11 _ (unhide S1)).mono ?_
  rintro e w2 ⟨rfl, hb⟩
  have bb := bal (o := .cells #[.slice none 0 0, .int .i64 0, .int .i64 0, .slice none 0 0, .slice none 0 0] 27) (Below.refl w2.heap.size w2)
  have hb' := hb.trans (bb.mono hb.size)
  have S3 := hide (btrans (unhide S1) hb')
  have O3 := hide ((unhide O1).keep hb')
  have F3 := hide (OwnV.new w2 none 0 0 0 0 none 0 0 none 0 0)
  have hsw : W.heap.size < w2.heap.size := by have := (unhide O1).1; have := hb.size; omega
  clear hb bb hb' S1 O1 M1 H11
  go_upto_if 19 with fail
  generalize w2.alloc (.cells #[.slice none 0 0, .int .i64 0, .int .i64 0, .slice none 0 0, .slice none 0 0] 27) = w3 at *
  generalize w2.heap.size = bf at *
  have o3 := (unhide O3).2
  go_wp2_with fail
  clear o3
  refine (unhide H8 _ (unhide S3)).mono ?_
  rintro e w20 ⟨rfl, hb⟩
  have S20 := hide (bal (o := .cells #[.int .i64 0, .int .i64 0, .slice none 0 0] 25) (btrans (unhide S3) hb))
  clear hb S3 O3 F3 H8
  go_wp2
  go_ret
  exact ⟨rfl, unhide S20⟩

set_option maxRecDepth 100000 in
set_option maxHeartbeats 4000000 in
theorem few_ad (q1 : Option Addr) (n1 c1 : Nat) (w h : Nat) (p : Option Addr) (n cap : Nat) (q2 : Option Addr) (n2 c2 : Nat) (wm hm : Int) (pm : Option Addr) (nm cm : Nat) (t1 t2 : Nat → Nat) (f : Nat → Bool) (W : World) (r : Rd W q1 n1 t1 w h p n cap f q2 n2 t2) (ee : Int) (hee : 1 ≤ ee) (HA0 : ∀ V, Below W.heap.size W V → FewErr 11 wm hm pm nm cm V ee) :
    FewestIs 5 q1 n1 c1 w h p n cap q2 n2 c2 wm hm pm nm cm W := by
  have bb0 := bal (o := .cells #[.int .i64 wm, .int .i64 hm, .slice pm nm cm] 25) (Below.refl _ (W.alloc (.cells #[.slice q1 n1 c1, .int .i64 w, .int .i64 h, .slice p n cap, .slice q2 n2 c2] 27)))
  have HB := hide (btrans (bal (o := .cells #[.slice q1 n1 c1, .int .i64 w, .int .i64 h, .slice p n cap, .slice q2 n2 c2] 27) (Below.refl W.heap.size W)) bb0)
  have HO := hide ((OwnR.new W q1 n1 c1 w h p n cap q2 n2 c2).keep bb0)
  have M0 := OwnM.new (W.alloc (.cells #[.slice q1 n1 c1, .int .i64 w, .int .i64 h, .slice p n cap, .slice q2 n2 c2] 27)) wm hm pm nm cm 25
  simp only [World.size_alloc] at M0
  have HM := hide M0
  clear bb0 M0
  obtain ⟨m, hmm⟩ : ∃ m, m = n1 * n2 := ⟨_, rfl⟩
  have H8 := hide (fun V (hV : Below W.heap.size W V) => draw_ok (c1 := c1) (c2 := c2) (r.keep hV) m hmm)
  have HR := hide r
  have Hmm := hide hmm
  clear r hmm
  have H11 := hide HA0
  have hee' : (ee == 0) = false := by simp; omega
  clear HA0 hee
  unfold FewestIs
  go_enter Try.func5, Try.ntmps5
  go_wp2_with fail
  generalize (W.alloc (.cells #[.slice q1 n1 c1, .int .i64 w, .int .i64 h, .slice p n cap, .slice q2 n2 c2] 27)).alloc (.cells #[.int .i64 wm, .int .i64 hm, .slice pm nm cm] 25) = w0 at *
  refine (dalive_any _).mono ?_
  rintro e w1 ⟨rfl, hb⟩
  have S1 := hide (btrans (unhide HB) hb)
  have O1 := hide ((unhide HO).keep hb)
  have M1 := hide ((unhide HM).keep hb)
  have m1 := (unhide M1).2
  clear hb HB HO HM
  go_wp2_with fail
  clear m1
  refine (unhide H11 _ (unhide S1)).mono ?_
  rintro e w2 ⟨rfl, hb⟩
  have bb := bal (o := .cells #[.slice none 0 0, .int .i64 0, .int .i64 0, .slice none 0 0, .slice none 0 0] 27) (Below.refl w2.heap.size w2)
  have hb' := hb.trans (bb.mono hb.size)
  have S3 := hide (btrans (unhide S1) hb')
  have O3 := hide ((unhide O1).keep hb')
  have F3 := hide (OwnV.new w2 none 0 0 0 0 none 0 0 none 0 0)
  have hsw : W.heap.size < w2.heap.size := by have := (unhide O1).1; have := hb.size; omega
  clear hb bb hb' S1 O1 M1 H11
  go_upto_if 19 with fail
  generalize w2.alloc (.cells #[.slice none 0 0, .int .i64 0, .int .i64 0, .slice none 0 0, .slice none 0 0] 27) = w3 at *
  generalize w2.heap.size = bf at *
  have o3 := (unhide O3).2
  go_wp2_with fail
  clear o3
  have hfl : bf < w3.heap.size := (unhide F3).1.1
  refine (unhide H8 _ (unhide S3)).mono ?_
  rintro e w20 ⟨qx2, cx2, rfl, hr, hb⟩
  have hs20 := hb.size
  have bb := bal (o := .cells #[.int .i64 n1, .int .i64 n2, .slice qx2 m cx2] 25) (Below.refl w20.heap.size w20)
  have hb' := hb.trans (bb.mono hb.size)
  have S20 := hide (btrans (unhide S3) hb')
  have O20 := hide ((unhide O3).keep hb')
  have F20 := hide ((unhide F3).keep hb')
  have X20 := hide (Tb.new hr.1)
  have XO := hide hr.2
  clear hb bb hb' hr S3 O3 F3 H8
  go_upto_if 57 with fail
  generalize w20.alloc (.cells #[.int .i64 n1, .int .i64 n2, .slice qx2 m cx2] 25) = w21 at *
  generalize w20.heap.size = bx2 at *
  obtain ⟨K1, hK1⟩ : ∃ k, k = (unU (tuF (ddF f w t1 t2 n1) n1 n2) n2 n1).length := ⟨_, rfl⟩
  obtain ⟨K2, hK2⟩ : ∃ k, k = (unU (ddF f w t1 t2 n1) n1 n2).length := ⟨_, rfl⟩
  obtain ⟨MT, hMT⟩ : ∃ m, m = K1 * K2 := ⟨_, rfl⟩
  have hm0 : 0 < m := by rw [unhide Hmm]; exact Nat.mul_pos (unhide HR).2.1.1 (unhide HR).2.2.1
  have HFX := hide (few_ok (unhide X20).2 hm0 K1 K2 MT hK1 hK2 hMT)
  have HK1 := hide hK1
  have HK2 := hide hK2
  clear hK1 hK2 hMT
  have x20 := (unhide X20).1.2
  go_wp2_with fail
  clear x20
  refine (unhide HFX).mono ?_
  rintro e w22 ⟨e1, s1, et, st, e2, s2, rfl, he1, het, he2, hb⟩
  have hfl2 : bf < w21.heap.size := (unhide F20).1.1
  have hs22 := hb.size
  obtain ⟨w23, E23, F23, O23, X23, R23, S23⟩ : ∃ w23, ((((w22.setCell ⟨bf, 0, none⟩ (.slice e1 n1 s1)).setCell ⟨bf, 1, none⟩ (.int .i64 K1)).setCell ⟨bf, 2, none⟩ (.int .i64 K2)).setCell ⟨bf, 3, none⟩ (.slice et MT st)).setCell ⟨bf, 4, none⟩ (.slice e2 n2 s2) = w23 ∧
      OwnV w23 bf e1 n1 s1 K1 K2 et MT st e2 n2 s2 ∧ OwnR w23 W.heap.size q1 n1 c1 w h p n cap q2 n2 c2 ∧ Tb w23 bx2 n1 n2 qx2 m cx2 (ddF f w t1 t2 n1) ∧
      Rd w23 e1 n1 (nuN (tuF (ddF f w t1 t2 n1) n1 n2) n2) K1 K2 et MT st (fwF (ddF f w t1 t2 n1) n1 n2 K1) e2 n2 (nuN (ddF f w t1 t2 n1) n1) ∧ Below W.heap.size W w23 :=
    ⟨_, rfl, ((unhide F20).keep hb).put _ _ _ _ _ _ _ _ _ _ _, ((unhide O20).keep hb).grown (gput5 _ _ _ _ _ _) (some_ne (by omega)),
      ⟨((unhide X20).1.keep hb).grown (gput5 _ _ _ _ _ _) (some_ne (by omega)), (unhide X20).2.1, (unhide X20).2.2.1, (unhide X20).2.2.2.1, ((unhide X20).2.2.2.2.keep hb).grown (gput5 _ _ _ _ _ _) (unhide XO _ (by omega))⟩,
      ⟨(het.grown (gput5 _ _ _ _ _ _) hfl2).1, (he1.grown (gput5 _ _ _ _ _ _) hfl2).1, (he2.grown (gput5 _ _ _ _ _ _) hfl2).1⟩, bput5 (btrans (unhide S20) hb) (by omega) _ _ _ _ _⟩
  have HE23 := hide E23
  have HF23 := hide F23
  have HO23 := hide O23
  have HX23 := hide X23
  have HR23 := hide R23
  have HS23 := hide S23
  obtain ⟨⟨-, a0, a1, a2, a3, a4⟩, b0, b1, b2, b3, b4⟩ := (unhide F20).keep hb
  clear hb E23 F23 O23 X23 R23 S23 he1 het he2 HFX S20 O20 F20 X20
  go_upto_if 64 with fail
  rw [unhide HE23]
  clear HE23 a0 a1 a2 a3 a4 b0 b1 b2 b3 b4
  have f23 := (unhide HF23).1.2
  have HDY := hide (draw_ok (c1 := s1) (c2 := s2) (unhide HR23) m (unhide Hmm))
  go_wp2_with fail
  clear f23
  refine (unhide HDY).mono ?_
  rintro e w24 ⟨qy2, cy2, rfl, hr, hb⟩
  have bb := bal (o := .cells #[.int .i64 n1, .int .i64 n2, .slice qy2 m cy2] 25) (Below.refl w24.heap.size w24)
  have hb' := hb.trans (bb.mono hb.size)
  have S24 := hide (btrans (unhide HS23) hb')
  have O24 := hide ((unhide HO23).keep hb')
  have F24 := hide ((unhide HF23).keep hb')
  have X24 := hide ((unhide HX23).keep hb')
  have Y24 := hide (Tb.new hr.1)
  clear hb bb hb' hr HS23 HO23 HF23 HX23 HR23 HDY
  go_upto_region 15 with fail
  generalize w24.alloc (.cells #[.int .i64 n1, .int .i64 n2, .slice qy2 m cy2] 25) = w25 at *
  generalize w24.heap.size = by2 at *
  have hn1 := (unhide HR).2.1.2.1
  have hn2 := (unhide HR).2.2.2.1
  have HS := hide (fun V (hV : Below w25.heap.size w25 V) => same_ok (cap := cx2) (cap2 := cy2) ((unhide X24).2.keep hV) ((unhide Y24).2.keep hV) (fun j hj => by rw [unhide Hmm] at hj; rw [unhide HK1]; exact (few_weaves (ddF f w t1 t2 n1) n1 n2 j hj).symm))
  have HU1 := hide (fun V (hV : Below w25.heap.size w25 V) => used_any q1 n1 c1 _ V hn1 (((unhide HR).keep (unhide S24)).2.1.2.2.1.keep hV))
  have HU2 := hide (fun V (hV : Below w25.heap.size w25 V) => used_any q2 n2 c2 _ V hn2 (((unhide HR).keep (unhide S24)).2.2.2.2.1.keep hV))
  have hg1 : (K1 : Int) ≤ ((usN t1 n1 : Nat) : Int) := by have := dd_cols f w t1 t2 n1 n2; rw [← unhide HK1] at this; omega
  have hg2 : (K2 : Int) ≤ ((usN t2 n2 : Nat) : Int) := by have := dd_rows f w t1 t2 n1 n2; rw [← unhide HK2] at this; omega
  generalize usN t1 n1 = u1 at *
  generalize usN t2 n2 = u2 at *
  have Hld := hide (show ∀ V, Below w25.heap.size w25 V → V.cell? ⟨bx2, 0, none⟩ = some (.int .i64 n1) ∧ V.cell? ⟨bx2, 1, none⟩ = some (.int .i64 n2) ∧ V.cell? ⟨bx2, 2, none⟩ = some (.slice qx2 m cx2) ∧ V.cell? ⟨by2, 0, none⟩ = some (.int .i64 n1) ∧ V.cell? ⟨by2, 1, none⟩ = some (.int .i64 n2) ∧ V.cell? ⟨by2, 2, none⟩ = some (.slice qy2 m cy2) ∧ V.cell? ⟨W.heap.size, 0, none⟩ = some (.slice q1 n1 c1) ∧ V.cell? ⟨W.heap.size, 1, none⟩ = some (.int .i64 w) ∧ V.cell? ⟨W.heap.size, 2, none⟩ = some (.int .i64 h) ∧ V.cell? ⟨W.heap.size, 3, none⟩ = some (.slice p n cap) ∧ V.cell? ⟨W.heap.size, 4, none⟩ = some (.slice q2 n2 c2) ∧ V.cell? ⟨bf, 0, none⟩ = some (.slice e1 n1 s1) ∧ V.cell? ⟨bf, 1, none⟩ = some (.int .i64 K1) ∧ V.cell? ⟨bf, 2, none⟩ = some (.int .i64 K2) ∧ V.cell? ⟨bf, 3, none⟩ = some (.slice et MT st) ∧ V.cell? ⟨bf, 4, none⟩ = some (.slice e2 n2 s2) from fun V hV => ⟨((unhide X24).1.keep hV).2.1, ((unhide X24).1.keep hV).2.2.1, ((unhide X24).1.keep hV).2.2.2, ((unhide Y24).1.keep hV).2.1, ((unhide Y24).1.keep hV).2.2.1, ((unhide Y24).1.keep hV).2.2.2, ((unhide O24).keep hV).2.1, ((unhide O24).keep hV).2.2.1, ((unhide O24).keep hV).2.2.2.1, ((unhide O24).keep hV).2.2.2.2.1, ((unhide O24).keep hV).2.2.2.2.2, ((unhide F24).keep hV).1.2.1, ((unhide F24).keep hV).1.2.2.1, ((unhide F24).keep hV).1.2.2.2.1, ((unhide F24).keep hV).1.2.2.2.2.1, ((unhide F24).keep hV).1.2.2.2.2.2⟩)
  have h10 := True.intro
  have h11 := True.intro
  have h12 := True.intro
  go_region_held3 (fun V => Below w25.heap.size w25 V ∧ V.cell? ⟨bx2, 0, none⟩ = some (.int .i64 n1) ∧ V.cell? ⟨bx2, 1, none⟩ = some (.int .i64 n2) ∧ V.cell? ⟨bx2, 2, none⟩ = some (.slice qx2 m cx2) ∧ V.cell? ⟨by2, 0, none⟩ = some (.int .i64 n1) ∧ V.cell? ⟨by2, 1, none⟩ = some (.int .i64 n2) ∧ V.cell? ⟨by2, 2, none⟩ = some (.slice qy2 m cy2) ∧ V.cell? ⟨W.heap.size, 0, none⟩ = some (.slice q1 n1 c1) ∧ V.cell? ⟨W.heap.size, 1, none⟩ = some (.int .i64 w) ∧ V.cell? ⟨W.heap.size, 2, none⟩ = some (.int .i64 h) ∧ V.cell? ⟨W.heap.size, 3, none⟩ = some (.slice p n cap) ∧ V.cell? ⟨W.heap.size, 4, none⟩ = some (.slice q2 n2 c2) ∧ V.cell? ⟨bf, 0, none⟩ = some (.slice e1 n1 s1) ∧ V.cell? ⟨bf, 1, none⟩ = some (.int .i64 K1) ∧ V.cell? ⟨bf, 2, none⟩ = some (.int .i64 K2) ∧ V.cell? ⟨bf, 3, none⟩ = some (.slice et MT st) ∧ V.cell? ⟨bf, 4, none⟩ = some (.slice e2 n2 s2))
    (first
      | (exact ⟨h12, unhide Hld _ h12⟩)
      | (exact ⟨h11, unhide Hld _ h11⟩)
      | (exact ⟨h10, unhide Hld _ h10⟩)
      | (exact ⟨Below.drew (Below.refl _ _), unhide Hld _ (Below.drew (Below.refl _ _))⟩))
    (first
      | (go_at_call 10; refine (unhide HS _ (Below.drew (Below.refl _ _))).mono ?_; rintro e w10 ⟨rfl, hb⟩; have h10 := btrans (Below.drew (Below.refl _ _)) hb)
      | (go_at_call_of 18 (Value.slice q1 n1 c1); refine (unhide HU1 _ h10).mono ?_; rintro e w11 ⟨rfl, hb⟩; have h11 := btrans h10 hb)
      | (go_at_call_of 18 (Value.slice q2 n2 c2); refine (unhide HU2 _ h11).mono ?_; rintro e w12' ⟨rfl, hb⟩; have h12 := btrans h11 hb))
  have SF := hide (btrans (unhide S24) h12)
  clear S24 O24 F24 X24 Y24 HS HU1 HU2 Hld h10 h11 h12
  go_wp2
  go_ret
  exact ⟨rfl, unhide SF⟩

set_option maxRecDepth 100000 in
set_option maxHeartbeats 4000000 in
theorem few_bc (q1 : Option Addr) (n1 c1 : Nat) (w h : Int) (p : Option Addr) (n cap : Nat) (q2 : Option Addr) (n2 c2 : Nat) (wm hm : Nat) (pm : Option Addr) (nm cm : Nat) (f1 f2 : Nat → Int) (fm : Nat → Bool) (W : World) (h1 : Is W q1 n1 f1) (h2 : Is W q2 n2 f2) (er : Int) (her : dE n1 f1 w h n n2 f2 = er) (hp : 1 ≤ er) (rm : Rt W wm hm pm nm cm fm) (hnm : 0 < nm) :
    FewestIs 5 q1 n1 c1 w h p n cap q2 n2 c2 wm hm pm nm cm W := by
  have bb0 := bal (o := .cells #[.int .i64 wm, .int .i64 hm, .slice pm nm cm] 25) (Below.refl _ (W.alloc (.cells #[.slice q1 n1 c1, .int .i64 w, .int .i64 h, .slice p n cap, .slice q2 n2 c2] 27)))
  have HB := hide (btrans (bal (o := .cells #[.slice q1 n1 c1, .int .i64 w, .int .i64 h, .slice p n cap, .slice q2 n2 c2] 27) (Below.refl W.heap.size W)) bb0)
  have HO := hide ((OwnR.new W q1 n1 c1 w h p n cap q2 n2 c2).keep bb0)
  have M0 := OwnM.new (W.alloc (.cells #[.slice q1 n1 c1, .int .i64 w, .int .i64 h, .slice p n cap, .slice q2 n2 c2] 27)) wm hm pm nm cm 25
  simp only [World.size_alloc] at M0
  have HM := hide M0
  clear bb0 M0
  have H8 := hide (fun V (hV : Below W.heap.size W V) => draw_err q1 n1 c1 f1 w h p n cap q2 n2 c2 f2 V (h1.keep hV) (h2.keep hV) er her hp)
  have hp' : (er != 0) = true := by simp; omega
  clear h1 h2 her
  obtain ⟨k1, hk1⟩ : ∃ k, k = (unU (tuF fm wm hm) hm wm).length := ⟨_, rfl⟩
  obtain ⟨k2, hk2⟩ : ∃ k, k = (unU fm wm hm).length := ⟨_, rfl⟩
  obtain ⟨mt, hmt⟩ : ∃ m, m = k1 * k2 := ⟨_, rfl⟩
  have H11 := hide (fun V (hV : Below W.heap.size W V) => few_ok (rm.keep hV) hnm k1 k2 mt hk1 hk2 hmt)
  have HRM := hide rm
  have Hk1 := hide hk1
  have Hk2 := hide hk2
  clear rm hk1 hk2 hmt
  unfold FewestIs
  go_enter Try.func5, Try.ntmps5
  go_wp2_with fail
  generalize (W.alloc (.cells #[.slice q1 n1 c1, .int .i64 w, .int .i64 h, .slice p n cap, .slice q2 n2 c2] 27)).alloc (.cells #[.int .i64 wm, .int .i64 hm, .slice pm nm cm] 25) = w0 at *
  refine (dalive_any _).mono ?_
  rintro e w1 ⟨rfl, hb⟩
  have S1 := hide (btrans (unhide HB) hb)
  have O1 := hide ((unhide HO).keep hb)
  have M1 := hide ((unhide HM).keep hb)
  have m1 := (unhide M1).2
  clear hb HB HO HM
  go_wp2_with fail
  clear m1
  refine (unhide H11 _ (unhide S1)).mono ?_
  rintro e w2 ⟨g1, d1, gt, dt, g2, d2, rfl, ht1, htt, ht2, hb⟩
  have bb := bal (o := .cells #[.slice g1 wm d1, .int .i64 k1, .int .i64 k2, .slice gt mt dt, .slice g2 hm d2] 27) (Below.refl w2.heap.size w2)
  have hb' := hb.trans (bb.mono hb.size)
  have S2 := hide (btrans (unhide S1) hb')
  have O2 := hide ((unhide O1).keep hb')
  have M2 := hide ((unhide M1).keep hb')
  have F2 := hide (OwnV.new w2 g1 wm d1 k1 k2 gt mt dt g2 hm d2)
  have RF := hide (show Rd _ g1 wm (nuN (tuF fm wm hm) hm) k1 k2 gt mt dt (fwF fm wm hm k1) g2 hm (nuN fm wm) from ⟨htt.1.keep bb, ht1.1.keep bb, ht2.1.keep bb⟩)
  have hsw : W.heap.size < w2.heap.size := by have := (unhide O1).1; have := hb.size; omega
  clear hb bb hb' S1 O1 M1 H11 ht1 htt ht2
  go_upto_if 19 with fail
  generalize w2.alloc (.cells #[.slice g1 wm d1, .int .i64 k1, .int .i64 k2, .slice gt mt dt, .slice g2 hm d2] 27) = w3 at *
  generalize w2.heap.size = bf at *
  have f3 := (unhide F2).1.2
  have HD := hide (draw_ok (c1 := d1) (c2 := d2) (unhide RF) nm (unhide HRM).2.2.1)
  go_wp2_with fail
  clear f3
  refine (unhide HD).mono ?_
  rintro e w4 ⟨qx, cx, rfl, hr, hb⟩
  have bb := bal (o := .cells #[.int .i64 wm, .int .i64 hm, .slice qx nm cx] 25) (Below.refl w4.heap.size w4)
  have hb' := hb.trans (bb.mono hb.size)
  have S4 := hide (btrans (unhide S2) hb')
  have O4 := hide ((unhide O2).keep hb')
  have M4 := hide ((unhide M2).keep hb')
  have F4 := hide ((unhide F2).keep hb')
  have RF4 := hide ((unhide RF).keep hb')
  have X4 := hide (Tb.new hr.1)
  clear hb bb hb' hr S2 O2 M2 F2 RF HD
  go_upto_region 6 with fail
  generalize w4.alloc (.cells #[.int .i64 wm, .int .i64 hm, .slice qx nm cx] 25) = w5 at *
  generalize w4.heap.size = bx at *
  have hwm := (unhide HRM).1
  have hhm := (unhide HRM).2.1
  have HS := hide (fun V (hV : Below w5.heap.size w5 V) => same_ok (cap := cx) (cap2 := cm) ((unhide X4).2.keep hV) (((unhide HRM).keep (unhide S4)).keep hV) (fun j hj => by rw [(unhide HRM).2.2.1] at hj; rw [unhide Hk1]; exact few_weaves fm wm hm j hj))
  have HU1 := hide (fun V (hV : Below w5.heap.size w5 V) => used_any g1 wm d1 _ V hwm ((unhide RF4).2.1.2.2.1.keep hV))
  have HU2 := hide (fun V (hV : Below w5.heap.size w5 V) => used_any g2 hm d2 _ V hhm ((unhide RF4).2.2.2.2.1.keep hV))
  rw [used_nu, ← unhide Hk1] at HU1
  rw [used_nu, ← unhide Hk2] at HU2
  have hkk1 : ((k1 : Int) != (k1 : Int)) = false := by simp
  have hkk2 : ((k2 : Int) != (k2 : Int)) = false := by simp
  have Hld := hide (show ∀ V, Below w5.heap.size w5 V → V.cell? ⟨bx, 0, none⟩ = some (.int .i64 wm) ∧ V.cell? ⟨bx, 1, none⟩ = some (.int .i64 hm) ∧ V.cell? ⟨bx, 2, none⟩ = some (.slice qx nm cx) ∧ V.cell? ⟨W.heap.size + 1, 0, none⟩ = some (.int .i64 wm) ∧ V.cell? ⟨W.heap.size + 1, 1, none⟩ = some (.int .i64 hm) ∧ V.cell? ⟨W.heap.size + 1, 2, none⟩ = some (.slice pm nm cm) ∧ V.cell? ⟨bf, 0, none⟩ = some (.slice g1 wm d1) ∧ V.cell? ⟨bf, 1, none⟩ = some (.int .i64 k1) ∧ V.cell? ⟨bf, 2, none⟩ = some (.int .i64 k2) ∧ V.cell? ⟨bf, 3, none⟩ = some (.slice gt mt dt) ∧ V.cell? ⟨bf, 4, none⟩ = some (.slice g2 hm d2) from fun V hV => ⟨((unhide X4).1.keep hV).2.1, ((unhide X4).1.keep hV).2.2.1, ((unhide X4).1.keep hV).2.2.2, ((unhide M4).keep hV).2.1, ((unhide M4).keep hV).2.2.1, ((unhide M4).keep hV).2.2.2, (((unhide F4).keep hV).1).2.1, (((unhide F4).keep hV).1).2.2.1, (((unhide F4).keep hV).1).2.2.2.1, (((unhide F4).keep hV).1).2.2.2.2.1, (((unhide F4).keep hV).1).2.2.2.2.2⟩)
  have h10 := True.intro
  have h11 := True.intro
  have h12 := True.intro
  go_region_held3 (fun V => Below w5.heap.size w5 V ∧ V.cell? ⟨bx, 0, none⟩ = some (.int .i64 wm) ∧ V.cell? ⟨bx, 1, none⟩ = some (.int .i64 hm) ∧ V.cell? ⟨bx, 2, none⟩ = some (.slice qx nm cx) ∧ V.cell? ⟨W.heap.size + 1, 0, none⟩ = some (.int .i64 wm) ∧ V.cell? ⟨W.heap.size + 1, 1, none⟩ = some (.int .i64 hm) ∧ V.cell? ⟨W.heap.size + 1, 2, none⟩ = some (.slice pm nm cm) ∧ V.cell? ⟨bf, 0, none⟩ = some (.slice g1 wm d1) ∧ V.cell? ⟨bf, 1, none⟩ = some (.int .i64 k1) ∧ V.cell? ⟨bf, 2, none⟩ = some (.int .i64 k2) ∧ V.cell? ⟨bf, 3, none⟩ = some (.slice gt mt dt) ∧ V.cell? ⟨bf, 4, none⟩ = some (.slice g2 hm d2))
    (first
      | (exact ⟨h12, unhide Hld _ h12⟩)
      | (exact ⟨h11, unhide Hld _ h11⟩)
      | (exact ⟨h10, unhide Hld _ h10⟩)
      | (exact ⟨Below.drew (Below.refl _ _), unhide Hld _ (Below.drew (Below.refl _ _))⟩))
    (first
      | (go_at_call 10; refine (unhide HS _ (Below.drew (Below.refl _ _))).mono ?_; rintro e w10 ⟨rfl, hb⟩; have h10 := btrans (Below.drew (Below.refl _ _)) hb)
      | (go_at_call_of 18 (Value.slice g1 wm d1); refine (unhide HU1 _ h10).mono ?_; rintro e w11 ⟨rfl, hb⟩; have h11 := btrans h10 hb)
      | (go_at_call_of 18 (Value.slice g2 hm d2); refine (unhide HU2 _ h11).mono ?_; rintro e w12 ⟨rfl, hb⟩; have h12 := btrans h11 hb))
  have S3 := hide (btrans (unhide S4) h12)
  have O3 := hide ((unhide O4).keep h12)
  have F3 := hide ((unhide F4).keep h12)
  clear S4 O4 F4 M4 RF4 X4 HS HU1 HU2 Hld h10 h11 h12
  have o3 := (unhide O3).2
  go_wp2_with fail
  clear o3
  refine (unhide H8 _ (unhide S3)).mono ?_
  rintro e w20 ⟨rfl, hb⟩
  have S20 := hide (bal (o := .cells #[.int .i64 0, .int .i64 0, .slice none 0 0] 25) (btrans (unhide S3) hb))
  clear hb S3 O3 F3 H8
  go_wp2
  go_ret
  exact ⟨rfl, unhide S20⟩

set_option maxRecDepth 100000 in
set_option maxHeartbeats 4000000 in
theorem few_bd (q1 : Option Addr) (n1 c1 : Nat) (w h : Nat) (p : Option Addr) (n cap : Nat) (q2 : Option Addr) (n2 c2 : Nat) (wm hm : Nat) (pm : Option Addr) (nm cm : Nat) (t1 t2 : Nat → Nat) (f : Nat → Bool) (fm : Nat → Bool) (W : World) (r : Rd W q1 n1 t1 w h p n cap f q2 n2 t2) (rm : Rt W wm hm pm nm cm fm) (hnm : 0 < nm) :
    FewestIs 5 q1 n1 c1 w h p n cap q2 n2 c2 wm hm pm nm cm W := by
  have bb0 := bal (o := .cells #[.int .i64 wm, .int .i64 hm, .slice pm nm cm] 25) (Below.refl _ (W.alloc (.cells #[.slice q1 n1 c1, .int .i64 w, .int .i64 h, .slice p n cap, .slice q2 n2 c2] 27)))
  have HB := hide (btrans (bal (o := .cells #[.slice q1 n1 c1, .int .i64 w, .int .i64 h, .slice p n cap, .slice q2 n2 c2] 27) (Below.refl W.heap.size W)) bb0)
  have HO := hide ((OwnR.new W q1 n1 c1 w h p n cap q2 n2 c2).keep bb0)
  have M0 := OwnM.new (W.alloc (.cells #[.slice q1 n1 c1, .int .i64 w, .int .i64 h, .slice p n cap, .slice q2 n2 c2] 27)) wm hm pm nm cm 25
  simp only [World.size_alloc] at M0
  have HM := hide M0
  clear bb0 M0
  obtain ⟨m, hmm⟩ : ∃ m, m = n1 * n2 := ⟨_, rfl⟩
  have H8 := hide (fun V (hV : Below W.heap.size W V) => draw_ok (c1 := c1) (c2 := c2) (r.keep hV) m hmm)
  have HR := hide r
  have Hmm := hide hmm
  clear r hmm
  obtain ⟨k1, hk1⟩ : ∃ k, k = (unU (tuF fm wm hm) hm wm).length := ⟨_, rfl⟩
  obtain ⟨k2, hk2⟩ : ∃ k, k = (unU fm wm hm).length := ⟨_, rfl⟩
  obtain ⟨mt, hmt⟩ : ∃ m, m = k1 * k2 := ⟨_, rfl⟩
  have H11 := hide (fun V (hV : Below W.heap.size W V) => few_ok (rm.keep hV) hnm k1 k2 mt hk1 hk2 hmt)
  have HRM := hide rm
  have Hk1 := hide hk1
  have Hk2 := hide hk2
  clear rm hk1 hk2 hmt
  unfold FewestIs
  go_enter Try.func5, Try.ntmps5
  go_wp2_with fail
  generalize (W.alloc (.cells #[.slice q1 n1 c1, .int .i64 w, .int .i64 h, .slice p n cap, .slice q2 n2 c2] 27)).alloc (.cells #[.int .i64 wm, .int .i64 hm, .slice pm nm cm] 25) = w0 at *
  refine (dalive_any _).mono ?_
  rintro e w1 ⟨rfl, hb⟩
  have S1 := hide (btrans (unhide HB) hb)
  have O1 := hide ((unhide HO).keep hb)
  have M1 := hide ((unhide HM).keep hb)
  have m1 := (unhide M1).2
  clear hb HB HO HM
  go_wp2_with fail
  clear m1
  refine (unhide H11 _ (unhide S1)).mono ?_
  rintro e w2 ⟨g1, d1, gt, dt, g2, d2, rfl, ht1, htt, ht2, hb⟩
  have bb := bal (o := .cells #[.slice g1 wm d1, .int .i64 k1, .int .i64 k2, .slice gt mt dt, .slice g2 hm d2] 27) (Below.refl w2.heap.size w2)
  have hb' := hb.trans (bb.mono hb.size)
  have S2 := hide (btrans (unhide S1) hb')
  have O2 := hide ((unhide O1).keep hb')
  have M2 := hide ((unhide M1).keep hb')
  have F2 := hide (OwnV.new w2 g1 wm d1 k1 k2 gt mt dt g2 hm d2)
  have RF := hide (show Rd _ g1 wm (nuN (tuF fm wm hm) hm) k1 k2 gt mt dt (fwF fm wm hm k1) g2 hm (nuN fm wm) from ⟨htt.1.keep bb, ht1.1.keep bb, ht2.1.keep bb⟩)
  have hsw : W.heap.size < w2.heap.size := by have := (unhide O1).1; have := hb.size; omega
  clear hb bb hb' S1 O1 M1 H11 ht1 htt ht2
  go_upto_if 19 with fail
  generalize w2.alloc (.cells #[.slice g1 wm d1, .int .i64 k1, .int .i64 k2, .slice gt mt dt, .slice g2 hm d2] 27) = w3 at *
  generalize w2.heap.size = bf at *
  have f3 := (unhide F2).1.2
  have HD := hide (draw_ok (c1 := d1) (c2 := d2) (unhide RF) nm (unhide HRM).2.2.1)
  go_wp2_with fail
  clear f3
  refine (unhide HD).mono ?_
  rintro e w4 ⟨qx, cx, rfl, hr, hb⟩
  have bb := bal (o := .cells #[.int .i64 wm, .int .i64 hm, .slice qx nm cx] 25) (Below.refl w4.heap.size w4)
  have hb' := hb.trans (bb.mono hb.size)
  have S4 := hide (btrans (unhide S2) hb')
  have O4 := hide ((unhide O2).keep hb')
  have M4 := hide ((unhide M2).keep hb')
  have F4 := hide ((unhide F2).keep hb')
  have RF4 := hide ((unhide RF).keep hb')
  have X4 := hide (Tb.new hr.1)
  clear hb bb hb' hr S2 O2 M2 F2 RF HD
  go_upto_region 6 with fail
  generalize w4.alloc (.cells #[.int .i64 wm, .int .i64 hm, .slice qx nm cx] 25) = w5 at *
  generalize w4.heap.size = bx at *
  have hwm := (unhide HRM).1
  have hhm := (unhide HRM).2.1
  have HS := hide (fun V (hV : Below w5.heap.size w5 V) => same_ok (cap := cx) (cap2 := cm) ((unhide X4).2.keep hV) (((unhide HRM).keep (unhide S4)).keep hV) (fun j hj => by rw [(unhide HRM).2.2.1] at hj; rw [unhide Hk1]; exact few_weaves fm wm hm j hj))
  have HU1 := hide (fun V (hV : Below w5.heap.size w5 V) => used_any g1 wm d1 _ V hwm ((unhide RF4).2.1.2.2.1.keep hV))
  have HU2 := hide (fun V (hV : Below w5.heap.size w5 V) => used_any g2 hm d2 _ V hhm ((unhide RF4).2.2.2.2.1.keep hV))
  rw [used_nu, ← unhide Hk1] at HU1
  rw [used_nu, ← unhide Hk2] at HU2
  have hkk1 : ((k1 : Int) != (k1 : Int)) = false := by simp
  have hkk2 : ((k2 : Int) != (k2 : Int)) = false := by simp
  have Hld := hide (show ∀ V, Below w5.heap.size w5 V → V.cell? ⟨bx, 0, none⟩ = some (.int .i64 wm) ∧ V.cell? ⟨bx, 1, none⟩ = some (.int .i64 hm) ∧ V.cell? ⟨bx, 2, none⟩ = some (.slice qx nm cx) ∧ V.cell? ⟨W.heap.size + 1, 0, none⟩ = some (.int .i64 wm) ∧ V.cell? ⟨W.heap.size + 1, 1, none⟩ = some (.int .i64 hm) ∧ V.cell? ⟨W.heap.size + 1, 2, none⟩ = some (.slice pm nm cm) ∧ V.cell? ⟨bf, 0, none⟩ = some (.slice g1 wm d1) ∧ V.cell? ⟨bf, 1, none⟩ = some (.int .i64 k1) ∧ V.cell? ⟨bf, 2, none⟩ = some (.int .i64 k2) ∧ V.cell? ⟨bf, 3, none⟩ = some (.slice gt mt dt) ∧ V.cell? ⟨bf, 4, none⟩ = some (.slice g2 hm d2) from fun V hV => ⟨((unhide X4).1.keep hV).2.1, ((unhide X4).1.keep hV).2.2.1, ((unhide X4).1.keep hV).2.2.2, ((unhide M4).keep hV).2.1, ((unhide M4).keep hV).2.2.1, ((unhide M4).keep hV).2.2.2, (((unhide F4).keep hV).1).2.1, (((unhide F4).keep hV).1).2.2.1, (((unhide F4).keep hV).1).2.2.2.1, (((unhide F4).keep hV).1).2.2.2.2.1, (((unhide F4).keep hV).1).2.2.2.2.2⟩)
  have h10 := True.intro
  have h11 := True.intro
  have h12 := True.intro
  go_region_held3 (fun V => Below w5.heap.size w5 V ∧ V.cell? ⟨bx, 0, none⟩ = some (.int .i64 wm) ∧ V.cell? ⟨bx, 1, none⟩ = some (.int .i64 hm) ∧ V.cell? ⟨bx, 2, none⟩ = some (.slice qx nm cx) ∧ V.cell? ⟨W.heap.size + 1, 0, none⟩ = some (.int .i64 wm) ∧ V.cell? ⟨W.heap.size + 1, 1, none⟩ = some (.int .i64 hm) ∧ V.cell? ⟨W.heap.size + 1, 2, none⟩ = some (.slice pm nm cm) ∧ V.cell? ⟨bf, 0, none⟩ = some (.slice g1 wm d1) ∧ V.cell? ⟨bf, 1, none⟩ = some (.int .i64 k1) ∧ V.cell? ⟨bf, 2, none⟩ = some (.int .i64 k2) ∧ V.cell? ⟨bf, 3, none⟩ = some (.slice gt mt dt) ∧ V.cell? ⟨bf, 4, none⟩ = some (.slice g2 hm d2))
    (first
      | (exact ⟨h12, unhide Hld _ h12⟩)
      | (exact ⟨h11, unhide Hld _ h11⟩)
      | (exact ⟨h10, unhide Hld _ h10⟩)
      | (exact ⟨Below.drew (Below.refl _ _), unhide Hld _ (Below.drew (Below.refl _ _))⟩))
    (first
      | (go_at_call 10; refine (unhide HS _ (Below.drew (Below.refl _ _))).mono ?_; rintro e w10 ⟨rfl, hb⟩; have h10 := btrans (Below.drew (Below.refl _ _)) hb)
      | (go_at_call_of 18 (Value.slice g1 wm d1); refine (unhide HU1 _ h10).mono ?_; rintro e w11 ⟨rfl, hb⟩; have h11 := btrans h10 hb)
      | (go_at_call_of 18 (Value.slice g2 hm d2); refine (unhide HU2 _ h11).mono ?_; rintro e w12 ⟨rfl, hb⟩; have h12 := btrans h11 hb))
  have S3 := hide (btrans (unhide S4) h12)
  have O3 := hide ((unhide O4).keep h12)
  have F3 := hide ((unhide F4).keep h12)
  clear S4 O4 F4 M4 RF4 X4 HS HU1 HU2 Hld h10 h11 h12
  have o3 := (unhide O3).2
  go_wp2_with fail
  clear o3
  have hfl : bf < w12.heap.size := (unhide F3).1.1
  refine (unhide H8 _ (unhide S3)).mono ?_
  rintro e w20 ⟨qx2, cx2, rfl, hr, hb⟩
  have hs20 := hb.size
  have bb := bal (o := .cells #[.int .i64 n1, .int .i64 n2, .slice qx2 m cx2] 25) (Below.refl w20.heap.size w20)
  have hb' := hb.trans (bb.mono hb.size)
  have S20 := hide (btrans (unhide S3) hb')
  have O20 := hide ((unhide O3).keep hb')
  have F20 := hide ((unhide F3).keep hb')
  have X20 := hide (Tb.new hr.1)
  have XO := hide hr.2
  clear hb bb hb' hr S3 O3 F3 H8
  go_upto_if 57 with fail
  generalize w20.alloc (.cells #[.int .i64 n1, .int .i64 n2, .slice qx2 m cx2] 25) = w21 at *
  generalize w20.heap.size = bx2 at *
  obtain ⟨K1, hK1⟩ : ∃ k, k = (unU (tuF (ddF f w t1 t2 n1) n1 n2) n2 n1).length := ⟨_, rfl⟩
  obtain ⟨K2, hK2⟩ : ∃ k, k = (unU (ddF f w t1 t2 n1) n1 n2).length := ⟨_, rfl⟩
  obtain ⟨MT, hMT⟩ : ∃ m, m = K1 * K2 := ⟨_, rfl⟩
  have hm0 : 0 < m := by rw [unhide Hmm]; exact Nat.mul_pos (unhide HR).2.1.1 (unhide HR).2.2.1
  have HFX := hide (few_ok (unhide X20).2 hm0 K1 K2 MT hK1 hK2 hMT)
  have HK1 := hide hK1
  have HK2 := hide hK2
  clear hK1 hK2 hMT
  have x20 := (unhide X20).1.2
  go_wp2_with fail
  clear x20
  refine (unhide HFX).mono ?_
  rintro e w22 ⟨e1, s1, et, st, e2, s2, rfl, he1, het, he2, hb⟩
  have hfl2 : bf < w21.heap.size := (unhide F20).1.1
  have hs22 := hb.size
  obtain ⟨w23, E23, F23, O23, X23, R23, S23⟩ : ∃ w23, ((((w22.setCell ⟨bf, 0, none⟩ (.slice e1 n1 s1)).setCell ⟨bf, 1, none⟩ (.int .i64 K1)).setCell ⟨bf, 2, none⟩ (.int .i64 K2)).setCell ⟨bf, 3, none⟩ (.slice et MT st)).setCell ⟨bf, 4, none⟩ (.slice e2 n2 s2) = w23 ∧
      OwnV w23 bf e1 n1 s1 K1 K2 et MT st e2 n2 s2 ∧ OwnR w23 W.heap.size q1 n1 c1 w h p n cap q2 n2 c2 ∧ Tb w23 bx2 n1 n2 qx2 m cx2 (ddF f w t1 t2 n1) ∧
      Rd w23 e1 n1 (nuN (tuF (ddF f w t1 t2 n1) n1 n2) n2) K1 K2 et MT st (fwF (ddF f w t1 t2 n1) n1 n2 K1) e2 n2 (nuN (ddF f w t1 t2 n1) n1) ∧ Below W.heap.size W w23 :=
    ⟨_, rfl, ((unhide F20).keep hb).put _ _ _ _ _ _ _ _ _ _ _, ((unhide O20).keep hb).grown (gput5 _ _ _ _ _ _) (some_ne (by omega)),
      ⟨((unhide X20).1.keep hb).grown (gput5 _ _ _ _ _ _) (some_ne (by omega)), (unhide X20).2.1, (unhide X20).2.2.1, (unhide X20).2.2.2.1, ((unhide X20).2.2.2.2.keep hb).grown (gput5 _ _ _ _ _ _) (unhide XO _ (by omega))⟩,
      ⟨(het.grown (gput5 _ _ _ _ _ _) hfl2).1, (he1.grown (gput5 _ _ _ _ _ _) hfl2).1, (he2.grown (gput5 _ _ _ _ _ _) hfl2).1⟩, bput5 (btrans (unhide S20) hb) (by omega) _ _ _ _ _⟩
  have HE23 := hide E23
  have HF23 := hide F23
  have HO23 := hide O23
  have HX23 := hide X23
  have HR23 := hide R23
  have HS23 := hide S23
  obtain ⟨⟨-, a0, a1, a2, a3, a4⟩, b0, b1, b2, b3, b4⟩ := (unhide F20).keep hb
  clear hb E23 F23 O23 X23 R23 S23 he1 het he2 HFX S20 O20 F20 X20
  go_upto_if 64 with fail
  rw [unhide HE23]
  clear HE23 a0 a1 a2 a3 a4 b0 b1 b2 b3 b4
  have f23 := (unhide HF23).1.2
  have HDY := hide (draw_ok (c1 := s1) (c2 := s2) (unhide HR23) m (unhide Hmm))
  go_wp2_with fail
  clear f23
  refine (unhide HDY).mono ?_
  rintro e w24 ⟨qy2, cy2, rfl, hr, hb⟩
  have bb := bal (o := .cells #[.int .i64 n1, .int .i64 n2, .slice qy2 m cy2] 25) (Below.refl w24.heap.size w24)
  have hb' := hb.trans (bb.mono hb.size)
  have S24 := hide (btrans (unhide HS23) hb')
  have O24 := hide ((unhide HO23).keep hb')
  have F24 := hide ((unhide HF23).keep hb')
  have X24 := hide ((unhide HX23).keep hb')
  have Y24 := hide (Tb.new hr.1)
  clear hb bb hb' hr HS23 HO23 HF23 HX23 HR23 HDY
  go_upto_region 15 with fail
  generalize w24.alloc (.cells #[.int .i64 n1, .int .i64 n2, .slice qy2 m cy2] 25) = w25 at *
  generalize w24.heap.size = by2 at *
  have hn1 := (unhide HR).2.1.2.1
  have hn2 := (unhide HR).2.2.2.1
  have HS := hide (fun V (hV : Below w25.heap.size w25 V) => same_ok (cap := cx2) (cap2 := cy2) ((unhide X24).2.keep hV) ((unhide Y24).2.keep hV) (fun j hj => by rw [unhide Hmm] at hj; rw [unhide HK1]; exact (few_weaves (ddF f w t1 t2 n1) n1 n2 j hj).symm))
  have HU1 := hide (fun V (hV : Below w25.heap.size w25 V) => used_any q1 n1 c1 _ V hn1 (((unhide HR).keep (unhide S24)).2.1.2.2.1.keep hV))
  have HU2 := hide (fun V (hV : Below w25.heap.size w25 V) => used_any q2 n2 c2 _ V hn2 (((unhide HR).keep (unhide S24)).2.2.2.2.1.keep hV))
  have hg1 : (K1 : Int) ≤ ((usN t1 n1 : Nat) : Int) := by have := dd_cols f w t1 t2 n1 n2; rw [← unhide HK1] at this; omega
  have hg2 : (K2 : Int) ≤ ((usN t2 n2 : Nat) : Int) := by have := dd_rows f w t1 t2 n1 n2; rw [← unhide HK2] at this; omega
  generalize usN t1 n1 = u1 at *
  generalize usN t2 n2 = u2 at *
  have Hld := hide (show ∀ V, Below w25.heap.size w25 V → V.cell? ⟨bx2, 0, none⟩ = some (.int .i64 n1) ∧ V.cell? ⟨bx2, 1, none⟩ = some (.int .i64 n2) ∧ V.cell? ⟨bx2, 2, none⟩ = some (.slice qx2 m cx2) ∧ V.cell? ⟨by2, 0, none⟩ = some (.int .i64 n1) ∧ V.cell? ⟨by2, 1, none⟩ = some (.int .i64 n2) ∧ V.cell? ⟨by2, 2, none⟩ = some (.slice qy2 m cy2) ∧ V.cell? ⟨W.heap.size, 0, none⟩ = some (.slice q1 n1 c1) ∧ V.cell? ⟨W.heap.size, 1, none⟩ = some (.int .i64 w) ∧ V.cell? ⟨W.heap.size, 2, none⟩ = some (.int .i64 h) ∧ V.cell? ⟨W.heap.size, 3, none⟩ = some (.slice p n cap) ∧ V.cell? ⟨W.heap.size, 4, none⟩ = some (.slice q2 n2 c2) ∧ V.cell? ⟨bf, 0, none⟩ = some (.slice e1 n1 s1) ∧ V.cell? ⟨bf, 1, none⟩ = some (.int .i64 K1) ∧ V.cell? ⟨bf, 2, none⟩ = some (.int .i64 K2) ∧ V.cell? ⟨bf, 3, none⟩ = some (.slice et MT st) ∧ V.cell? ⟨bf, 4, none⟩ = some (.slice e2 n2 s2) from fun V hV => ⟨((unhide X24).1.keep hV).2.1, ((unhide X24).1.keep hV).2.2.1, ((unhide X24).1.keep hV).2.2.2, ((unhide Y24).1.keep hV).2.1, ((unhide Y24).1.keep hV).2.2.1, ((unhide Y24).1.keep hV).2.2.2, ((unhide O24).keep hV).2.1, ((unhide O24).keep hV).2.2.1, ((unhide O24).keep hV).2.2.2.1, ((unhide O24).keep hV).2.2.2.2.1, ((unhide O24).keep hV).2.2.2.2.2, ((unhide F24).keep hV).1.2.1, ((unhide F24).keep hV).1.2.2.1, ((unhide F24).keep hV).1.2.2.2.1, ((unhide F24).keep hV).1.2.2.2.2.1, ((unhide F24).keep hV).1.2.2.2.2.2⟩)
  have h10 := True.intro
  have h11 := True.intro
  have h12 := True.intro
  go_region_held3 (fun V => Below w25.heap.size w25 V ∧ V.cell? ⟨bx2, 0, none⟩ = some (.int .i64 n1) ∧ V.cell? ⟨bx2, 1, none⟩ = some (.int .i64 n2) ∧ V.cell? ⟨bx2, 2, none⟩ = some (.slice qx2 m cx2) ∧ V.cell? ⟨by2, 0, none⟩ = some (.int .i64 n1) ∧ V.cell? ⟨by2, 1, none⟩ = some (.int .i64 n2) ∧ V.cell? ⟨by2, 2, none⟩ = some (.slice qy2 m cy2) ∧ V.cell? ⟨W.heap.size, 0, none⟩ = some (.slice q1 n1 c1) ∧ V.cell? ⟨W.heap.size, 1, none⟩ = some (.int .i64 w) ∧ V.cell? ⟨W.heap.size, 2, none⟩ = some (.int .i64 h) ∧ V.cell? ⟨W.heap.size, 3, none⟩ = some (.slice p n cap) ∧ V.cell? ⟨W.heap.size, 4, none⟩ = some (.slice q2 n2 c2) ∧ V.cell? ⟨bf, 0, none⟩ = some (.slice e1 n1 s1) ∧ V.cell? ⟨bf, 1, none⟩ = some (.int .i64 K1) ∧ V.cell? ⟨bf, 2, none⟩ = some (.int .i64 K2) ∧ V.cell? ⟨bf, 3, none⟩ = some (.slice et MT st) ∧ V.cell? ⟨bf, 4, none⟩ = some (.slice e2 n2 s2))
    (first
      | (exact ⟨h12, unhide Hld _ h12⟩)
      | (exact ⟨h11, unhide Hld _ h11⟩)
      | (exact ⟨h10, unhide Hld _ h10⟩)
      | (exact ⟨Below.drew (Below.refl _ _), unhide Hld _ (Below.drew (Below.refl _ _))⟩))
    (first
      | (go_at_call 10; refine (unhide HS _ (Below.drew (Below.refl _ _))).mono ?_; rintro e w10 ⟨rfl, hb⟩; have h10 := btrans (Below.drew (Below.refl _ _)) hb)
      | (go_at_call_of 18 (Value.slice q1 n1 c1); refine (unhide HU1 _ h10).mono ?_; rintro e w11 ⟨rfl, hb⟩; have h11 := btrans h10 hb)
      | (go_at_call_of 18 (Value.slice q2 n2 c2); refine (unhide HU2 _ h11).mono ?_; rintro e w12' ⟨rfl, hb⟩; have h12 := btrans h11 hb))
  have SF := hide (btrans (unhide S24) h12)
  clear S24 O24 F24 X24 Y24 HS HU1 HU2 Hld h10 h11 h12
  go_wp2
  go_ret
  exact ⟨rfl, unhide SF⟩

theorem fewest_any (q1 : Option Addr) (n1 c1 : Nat) (f1 : Nat → Int) (w h : Int) (p : Option Addr) (n cap : Nat) (f : Nat → Bool) (q2 : Option Addr) (n2 c2 : Nat) (f2 : Nat → Int) (wm hm : Int) (pm : Option Addr) (nm cm : Nat) (fm : Nat → Bool) (W : World) (h1 : Is W q1 n1 f1) (hf : Bs W p n cap f) (h2 : Is W q2 n2 f2) (hfm : Bs W pm nm cm fm) : FewestIs 5 q1 n1 c1 w h p n cap q2 n2 c2 wm hm pm nm cm W := by
  by_cases e : dE n1 f1 w h n n2 f2 = 0
  · obtain ⟨w', h', t1, t2, rfl, rfl, k1, k2, k3, m1, m2, m3, m4, b1, b2⟩ := dE_zero e
    have r : Rd W q1 n1 t1 w' h' p n cap f q2 n2 t2 := ⟨⟨k1, k2, k3, hf⟩, ⟨m1, m2, h1.congr fun k hk => (b1 k hk).1, fun k hk => (b1 k hk).2⟩, ⟨m3, m4, h2.congr fun k hk => (b2 k hk).1, fun k hk => (b2 k hk).2⟩⟩
    by_cases em : wE wm hm nm = 0
    · obtain ⟨a, b, rfl, rfl, j1, j2, j3⟩ := wE_zero _ _ _ em
      by_cases en : nm = 0
      · exact few_ad q1 n1 c1 w' h' p n cap q2 n2 c2 a b pm nm cm t1 t2 f W r 5 (by omega) fun V hV => few_none a b pm nm cm fm V ⟨j1, j2, j3, hfm.keep hV⟩ en
      · exact few_bd q1 n1 c1 w' h' p n cap q2 n2 c2 a b pm nm cm t1 t2 f fm W r ⟨j1, j2, j3, hfm⟩ (by omega)
    · exact few_ad q1 n1 c1 w' h' p n cap q2 n2 c2 wm hm pm nm cm t1 t2 f W r _ (wE_pos _ _ _ em) fun V _ => few_err wm hm pm nm cm V _ rfl (wE_pos _ _ _ em)
  · by_cases em : wE wm hm nm = 0
    · obtain ⟨a, b, rfl, rfl, j1, j2, j3⟩ := wE_zero _ _ _ em
      by_cases en : nm = 0
      · exact few_ac q1 n1 c1 w h p n cap q2 n2 c2 a b pm nm cm f1 f2 W h1 h2 _ rfl (dE_pos e) 5 (by omega) fun V hV => few_none a b pm nm cm fm V ⟨j1, j2, j3, hfm.keep hV⟩ en
      · exact few_bc q1 n1 c1 w h p n cap q2 n2 c2 a b pm nm cm f1 f2 fm W h1 h2 _ rfl (dE_pos e) ⟨j1, j2, j3, hfm⟩ (by omega)
    · exact few_ac q1 n1 c1 w h p n cap q2 n2 c2 wm hm pm nm cm f1 f2 W h1 h2 _ rfl (dE_pos e) _ (wE_pos _ _ _ em) fun V _ => few_err wm hm pm nm cm V _ rfl (wE_pos _ _ _ em)
end Go.Proofs.Ytfbggbalnfbbgaa
