/-
  DraftTells: the law's walk.
-/
import Derived.Test.YtfbggbalnfbbgaaLDPair
namespace Go.Proofs.Ytfbggbalnfbbgaa
open Go.RowKit Go.Shelf

def DTellsIs (F : Nat) (q1 : Option Addr) (n1 c1 : Nat) (w h : Int) (p : Option Addr) (n cap : Nat) (q2 : Option Addr) (n2 c2 : Nat) (wm hm : Int) (pm : Option Addr) (nm cm : Nat) (W : World) : Prop :=
  Calls Try.prog F #[dr q1 n1 c1 w h p n cap q2 n2 c2, tr wm hm pm nm cm] W fun e V => e = .returned (.bool true) ∧ Below W.heap.size W V

set_option maxRecDepth 100000 in
set_option maxHeartbeats 4000000 in
theorem dtells_any (q1 : Option Addr) (n1 c1 : Nat) (f1 : Nat → Int) (w h : Int) (p : Option Addr) (n cap : Nat) (f : Nat → Bool) (q2 : Option Addr) (n2 c2 : Nat) (f2 : Nat → Int) (wm hm : Int) (pm : Option Addr) (nm cm : Nat) (fm : Nat → Bool) (W : World) (h1 : Is W q1 n1 f1) (hf : Bs W p n cap f) (h2 : Is W q2 n2 f2) (hfm : Bs W pm nm cm fm) : DTellsIs 3 q1 n1 c1 w h p n cap q2 n2 c2 wm hm pm nm cm W := by
  have bb0 := bal (o := .cells #[.int .i64 wm, .int .i64 hm, .slice pm nm cm] 25) (Below.refl _ (W.alloc (.cells #[.slice q1 n1 c1, .int .i64 w, .int .i64 h, .slice p n cap, .slice q2 n2 c2] 27)))
  have HB := hide (btrans (bal (o := .cells #[.slice q1 n1 c1, .int .i64 w, .int .i64 h, .slice p n cap, .slice q2 n2 c2] 27) (Below.refl W.heap.size W)) bb0)
  have HO := hide ((OwnR.new W q1 n1 c1 w h p n cap q2 n2 c2).keep bb0)
  have M0 := OwnM.new (W.alloc (.cells #[.slice q1 n1 c1, .int .i64 w, .int .i64 h, .slice p n cap, .slice q2 n2 c2] 27)) wm hm pm nm cm 25
  simp only [World.size_alloc] at M0
  have HM := hide M0
  have H6 := hide (fun V (hV : Below W.heap.size W V) => dwrong_any q1 n1 c1 f1 w h p n cap q2 n2 c2 f2 V (h1.keep hV) (h2.keep hV))
  have H7 := hide (fun V (hV : Below W.heap.size W V) => rdwrong_any q1 n1 c1 f1 w h p n cap q2 n2 c2 f2 V (h1.keep hV) (h2.keep hV))
  generalize dE n1 f1 w h n n2 f2 = er at *
  have heq : (er != er) = false := by simp
  obtain ⟨dw, dh, dn, df, de, hdn, d8, d9⟩ := draw_pair n1 f1 w h n f n2 f2
  have H8 := hide (fun V (hV : Below W.heap.size W V) => d8 V q1 c1 p cap q2 c2 (h1.keep hV) (hf.keep hV) (h2.keep hV))
  have H9 := hide (fun V (hV : Below W.heap.size W V) => d9 V q1 c1 p cap q2 c2 (h1.keep hV) (hf.keep hV) (h2.keep hV))
  obtain ⟨k1, g1, fw, fh, fn, ff, k2, g2, fe, hk1, hfn, hk2, d11, d12⟩ := few_pair wm hm nm fm
  have H11 := hide (fun V (hV : Below W.heap.size W V) => d11 V pm cm (hfm.keep hV))
  have H12 := hide (fun V (hV : Below W.heap.size W V) => d12 V pm cm (hfm.keep hV))
  obtain ⟨aw, ah, an, af, bw, bh, bn, bf, cw, ch, cn, cf, ce, han, hbn, hcn, d14, d15⟩ := chain_pair n1 f1 w h n f n2 f2
  have H14 := hide (fun V (hV : Below W.heap.size W V) => d14 V q1 c1 p cap q2 c2 (h1.keep hV) (hf.keep hV) (h2.keep hV))
  have H15 := hide (fun V (hV : Below W.heap.size W V) => d15 V q1 c1 p cap q2 c2 (h1.keep hV) (hf.keep hV) (h2.keep hV))
  have hde : (de != de) = false := by simp
  have hfe : (fe != fe) = false := by simp
  have hce : (ce == ce) = true := by simp
  clear bb0 M0 h1 hf h2 hfm d8 d9 d11 d12 d14 d15
  unfold DTellsIs
  go_enter Try.func3, Try.ntmps3
  go_wp2_with fail
  generalize (W.alloc (.cells #[.slice q1 n1 c1, .int .i64 w, .int .i64 h, .slice p n cap, .slice q2 n2 c2] 27)).alloc (.cells #[.int .i64 wm, .int .i64 hm, .slice pm nm cm] 25) = w0 at *
  have Hld := hide (show ∀ V, Below w0.heap.size w0 V → V.cell? ⟨W.heap.size, 0, none⟩ = some (.slice q1 n1 c1) ∧ V.cell? ⟨W.heap.size, 1, none⟩ = some (.int .i64 w) ∧ V.cell? ⟨W.heap.size, 2, none⟩ = some (.int .i64 h) ∧ V.cell? ⟨W.heap.size, 3, none⟩ = some (.slice p n cap) ∧ V.cell? ⟨W.heap.size, 4, none⟩ = some (.slice q2 n2 c2) from fun V hV => ((unhide HO).keep hV).2)
  have hb2 := True.intro
  have hb3 := True.intro
  go_region_held3 (fun V => Below w0.heap.size w0 V ∧ V.cell? ⟨W.heap.size, 0, none⟩ = some (.slice q1 n1 c1) ∧ V.cell? ⟨W.heap.size, 1, none⟩ = some (.int .i64 w) ∧ V.cell? ⟨W.heap.size, 2, none⟩ = some (.int .i64 h) ∧ V.cell? ⟨W.heap.size, 3, none⟩ = some (.slice p n cap) ∧ V.cell? ⟨W.heap.size, 4, none⟩ = some (.slice q2 n2 c2))
    (first
      | (exact ⟨hb2, unhide Hld _ hb2⟩)
      | (exact ⟨hb3, unhide Hld _ hb3⟩)
      | (exact ⟨Below.drew (Below.refl _ _), unhide Hld _ (Below.drew (Below.refl _ _))⟩))
    (first
      | (go_at_call 6; refine (unhide H6 _ (btrans (unhide HB) (by first | exact hb2 | exact Below.drew (Below.refl _ _)))).mono ?_; rintro e w10 ⟨rfl, hb⟩; have hb3 := btrans (by first | exact hb2 | exact Below.drew (Below.refl _ _)) hb)
      | (go_at_call 7; refine (unhide H7 _ (btrans (unhide HB) (by first | exact hb3 | exact Below.drew (Below.refl _ _)))).mono ?_; rintro e w11 ⟨rfl, hb⟩; have hb2 := btrans (by first | exact hb3 | exact Below.drew (Below.refl _ _)) hb))
  have S1 := hide (btrans (unhide HB) hb2)
  have O1 := hide ((unhide HO).keep hb2)
  have M1 := hide ((unhide HM).keep hb2)
  clear hb hb2 hb3 Hld HB HO HM H6 H7
  have o1 := (unhide O1).2
  go_wp2_with fail
  clear o1
  refine (unhide H8 _ (unhide S1)).mono ?_
  rintro e v2 ⟨qX, cX, rfl, hr, hb⟩
  have bb := bal (o := .cells #[.int .i64 dw, .int .i64 dh, .slice qX dn cX] 25) (Below.refl v2.heap.size v2)
  have hb' := hb.trans (bb.mono hb.size)
  have S2 := hide (btrans (unhide S1) hb')
  have O2 := hide ((unhide O1).keep hb')
  have M2 := hide ((unhide M1).keep hb')
  have X2 := hide (OwnM.new v2 dw dh qX dn cX 25)
  have XB2 := hide (hr.keep bb)
  clear S1 O1 M1
  clear hb bb hb' hr H8
  have z0 := (unhide O2).2
  go_wp2_with fail
  clear z0
  generalize v2.alloc (.cells #[.int .i64 dw, .int .i64 dh, .slice qX dn cX] 25) = u2 at *
  generalize v2.heap.size = bX at *
  refine (unhide H9 _ (unhide S2)).mono ?_
  rintro e v3 ⟨qY, cY, rfl, hr, hb⟩
  have bb := bal (o := .cells #[.int .i64 dw, .int .i64 dh, .slice qY dn cY] 25) (Below.refl v3.heap.size v3)
  have hb' := hb.trans (bb.mono hb.size)
  have S3 := hide (btrans (unhide S2) hb')
  have O3 := hide ((unhide O2).keep hb')
  have M3 := hide ((unhide M2).keep hb')
  have X3 := hide ((unhide X2).keep hb')
  have XB3 := hide ((unhide XB2).keep hb')
  have Y3 := hide (OwnM.new v3 dw dh qY dn cY 25)
  have YB3 := hide (hr.keep bb)
  clear S2 O2 M2 X2 XB2
  clear hb bb hb' hr H9
  have z0 := (unhide X3).2
  have z1 := (unhide Y3).2
  go_wp2_with fail
  clear z0 z1
  generalize v3.alloc (.cells #[.int .i64 dw, .int .i64 dh, .slice qY dn cY] 25) = u3 at *
  generalize v3.heap.size = bY at *
  refine (same_any dw dh qX dn cX df qY cY df _ hdn (unhide XB3) (unhide YB3) (fun _ _ => rfl)).mono ?_
  rintro e u4 ⟨rfl, hb⟩
  have S4 := hide (btrans (unhide S3) hb)
  have O4 := hide ((unhide O3).keep hb)
  have M4 := hide ((unhide M3).keep hb)
  have X4 := hide ((unhide X3).keep hb)
  have XB4 := hide ((unhide XB3).keep hb)
  have Y4 := hide ((unhide Y3).keep hb)
  have YB4 := hide ((unhide YB3).keep hb)
  clear S3 O3 M3 X3 XB3 Y3 YB3
  clear hb
  clear X4 XB4 Y4 YB4
  have z0 := (unhide M4).2
  go_wp2_with fail
  clear z0
  refine (unhide H11 _ (unhide S4)).mono ?_
  rintro e v5 ⟨qaF, caF, qF, cF, qbF, cbF, rfl, hi, hr, hj, hb⟩
  have bb := bal (o := .cells #[.slice qaF k1 caF, .int .i64 fw, .int .i64 fh, .slice qF fn cF, .slice qbF k2 cbF] 27) (Below.refl v5.heap.size v5)
  have hb' := hb.trans (bb.mono hb.size)
  have S5 := hide (btrans (unhide S4) hb')
  have O5 := hide ((unhide O4).keep hb')
  have M5 := hide ((unhide M4).keep hb')
  have F5 := hide (OwnR.new v5 qaF k1 caF fw fh qF fn cF qbF k2 cbF)
  have FI5 := hide (hi.keep bb)
  have FB5 := hide (hr.keep bb)
  have FJ5 := hide (hj.keep bb)
  clear S4 O4 M4
  clear hb bb hb' hr hi hj H11
  have z0 := (unhide M5).2
  go_wp2_with fail
  clear z0
  generalize v5.alloc (.cells #[.slice qaF k1 caF, .int .i64 fw, .int .i64 fh, .slice qF fn cF, .slice qbF k2 cbF] 27) = u5 at *
  generalize v5.heap.size = bF at *
  refine (unhide H12 _ (unhide S5)).mono ?_
  rintro e v6 ⟨qaG, caG, qG, cG, qbG, cbG, rfl, hi, hr, hj, hb⟩
  have bb := bal (o := .cells #[.slice qaG k1 caG, .int .i64 fw, .int .i64 fh, .slice qG fn cG, .slice qbG k2 cbG] 27) (Below.refl v6.heap.size v6)
  have hb' := hb.trans (bb.mono hb.size)
  have S6 := hide (btrans (unhide S5) hb')
  have O6 := hide ((unhide O5).keep hb')
  have M6 := hide ((unhide M5).keep hb')
  have F6 := hide ((unhide F5).keep hb')
  have FI6 := hide ((unhide FI5).keep hb')
  have FB6 := hide ((unhide FB5).keep hb')
  have FJ6 := hide ((unhide FJ5).keep hb')
  have G6 := hide (OwnR.new v6 qaG k1 caG fw fh qG fn cG qbG k2 cbG)
  have GI6 := hide (hi.keep bb)
  have GB6 := hide (hr.keep bb)
  have GJ6 := hide (hj.keep bb)
  clear S5 O5 M5 F5 FI5 FB5 FJ5
  clear hb bb hb' hr hi hj H12
  have z0 := (unhide F6).2
  have z1 := (unhide G6).2
  go_wp2_with fail
  clear z0 z1
  generalize v6.alloc (.cells #[.slice qaG k1 caG, .int .i64 fw, .int .i64 fh, .slice qG fn cG, .slice qbG k2 cbG] 27) = u6 at *
  generalize v6.heap.size = bG at *
  refine (same_draft qaF qaG k1 caF caG g1 fw fh qF qG fn cF cG ff qbF qbG k2 cbF cbG g2 _ hk1 hfn hk2 (unhide FI6) (unhide GI6) (unhide FB6) (unhide GB6) (unhide FJ6) (unhide GJ6)).mono ?_
  rintro e u7 ⟨rfl, hb⟩
  have S7 := hide (btrans (unhide S6) hb)
  have O7 := hide ((unhide O6).keep hb)
  have M7 := hide ((unhide M6).keep hb)
  have F7 := hide ((unhide F6).keep hb)
  have FI7 := hide ((unhide FI6).keep hb)
  have FB7 := hide ((unhide FB6).keep hb)
  have FJ7 := hide ((unhide FJ6).keep hb)
  have G7 := hide ((unhide G6).keep hb)
  have GI7 := hide ((unhide GI6).keep hb)
  have GB7 := hide ((unhide GB6).keep hb)
  have GJ7 := hide ((unhide GJ6).keep hb)
  clear S6 O6 M6 F6 FI6 FB6 FJ6 G6 GI6 GB6 GJ6
  clear hb
  clear F7 FI7 FB7 FJ7 G7 GI7 GB7 GJ7
  have z0 := (unhide O7).2
  go_wp2_with fail
  clear z0
  refine (unhide H14 _ (unhide S7)).mono ?_
  rintro e v8 ⟨qP, cP, qQ, cQ, qR, cR, rfl, ra, rb, rc, hb⟩
  have bb := bal (o := .cells #[.int .i64 cw, .int .i64 ch, .slice qR cn cR] 25) (bal (o := .cells #[.int .i64 bw, .int .i64 bh, .slice qQ bn cQ] 25) (bal (o := .cells #[.int .i64 aw, .int .i64 ah, .slice qP an cP] 25) (Below.refl v8.heap.size v8)))
  have hb' := hb.trans (bb.mono hb.size)
  have S8 := hide (btrans (unhide S7) hb')
  have O8 := hide ((unhide O7).keep hb')
  have M8 := hide ((unhide M7).keep hb')
  have P8 := hide (((OwnM.new v8 aw ah qP an cP 25).alloc (.cells #[.int .i64 bw, .int .i64 bh, .slice qQ bn cQ] 25)).alloc (.cells #[.int .i64 cw, .int .i64 ch, .slice qR cn cR] 25))
  have ob' := (OwnM.new (v8.alloc (.cells #[.int .i64 aw, .int .i64 ah, .slice qP an cP] 25)) bw bh qQ bn cQ 25).alloc (.cells #[.int .i64 cw, .int .i64 ch, .slice qR cn cR] 25)
  have oc' := OwnM.new ((v8.alloc (.cells #[.int .i64 aw, .int .i64 ah, .slice qP an cP] 25)).alloc (.cells #[.int .i64 bw, .int .i64 bh, .slice qQ bn cQ] 25)) cw ch qR cn cR 25
  simp only [World.size_alloc] at ob' oc'
  have Q8 := hide ob'
  have R8 := hide oc'
  have PB8 := hide (ra.keep bb)
  have QB8 := hide (rb.keep bb)
  have RB8 := hide (rc.keep bb)
  clear S7 O7 M7
  clear hb bb hb' ra rb rc ob' oc' H14
  have z0 := (unhide O8).2
  go_wp2_with fail
  clear z0
  generalize ((v8.alloc (.cells #[.int .i64 aw, .int .i64 ah, .slice qP an cP] 25)).alloc (.cells #[.int .i64 bw, .int .i64 bh, .slice qQ bn cQ] 25)).alloc (.cells #[.int .i64 cw, .int .i64 ch, .slice qR cn cR] 25) = u8 at *
  generalize v8.heap.size = bP at *
  refine (unhide H15 _ (unhide S8)).mono ?_
  rintro e v9 ⟨qI, cI, qJ, cJ, qK, cK, rfl, ra, rb, rc, hb⟩
  have bb := bal (o := .cells #[.int .i64 cw, .int .i64 ch, .slice qK cn cK] 25) (bal (o := .cells #[.int .i64 bw, .int .i64 bh, .slice qJ bn cJ] 25) (bal (o := .cells #[.int .i64 aw, .int .i64 ah, .slice qI an cI] 25) (Below.refl v9.heap.size v9)))
  have hb' := hb.trans (bb.mono hb.size)
  have S9 := hide (btrans (unhide S8) hb')
  have O9 := hide ((unhide O8).keep hb')
  have M9 := hide ((unhide M8).keep hb')
  have P9 := hide ((unhide P8).keep hb')
  have PB9 := hide ((unhide PB8).keep hb')
  have Q9 := hide ((unhide Q8).keep hb')
  have QB9 := hide ((unhide QB8).keep hb')
  have R9 := hide ((unhide R8).keep hb')
  have RB9 := hide ((unhide RB8).keep hb')
  have I9 := hide (((OwnM.new v9 aw ah qI an cI 25).alloc (.cells #[.int .i64 bw, .int .i64 bh, .slice qJ bn cJ] 25)).alloc (.cells #[.int .i64 cw, .int .i64 ch, .slice qK cn cK] 25))
  have ob' := (OwnM.new (v9.alloc (.cells #[.int .i64 aw, .int .i64 ah, .slice qI an cI] 25)) bw bh qJ bn cJ 25).alloc (.cells #[.int .i64 cw, .int .i64 ch, .slice qK cn cK] 25)
  have oc' := OwnM.new ((v9.alloc (.cells #[.int .i64 aw, .int .i64 ah, .slice qI an cI] 25)).alloc (.cells #[.int .i64 bw, .int .i64 bh, .slice qJ bn cJ] 25)) cw ch qK cn cK 25
  simp only [World.size_alloc] at ob' oc'
  have J9 := hide ob'
  have K9 := hide oc'
  have IB9 := hide (ra.keep bb)
  have JB9 := hide (rb.keep bb)
  have KB9 := hide (rc.keep bb)
  clear S8 O8 M8 P8 PB8 Q8 QB8 R8 RB8
  clear hb bb hb' ra rb rc ob' oc' H15
  have z0 := (unhide P9).2
  have z1 := (unhide I9).2
  go_wp2_with fail
  clear z0 z1
  generalize ((v9.alloc (.cells #[.int .i64 aw, .int .i64 ah, .slice qI an cI] 25)).alloc (.cells #[.int .i64 bw, .int .i64 bh, .slice qJ bn cJ] 25)).alloc (.cells #[.int .i64 cw, .int .i64 ch, .slice qK cn cK] 25) = u9 at *
  generalize v9.heap.size = bI at *
  refine (same_any aw ah qP an cP af qI cI af _ han (unhide PB9) (unhide IB9) (fun _ _ => rfl)).mono ?_
  rintro e u10 ⟨rfl, hb⟩
  have S10 := hide (btrans (unhide S9) hb)
  have O10 := hide ((unhide O9).keep hb)
  have M10 := hide ((unhide M9).keep hb)
  have P10 := hide ((unhide P9).keep hb)
  have PB10 := hide ((unhide PB9).keep hb)
  have Q10 := hide ((unhide Q9).keep hb)
  have QB10 := hide ((unhide QB9).keep hb)
  have R10 := hide ((unhide R9).keep hb)
  have RB10 := hide ((unhide RB9).keep hb)
  have I10 := hide ((unhide I9).keep hb)
  have IB10 := hide ((unhide IB9).keep hb)
  have J10 := hide ((unhide J9).keep hb)
  have JB10 := hide ((unhide JB9).keep hb)
  have K10 := hide ((unhide K9).keep hb)
  have KB10 := hide ((unhide KB9).keep hb)
  clear S9 O9 M9 P9 PB9 Q9 QB9 R9 RB9 I9 IB9 J9 JB9 K9 KB9
  clear hb
  have z0 := (unhide Q10).2
  have z1 := (unhide J10).2
  go_wp2_with fail
  clear z0 z1
  refine (same_any bw bh qQ bn cQ bf qJ cJ bf _ hbn (unhide QB10) (unhide JB10) (fun _ _ => rfl)).mono ?_
  rintro e u11 ⟨rfl, hb⟩
  have S11 := hide (btrans (unhide S10) hb)
  have O11 := hide ((unhide O10).keep hb)
  have M11 := hide ((unhide M10).keep hb)
  have P11 := hide ((unhide P10).keep hb)
  have PB11 := hide ((unhide PB10).keep hb)
  have Q11 := hide ((unhide Q10).keep hb)
  have QB11 := hide ((unhide QB10).keep hb)
  have R11 := hide ((unhide R10).keep hb)
  have RB11 := hide ((unhide RB10).keep hb)
  have I11 := hide ((unhide I10).keep hb)
  have IB11 := hide ((unhide IB10).keep hb)
  have J11 := hide ((unhide J10).keep hb)
  have JB11 := hide ((unhide JB10).keep hb)
  have K11 := hide ((unhide K10).keep hb)
  have KB11 := hide ((unhide KB10).keep hb)
  clear S10 O10 M10 P10 PB10 Q10 QB10 R10 RB10 I10 IB10 J10 JB10 K10 KB10
  clear hb
  have z0 := (unhide R11).2
  have z1 := (unhide K11).2
  go_wp2_with fail
  clear z0 z1
  refine (same_any cw ch qR cn cR cf qK cK cf _ hcn (unhide RB11) (unhide KB11) (fun _ _ => rfl)).mono ?_
  rintro e u12 ⟨rfl, hb⟩
  have S12 := hide (btrans (unhide S11) hb)
  have O12 := hide ((unhide O11).keep hb)
  have M12 := hide ((unhide M11).keep hb)
  have P12 := hide ((unhide P11).keep hb)
  have PB12 := hide ((unhide PB11).keep hb)
  have Q12 := hide ((unhide Q11).keep hb)
  have QB12 := hide ((unhide QB11).keep hb)
  have R12 := hide ((unhide R11).keep hb)
  have RB12 := hide ((unhide RB11).keep hb)
  have I12 := hide ((unhide I11).keep hb)
  have IB12 := hide ((unhide IB11).keep hb)
  have J12 := hide ((unhide J11).keep hb)
  have JB12 := hide ((unhide JB11).keep hb)
  have K12 := hide ((unhide K11).keep hb)
  have KB12 := hide ((unhide KB11).keep hb)
  clear S11 O11 M11 P11 PB11 Q11 QB11 R11 RB11 I11 IB11 J11 JB11 K11 KB11
  clear hb
  go_wp2
  go_ret
  exact ⟨rfl, unhide S12⟩
end Go.Proofs.Ytfbggbalnfbbgaa
