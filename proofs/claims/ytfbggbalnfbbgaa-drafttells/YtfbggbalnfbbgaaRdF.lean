/-
  The reference's Fewest of right truths.
-/
import Derived.Test.YtfbggbalnfbbgaaRdE
namespace Go.Proofs.Ytfbggbalnfbbgaa
open Go.RowKit Go.Shelf

theorem Is.off {W : World} {q : Option Addr} {n : Nat} {f : Nat → Int} (h : Is W q n f) {b : Nat} (hb : W.heap.size ≤ b) : Off q n b := by
  rcases h with h0 | ⟨c, o, e, hl, _⟩
  · exact .inl h0
  · exact .inr fun a ea => by rw [e] at ea; cases ea; dsimp only; omega
theorem Kept.is {S : Nat → Prop} {w0 W : World} (h : Kept S w0 W) {q : Option Addr} {n : Nat} {f : Nat → Int} (k : Is w0 q n f) (hS : ∀ b, S b → Off q n b) : Is W q n f := by
  rcases k with h0 | ⟨c, o, e, hl, hc⟩
  · exact .inl h0
  · by_cases hz : n = 0
    · exact .inl hz
    · have hs : ¬ S c := fun hs => by
        rcases hS c hs with h1 | h1
        · omega
        · exact h1 _ e rfl
      exact .inr ⟨c, o, e, Nat.lt_of_lt_of_le hl h.2.2.2.1, fun j hj => h.cell (p := ⟨c, o + j, none⟩) hl hs (hc j hj)⟩
theorem Kept.ownV {S : Nat → Prop} {w0 W : World} (h : Kept S w0 W) {b : Nat} {q1 : Option Addr} {n1 c1 : Nat} {w hh : Int} {p : Option Addr} {n cap : Nat} {q2 : Option Addr} {n2 c2 : Nat} (k : OwnV w0 b q1 n1 c1 w hh p n cap q2 n2 c2) (hS : ¬ S b) : OwnV W b q1 n1 c1 w hh p n cap q2 n2 c2 := by
  have hblk := h.2.2.2.2 b k.1.1 hS
  have e : ∀ (o : Nat) v, w0.cell? ⟨b, o, none⟩ = some v → W.cell? ⟨b, o, none⟩ = some v := fun o v hv => (World.cell?_of_block (a := ⟨b, o, none⟩) hblk).trans hv
  have g : ∀ o, w0.frozen? ⟨b, o, none⟩ = false → W.frozen? ⟨b, o, none⟩ = false := fun o hv => (World.frozen?_of_block (a := ⟨b, o, none⟩) hblk).trans hv
  exact ⟨⟨Nat.lt_of_lt_of_le k.1.1 h.2.2.2.1, e _ _ k.1.2.1, e _ _ k.1.2.2.1, e _ _ k.1.2.2.2.1, e _ _ k.1.2.2.2.2.1, e _ _ k.1.2.2.2.2.2⟩, g _ k.2.1, g _ k.2.2.1, g _ k.2.2.2.1, g _ k.2.2.2.2.1, g _ k.2.2.2.2.2⟩
theorem g12_0 {a0 a1 a2 a3 a4 a5 a6 a7 a8 a9 a10 a11 : Oper} : (#[a0, a1, a2, a3, a4, a5, a6, a7, a8, a9, a10, a11] : Array Oper)[0]? = some a0 := rfl
theorem g12_1 {a0 a1 a2 a3 a4 a5 a6 a7 a8 a9 a10 a11 : Oper} : (#[a0, a1, a2, a3, a4, a5, a6, a7, a8, a9, a10, a11] : Array Oper)[1]? = some a1 := rfl
theorem g12_2 {a0 a1 a2 a3 a4 a5 a6 a7 a8 a9 a10 a11 : Oper} : (#[a0, a1, a2, a3, a4, a5, a6, a7, a8, a9, a10, a11] : Array Oper)[2]? = some a2 := rfl
theorem g12_3 {a0 a1 a2 a3 a4 a5 a6 a7 a8 a9 a10 a11 : Oper} : (#[a0, a1, a2, a3, a4, a5, a6, a7, a8, a9, a10, a11] : Array Oper)[3]? = some a3 := rfl
theorem g12_4 {a0 a1 a2 a3 a4 a5 a6 a7 a8 a9 a10 a11 : Oper} : (#[a0, a1, a2, a3, a4, a5, a6, a7, a8, a9, a10, a11] : Array Oper)[4]? = some a4 := rfl
theorem g12_5 {a0 a1 a2 a3 a4 a5 a6 a7 a8 a9 a10 a11 : Oper} : (#[a0, a1, a2, a3, a4, a5, a6, a7, a8, a9, a10, a11] : Array Oper)[5]? = some a5 := rfl
theorem g12_6 {a0 a1 a2 a3 a4 a5 a6 a7 a8 a9 a10 a11 : Oper} : (#[a0, a1, a2, a3, a4, a5, a6, a7, a8, a9, a10, a11] : Array Oper)[6]? = some a6 := rfl
theorem g12_7 {a0 a1 a2 a3 a4 a5 a6 a7 a8 a9 a10 a11 : Oper} : (#[a0, a1, a2, a3, a4, a5, a6, a7, a8, a9, a10, a11] : Array Oper)[7]? = some a7 := rfl
theorem g12_8 {a0 a1 a2 a3 a4 a5 a6 a7 a8 a9 a10 a11 : Oper} : (#[a0, a1, a2, a3, a4, a5, a6, a7, a8, a9, a10, a11] : Array Oper)[8]? = some a8 := rfl
theorem g12_9 {a0 a1 a2 a3 a4 a5 a6 a7 a8 a9 a10 a11 : Oper} : (#[a0, a1, a2, a3, a4, a5, a6, a7, a8, a9, a10, a11] : Array Oper)[9]? = some a9 := rfl
theorem g12_10 {a0 a1 a2 a3 a4 a5 a6 a7 a8 a9 a10 a11 : Oper} : (#[a0, a1, a2, a3, a4, a5, a6, a7, a8, a9, a10, a11] : Array Oper)[10]? = some a10 := rfl
theorem g12_11 {a0 a1 a2 a3 a4 a5 a6 a7 a8 a9 a10 a11 : Oper} : (#[a0, a1, a2, a3, a4, a5, a6, a7, a8, a9, a10, a11] : Array Oper)[11]? = some a11 := rfl

set_option maxHeartbeats 4000000 in
set_option maxRecDepth 100000 in
theorem rfew_ok {W : World} {w h : Nat} {p : Option Addr} {n cap : Nat} {f : Nat → Bool} (r : Rt W w h p n cap f) (hn : 0 < n) (k1 k2 m : Nat) (hk1 : k1 = (unU (tuF f w h) h w).length) (hk2 : k2 = (unU f w h).length) (hm : m = k1 * k2) :
    Calls Try.prog 12 #[tr w h p n cap] W fun e V => ∃ q1 c1 q cp q2 c2, e = .returned (.tuple #[dr q1 w c1 k1 k2 q m cp q2 h c2, .int .i64 0]) ∧
      Is V q1 w (fun k => ((nuN (tuF f w h) h k : Nat) : Int)) ∧ Bs V q m cp (fwF f w h k1) ∧ Is V q2 h (fun k => ((nuN f w k : Nat) : Int)) ∧ Below W.heap.size W V := by
  have hw := r.1
  have hh := r.2.1
  have hw0 : 0 < w := by rcases Nat.eq_zero_or_pos w with e | e; (· have := r.2.2.1; rw [e, Nat.zero_mul] at this; omega); exact e
  have hh0 : 0 < h := by rcases Nat.eq_zero_or_pos h with e | e; (· have := r.2.2.1; rw [e, Nat.mul_zero] at this; omega); exact e
  have hk64 : k1 ≤ 64 := by rw [hk1]; have := un_len (tuF f w h) h w; omega
  have hk64' : k2 ≤ 64 := by rw [hk2]; have := un_len f w h; omega
  have hk20 : 1 ≤ k2 := by rw [hk2]; exact un_pos f w h hh0
  have hn1 : ((n : Int) == 0) = false := by simp; omega
  obtain ⟨w0, E0, M, A, B0⟩ := fw_facts W w h p n cap
  have HT := hide (rwrong_any w h p n cap w0)
  rw [wE_right w h n r.1 r.2.1 r.2.2.1] at HT
  obtain ⟨i0, hi, hz0, hz1, hz2⟩ := info_parts info4
  have HR := hide r
  have HE := hide E0
  have HA := hide A
  have HB := hide B0
  have Hm := hide M
  have Hk1 := hide hk1
  have Hk2 := hide hk2
  have Hmm := hide hm
  clear A B0 E0 M r hk1 hk2 hm
  go_enter Try.func12, Try.ntmps12
  go_wp2_with fail
  rw [unhide HE]
  clear HE
  refine (unhide HT).mono ?_
  rintro e w1 ⟨rfl, hb⟩
  have S1 := hide (btrans (unhide HB) hb)
  have A1 := hide ((unhide HA).keep hb)
  have M1 := hide ((unhide Hm).keep hb)
  have HU := hide (rturned_new ((unhide HR).keep (unhide S1)))
  have m1 := (unhide M1).2
  clear hb HB HA Hm HT
  go_wp2_with fail
  clear m1
  refine (unhide HU).mono ?_
  rintro e w2 ⟨qu, cu, rfl, hr, hb⟩
  have bb := bal (o := .cells #[.int .i64 h, .int .i64 w, .slice qu n cu] 25) (Below.refl w2.heap.size w2)
  have hb' := hb.trans (bb.mono hb.size)
  have S3 := hide (btrans (unhide S1) hb')
  have A3 := hide ((unhide A1).keep hb')
  have M3 := hide ((unhide M1).keep hb')
  have T3 := hide (Tb.new hr.1)
  have HL := hide (ralike_new (unhide T3).2)
  have t1 := (unhide T3).1.2
  have hs3 : W.heap.size + 1 < (w2.alloc (.cells #[.int .i64 h, .int .i64 w, .slice qu n cu] 25)).heap.size := (unhide A3).1.1
  clear hb bb hb' hr S1 A1 M1 HU
  go_wp2_with fail
  clear t1
  generalize w2.alloc (.cells #[.int .i64 h, .int .i64 w, .slice qu n cu] 25) = w3 at *
  generalize w2.heap.size = bu at *
  refine (unhide HL).mono ?_
  rintro e w4 ⟨qt, ct, rfl, ht, hb⟩
  have S4 := hide (btrans (unhide S3) hb)
  have A4 := hide ((unhide A3).keep hb)
  have M4 := hide ((unhide M3).keep hb)
  have E4 := hide ht.1.is
  have E4o := hide ht.2
  have HL4 := hide (ralike_new ((unhide HR).keep (unhide S4)))
  have m1 := (unhide M4).2
  have hs4 := hb.size
  clear hb ht HL S3 A3 M3 T3
  go_wp2_with fail
  clear m1
  refine (unhide HL4).mono ?_
  rintro e w5 ⟨qp, cq, rfl, ht, hb⟩
  have bb := bal (o := .cells #[.slice qt w ct, .int .i64 0, .int .i64 0, .slice none 0 0, .slice qp h cq] 27) (Below.refl w5.heap.size w5)
  have hb' := hb.trans (bb.mono hb.size)
  have S5 := hide (btrans (unhide S4) hb')
  have A5 := hide ((unhide A4).keep hb')
  have M5 := hide ((unhide M4).keep hb')
  have E5 := hide ((unhide E4).keep hb')
  have P5 := hide (ht.1.is.keep bb)
  have P5o := hide ht.2
  have EO := hide (((unhide E4).keep hb).off (Nat.le_refl _))
  have PO := hide (ht.1.is.off (Nat.le_refl w5.heap.size))
  have D5 := hide (OwnV.new w5 qt w ct 0 0 none 0 0 qp h cq)
  have hs5 := hb.size
  clear hb bb hb' ht HL4 S4 A4 M4 E4
  go_wp2
  generalize w5.alloc (.cells #[.slice qt w ct, .int .i64 0, .int .i64 0, .slice none 0 0, .slice qp h cq] 27) = wz at *
  have hbd : W.heap.size + 1 < w5.heap.size := by omega
  generalize w5.heap.size = bd at *
  have hbz : bd < wz.heap.size := (unhide D5).1.1
  obtain ⟨GG, hGG⟩ : ∃ GG, GG = fwF f w h k1 := ⟨_, rfl⟩
  have HGG := hide hGG
  clear hGG
  have HMV := hide (show ∀ V, Kept (fun k => k = bd) wz V → OwnM V W.heap.size w h p n cap from fun V hV => hV.own (unhide M5) (by omega))
  have HEV := hide (show ∀ V, Kept (fun k => k = bd) wz V → Is V qt w (fun k => ((nuN (tuF f w h) h k : Nat) : Int)) from fun V hV => hV.is (unhide E5) (fun b e => by subst e; exact unhide EO))
  have HPV := hide (show ∀ V, Kept (fun k => k = bd) wz V → Is V qp h (fun k => ((nuN f w k : Nat) : Int)) from fun V hV => hV.is (unhide P5) (fun b e => by subst e; exact unhide PO))
  have HRV := hide (show ∀ V, Kept (fun k => k = bd) wz V → Rt V w h p n cap f from fun V hV => (unhide HR).keep (Kept.back (unhide S5) hV (fun q e => by omega)))
  have HAV := hide (show ∀ V, Kept (fun k => k = bd) wz V → OwnV V (W.heap.size + 1) none 0 0 0 0 none 0 0 none 0 0 from fun V hV => hV.ownV (unhide A5) (by omega))
  clear A5 M5 E5 P5 EO PO
  go_loopw [12] (fun c wr => ∃ (y l cp wd : Nat) (q : Option Addr), y ≤ h ∧ c = .int .i64 y ∧ l = (unU f w y).length * k1 ∧ ((unU f w y).length = 0 ∨ wd = k1) ∧ OwnV wr bd qt w ct wd ((unU f w y).length : Nat) q l cp qp h cq ∧ wr.ownsRow wz.heap.size 4 1 (.slice q l cp) l (bitsV GG l) ∧ Kept (fun k => k = bd) wz wr) (fun c _ => h - (intOf c).toNat)
  case atStart => exact ⟨0, 0, 0, 0, none, Nat.zero_le _, rfl, by simp [unU, alS], .inl (by simp [unU, alS]), unhide D5, World.ownsRow_nil _ _ _ _, Kept.refl _ _⟩
  case round =>
    clear D5
    obtain ⟨y, l, cp, wd, q, hy, rfl, hl, hwd, DC, hown, hkt⟩ := hrel
    have m5 := (unhide HMV _ hkt).2
    by_cases hlt : y < h
    · obtain ⟨b2, o2, e2, l2, kk2⟩ := (unhide HPV _ hkt).at hlt
      subst e2
      have q0 : (y : Int) < (h : Int) := by omega
      have q00 : (0 : Int) ≤ (y : Int) := by omega
      have hul := un_len f w y
      have htop := nu_top f w y
      have Hnx := hide (un_next f w y)
      have Hfw := hide (fun x hx ny nx => fw_at f w h y x k1 (unhide Hk1) hlt hx ny nx)
      generalize hH : (unU f w y).length = H at *
      clear hH
      generalize hnu : nuN f w y = nu at *
      clear hnu
      have HDC := hide DC
      have Hown := hide hown
      have Hkt := hide hkt
      have Hwd := hide hwd
      have Hl := hide hl
      have d2 := DC.1.2
      clear DC hown hkt hwd hl
      by_cases hc : nu < H
      · have hc' : (nu : Int) < (H : Int) := by omega
        have Hn1 := hide (show (unU f w (y + 1)).length = H by rw [unhide Hnx, if_neg (by omega)])
        go_wp2_with fail
        go_quiet (fail)
        go_wp2
        go_roundw
        case rel =>
          have bd' : Below wr.heap.size wr (wr.drewN nq) := Joins.below_draws _ _ _
          refine ⟨y + 1, l, cp, wd, q, by omega, by go_num, by rw [unhide Hn1]; exact unhide Hl, by rw [unhide Hn1]; exact unhide Hwd, by rw [unhide Hn1]; exact (unhide HDC).keep bd', own_keep (unhide Hown) bd', (unhide Hkt).below bd'⟩
        case measure => simp [intOf]; omega
      · have hc' : ¬ (nu : Int) < (H : Int) := by omega
        obtain rfl : H = nu := by omega
        have Hn1 := hide (show (unU f w (y + 1)).length = H + 1 by rw [unhide Hnx, if_pos rfl])
        have f2 := (unhide HDC).2
        go_wp2_with fail
        go_quiet (fail)
        clear m5 l2 kk2
        have bq : Below wr.heap.size wr (wr.drewN nq) := Joins.below_draws _ _ _
        have DCq := (unhide HDC).keep bq
        have Hoq := hide (own_keep (unhide Hown) bq)
        have Hkq := hide ((unhide Hkt).below bq)
        clear HDC Hown Hkt bq d2 f2
        generalize wr.drewN nq = wq at *
        have HD1 := hide ((DCq.set2 ((H : Int) + 1)).set1 0)
        have HO1 := hide (ownsRow_setCell_below (a := ⟨bd, 1, none⟩) (ownsRow_setCell_below (a := ⟨bd, 2, none⟩) (unhide Hoq) (by dsimp only; omega) (.int .i64 ((H : Int) + 1))) (by dsimp only; omega) (.int .i64 0))
        have HK1 := hide (((unhide Hkq).set bd 2 (.int .i64 ((H : Int) + 1)) rfl).set bd 1 (.int .i64 0) rfl)
        have d2 := DCq.1.2
        have f2 := DCq.2
        have hH64 : (H : Int) ≤ 64 := by omega
        have hH0 : (0 : Int) ≤ (H : Int) := by omega
        clear DCq Hoq Hkq
        go_wp2
        clear d2 f2
        generalize ((wq.setCell ⟨bd, 2, none⟩ (.int .i64 ((H : Int) + 1))).setCell ⟨bd, 1, none⟩ (.int .i64 0)) = wi at *
        go_loopw [13] (fun c wr => ∃ (x cp : Nat) (q : Option Addr), x ≤ w ∧ c = .int .i64 x ∧ OwnV wr bd qt w ct ((unU (tuF f w h) h x).length : Nat) ((H : Int) + 1) q (l + (unU (tuF f w h) h x).length) cp (some ⟨b2, o2, none⟩) h cq ∧ wr.ownsRow wz.heap.size 4 1 (.slice q (l + (unU (tuF f w h) h x).length) cp) (l + (unU (tuF f w h) h x).length) (bitsV GG (l + (unU (tuF f w h) h x).length)) ∧ Kept (fun k => k = bd) wz wr) (fun c _ => w - (intOf c).toNat)
        case atStart => exact ⟨0, cp, q, Nat.zero_le _, rfl, unhide HD1, unhide HO1, unhide HK1⟩
        case round =>
          clear HD1 HO1 HK1
          obtain ⟨x, cp, q, hx, rfl, DC, hown, hkt⟩ := hrel
          have m5 := (unhide HMV _ hkt).2
          by_cases hlx : x < w
          · obtain ⟨b3, o3, e3, l3, kk3⟩ := (unhide HEV _ hkt).at hlx
            subst e3
            have qx0 : (x : Int) < (w : Int) := by omega
            have qx00 : (0 : Int) ≤ (x : Int) := by omega
            have hux := un_len (tuF f w h) h x
            have Hnx' := hide (un_next (tuF f w h) h x)
            have Hfx := hide (unhide Hfw x hlx (by first | exact trivial | rfl))
            generalize hL : (unU (tuF f w h) h x).length = L at *
            clear hL
            generalize hnu : nuN (tuF f w h) h x = nx at *
            clear hnu
            have hL64 : (L : Int) ≤ 64 := by omega
            have hL0 : (0 : Int) ≤ (L : Int) := by omega
            have hl4 : l ≤ 4096 := by rw [unhide Hl]; exact Nat.mul_le_mul (show H ≤ 64 by omega) hk64
            have HDC := hide DC
            have Hown := hide hown
            have Hkt := hide hkt
            have d2 := DC.1.2
            clear DC hown hkt
            by_cases hc : nx = L
            · have hc' : ((nx : Int) == (L : Int)) = true := by simp [hc]
              have Hn2 := hide (show (unU (tuF f w h) h (x + 1)).length = L + 1 by rw [unhide Hnx', if_pos hc])
              have Hv0 := hide (show GG (l + L) = f (y * w + x) by rw [unhide HGG, unhide Hl]; exact unhide Hfx hc)
              clear hc
              go_wp2_with fail
              go_quiet (fail)
              have bq : Below wr.heap.size wr (wr.drewN nq) := Joins.below_draws _ _ _
              have DCq := (unhide HDC).keep bq
              have Hoq := hide (own_keep (unhide Hown) bq)
              have Hkq := hide ((unhide Hkt).below bq)
              clear HDC Hown Hkt bq d2 m5 l3 kk3
              generalize wr.drewN nq = wq at *
              have HD1 := hide (DCq.set1 ((L : Int) + 1))
              have HO1 := hide (ownsRow_setCell_below (a := ⟨bd, 1, none⟩) (unhide Hoq) (by dsimp only; omega) (.int .i64 ((L : Int) + 1)))
              have HK1 := hide ((unhide Hkq).set bd 1 (.int .i64 ((L : Int) + 1)) rfl)
              have d2 := DCq.1.2
              have f2 := DCq.2
              clear DCq Hoq Hkq
              go_wp2_with fail
              clear d2 f2
              generalize wq.setCell ⟨bd, 1, none⟩ (.int .i64 ((L : Int) + 1)) = ws at *
              have DC := unhide HD1
              have hown := unhide HO1
              have hkt := unhide HK1
              clear HD1 HO1 HK1
              have Hv := hide (show bitsV GG (l + L + 1) = bitsV GG (l + L) ++ [.bool (f (y * w + x))] by rw [bitsV_succ, unhide Hv0])
              have Hbit := hide (show ∀ V, Kept (fun k => k = bd) wz V → Calls Try.prog 33 #[tr w h p n cap, .int .i64 y, .int .i64 x] V fun e w' => e = .returned (.bool (f (y * w + x))) ∧ Below V.heap.size V w' from fun V hV => bit_ok (unhide HRV _ hV) y x hlt hlx)
              have Hld := hide (show ∀ V, Kept (fun k => k = bd) wz V → V.cell? ⟨W.heap.size, 0, none⟩ = some (.int .i64 w) ∧ V.cell? ⟨W.heap.size, 1, none⟩ = some (.int .i64 h) ∧ V.cell? ⟨W.heap.size, 2, none⟩ = some (.slice p n cap) from fun V hV => (unhide HMV _ hV).2)
              generalize f (y * w + x) = v at *
              have d3 := DC.1.2.2.2.2.1
              have f3 := DC.2.2.2.2.1
              have hdlt := DC.1.1
              have hszk := hkt.2.2.2.1
              refine wp_region_noPanic ?_
              refine wp_region_held_drew (S := fun V => Kept (fun k => k = bd) wz V) (by kernel_rfl) (Kept.drew hkt) ?_
              intro _
              have hSd := Kept.drew hkt
              refine wpAnyH_take (i := 0) (oi := _) (v := .pointer (some ⟨bd, 1, none⟩)) g12_0 (by kernel_rfl) (by kernel_rfl) (by kernel_rfl) (fun _ _ _ h => h) (Or.inl ⟨by rfl, ?_⟩) (by assumption) ?_
              · intro V hSw
                try dsimp only at hSw
                go_simp
              simp only [Act.put, List.setIfInBounds_toArray, List.set_cons_zero, List.set_cons_succ]
              refine wpAnyH_take (i := 1) (oi := _) (v := .pointer (some ⟨bd, 3, none⟩)) g12_1 (by kernel_rfl) (by kernel_rfl) (by kernel_rfl) (fun _ _ _ h => h) (Or.inl ⟨by rfl, ?_⟩) (by assumption) ?_
              · intro V hSw
                try dsimp only at hSw
                go_simp
              simp only [Act.put, List.setIfInBounds_toArray, List.set_cons_zero, List.set_cons_succ]
              refine wpAnyH_take (i := 3) (oi := _) (v := .agg #[.int .i64 w, .int .i64 h, .slice p n cap]) g12_3 (by kernel_rfl) (by kernel_rfl) (by kernel_rfl) (fun _ _ _ h => h) (Or.inl ⟨by rfl, ?_⟩) (by assumption) ?_
              · intro V hSw
                try dsimp only at hSw
                have hl := unhide Hld V hSw
                go_simp
              simp only [Act.put, List.setIfInBounds_toArray, List.set_cons_zero, List.set_cons_succ]
              refine wpAnyH_take (i := 4) (oi := _) (v := .int .i64 y) g12_4 (by kernel_rfl) (by kernel_rfl) (by kernel_rfl) (fun _ _ _ h => h) (Or.inl ⟨by rfl, ?_⟩) (by assumption) ?_
              · intro V hSw
                try dsimp only at hSw
                go_simp
              simp only [Act.put, List.setIfInBounds_toArray, List.set_cons_zero, List.set_cons_succ]
              refine wpAnyH_take (i := 5) (oi := _) (v := .int .i64 x) g12_5 (by kernel_rfl) (by kernel_rfl) (by kernel_rfl) (fun _ _ _ h => h) (Or.inl ⟨by rfl, ?_⟩) (by assumption) ?_
              · intro V hSw
                try dsimp only at hSw
                go_simp
              simp only [Act.put, List.setIfInBounds_toArray, List.set_cons_zero, List.set_cons_succ]
              refine wpAnyH_ready (rs := [2, 6]) (by kernel_rfl) (by simp) ?_
              refine AllReadyH.cons (o := _) g12_2 (fun K hK => ?_) (AllReadyH.cons (o := _) g12_6 (fun K hK => ?_) AllReadyH.nil)
              · go_simp
                refine hK.out _ _ hSd (fun _ => ?_)
                clear hK K
                refine wpAnyH_ready (rs := [6]) (by kernel_rfl) (by simp) ?_
                refine AllReadyH.cons (o := _) g12_6 (fun K hK => ?_) AllReadyH.nil
                go_simp
                refine (unhide Hbit _ hSd).mono ?_
                rintro e w3' ⟨rfl, hbc⟩
                have hS3 := hSd.below hbc
                refine hK.out _ _ hS3 (fun _ => ?_)
                have DC3 := (DC.keep (Below.drew (Below.refl _ _))).keep hbc
                have own3 := own_keep hown.drew hbc
                have hz3 : wz.heap.size ≤ w3'.heap.size := hS3.2.2.2.1
                clear hK K hSd DC hown d3 f3 hbc hkt
                have hSd := hS3
                have DC := DC3
                have hown := own3
                have d3 := DC.1.2.2.2.2.1
                have f3 := DC.2.2.2.2.1
                have hdl3 := DC.1.1
                clear hS3 DC3 own3
                refine wpAnyH_ready (rs := [7]) (by kernel_rfl) (by simp) ?_
                refine AllReadyH.cons (o := _) g12_7 (fun K hK => ?_) AllReadyH.nil
                go_simp
                refine hK.out _ _ (hSd.alloc _) (fun _ => ?_)
                clear hK K
                refine wpAnyH_ready (rs := [8]) (by kernel_rfl) (by simp) ?_
                refine AllReadyH.cons (o := _) g12_8 (fun K hK => ?_) AllReadyH.nil
                refine wp_append_own _ _ _ 23 rfl wz.heap.size 4 i0 (.bool false) 1 1 Try.underlying23 hi hz0 hz1 hz2 rfl (by decide) (.slice q (l + L) cp) (l + L) (bitsV GG (l + L)) rfl (hown.alloc _) ⟨w3'.heap.size, 0, none⟩ 1 1 [.bool v] rfl ?c1 ?c2 ?c3 ?c4 ?c5 ?c6 ?_
                case c1 => rfl
                case c2 =>
                  intro j u hj
                  match j, hj with
                  | 0, hj => simp at hj; subst hj; simp [Addr.add]
                case c3 => intro u hu; simp at hu; subst hu; rfl
                case c4 => unfold maxLen; omega
                case c5 => omega
                case c6 => simp; omega
                intro v' w4' hown' hgrow _
                have hbk : ∀ j, (Value.slice q (l + L) cp).ownBlock = some j → wz.heap.size ≤ j := fun j e => (hown.lt j e).1
                have S4' := (hSd.alloc (.cells #[.bool v] 4)).grown hgrow (fun r e => .inl (hbk r e))
                have D4 := (DC.keep (bal (o := .cells #[.bool v] 4) (Below.refl _ _))).grown hgrow (fun e => by have := hbk _ e.symm; omega)
                obtain ⟨q', cap', rfl⟩ := own_form hown'
                refine hK.out _ _ S4' (fun _ => ?_)
                clear hK K hown hgrow d3 f3 DC hSd hbk
                have d3 := D4.1.2.2.2.2.1
                have f3 := D4.2.2.2.2.1
                refine wpAnyH_ready (rs := [9]) (by kernel_rfl) (by simp) ?_
                refine AllReadyH.cons (o := _) g12_9 (fun K hK => ?_) AllReadyH.nil
                go_simp
                refine hK.out _ _ S4' (fun _ => ?_)
                clear hK K
                refine wpAnyH_ready (rs := [10]) (by kernel_rfl) (by simp) ?_
                refine AllReadyH.cons (o := _) g12_10 (fun K hK => ?_) AllReadyH.nil
                go_simp
                refine hK.out _ _ S4' (fun _ => ?_)
                clear hK K
                refine wpAnyH_ready (rs := [11]) (by kernel_rfl) (by simp) ?_
                refine AllReadyH.cons (o := _) g12_11 (fun K hK => ?_) AllReadyH.nil
                go_simp
                have S5' := S4'.set bd 3 (.slice q' (l + L + 1) cap') rfl
                have D5' := D4.set3 q' (l + L + 1) cap'
                have own5 := ownsRow_setCell_below (a := ⟨bd, 3, none⟩) hown' (by dsimp only; omega) (.slice q' (l + L + 1) cap')
                refine hK.out _ _ S5' (fun _ => ?_)
                refine wpAnyH_done (by kernel_rfl) ?_ _
                refine NoPanic.normal ?_
                clear hK K d3 f3
                have HS6 := hide S5'
                have HD6 := hide D5'
                have HO6 := hide own5
                clear S5' D5' own5 S4' D4 hown'
                go_wp2
                go_roundw
                case rel =>
                  refine ⟨x + 1, cap', q', by omega, by go_num, by rw [unhide Hn2]; exact unhide HD6, ?_, unhide HS6⟩
                  have hv := unhide Hv
                  rw [unhide Hn2, show l + (L + 1) = l + L + 1 from rfl, hv]
                  exact unhide HO6
                case measure => simp [intOf]; omega
              · go_simp
                refine (unhide Hbit _ hSd).mono ?_
                rintro e w3' ⟨rfl, hbc⟩
                have hS3 := hSd.below hbc
                refine hK.out _ _ hS3 (fun _ => ?_)
                have DC3 := (DC.keep (Below.drew (Below.refl _ _))).keep hbc
                have own3 := own_keep hown.drew hbc
                have hz3 : wz.heap.size ≤ w3'.heap.size := hS3.2.2.2.1
                clear hK K hSd DC hown d3 f3 hbc hkt
                have hSd := hS3
                have DC := DC3
                have hown := own3
                have d3 := DC.1.2.2.2.2.1
                have f3 := DC.2.2.2.2.1
                have hdl3 := DC.1.1
                clear hS3 DC3 own3
                refine wpAnyH_ready (rs := [2, 7]) (by kernel_rfl) (by simp) ?_
                refine AllReadyH.cons (o := _) g12_2 (fun K hK => ?_) (AllReadyH.cons (o := _) g12_7 (fun K hK => ?_) AllReadyH.nil)
                · go_simp
                  refine hK.out _ _ hSd (fun _ => ?_)
                  clear hK K
                  refine wpAnyH_ready (rs := [7]) (by kernel_rfl) (by simp) ?_
                  refine AllReadyH.cons (o := _) g12_7 (fun K hK => ?_) AllReadyH.nil
                  go_simp
                  refine hK.out _ _ (hSd.alloc _) (fun _ => ?_)
                  clear hK K
                  refine wpAnyH_ready (rs := [8]) (by kernel_rfl) (by simp) ?_
                  refine AllReadyH.cons (o := _) g12_8 (fun K hK => ?_) AllReadyH.nil
                  refine wp_append_own _ _ _ 23 rfl wz.heap.size 4 i0 (.bool false) 1 1 Try.underlying23 hi hz0 hz1 hz2 rfl (by decide) (.slice q (l + L) cp) (l + L) (bitsV GG (l + L)) rfl (hown.alloc _) ⟨w3'.heap.size, 0, none⟩ 1 1 [.bool v] rfl ?c1 ?c2 ?c3 ?c4 ?c5 ?c6 ?_
                  case c1 => rfl
                  case c2 =>
                    intro j u hj
                    match j, hj with
                    | 0, hj => simp at hj; subst hj; simp [Addr.add]
                  case c3 => intro u hu; simp at hu; subst hu; rfl
                  case c4 => unfold maxLen; omega
                  case c5 => omega
                  case c6 => simp; omega
                  intro v' w4' hown' hgrow _
                  have hbk : ∀ j, (Value.slice q (l + L) cp).ownBlock = some j → wz.heap.size ≤ j := fun j e => (hown.lt j e).1
                  have S4' := (hSd.alloc (.cells #[.bool v] 4)).grown hgrow (fun r e => .inl (hbk r e))
                  have D4 := (DC.keep (bal (o := .cells #[.bool v] 4) (Below.refl _ _))).grown hgrow (fun e => by have := hbk _ e.symm; omega)
                  obtain ⟨q', cap', rfl⟩ := own_form hown'
                  refine hK.out _ _ S4' (fun _ => ?_)
                  clear hK K hown hgrow d3 f3 DC hSd hbk
                  have d3 := D4.1.2.2.2.2.1
                  have f3 := D4.2.2.2.2.1
                  refine wpAnyH_ready (rs := [9]) (by kernel_rfl) (by simp) ?_
                  refine AllReadyH.cons (o := _) g12_9 (fun K hK => ?_) AllReadyH.nil
                  go_simp
                  refine hK.out _ _ S4' (fun _ => ?_)
                  clear hK K
                  refine wpAnyH_ready (rs := [10]) (by kernel_rfl) (by simp) ?_
                  refine AllReadyH.cons (o := _) g12_10 (fun K hK => ?_) AllReadyH.nil
                  go_simp
                  refine hK.out _ _ S4' (fun _ => ?_)
                  clear hK K
                  refine wpAnyH_ready (rs := [11]) (by kernel_rfl) (by simp) ?_
                  refine AllReadyH.cons (o := _) g12_11 (fun K hK => ?_) AllReadyH.nil
                  go_simp
                  have S5' := S4'.set bd 3 (.slice q' (l + L + 1) cap') rfl
                  have D5' := D4.set3 q' (l + L + 1) cap'
                  have own5 := ownsRow_setCell_below (a := ⟨bd, 3, none⟩) hown' (by dsimp only; omega) (.slice q' (l + L + 1) cap')
                  refine hK.out _ _ S5' (fun _ => ?_)
                  refine wpAnyH_done (by kernel_rfl) ?_ _
                  refine NoPanic.normal ?_
                  clear hK K d3 f3
                  have HS6 := hide S5'
                  have HD6 := hide D5'
                  have HO6 := hide own5
                  clear S5' D5' own5 S4' D4 hown'
                  go_wp2
                  go_roundw
                  case rel =>
                    refine ⟨x + 1, cap', q', by omega, by go_num, by rw [unhide Hn2]; exact unhide HD6, ?_, unhide HS6⟩
                    have hv := unhide Hv
                    rw [unhide Hn2, show l + (L + 1) = l + L + 1 from rfl, hv]
                    exact unhide HO6
                  case measure => simp [intOf]; omega
                · go_simp
                  refine hK.out _ _ (hSd.alloc _) (fun _ => ?_)
                  clear hK K
                  refine wpAnyH_ready (rs := [2]) (by kernel_rfl) (by simp) ?_
                  refine AllReadyH.cons (o := _) g12_2 (fun K hK => ?_) AllReadyH.nil
                  go_simp
                  refine hK.out _ _ (hSd.alloc _) (fun _ => ?_)
                  clear hK K
                  refine wpAnyH_ready (rs := [8]) (by kernel_rfl) (by simp) ?_
                  refine AllReadyH.cons (o := _) g12_8 (fun K hK => ?_) AllReadyH.nil
                  refine wp_append_own _ _ _ 23 rfl wz.heap.size 4 i0 (.bool false) 1 1 Try.underlying23 hi hz0 hz1 hz2 rfl (by decide) (.slice q (l + L) cp) (l + L) (bitsV GG (l + L)) rfl (hown.alloc _) ⟨w3'.heap.size, 0, none⟩ 1 1 [.bool v] rfl ?c1 ?c2 ?c3 ?c4 ?c5 ?c6 ?_
                  case c1 => rfl
                  case c2 =>
                    intro j u hj
                    match j, hj with
                    | 0, hj => simp at hj; subst hj; simp [Addr.add]
                  case c3 => intro u hu; simp at hu; subst hu; rfl
                  case c4 => unfold maxLen; omega
                  case c5 => omega
                  case c6 => simp; omega
                  intro v' w4' hown' hgrow _
                  have hbk : ∀ j, (Value.slice q (l + L) cp).ownBlock = some j → wz.heap.size ≤ j := fun j e => (hown.lt j e).1
                  have S4' := (hSd.alloc (.cells #[.bool v] 4)).grown hgrow (fun r e => .inl (hbk r e))
                  have D4 := (DC.keep (bal (o := .cells #[.bool v] 4) (Below.refl _ _))).grown hgrow (fun e => by have := hbk _ e.symm; omega)
                  obtain ⟨q', cap', rfl⟩ := own_form hown'
                  refine hK.out _ _ S4' (fun _ => ?_)
                  clear hK K hown hgrow d3 f3 DC hSd hbk
                  have d3 := D4.1.2.2.2.2.1
                  have f3 := D4.2.2.2.2.1
                  refine wpAnyH_ready (rs := [9]) (by kernel_rfl) (by simp) ?_
                  refine AllReadyH.cons (o := _) g12_9 (fun K hK => ?_) AllReadyH.nil
                  go_simp
                  refine hK.out _ _ S4' (fun _ => ?_)
                  clear hK K
                  refine wpAnyH_ready (rs := [10]) (by kernel_rfl) (by simp) ?_
                  refine AllReadyH.cons (o := _) g12_10 (fun K hK => ?_) AllReadyH.nil
                  go_simp
                  refine hK.out _ _ S4' (fun _ => ?_)
                  clear hK K
                  refine wpAnyH_ready (rs := [11]) (by kernel_rfl) (by simp) ?_
                  refine AllReadyH.cons (o := _) g12_11 (fun K hK => ?_) AllReadyH.nil
                  go_simp
                  have S5' := S4'.set bd 3 (.slice q' (l + L + 1) cap') rfl
                  have D5' := D4.set3 q' (l + L + 1) cap'
                  have own5 := ownsRow_setCell_below (a := ⟨bd, 3, none⟩) hown' (by dsimp only; omega) (.slice q' (l + L + 1) cap')
                  refine hK.out _ _ S5' (fun _ => ?_)
                  refine wpAnyH_done (by kernel_rfl) ?_ _
                  refine NoPanic.normal ?_
                  clear hK K d3 f3
                  have HS6 := hide S5'
                  have HD6 := hide D5'
                  have HO6 := hide own5
                  clear S5' D5' own5 S4' D4 hown'
                  go_wp2
                  go_roundw
                  case rel =>
                    refine ⟨x + 1, cap', q', by omega, by go_num, by rw [unhide Hn2]; exact unhide HD6, ?_, unhide HS6⟩
                    have hv := unhide Hv
                    rw [unhide Hn2, show l + (L + 1) = l + L + 1 from rfl, hv]
                    exact unhide HO6
                  case measure => simp [intOf]; omega
            · have hc' : ((nx : Int) == (L : Int)) = false := by simp; omega
              have Hn2 := hide (show (unU (tuF f w h) h (x + 1)).length = L by rw [unhide Hnx', if_neg hc])
              go_wp2_with fail
              go_quiet (fail)
              go_wp2
              go_roundw
              case rel =>
                have bd' : Below wr.heap.size wr (wr.drewN nq) := Joins.below_draws _ _ _
                exact ⟨x + 1, cp, q, by omega, by go_num, by rw [unhide Hn2]; exact (unhide HDC).keep bd', by rw [unhide Hn2]; exact own_keep (unhide Hown) bd', (unhide Hkt).below bd'⟩
              case measure => simp [intOf]; omega
          · have e : x = w := by omega
            subst e
            have cl : ¬ ((x : Int) < (x : Int)) := by omega
            rw [← unhide Hk1] at DC hown
            have HDC := hide DC
            have Hown := hide hown
            have Hkt := hide hkt
            clear DC hown hkt
            go_wp2
            go_roundw
            case rel =>
              refine ⟨y + 1, l + k1, cp, k1, q, by omega, by go_num, by rw [unhide Hn1, mul_step, unhide Hl], .inr rfl, ?_, unhide Hown, unhide Hkt⟩
              rw [unhide Hn1]
              exact unhide HDC
            case measure => simp [intOf]; omega
    · have e : y = h := by omega
      subst e
      have cl : ¬ ((y : Int) < (y : Int)) := by omega
      rw [← unhide Hk2] at hl hwd DC
      obtain rfl : wd = k1 := by rcases hwd with e | e; (· omega); exact e
      obtain rfl : l = m := by rw [hl, unhide Hmm, Nat.mul_comm]
      clear hl hwd
      have HS5 := hide (Kept.back (unhide S5) hkt (fun q e => by omega))
      have HBs := hide (show Bs wr q l cp (fwF f w y wd) from by rw [← unhide HGG]; exact own_bs hown rfl)
      have Hoq := hide (show Off q l (W.heap.size + 1) from own_off hown (by omega))
      have HE := hide ((unhide HEV _ hkt).grown (gput5 (W.heap.size + 1) (.slice qt w ct) (.int .i64 wd) (.int .i64 k2) (.slice q l cp) (.slice qp y cq)) (unhide E4o _ (by omega)))
      have HP := hide ((unhide HPV _ hkt).grown (gput5 (W.heap.size + 1) (.slice qt w ct) (.int .i64 wd) (.int .i64 k2) (.slice q l cp) (.slice qp y cq)) (unhide P5o _ (by omega)))
      have d1 := DC.1.2
      obtain ⟨⟨-, a0, a1, a2, a3, a4⟩, g0, g1, g2, g3, g4⟩ := unhide HAV _ hkt
      clear DC hown hkt
      go_wp2
      refine bodyPost_ret (v := .tuple #[dr qt w ct wd k2 q l cp qp y cq, .int .i64 0]) (by simp [results, Try.results12, go_sem, a0, a1, a2, a3, a4]) rfl ⟨qt, ct, q, cp, qp, ⟨cq, rfl⟩, unhide HE, (unhide HBs).grown (gput5 _ _ _ _ _ _) (unhide Hoq), unhide HP, bput5 (unhide HS5) (by omega) _ _ _ _ _⟩
end Go.Proofs.Ytfbggbalnfbbgaa
