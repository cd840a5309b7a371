/-
  The reference: Turned.
-/
import Derived.Test.YtfbggbalnfbbgaaRefB
import Derived.Test.YtfbggbalnfbbgaaLFloat
namespace Go.Proofs.Ytfbggbalnfbbgaa
open Go.RowKit Go.Shelf

theorem g10_0 {a0 a1 a2 a3 a4 a5 a6 a7 a8 a9 : Oper} : (#[a0, a1, a2, a3, a4, a5, a6, a7, a8, a9] : Array Oper)[0]? = some a0 := rfl
theorem g10_1 {a0 a1 a2 a3 a4 a5 a6 a7 a8 a9 : Oper} : (#[a0, a1, a2, a3, a4, a5, a6, a7, a8, a9] : Array Oper)[1]? = some a1 := rfl
theorem g10_2 {a0 a1 a2 a3 a4 a5 a6 a7 a8 a9 : Oper} : (#[a0, a1, a2, a3, a4, a5, a6, a7, a8, a9] : Array Oper)[2]? = some a2 := rfl
theorem g10_3 {a0 a1 a2 a3 a4 a5 a6 a7 a8 a9 : Oper} : (#[a0, a1, a2, a3, a4, a5, a6, a7, a8, a9] : Array Oper)[3]? = some a3 := rfl
theorem g10_4 {a0 a1 a2 a3 a4 a5 a6 a7 a8 a9 : Oper} : (#[a0, a1, a2, a3, a4, a5, a6, a7, a8, a9] : Array Oper)[4]? = some a4 := rfl
theorem g10_5 {a0 a1 a2 a3 a4 a5 a6 a7 a8 a9 : Oper} : (#[a0, a1, a2, a3, a4, a5, a6, a7, a8, a9] : Array Oper)[5]? = some a5 := rfl
theorem g10_6 {a0 a1 a2 a3 a4 a5 a6 a7 a8 a9 : Oper} : (#[a0, a1, a2, a3, a4, a5, a6, a7, a8, a9] : Array Oper)[6]? = some a6 := rfl
theorem g10_7 {a0 a1 a2 a3 a4 a5 a6 a7 a8 a9 : Oper} : (#[a0, a1, a2, a3, a4, a5, a6, a7, a8, a9] : Array Oper)[7]? = some a7 := rfl
theorem g10_8 {a0 a1 a2 a3 a4 a5 a6 a7 a8 a9 : Oper} : (#[a0, a1, a2, a3, a4, a5, a6, a7, a8, a9] : Array Oper)[8]? = some a8 := rfl
theorem g10_9 {a0 a1 a2 a3 a4 a5 a6 a7 a8 a9 : Oper} : (#[a0, a1, a2, a3, a4, a5, a6, a7, a8, a9] : Array Oper)[9]? = some a9 := rfl

set_option maxHeartbeats 1000000 in
theorem rturned_err (w h : Int) (p : Option Addr) (n cap : Nat) (W : World) (er : Int) (her : wE w h n = er) (hp : 1 ≤ er) : TurnedErr 31 w h p n cap W er := by
  have HW := hide (fun W => rwrong_any w h p n cap W)
  rw [her] at HW
  have hp' : (er != 0) = true := by simp; omega
  have B0 := bal (o := .cells #[.int .i64 0, .int .i64 0, .slice none 0 0] 25) (bal (o := .cells #[.int .i64 w, .int .i64 h, .slice p n cap] 25) (Below.refl W.heap.size W))
  have U := OwnZ.new (W.alloc (.cells #[.int .i64 w, .int .i64 h, .slice p n cap] 25))
  rw [World.size_alloc] at U
  have HU := hide U
  have HB := hide B0
  clear her B0 U
  unfold TurnedErr
  go_enter Try.func31, Try.ntmps31
  go_wp2_with fail
  refine (unhide HW _).mono ?_
  rintro e w1 ⟨rfl, hb⟩
  have HS := hide (btrans (unhide HB) hb)
  obtain ⟨⟨-, u0, u1, u2⟩, f0, f1, f2⟩ := (unhide HU).keep hb
  clear hb HU HB
  go_wp2
  exact bodyPost_ret (v := .tuple #[tr 0 0 none 0 0, .int .i64 er]) (by simp [results, Try.results31, go_sem, u0, u1, u2]) rfl ⟨rfl, bset (bset (bset (unhide HS) (by dsimp only; omega)) (by dsimp only; omega)) (by dsimp only; omega)⟩

theorem OwnZ.kept {S : Nat → Prop} {w0 W : World} {b : Nat} (h : OwnZ w0 b) (k : Kept S w0 W) (hS : ¬ S b) : OwnZ W b := by
  have hb := k.2.2.2.2 b h.1.1 hS
  exact ⟨k.own h.1 hS, (World.frozen?_of_block hb).trans h.2.1, (World.frozen?_of_block hb).trans h.2.2.1, (World.frozen?_of_block hb).trans h.2.2.2⟩

set_option maxHeartbeats 4000000 in
set_option maxRecDepth 100000 in
theorem rturned_new {W : World} {w h : Nat} {p : Option Addr} {n cap : Nat} {f : Nat → Bool} (r : Rt W w h p n cap f) :
    Calls Try.prog 31 #[tr w h p n cap] W fun e V => ∃ q cp, e = .returned (.tuple #[tr h w q n cp, .int .i64 0]) ∧ (Rt V h w q n cp (tuF f w h) ∧ ∀ j, j < W.heap.size → Off q n j) ∧ Below W.heap.size W V := by
  have hw := r.1
  have hh := r.2.1
  have Hn := hide r.2.2.1
  have HW := hide (fun W => rwrong_any w h p n cap W)
  rw [wE_right w h n hw hh r.2.2.1] at HW
  have B0 := hide (bal (o := .cells #[.int .i64 0, .int .i64 0, .slice none 0 0] 25) (bal (o := .cells #[.int .i64 w, .int .i64 h, .slice p n cap] 25) (Below.refl W.heap.size W)))
  have T0 := hide ((Tb.new r).keep (bal (o := .cells #[.int .i64 0, .int .i64 0, .slice none 0 0] 25) (Below.refl _ _)))
  have U := OwnZ.new (W.alloc (.cells #[.int .i64 w, .int .i64 h, .slice p n cap] 25))
  rw [World.size_alloc] at U
  have HU := hide U
  have Hoff := hide (fun q (hq : W.heap.size ≤ q) => r.2.2.2.off hq)
  obtain ⟨i0, hi, hz0, hz1, hz2⟩ := info_parts info4
  clear U r
  go_enter Try.func31, Try.ntmps31
  go_wp2_with fail
  generalize (W.alloc (.cells #[.int .i64 w, .int .i64 h, .slice p n cap] 25)).alloc (.cells #[.int .i64 0, .int .i64 0, .slice none 0 0] 25) = w0 at *
  refine (unhide HW _).mono ?_
  rintro e w1 ⟨rfl, hb⟩
  have hb2 := bal (o := .cells #[.int .i64 h, .int .i64 w, .slice none 0 0] 25) hb
  have S4 := hide (btrans (unhide B0) hb2)
  have T4 := hide ((unhide T0).keep hb2)
  have Z4 := hide ((unhide HU).keep hb2)
  have O4 := hide (OwnW.new w1 h w)
  have m1 := ((unhide T0).1.keep hb).2
  have hz : W.heap.size + 1 < w1.heap.size := ((unhide HU).keep hb).1.1
  have hz5 : (w1.alloc (.cells #[.int .i64 h, .int .i64 w, .slice none 0 0] 25)).heap.size = w1.heap.size + 1 := by simp
  have Hz5 := hide hz5
  clear hb hb2 B0 T0 HU HW hz5
  go_wp2
  clear m1
  have hz5 := unhide Hz5
  clear Hz5
  generalize w1.alloc (.cells #[.int .i64 h, .int .i64 w, .slice none 0 0] 25) = wb at *
  generalize w1.heap.size = bo at *
  have hbo : bo < wb.heap.size := by omega
  clear hz5
  obtain ⟨GG, hGG⟩ : ∃ GG, GG = tuF f w h := ⟨_, rfl⟩
  have HGG := hide hGG
  clear hGG
  go_loopw [6] (fun c wr => ∃ (x m cp : Nat) (q : Option Addr), x ≤ w ∧ c = .int .i64 x ∧ m = x * h ∧ OwnW wr bo h w q m cp ∧ wr.ownsRow wb.heap.size 4 1 (.slice q m cp) m (bitsV GG m) ∧ Kept (fun k => k = bo) wb wr) (fun c _ => w - (intOf c).toNat)
  case atStart => exact ⟨0, 0, 0, none, Nat.zero_le _, rfl, by simp, unhide O4, World.ownsRow_nil _ _ _ _, Kept.refl _ _⟩
  case round =>
    obtain ⟨x, m, cp, q, hx, rfl, hm, DC, hown, hkt⟩ := hrel
    have Hm := hide hm
    have hm6 : m ≤ 4096 := by rw [hm]; exact Nat.mul_le_mul (show x ≤ 64 by omega) hh
    clear hm
    have m5 := (hkt.own (unhide T4).1 (by omega)).2
    by_cases hlt : x < w
    · have hmN : m + h ≤ 4160 := by omega
      have q0 : (x : Int) < (w : Int) := by omega
      go_wp2
      clear m5
      obtain ⟨wo, rfl⟩ : ∃ wo : World, wo = wr := ⟨_, rfl⟩
      go_loopw [7] (fun c wr => ∃ (y cp : Nat) (q : Option Addr), y ≤ h ∧ c = .int .i64 y ∧ OwnW wr bo h w q (m + y) cp ∧ wr.ownsRow wb.heap.size 4 1 (.slice q (m + y) cp) (m + y) (bitsV GG (m + y)) ∧ Kept (fun k => k = bo) wb wr) (fun c _ => h - (intOf c).toNat)
      case atStart => exact ⟨0, cp, q, Nat.zero_le _, rfl, DC, hown, hkt⟩
      case round =>
        clear DC hown hkt
        obtain ⟨y, cp, q, hy, rfl, DC, hown, hkt⟩ := hrel
        have m5 := (hkt.own (unhide T4).1 (by omega)).2
        by_cases hly : y < h
        · have qy : (y : Int) < (h : Int) := by omega
          have hv0 : GG (m + y) = f (y * w + x) := by rw [unhide HGG, unhide Hm, tu_at_row f w h x y hly]
          have Hv := hide (show bitsV GG (m + y + 1) = bitsV GG (m + y) ++ [.bool (f (y * w + x))] by rw [bitsV_succ, hv0])
          have Hbit := hide (show ∀ V, Kept (fun k => k = bo) wb V → Calls Try.prog 33 #[tr w h p n cap, .int .i64 y, .int .i64 x] V fun e w' => e = .returned (.bool (f (y * w + x))) ∧ Below V.heap.size V w' from fun V hV => bit_ok (W := V) ⟨hw, hh, unhide Hn, hV.bs (unhide T4).2.2.2.2 (fun q hq => unhide Hoff q (by omega))⟩ y x hly hlt)
          have Hld := hide (show ∀ V, Kept (fun k => k = bo) wb V → V.cell? ⟨W.heap.size, 0, none⟩ = some (.int .i64 w) ∧ V.cell? ⟨W.heap.size, 1, none⟩ = some (.int .i64 h) ∧ V.cell? ⟨W.heap.size, 2, none⟩ = some (.slice p n cap) from fun V hV => (hV.own (unhide T4).1 (by omega)).2)
          generalize f (y * w + x) = v at *
          clear hv0
          have d3 := DC.1.2.2.2
          have f3 := DC.2
          have hdlt := DC.1.1
          have hszk := hkt.2.2.2.1
          go_wp2_with fail
          clear m5
          refine wp_region_noPanic ?_
          refine wp_region_held_drew (S := fun V => Kept (fun k => k = bo) wb V) (by kernel_rfl) (Kept.drew hkt) ?_
          intro _
          have hSd := Kept.drew hkt
          refine wpAnyH_take (i := 0) (oi := _) (v := .pointer (some ⟨bo, 2, none⟩)) g10_0 (by kernel_rfl) (by kernel_rfl) (by kernel_rfl) (fun _ _ _ h => h) (Or.inl ⟨by rfl, ?_⟩) (by assumption) ?_
          · intro V hSw
            try dsimp only at hSw
            go_simp
          simp only [Act.put, List.setIfInBounds_toArray, List.set_cons_zero, List.set_cons_succ]
          refine wpAnyH_take (i := 2) (oi := _) (v := .agg #[.int .i64 w, .int .i64 h, .slice p n cap]) g10_2 (by kernel_rfl) (by kernel_rfl) (by kernel_rfl) (fun _ _ _ h => h) (Or.inl ⟨by rfl, ?_⟩) (by assumption) ?_
          · intro V hSw
            try dsimp only at hSw
            have hl := unhide Hld V hSw
            go_simp
          simp only [Act.put, List.setIfInBounds_toArray, List.set_cons_zero, List.set_cons_succ]
          refine wpAnyH_take (i := 3) (oi := _) (v := .int .i64 y) g10_3 (by kernel_rfl) (by kernel_rfl) (by kernel_rfl) (fun _ _ _ h => h) (Or.inl ⟨by rfl, ?_⟩) (by assumption) ?_
          · intro V hSw
            try dsimp only at hSw
            go_simp
          simp only [Act.put, List.setIfInBounds_toArray, List.set_cons_zero, List.set_cons_succ]
          refine wpAnyH_take (i := 4) (oi := _) (v := .int .i64 x) g10_4 (by kernel_rfl) (by kernel_rfl) (by kernel_rfl) (fun _ _ _ h => h) (Or.inl ⟨by rfl, ?_⟩) (by assumption) ?_
          · intro V hSw
            try dsimp only at hSw
            go_simp
          simp only [Act.put, List.setIfInBounds_toArray, List.set_cons_zero, List.set_cons_succ]
          refine wpAnyH_ready (rs := [1, 5]) (by kernel_rfl) (by simp) ?_
          refine AllReadyH.cons (o := _) g10_1 (fun K hK => ?_) (AllReadyH.cons (o := _) g10_5 (fun K hK => ?_) AllReadyH.nil)
          · go_simp
            refine hK.out _ _ hSd (fun _ => ?_)
            clear hK K
            refine wpAnyH_ready (rs := [5]) (by kernel_rfl) (by simp) ?_
            refine AllReadyH.cons (o := _) g10_5 (fun K hK => ?_) AllReadyH.nil
            go_simp
            refine (unhide Hbit _ hSd).mono ?_
            rintro e w3 ⟨rfl, hbc⟩
            have hS3 := hSd.below hbc
            refine hK.out _ _ hS3 (fun _ => ?_)
            have DC3 := (DC.keep (Below.drew (Below.refl _ _))).keep hbc
            have own3 := own_keep hown.drew hbc
            have hz3 : wb.heap.size ≤ w3.heap.size := hS3.2.2.2.1
            clear hK K hSd DC hown d3 f3 hbc hkt
            have hSd := hS3
            have DC := DC3
            have hown := own3
            have d3 := DC.1.2.2.2
            have f3 := DC.2
            have hdl3 := DC.1.1
            clear hS3 DC3 own3
            refine wpAnyH_ready (rs := [6]) (by kernel_rfl) (by simp) ?_
            refine AllReadyH.cons (o := _) g10_6 (fun K hK => ?_) AllReadyH.nil
            go_simp
            refine hK.out _ _ (hSd.alloc _) (fun _ => ?_)
            clear hK K
            refine wpAnyH_ready (rs := [7]) (by kernel_rfl) (by simp) ?_
            refine AllReadyH.cons (o := _) g10_7 (fun K hK => ?_) AllReadyH.nil
            refine wp_append_own _ _ _ 23 rfl wb.heap.size 4 i0 (.bool false) 1 1 Try.underlying23 hi hz0 hz1 hz2 rfl (by decide) (.slice q (m + y) cp) (m + y) (bitsV GG (m + y)) rfl (hown.alloc _) ⟨w3.heap.size, 0, none⟩ 1 1 [.bool v] rfl ?c1 ?c2 ?c3 ?c4 ?c5 ?c6 ?_
            case c1 => rfl
            case c2 =>
              intro j u hj
              match j, hj with
              | 0, hj => simp at hj; subst hj; simp [Addr.add]
            case c3 => intro u hu; simp at hu; subst hu; rfl
            case c4 => unfold maxLen; omega
            case c5 => omega
            case c6 => simp; omega
            intro v' w4 hown' hgrow _
            have hbk : ∀ j, (Value.slice q (m + y) cp).ownBlock = some j → wb.heap.size ≤ j := fun j e => (hown.lt j e).1
            have S4' := (hSd.alloc (.cells #[.bool v] 4)).grown hgrow (fun r e => .inl (hbk r e))
            have D4 := (DC.keep (bal (o := .cells #[.bool v] 4) (Below.refl _ _))).grown hgrow (fun e => by have := hbk _ e.symm; omega)
            obtain ⟨q', cap', rfl⟩ := own_form hown'
            refine hK.out _ _ S4' (fun _ => ?_)
            clear hK K hown hgrow d3 f3 DC hSd hbk
            have d3 := D4.1.2.2.2
            have f3 := D4.2
            refine wpAnyH_ready (rs := [8]) (by kernel_rfl) (by simp) ?_
            refine AllReadyH.cons (o := _) g10_8 (fun K hK => ?_) AllReadyH.nil
            go_simp
            refine hK.out _ _ S4' (fun _ => ?_)
            clear hK K
            refine wpAnyH_ready (rs := [9]) (by kernel_rfl) (by simp) ?_
            refine AllReadyH.cons (o := _) g10_9 (fun K hK => ?_) AllReadyH.nil
            go_simp
            have S5 := S4'.set bo 2 (.slice q' (m + y + 1) cap') rfl
            have D5 := D4.set2 q' (m + y + 1) cap'
            have own5 := ownsRow_setCell_below (a := ⟨bo, 2, none⟩) hown' (by dsimp only; omega) (.slice q' (m + y + 1) cap')
            refine hK.out _ _ S5 (fun _ => ?_)
            refine wpAnyH_done (by kernel_rfl) ?_ _
            refine NoPanic.normal ?_
            clear hK K d3 f3
            have HS5 := hide S5
            have HD5 := hide D5
            have HO5 := hide own5
            clear S5 D5 own5 S4' D4 hown'
            go_wp2
            go_roundw
            case rel =>
              refine ⟨y + 1, cap', q', by omega, by go_num, unhide HD5, ?_, unhide HS5⟩
              have hv := unhide Hv
              rw [show m + (y + 1) = m + y + 1 from rfl, hv]
              exact unhide HO5
            case measure => simp [intOf]; omega
          · go_simp
            refine (unhide Hbit _ hSd).mono ?_
            rintro e w3 ⟨rfl, hbc⟩
            have hS3 := hSd.below hbc
            refine hK.out _ _ hS3 (fun _ => ?_)
            have DC3 := (DC.keep (Below.drew (Below.refl _ _))).keep hbc
            have own3 := own_keep hown.drew hbc
            have hz3 : wb.heap.size ≤ w3.heap.size := hS3.2.2.2.1
            clear hK K hSd DC hown d3 f3 hbc hkt
            have hSd := hS3
            have DC := DC3
            have hown := own3
            have d3 := DC.1.2.2.2
            have f3 := DC.2
            have hdl3 := DC.1.1
            clear hS3 DC3 own3
            refine wpAnyH_ready (rs := [1, 6]) (by kernel_rfl) (by simp) ?_
            refine AllReadyH.cons (o := _) g10_1 (fun K hK => ?_) (AllReadyH.cons (o := _) g10_6 (fun K hK => ?_) AllReadyH.nil)
            · go_simp
              refine hK.out _ _ hSd (fun _ => ?_)
              clear hK K
              refine wpAnyH_ready (rs := [6]) (by kernel_rfl) (by simp) ?_
              refine AllReadyH.cons (o := _) g10_6 (fun K hK => ?_) AllReadyH.nil
              go_simp
              refine hK.out _ _ (hSd.alloc _) (fun _ => ?_)
              clear hK K
              refine wpAnyH_ready (rs := [7]) (by kernel_rfl) (by simp) ?_
              refine AllReadyH.cons (o := _) g10_7 (fun K hK => ?_) AllReadyH.nil
              refine wp_append_own _ _ _ 23 rfl wb.heap.size 4 i0 (.bool false) 1 1 Try.underlying23 hi hz0 hz1 hz2 rfl (by decide) (.slice q (m + y) cp) (m + y) (bitsV GG (m + y)) rfl (hown.alloc _) ⟨w3.heap.size, 0, none⟩ 1 1 [.bool v] rfl ?c1 ?c2 ?c3 ?c4 ?c5 ?c6 ?_
              case c1 => rfl
              case c2 =>
                intro j u hj
                match j, hj with
                | 0, hj => simp at hj; subst hj; simp [Addr.add]
              case c3 => intro u hu; simp at hu; subst hu; rfl
              case c4 => unfold maxLen; omega
              case c5 => omega
              case c6 => simp; omega
              intro v' w4 hown' hgrow _
              have hbk : ∀ j, (Value.slice q (m + y) cp).ownBlock = some j → wb.heap.size ≤ j := fun j e => (hown.lt j e).1
              have S4' := (hSd.alloc (.cells #[.bool v] 4)).grown hgrow (fun r e => .inl (hbk r e))
              have D4 := (DC.keep (bal (o := .cells #[.bool v] 4) (Below.refl _ _))).grown hgrow (fun e => by have := hbk _ e.symm; omega)
              obtain ⟨q', cap', rfl⟩ := own_form hown'
              refine hK.out _ _ S4' (fun _ => ?_)
              clear hK K hown hgrow d3 f3 DC hSd hbk
              have d3 := D4.1.2.2.2
              have f3 := D4.2
              refine wpAnyH_ready (rs := [8]) (by kernel_rfl) (by simp) ?_
              refine AllReadyH.cons (o := _) g10_8 (fun K hK => ?_) AllReadyH.nil
              go_simp
              refine hK.out _ _ S4' (fun _ => ?_)
              clear hK K
              refine wpAnyH_ready (rs := [9]) (by kernel_rfl) (by simp) ?_
              refine AllReadyH.cons (o := _) g10_9 (fun K hK => ?_) AllReadyH.nil
              go_simp
              have S5 := S4'.set bo 2 (.slice q' (m + y + 1) cap') rfl
              have D5 := D4.set2 q' (m + y + 1) cap'
              have own5 := ownsRow_setCell_below (a := ⟨bo, 2, none⟩) hown' (by dsimp only; omega) (.slice q' (m + y + 1) cap')
              refine hK.out _ _ S5 (fun _ => ?_)
              refine wpAnyH_done (by kernel_rfl) ?_ _
              refine NoPanic.normal ?_
              clear hK K d3 f3
              have HS5 := hide S5
              have HD5 := hide D5
              have HO5 := hide own5
              clear S5 D5 own5 S4' D4 hown'
              go_wp2
              go_roundw
              case rel =>
                refine ⟨y + 1, cap', q', by omega, by go_num, unhide HD5, ?_, unhide HS5⟩
                have hv := unhide Hv
                rw [show m + (y + 1) = m + y + 1 from rfl, hv]
                exact unhide HO5
              case measure => simp [intOf]; omega
            · go_simp
              refine hK.out _ _ (hSd.alloc _) (fun _ => ?_)
              clear hK K
              refine wpAnyH_ready (rs := [1]) (by kernel_rfl) (by simp) ?_
              refine AllReadyH.cons (o := _) g10_1 (fun K hK => ?_) AllReadyH.nil
              go_simp
              refine hK.out _ _ (hSd.alloc _) (fun _ => ?_)
              clear hK K
              refine wpAnyH_ready (rs := [7]) (by kernel_rfl) (by simp) ?_
              refine AllReadyH.cons (o := _) g10_7 (fun K hK => ?_) AllReadyH.nil
              refine wp_append_own _ _ _ 23 rfl wb.heap.size 4 i0 (.bool false) 1 1 Try.underlying23 hi hz0 hz1 hz2 rfl (by decide) (.slice q (m + y) cp) (m + y) (bitsV GG (m + y)) rfl (hown.alloc _) ⟨w3.heap.size, 0, none⟩ 1 1 [.bool v] rfl ?c1 ?c2 ?c3 ?c4 ?c5 ?c6 ?_
              case c1 => rfl
              case c2 =>
                intro j u hj
                match j, hj with
                | 0, hj => simp at hj; subst hj; simp [Addr.add]
              case c3 => intro u hu; simp at hu; subst hu; rfl
              case c4 => unfold maxLen; omega
              case c5 => omega
              case c6 => simp; omega
              intro v' w4 hown' hgrow _
              have hbk : ∀ j, (Value.slice q (m + y) cp).ownBlock = some j → wb.heap.size ≤ j := fun j e => (hown.lt j e).1
              have S4' := (hSd.alloc (.cells #[.bool v] 4)).grown hgrow (fun r e => .inl (hbk r e))
              have D4 := (DC.keep (bal (o := .cells #[.bool v] 4) (Below.refl _ _))).grown hgrow (fun e => by have := hbk _ e.symm; omega)
              obtain ⟨q', cap', rfl⟩ := own_form hown'
              refine hK.out _ _ S4' (fun _ => ?_)
              clear hK K hown hgrow d3 f3 DC hSd hbk
              have d3 := D4.1.2.2.2
              have f3 := D4.2
              refine wpAnyH_ready (rs := [8]) (by kernel_rfl) (by simp) ?_
              refine AllReadyH.cons (o := _) g10_8 (fun K hK => ?_) AllReadyH.nil
              go_simp
              refine hK.out _ _ S4' (fun _ => ?_)
              clear hK K
              refine wpAnyH_ready (rs := [9]) (by kernel_rfl) (by simp) ?_
              refine AllReadyH.cons (o := _) g10_9 (fun K hK => ?_) AllReadyH.nil
              go_simp
              have S5 := S4'.set bo 2 (.slice q' (m + y + 1) cap') rfl
              have D5 := D4.set2 q' (m + y + 1) cap'
              have own5 := ownsRow_setCell_below (a := ⟨bo, 2, none⟩) hown' (by dsimp only; omega) (.slice q' (m + y + 1) cap')
              refine hK.out _ _ S5 (fun _ => ?_)
              refine wpAnyH_done (by kernel_rfl) ?_ _
              refine NoPanic.normal ?_
              clear hK K d3 f3
              have HS5 := hide S5
              have HD5 := hide D5
              have HO5 := hide own5
              clear S5 D5 own5 S4' D4 hown'
              go_wp2
              go_roundw
              case rel =>
                refine ⟨y + 1, cap', q', by omega, by go_num, unhide HD5, ?_, unhide HS5⟩
                have hv := unhide Hv
                rw [show m + (y + 1) = m + y + 1 from rfl, hv]
                exact unhide HO5
              case measure => simp [intOf]; omega
        · have e : y = h := by omega
          subst e
          have cl : ¬ ((y : Int) < (y : Int)) := by omega
          have Hs := hide (show m + y = (x + 1) * y by rw [mul_step, unhide Hm])
          have HDC := hide DC
          have Hown := hide hown
          have Hkt := hide hkt
          clear DC hown hkt
          go_wp2
          go_roundw
          case rel => exact ⟨x + 1, m + y, cp, q, by omega, by go_num, unhide Hs, unhide HDC, unhide Hown, unhide Hkt⟩
          case measure => simp [intOf]; omega
    · have e : x = w := by omega
      subst e
      have cl : ¬ ((x : Int) < (x : Int)) := by omega
      have hmn : m = n := by rw [unhide Hm, unhide Hn]
      subst hmn
      have HS5 := hide (Kept.back (unhide S4) hkt (fun q e => by omega))
      have HT5 := hide (show Rt wr h x q m cp (tuF f x h) from ⟨hh, hw, by rw [unhide Hn, Nat.mul_comm], by rw [← unhide HGG]; exact own_bs hown rfl⟩)
      obtain ⟨-, o0, o1, o2⟩ := DC.1
      obtain ⟨⟨-, u0, u1, u2⟩, f0, f1, f2⟩ := (unhide Z4).kept hkt (by omega)
      have Hoq := hide (show Off q m (W.heap.size + 1) from own_off hown (by omega))
      have Hoj := hide (show ∀ j, j < W.heap.size → Off q m j from fun j hj => own_off hown (by omega))
      clear DC hown hkt
      go_wp2
      refine bodyPost_ret (v := .tuple #[tr h x q m cp, .int .i64 0]) (by simp [results, Try.results31, go_sem, u0, u1, u2]) rfl ⟨q, cp, rfl, ?_, bset (bset (bset (unhide HS5) (by dsimp only; omega)) (by dsimp only; omega)) (by dsimp only; omega)⟩
      refine ⟨⟨(unhide HT5).1, (unhide HT5).2.1, (unhide HT5).2.2.1, ?_⟩, unhide Hoj⟩
      exact (((unhide HT5).2.2.2.grown (gset (World.grownBy.refl _ _) 0 _) (unhide Hoq)).grown (gset (World.grownBy.refl _ _) 1 _) (unhide Hoq)).grown (gset (World.grownBy.refl _ _) 2 _) (unhide Hoq)

theorem rturned_ok {W : World} {w h : Nat} {p : Option Addr} {n cap : Nat} {f : Nat → Bool} (r : Rt W w h p n cap f) :
    Calls Try.prog 31 #[tr w h p n cap] W fun e V => ∃ q cp, e = .returned (.tuple #[tr h w q n cp, .int .i64 0]) ∧ Rt V h w q n cp (tuF f w h) ∧ Below W.heap.size W V := by
  refine (rturned_new r).mono ?_
  rintro e V ⟨q, cp, rfl, hr, hb⟩
  exact ⟨q, cp, rfl, hr.1, hb⟩
theorem turned_new {W : World} {w h : Nat} {p : Option Addr} {n cap : Nat} {f : Nat → Bool} (r : Rt W w h p n cap f) :
    Calls Try.prog 27 #[tr w h p n cap] W fun e V => ∃ q cp, e = .returned (.tuple #[tr h w q n cp, .int .i64 0]) ∧ (Rt V h w q n cp (tuF f w h) ∧ ∀ j, j < W.heap.size → Off q n j) ∧ Below W.heap.size W V := by
  refine ((callsIn_wide (n := 9)).1 (turned_in w h p n cap f W r.1 r.2.1 r.2.2.1 r.2.2.2)).mono ?_
  rintro e V ⟨q, rfl, hq, hR, hb⟩
  exact ⟨_, _, rfl, ⟨⟨r.2.1, r.1, by rw [r.2.2.1, Nat.mul_comm], hR.bs⟩, fun j hj => .inr fun a ea => by cases ea; dsimp only; omega⟩, hb⟩
end Go.Proofs.Ytfbggbalnfbbgaa
