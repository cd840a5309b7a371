/-
  Package twill: Even.
-/
import Derived.Test.YtpefcpbkdofblaaTwD
namespace Go.Proofs.Ytpefcpbkdofblaa
open Go.RowKit Go.Shelf

theorem g8_0 {a0 a1 a2 a3 a4 a5 a6 a7 : Oper} : (#[a0, a1, a2, a3, a4, a5, a6, a7] : Array Oper)[0]? = some a0 := rfl
theorem g8_1 {a0 a1 a2 a3 a4 a5 a6 a7 : Oper} : (#[a0, a1, a2, a3, a4, a5, a6, a7] : Array Oper)[1]? = some a1 := rfl
theorem g8_2 {a0 a1 a2 a3 a4 a5 a6 a7 : Oper} : (#[a0, a1, a2, a3, a4, a5, a6, a7] : Array Oper)[2]? = some a2 := rfl
theorem g8_3 {a0 a1 a2 a3 a4 a5 a6 a7 : Oper} : (#[a0, a1, a2, a3, a4, a5, a6, a7] : Array Oper)[3]? = some a3 := rfl
theorem g8_4 {a0 a1 a2 a3 a4 a5 a6 a7 : Oper} : (#[a0, a1, a2, a3, a4, a5, a6, a7] : Array Oper)[4]? = some a4 := rfl
theorem g8_5 {a0 a1 a2 a3 a4 a5 a6 a7 : Oper} : (#[a0, a1, a2, a3, a4, a5, a6, a7] : Array Oper)[5]? = some a5 := rfl
theorem g8_6 {a0 a1 a2 a3 a4 a5 a6 a7 : Oper} : (#[a0, a1, a2, a3, a4, a5, a6, a7] : Array Oper)[6]? = some a6 := rfl
theorem g8_7 {a0 a1 a2 a3 a4 a5 a6 a7 : Oper} : (#[a0, a1, a2, a3, a4, a5, a6, a7] : Array Oper)[7]? = some a7 := rfl

/-- Even, either side -/
def EvenIs (F : Nat) (w h : Int) (p : Option Addr) (n cap : Nat) (W : World) (b : Bool) (er : Int) : Prop := Calls Try.prog F #[tr w h p n cap] W fun e V => e = .returned (.tuple #[.bool b, .int .i64 er]) ∧ Below W.heap.size W V

set_option maxHeartbeats 1000000 in
theorem even_err (w h : Int) (p : Option Addr) (n cap : Nat) (W : World) (er : Int) (he : wE w h n = er) (hp : 1 ≤ er) : EvenIs 14 w h p n cap W false er := by
  unfold EvenIs
  have HW := hide (fun V => wrong_any w h p n cap V)
  rw [he] at HW
  have hp' : (er != 0) = true := by simp; omega
  have B0 := hide (bal (o := .cells #[.int .i64 w, .int .i64 h, .slice p n cap] 25) (Below.refl W.heap.size W))
  clear he
  go_enter Try.func14, Try.ntmps14
  go_wp2_with fail
  refine (unhide HW _).mono ?_
  rintro r w1 ⟨rfl, hb⟩
  have S := hide (btrans (unhide B0) hb)
  clear hb B0 HW
  go_wp2
  exact bodyPost_ret (v := .tuple #[.bool false, .int .i64 er]) (by simp [results, Try.results14, go_sem]) rfl ⟨rfl, unhide S⟩

/-- what stands while Even counts -/
def EvM (W : World) (b w h : Nat) (p : Option Addr) (n cap : Nat) (f : Nat → Bool) (r c x : Nat) (V : World) : Prop :=
  Tb V b w h p n cap f ∧ r ≠ c ∧ b ≠ r ∧ b ≠ c ∧ W.heap.size ≤ r ∧ W.heap.size ≤ c ∧ (∀ j, j = r ∨ j = c → Off p n j) ∧ IRow V r h (fun y => inN f w false y x) ∧ IRow V c w (fun a => inN f w true a x) ∧ Below W.heap.size W V
theorem EvM.row {W : World} {b w h : Nat} {p : Option Addr} {n cap : Nat} {f : Nat → Bool} {r c x : Nat} {V : World} (k : EvM W b w h p n cap f r c x V) (hf : f x = true) (v : Nat) (hv : v = inN f w false (x / w) x) (u : Nat) (hu : u = inN f w true (x % w) x) :
    EvM W b w h p n cap f r c (x + 1) ((V.setCell ⟨r, x / w, none⟩ (.int .i64 ((v + 1 : Nat) : Int))).setCell ⟨c, x % w, none⟩ (.int .i64 ((u + 1 : Nat) : Int))) := by
  obtain ⟨⟨kM, kR⟩, h1, h2, h3, h4, h5, h6, h7, h8, h9⟩ := k
  have G1 : V.grownBy (V.setCell ⟨r, x / w, none⟩ (.int .i64 ((v + 1 : Nat) : Int))) (some r) := gset (World.grownBy.refl _ _) _ _
  have G2 : (V.setCell ⟨r, x / w, none⟩ (.int .i64 ((v + 1 : Nat) : Int))).grownBy ((V.setCell ⟨r, x / w, none⟩ (.int .i64 ((v + 1 : Nat) : Int))).setCell ⟨c, x % w, none⟩ (.int .i64 ((u + 1 : Nat) : Int))) (some c) := gset (World.grownBy.refl _ _) _ _
  refine ⟨⟨(kM.grown G1 (fun e => h2 (Option.some.inj e))).grown G2 (fun e => h3 (Option.some.inj e)), kR.1, kR.2.1, kR.2.2.1, (kR.2.2.2.grown G1 (h6 r (.inl rfl))).grown G2 (h6 c (.inr rfl))⟩, h1, h2, h3, h4, h5, h6, ?_, ?_, bset (bset h9 h4) h5⟩
  · have := (h7.set (x / w) (v + 1)).grown G2 (fun e => h1 (Option.some.inj e))
    rwa [in_row_yes f w x hf v hv] at this
  · have := (h8.grown G1 (fun e => h1 (Option.some.inj e).symm)).set (x % w) (u + 1)
    rwa [in_col_yes f w x hf u hu] at this
theorem EvM.no {W : World} {b w h : Nat} {p : Option Addr} {n cap : Nat} {f : Nat → Bool} {r c x : Nat} {V : World} (k : EvM W b w h p n cap f r c x V) (hf : f x = false) : EvM W b w h p n cap f r c (x + 1) V := by
  obtain ⟨k1, h1, h2, h3, h4, h5, h6, h7, h8, h9⟩ := k
  exact ⟨k1, h1, h2, h3, h4, h5, h6, by rw [← in_no f w false x hf]; exact h7, by rw [← in_no f w true x hf]; exact h8, h9⟩
theorem ev_nums (x w h n : Nat) (hw : w ≤ 64) (hh : h ≤ 64) (hn : n = w * h) (hx : x < n) : ∃ y a : Nat, y = x / w ∧ a = x % w ∧ y < h ∧ a < w ∧ (x : Int) / (w : Int) = (y : Int) ∧ (x : Int) % (w : Int) = (a : Int) ∧ ((w : Int) == 0) = false ∧ (0 : Int) ≤ (y : Int) ∧ (0 : Int) ≤ (a : Int) ∧ (y : Int) < (h : Int) ∧ (a : Int) < (w : Int) ∧ (0 : Int) ≤ (x : Int) ∧ (x : Int) ≤ 4096 ∧ (w : Int) ≤ 64 := by
  have hp : 0 < w := by
    rcases Nat.eq_zero_or_pos w with e | e
    · subst e; simp at hn; omega
    · exact e
  have h4 : n ≤ 4096 := by rw [hn]; exact Nat.mul_le_mul hw hh
  have hy : x / w < h := Nat.div_lt_of_lt_mul (by rw [← hn]; exact hx)
  have ha := Nat.mod_lt x hp
  exact ⟨x / w, x % w, rfl, rfl, hy, ha, by simp, by simp, by simp; omega, Int.natCast_nonneg _, Int.natCast_nonneg _, Int.ofNat_lt.2 hy, Int.ofNat_lt.2 ha, by omega, by omega, by omega⟩

set_option maxRecDepth 100000 in
set_option maxHeartbeats 4000000 in
theorem even_ok {W : World} {w h : Nat} {p : Option Addr} {n cap : Nat} {f : Nat → Bool} (r : Rt W w h p n cap f) : EvenIs 14 w h p n cap W (evB f w h) 0 := by
  unfold EvenIs
  have hw := r.1
  have hh := r.2.1
  have Hn := hide r.2.2.1
  have HW := hide (fun W => wrong_any w h p n cap W)
  rw [wE_right w h n hw hh r.2.2.1] at HW
  have B0 := hide (bal (o := .cells #[.int .i64 w, .int .i64 h, .slice p n cap] 25) (Below.refl W.heap.size W))
  have T0 := hide (Tb.new r)
  have Hoff := hide (fun q (hq : W.heap.size ≤ q) => r.2.2.2.off hq)
  have Hev := hide (show evB f w h = (smB (fun y => inN f w false y n) h && smB (fun x => inN f w true x n) w) by rw [r.2.2.1]; exact evB_sm f w h)
  have hb0 : W.heap.size < (W.alloc (.cells #[.int .i64 w, .int .i64 h, .slice p n cap] 25)).heap.size := by simp
  obtain ⟨ev, hev⟩ : ∃ ev, ev = evB f w h := ⟨_, rfl⟩
  rw [← hev] at Hev ⊢
  clear r hev
  go_enter Try.func14, Try.ntmps14
  go_wp2_with fail
  generalize W.alloc (.cells #[.int .i64 w, .int .i64 h, .slice p n cap] 25) = w0 at *
  refine (unhide HW _).mono ?_
  rintro e w1 ⟨rfl, hb⟩
  have S1 := hide (btrans (unhide B0) hb)
  have T1 := hide ((unhide T0).keep hb)
  have hz1 : W.heap.size < w1.heap.size := Nat.lt_of_lt_of_le hb0 hb.size
  clear hb B0 T0 HW hb0
  go_wp2_with fail
  have hSd : OwnM w1.drew W.heap.size w h p n cap := (unhide T1).1.keep (Below.drew (Below.refl _ _))
  refine wp_region_noPanic ?_
  refine wp_region_held_drew (S := fun V => OwnM V W.heap.size w h p n cap) (by kernel_rfl) hSd ?_
  intro _
  refine wpAnyH_take (i := 0) (oi := _) (v := .pointer (some ⟨W.heap.size, 1, none⟩)) g8_0 (by kernel_rfl) (by kernel_rfl) (by kernel_rfl) (fun _ _ _ h => h) (Or.inl ⟨by rfl, ?_⟩) (by assumption) ?_
  · intro V hSw
    try dsimp only at hSw
    have hl := hSw.2
    go_simp
  simp only [Act.put, List.setIfInBounds_toArray, List.set_cons_zero, List.set_cons_succ]
  refine wpAnyH_take (i := 1) (oi := _) (v := .int .i64 (h : Int)) g8_1 (by kernel_rfl) (by kernel_rfl) (by kernel_rfl) (fun _ _ _ h => h) (Or.inl ⟨by rfl, ?_⟩) (by assumption) ?_
  · intro V hSw
    try dsimp only at hSw
    have hl := hSw.2
    go_simp
  simp only [Act.put, List.setIfInBounds_toArray, List.set_cons_zero, List.set_cons_succ]
  refine wpAnyH_take (i := 3) (oi := _) (v := .pointer (some ⟨W.heap.size, 0, none⟩)) g8_3 (by kernel_rfl) (by kernel_rfl) (by kernel_rfl) (fun _ _ _ h => h) (Or.inl ⟨by rfl, ?_⟩) (by assumption) ?_
  · intro V hSw
    try dsimp only at hSw
    have hl := hSw.2
    go_simp
  simp only [Act.put, List.setIfInBounds_toArray, List.set_cons_zero, List.set_cons_succ]
  refine wpAnyH_take (i := 4) (oi := _) (v := .int .i64 (w : Int)) g8_4 (by kernel_rfl) (by kernel_rfl) (by kernel_rfl) (fun _ _ _ h => h) (Or.inl ⟨by rfl, ?_⟩) (by assumption) ?_
  · intro V hSw
    try dsimp only at hSw
    have hl := hSw.2
    go_simp
  simp only [Act.put, List.setIfInBounds_toArray, List.set_cons_zero, List.set_cons_succ]
  refine wpAnyH_ready (rs := [2, 5]) (by kernel_rfl) (by simp) ?_
  refine AllReadyH.cons (o := _) g8_2 (fun K hK => ?_) (AllReadyH.cons (o := _) g8_5 (fun K hK => ?_) AllReadyH.nil)
  · refine make_drawn _ h hh rfl rfl ?_
    intro V1 R1 b1
    have S1' := hSd.keep b1
    refine hK.out _ _ S1' (fun _ => ?_)
    clear hK K
    refine wpAnyH_take (i := 6) (oi := _) (v := .slice (some ⟨w1.drew.heap.size, 0, none⟩) h h) g8_6 (by kernel_rfl) (by kernel_rfl) (by kernel_rfl) (fun _ _ _ h => h) (Or.inl ⟨by rfl, ?_⟩) (by assumption) ?_
    · intro V hSw
      try dsimp only at hSw
      have hl := hSw.2
      go_simp
    simp only [Act.put, List.setIfInBounds_toArray, List.set_cons_zero, List.set_cons_succ]
    refine wpAnyH_ready (rs := [5]) (by kernel_rfl) (by simp) ?_
    refine AllReadyH.cons (o := _) g8_5 (fun K hK => ?_) AllReadyH.nil
    refine make_drawn _ w hw rfl rfl ?_
    intro V2 R2 b2
    have S2' := S1'.keep b2
    refine hK.out _ _ S2' (fun _ => ?_)
    clear hK K
    refine wpAnyH_ready (rs := [7]) (by kernel_rfl) (by simp) ?_
    refine AllReadyH.cons (o := _) g8_7 (fun K hK => ?_) AllReadyH.nil
    go_simp
    refine hK.out _ _ S2' (fun _ => ?_)
    refine wpAnyH_done (by kernel_rfl) ?_ _
    refine NoPanic.normal ?_
    clear hK K
    have hbd := Below.drew (Below.refl w1.heap.size w1)
    have R1 : IRow V1 w1.heap.size h (fun _ => 0) := R1
    have hz3 : w1.heap.size < V1.heap.size := R1.1
    have hz4 : V1.heap.size < V2.heap.size := R2.1
    have R1' := R1.keep b2
    have bb := btrans hbd (btrans b1 b2)
    have hE := hide (show EvM W W.heap.size w h p n cap f w1.heap.size V1.heap.size 0 V2 from ⟨(unhide T1).keep bb, by omega, by omega, by omega, by omega, by omega, fun j hj => unhide Hoff j (by omega), R1', R2, btrans (unhide S1) bb⟩)
    generalize w1.heap.size = rr at *
    generalize V1.heap.size = cc at *
    clear b1 b2 R1 R2 R1' bb S1' S2' hbd hz3 hz4 T1 S1 hSd hz1 Hoff
    have hm := (unhide hE).1.1.2
    go_wp2
    clear hm
    go_loopw [23] (fun i wr => ∃ x : Nat, x ≤ n ∧ i = .int .i64 x ∧ EvM W W.heap.size w h p n cap f rr cc x wr) (fun i _ => n - (intOf i).toNat)
    case atStart => exact ⟨0, Nat.zero_le _, rfl, unhide hE⟩
    case round =>
      clear hE
      obtain ⟨x, hx, rfl, hE⟩ := hrel
      by_cases hlt : x < n
      · obtain ⟨y, a, hy, ha, hyh, haw, e1, e2, b1, b2, b3, b4, b5, b6, b7, b8⟩ := ev_nums x w h n hw hh (unhide Hn) hlt
        have q1 : (x : Int) < (n : Int) := by omega
        have m0 := hE.1.1.2.1
        obtain ⟨ba, oa, rfl, la, ka⟩ := bs_at hE.1.2.2.2.2 hlt
        cases hfx : f x with
        | false =>
          rw [hfx] at ka
          have Hn2 := hide (hE.no hfx)
          clear hE hfx
          go_wp2
          clear e1 e2
          go_roundw
          case rel => exact ⟨x + 1, by omega, by go_num, unhide Hn2⟩
          case measure => simp [intOf]; omega
        | true =>
          rw [hfx] at ka
          have r1 := hE.2.2.2.2.2.2.2.1.2 y hyh
          have r2 := hE.2.2.2.2.2.2.2.2.1.2 a haw
          have hrc := hE.2.1
          have hbr := hE.2.2.1
          have hbc := hE.2.2.2.1
          have Hn2 := hide (hE.row hfx _ rfl _ rfl)
          rw [← hy, ← ha] at Hn2
          have hv1 : inN f w false y x ≤ x := cnt_le _ _
          have hv2 : inN f w true a x ≤ x := cnt_le _ _
          dsimp only at r1 r2
          generalize inN f w false y x = v at *
          generalize inN f w true a x = u at *
          obtain ⟨r1, r1f⟩ := r1
          obtain ⟨r2, r2f⟩ := r2
          clear hE hfx hy ha la
          go_wp2
          clear e1 e2
          go_roundw
          case rel => exact ⟨x + 1, by omega, by go_num, by first | exact unhide Hn2 | simpa using unhide Hn2⟩
          case measure => simp [intOf]; omega
      · obtain rfl : x = n := by omega
        have cl : ¬ ((x : Int) < (x : Int)) := by omega
        have HC1 := hide (same_row rr h _ wr hh hE.2.2.2.2.2.2.2.1)
        have HC2 := hide (fun V (hV : Below wr.heap.size wr V) => same_row cc w _ V hw (hE.2.2.2.2.2.2.2.2.1.keep hV))
        have HB := hide hE.2.2.2.2.2.2.2.2.2
        generalize smB (fun y => inN f w false y x) h = s1 at *
        generalize smB (fun a => inN f w true a x) w = s2 at *
        clear hE
        go_wp2_with fail
        refine (unhide HC1).mono ?_
        rintro e w5 ⟨rfl, hb5⟩
        have S5 := hide (btrans (unhide HB) hb5)
        have HC3 := hide (unhide HC2 _ hb5)
        clear hb5 HC1 HC2 HB
        cases s1
        · have Hz := hide (show ev = false by rw [unhide Hev]; rfl)
          clear Hev
          go_wp2
          exact bodyPost_ret (v := .tuple #[.bool false, .int .i64 0]) (by simp [results, Try.results14, go_sem]) rfl ⟨by rw [unhide Hz], unhide S5⟩
        · have Hz := hide (show ev = s2 by rw [unhide Hev]; rfl)
          clear Hev
          go_wp2_with fail
          refine (unhide HC3).mono ?_
          rintro e w6 ⟨rfl, hb6⟩
          have S6 := hide (btrans (unhide S5) hb6)
          clear hb6 HC3 S5
          go_wp2
          exact bodyPost_ret (v := .tuple #[.bool s2, .int .i64 0]) (by simp [results, Try.results14, go_sem]) rfl ⟨by rw [unhide Hz], unhide S6⟩
  · refine make_drawn _ w hw rfl rfl ?_
    intro V1 R1 b1
    have S1' := hSd.keep b1
    refine hK.out _ _ S1' (fun _ => ?_)
    clear hK K
    refine wpAnyH_ready (rs := [2]) (by kernel_rfl) (by simp) ?_
    refine AllReadyH.cons (o := _) g8_2 (fun K hK => ?_) AllReadyH.nil
    refine make_drawn _ h hh rfl rfl ?_
    intro V2 R2 b2
    have S2' := S1'.keep b2
    refine hK.out _ _ S2' (fun _ => ?_)
    clear hK K
    refine wpAnyH_ready (rs := [6]) (by kernel_rfl) (by simp) ?_
    refine AllReadyH.cons (o := _) g8_6 (fun K hK => ?_) AllReadyH.nil
    go_simp
    refine hK.out _ _ S2' (fun _ => ?_)
    clear hK K
    refine wpAnyH_ready (rs := [7]) (by kernel_rfl) (by simp) ?_
    refine AllReadyH.cons (o := _) g8_7 (fun K hK => ?_) AllReadyH.nil
    go_simp
    refine hK.out _ _ S2' (fun _ => ?_)
    refine wpAnyH_done (by kernel_rfl) ?_ _
    refine NoPanic.normal ?_
    clear hK K
    have hbd := Below.drew (Below.refl w1.heap.size w1)
    have R1 : IRow V1 w1.heap.size w (fun _ => 0) := R1
    have hz3 : w1.heap.size < V1.heap.size := R1.1
    have hz4 : V1.heap.size < V2.heap.size := R2.1
    have R1' := R1.keep b2
    have bb := btrans hbd (btrans b1 b2)
    have hE := hide (show EvM W W.heap.size w h p n cap f V1.heap.size w1.heap.size 0 V2 from ⟨(unhide T1).keep bb, by omega, by omega, by omega, by omega, by omega, fun j hj => unhide Hoff j (by omega), R2, R1', btrans (unhide S1) bb⟩)
    generalize V1.heap.size = rr at *
    generalize w1.heap.size = cc at *
    clear b1 b2 R1 R2 R1' bb S1' S2' hbd hz3 hz4 T1 S1 hSd hz1 Hoff
    have hm := (unhide hE).1.1.2
    go_wp2
    clear hm
    go_loopw [23] (fun i wr => ∃ x : Nat, x ≤ n ∧ i = .int .i64 x ∧ EvM W W.heap.size w h p n cap f rr cc x wr) (fun i _ => n - (intOf i).toNat)
    case atStart => exact ⟨0, Nat.zero_le _, rfl, unhide hE⟩
    case round =>
      clear hE
      obtain ⟨x, hx, rfl, hE⟩ := hrel
      by_cases hlt : x < n
      · obtain ⟨y, a, hy, ha, hyh, haw, e1, e2, b1, b2, b3, b4, b5, b6, b7, b8⟩ := ev_nums x w h n hw hh (unhide Hn) hlt
        have q1 : (x : Int) < (n : Int) := by omega
        have m0 := hE.1.1.2.1
        obtain ⟨ba, oa, rfl, la, ka⟩ := bs_at hE.1.2.2.2.2 hlt
        cases hfx : f x with
        | false =>
          rw [hfx] at ka
          have Hn2 := hide (hE.no hfx)
          clear hE hfx
          go_wp2
          clear e1 e2
          go_roundw
          case rel => exact ⟨x + 1, by omega, by go_num, unhide Hn2⟩
          case measure => simp [intOf]; omega
        | true =>
          rw [hfx] at ka
          have r1 := hE.2.2.2.2.2.2.2.1.2 y hyh
          have r2 := hE.2.2.2.2.2.2.2.2.1.2 a haw
          have hrc := hE.2.1
          have hbr := hE.2.2.1
          have hbc := hE.2.2.2.1
          have Hn2 := hide (hE.row hfx _ rfl _ rfl)
          rw [← hy, ← ha] at Hn2
          have hv1 : inN f w false y x ≤ x := cnt_le _ _
          have hv2 : inN f w true a x ≤ x := cnt_le _ _
          dsimp only at r1 r2
          generalize inN f w false y x = v at *
          generalize inN f w true a x = u at *
          obtain ⟨r1, r1f⟩ := r1
          obtain ⟨r2, r2f⟩ := r2
          clear hE hfx hy ha la
          go_wp2
          clear e1 e2
          go_roundw
          case rel => exact ⟨x + 1, by omega, by go_num, by first | exact unhide Hn2 | simpa using unhide Hn2⟩
          case measure => simp [intOf]; omega
      · obtain rfl : x = n := by omega
        have cl : ¬ ((x : Int) < (x : Int)) := by omega
        have HC1 := hide (same_row rr h _ wr hh hE.2.2.2.2.2.2.2.1)
        have HC2 := hide (fun V (hV : Below wr.heap.size wr V) => same_row cc w _ V hw (hE.2.2.2.2.2.2.2.2.1.keep hV))
        have HB := hide hE.2.2.2.2.2.2.2.2.2
        generalize smB (fun y => inN f w false y x) h = s1 at *
        generalize smB (fun a => inN f w true a x) w = s2 at *
        clear hE
        go_wp2_with fail
        refine (unhide HC1).mono ?_
        rintro e w5 ⟨rfl, hb5⟩
        have S5 := hide (btrans (unhide HB) hb5)
        have HC3 := hide (unhide HC2 _ hb5)
        clear hb5 HC1 HC2 HB
        cases s1
        · have Hz := hide (show ev = false by rw [unhide Hev]; rfl)
          clear Hev
          go_wp2
          exact bodyPost_ret (v := .tuple #[.bool false, .int .i64 0]) (by simp [results, Try.results14, go_sem]) rfl ⟨by rw [unhide Hz], unhide S5⟩
        · have Hz := hide (show ev = s2 by rw [unhide Hev]; rfl)
          clear Hev
          go_wp2_with fail
          refine (unhide HC3).mono ?_
          rintro e w6 ⟨rfl, hb6⟩
          have S6 := hide (btrans (unhide S5) hb6)
          clear hb6 HC3 S5
          go_wp2
          exact bodyPost_ret (v := .tuple #[.bool s2, .int .i64 0]) (by simp [results, Try.results14, go_sem]) rfl ⟨by rw [unhide Hz], unhide S6⟩
end Go.Proofs.Ytpefcpbkdofblaa
