/-
  Times of package plane.
-/
import Derived.Test.YtpcajcgafmmlkaaDoorTimes2
import Derived.Test.YtpcajcgafmmlkaaDoorKindB
import Derived.Test.YtpcajcgafmmlkaaDoorGJ
namespace Go.Proofs.YtpcajcgafmmlkaaDoor
open Go.RowKit

set_option maxHeartbeats 1000000 in
theorem times_err (g ax ay bx b : Int) (w : World) (er : Int) (he : Hid (e2 g ax ay bx b = er)) (hp : 1 ≤ er) :
    Calls Tryd.prog 47 #[.int .i64 g, .agg #[.int .i64 ax, .int .i64 ay], .agg #[.int .i64 bx, .int .i64 b]] w fun e w' => e = .returned (.tuple #[.agg #[.int .i64 0, .int .i64 0], .int .i64 er]) ∧ Below w.heap.size w w' := by
  go_enter Tryd.func47, Tryd.ntmps47
  go_wp2_with fail
  refine (wrongPoints2 g ax ay bx b _ _ _ ?_ ?_ ?_ ?_ ?_).mono ?_
  · simp
  · simp [go_sem]
  · simp [go_sem]
  · simp [go_sem]
  · simp [go_sem]
  rw [unhide he]
  rintro e w1 ⟨rfl, hb⟩
  obtain ⟨hc, hf⟩ := bcell hb
  have hz : w.heap.size + 1 + 1 < w1.heap.size := by have := hb.size; simp at this; omega
  go_wp2
  exact bodyPost_ret (v := .tuple #[.agg #[.int .i64 0, .int .i64 0], .int .i64 er]) (by simp [results, Tryd.results47, go_sem, hc]) rfl ⟨rfl, bset (bset (btrans (bal (bal (bal (bal (Below.refl _ _))))) hb) (by dsimp only; omega)) (by dsimp only; omega)⟩

set_option maxHeartbeats 1000000 in
theorem times_ok4 (ax ay bx b : Int) (w : World) (he : Hid (e2 4 ax ay bx b = 0)) (x y er : Int) (hx : Hid ((sm2 (ax * bx - ay * b) (ax * b + ay * bx) = true ∧ x = ax * bx - ay * b ∧ y = ax * b + ay * bx ∧ er = 0) ∨ (sm2 (ax * bx - ay * b) (ax * b + ay * bx) = false ∧ x = 0 ∧ y = 0 ∧ er = 4))) :
    Calls Tryd.prog 47 #[.int .i64 4, .agg #[.int .i64 ax, .int .i64 ay], .agg #[.int .i64 bx, .int .i64 b]] w fun e w' => e = .returned (.tuple #[.agg #[.int .i64 x, .int .i64 y], .int .i64 er]) ∧ Below w.heap.size w w' := by
  obtain ⟨_, ha, hb⟩ := e2_zero _ _ _ _ _ (unhide he)
  have hA := (sm2_iff _ _).1 ha
  have hB := (sm2_iff _ _).1 hb
  clear ha hb
  have HP := fun W => product4 ax ay bx b W (big_mul _ _ (by omega) (by omega)) (big_mul _ _ (by omega) (by omega)) (big_mul _ _ (by omega) (by omega)) (big_mul _ _ (by omega) (by omega))
  have HP' := hide HP
  clear HP
  generalize hX : ax * bx - ay * b = X at *
  generalize hY : ax * b + ay * bx = Y at *
  clear hX hY hA hB
  go_enter Tryd.func47, Tryd.ntmps47
  go_wp2_with fail
  refine (wrongPoints2 4 ax ay bx b _ _ _ ?_ ?_ ?_ ?_ ?_).mono ?_
  · simp
  · simp [go_sem]
  · simp [go_sem]
  · simp [go_sem]
  · simp [go_sem]
  rw [unhide he]
  rintro e w1 ⟨rfl, hb⟩
  obtain ⟨hc, hf⟩ := bcell hb
  have hz : w.heap.size + 1 + 1 < w1.heap.size := by have := hb.size; simp at this; omega
  go_wp2_with fail
  refine (unhide HP' _).mono ?_
  rintro e w2 ⟨rfl, hb2⟩
  obtain ⟨hc2, hf2⟩ := bcell hb2
  have hz2 : w.heap.size + 1 + 1 < w2.heap.size := by have := hb2.size; omega
  go_wp2_with fail
  rcases unhide hx with ⟨hs, rfl, rfl, rfl⟩ | ⟨hs, rfl, rfl, rfl⟩
  · refine (bounded_ok _ _ _ hs).mono ?_
    rintro e w3 ⟨rfl, hb3⟩
    obtain ⟨hc3, hf3⟩ := bcell hb3
    have hz3 : w.heap.size + 1 + 1 < w3.heap.size := by have := hb3.size; omega
    go_wp2
    exact bodyPost_ret (v := .tuple #[.agg #[.int .i64 x, .int .i64 y], .int .i64 0]) (by simp [results, Tryd.results47, go_sem, hc, hc2, hc3, hz, hz2]) rfl ⟨rfl, bset (bset (btrans (btrans (btrans (bal (bal (bal (bal (Below.refl _ _))))) hb) hb2) hb3) (by dsimp only; omega)) (by dsimp only; omega)⟩
  · refine (bounded_much _ _ _ hs).mono ?_
    rintro e w3 ⟨rfl, hb3⟩
    obtain ⟨hc3, hf3⟩ := bcell hb3
    have hz3 : w.heap.size + 1 + 1 < w3.heap.size := by have := hb3.size; omega
    go_wp2
    exact bodyPost_ret (v := .tuple #[.agg #[.int .i64 0, .int .i64 0], .int .i64 4]) (by simp [results, Tryd.results47, go_sem, hc, hc2, hc3, hz, hz2]) rfl ⟨rfl, bset (bset (btrans (btrans (btrans (bal (bal (bal (bal (Below.refl _ _))))) hb) hb2) hb3) (by dsimp only; omega)) (by dsimp only; omega)⟩


set_option maxHeartbeats 1000000 in
theorem times_ok6 (ax ay bx b : Int) (w : World) (he : Hid (e2 6 ax ay bx b = 0)) (x y er : Int) (hx : Hid ((sm2 (ax * bx - ay * b) (ax * b + ay * bx + ay * b) = true ∧ x = ax * bx - ay * b ∧ y = ax * b + ay * bx + ay * b ∧ er = 0) ∨ (sm2 (ax * bx - ay * b) (ax * b + ay * bx + ay * b) = false ∧ x = 0 ∧ y = 0 ∧ er = 4))) :
    Calls Tryd.prog 47 #[.int .i64 6, .agg #[.int .i64 ax, .int .i64 ay], .agg #[.int .i64 bx, .int .i64 b]] w fun e w' => e = .returned (.tuple #[.agg #[.int .i64 x, .int .i64 y], .int .i64 er]) ∧ Below w.heap.size w w' := by
  obtain ⟨_, ha, hb⟩ := e2_zero _ _ _ _ _ (unhide he)
  have hA := (sm2_iff _ _).1 ha
  have hB := (sm2_iff _ _).1 hb
  clear ha hb
  have HP := fun W => product6 ax ay bx b W (big_mul _ _ (by omega) (by omega)) (big_mul _ _ (by omega) (by omega)) (big_mul _ _ (by omega) (by omega)) (big_mul _ _ (by omega) (by omega))
  have HP' := hide HP
  clear HP
  generalize hX : ax * bx - ay * b = X at *
  generalize hY : ax * b + ay * bx + ay * b = Y at *
  clear hX hY hA hB
  go_enter Tryd.func47, Tryd.ntmps47
  go_wp2_with fail
  refine (wrongPoints2 6 ax ay bx b _ _ _ ?_ ?_ ?_ ?_ ?_).mono ?_
  · simp
  · simp [go_sem]
  · simp [go_sem]
  · simp [go_sem]
  · simp [go_sem]
  rw [unhide he]
  rintro e w1 ⟨rfl, hb⟩
  obtain ⟨hc, hf⟩ := bcell hb
  have hz : w.heap.size + 1 + 1 < w1.heap.size := by have := hb.size; simp at this; omega
  go_wp2_with fail
  refine (unhide HP' _).mono ?_
  rintro e w2 ⟨rfl, hb2⟩
  obtain ⟨hc2, hf2⟩ := bcell hb2
  have hz2 : w.heap.size + 1 + 1 < w2.heap.size := by have := hb2.size; omega
  go_wp2_with fail
  rcases unhide hx with ⟨hs, rfl, rfl, rfl⟩ | ⟨hs, rfl, rfl, rfl⟩
  · refine (bounded_ok _ _ _ hs).mono ?_
    rintro e w3 ⟨rfl, hb3⟩
    obtain ⟨hc3, hf3⟩ := bcell hb3
    have hz3 : w.heap.size + 1 + 1 < w3.heap.size := by have := hb3.size; omega
    go_wp2
    exact bodyPost_ret (v := .tuple #[.agg #[.int .i64 x, .int .i64 y], .int .i64 0]) (by simp [results, Tryd.results47, go_sem, hc, hc2, hc3, hz, hz2]) rfl ⟨rfl, bset (bset (btrans (btrans (btrans (bal (bal (bal (bal (Below.refl _ _))))) hb) hb2) hb3) (by dsimp only; omega)) (by dsimp only; omega)⟩
  · refine (bounded_much _ _ _ hs).mono ?_
    rintro e w3 ⟨rfl, hb3⟩
    obtain ⟨hc3, hf3⟩ := bcell hb3
    have hz3 : w.heap.size + 1 + 1 < w3.heap.size := by have := hb3.size; omega
    go_wp2
    exact bodyPost_ret (v := .tuple #[.agg #[.int .i64 0, .int .i64 0], .int .i64 4]) (by simp [results, Tryd.results47, go_sem, hc, hc2, hc3, hz, hz2]) rfl ⟨rfl, bset (bset (btrans (btrans (btrans (bal (bal (bal (bal (Below.refl _ _))))) hb) hb2) hb3) (by dsimp only; omega)) (by dsimp only; omega)⟩

theorem times_any (g ax ay bx b : Int) (w : World) :
    Calls Tryd.prog 47 #[.int .i64 g, .agg #[.int .i64 ax, .int .i64 ay], .agg #[.int .i64 bx, .int .i64 b]] w fun e w' => e = .returned (.tuple #[.agg #[.int .i64 (tX g ax ay bx b), .int .i64 (tY g ax ay bx b)], .int .i64 (tE g ax ay bx b)]) ∧ Below w.heap.size w w' := by
  by_cases h : e2 g ax ay bx b = 0
  · obtain ⟨hg, _, _⟩ := e2_zero _ _ _ _ _ h
    rcases hg with rfl | rfl
    · refine times_ok4 ax ay bx b w h _ _ _ ?_
      show _ ∨ _
      cases hs : sm2 (ax * bx - ay * b) (ax * b + ay * bx) with
      | true => left; simp [tX, tY, tE, pX, pY, h, hs]
      | false => right; simp [tX, tY, tE, pX, pY, h, hs]
    · refine times_ok6 ax ay bx b w h _ _ _ ?_
      show _ ∨ _
      cases hs : sm2 (ax * bx - ay * b) (ax * b + ay * bx + ay * b) with
      | true => left; simp [tX, tY, tE, pX, pY, h, hs]
      | false => right; simp [tX, tY, tE, pX, pY, h, hs]
  · have h1 : tE g ax ay bx b = e2 g ax ay bx b := by simp [tE, h]
    have h2 : tX g ax ay bx b = 0 := by simp [tX, h1, h]
    have h3 : tY g ax ay bx b = 0 := by simp [tY, h1, h]
    rw [h1, h2, h3]
    exact times_err g ax ay bx b w _ rfl (e2_pos _ _ _ _ _ h)

theorem times_one (g x y : Int) (W : World) (hg : g = 4 ∨ g = 6) (hx : -1000 ≤ x ∧ x ≤ 1000) (hy : -1000 ≤ y ∧ y ≤ 1000) :
    Calls Tryd.prog 47 #[.int .i64 g, .agg #[.int .i64 x, .int .i64 y], .agg #[.int .i64 1, .int .i64 1]] W fun e w' => e = .returned (.tuple #[.agg #[.int .i64 (x - y), .int .i64 (if g = 6 then x + y + y else x + y)], .int .i64 0]) ∧ Below W.heap.size W w' := by
  have h := times_any g x y 1 1 W
  have e : tE g x y 1 1 = 0 := by
    unfold tE
    have e2z : e2 g x y 1 1 = 0 := by
      unfold e2
      rw [if_pos (by simp [okg, hg]), if_pos]
      rw [Bool.and_eq_true]
      exact ⟨(sm2_iff _ _).2 (by omega), (sm2_iff _ _).2 (by omega)⟩
    rw [if_pos e2z, if_pos]
    refine (sm2_iff _ _).2 ?_
    unfold pX pY
    split <;> omega
  have ex : tX g x y 1 1 = x - y := by unfold tX pX; rw [if_pos e]; omega
  have ey : tY g x y 1 1 = if g = 6 then x + y + y else x + y := by unfold tY pY; rw [if_pos e]; split <;> omega
  rw [e, ex, ey] at h
  exact h
end Go.Proofs.YtpcajcgafmmlkaaDoor

namespace Go.Proofs.YtpcajcgafmmlkaaDoor
open Go.RowKit Go.Maps

theorem apply_mid (g t : Int) (f : Bool) (bx b x y : Int) (hg : g = 4 ∨ g = 6) (ht : 0 ≤ t ∧ t < g) (hbx : -1000 ≤ bx ∧ bx ≤ 1000) (hb : -1000 ≤ b ∧ b ≤ 1000) (hx : -1000 ≤ x ∧ x ≤ 1000) (hy : -1000 ≤ y ∧ y ≤ 1000) : ApplyIs g t f bx b x y (mv g t.toNat f bx b x y).1 (mv g t.toNat f bx b x y).2 0 := by
  have h := apply_any g t f bx b x y
  have hz := Sz.mv (g := g) (show Sz g 2000 x y by unfold Sz; omega) (show Sz g 2000 bx b by unfold Sz; omega) t.toNat f
  have hw := wE_of hg ht (sm2_of (x := bx) (y := b) (by omega) (by omega))
  have hE : aE g t f bx b x y = 0 := by
    rw [aE_of g t f bx b x y hw (sm2_of (by omega) (by omega)), if_pos]
    exact sm2_of (by unfold Sz at hz; omega) (by unfold Sz at hz; omega)
  rw [hE, (aE_zero _ _ _ _ _ _ _ hE).2.2.2] at h
  exact h
/-- a third of a point lies on the line of a mirror of this turn: KF tells the flips -/
def omT (KF : Nat → Int → Int → Bool) (g zx zy : Int) (t : Nat) : Bool :=
  decide ((zx - (mv g t true 0 0 zx zy).1) % 3 = 0 ∧ (zy - (mv g t true 0 0 zx zy).2) % 3 = 0) && KF t ((zx - (mv g t true 0 0 zx zy).1) / 3) ((zy - (mv g t true 0 0 zx zy).2) / 3)
def omB (KF : Nat → Int → Int → Bool) (g zx zy : Int) (k : Nat) : Bool := (List.range k).any (omT KF g zx zy)
theorem omB_succ (KF : Nat → Int → Int → Bool) (g zx zy : Int) (k : Nat) : omB KF g zx zy (k + 1) = (omB KF g zx zy k || omT KF g zx zy k) := by
  unfold omB; rw [List.range_succ]; simp
theorem omB_some {KF : Nat → Int → Int → Bool} {g zx zy : Int} {t k : Nat} (ht : t < k) (h : omT KF g zx zy t = true) : omB KF g zx zy k = true := by
  unfold omB; exact List.any_eq_true.2 ⟨t, List.mem_range.2 ht, h⟩

set_option maxHeartbeats 8000000 in
set_option maxRecDepth 100000 in
theorem onMirror_any (g w h : Int) (p : Option Addr) (n cap q k cp s u v : Nat) (zx zy : Int) (G : Nat) (KF : Nat → Int → Int → Bool) (Rc : World → Prop) (W : World) (hg : g = 4 ∨ g = 6) (hG : g = (G : Int)) (hx : -1000 ≤ zx ∧ zx ≤ 1000) (hy : -1000 ≤ zy ∧ zy ≤ 1000)
    (hRc : ∀ V V', Rc V → Below V.heap.size V V' → Rc V') (HK : ∀ V, Rc V → ∀ t : Nat, t < G → ∀ x y : Int, -10000 ≤ x ∧ x ≤ 10000 → -10000 ≤ y ∧ y ≤ 10000 → KeepsIs 74 g w h p n cap t true x y V (KF t x y) 0) (hc : Rc W) :
    Calls Tryd.prog 48 #[pvV g w h p n cap q k cp s u v, .agg #[.int .i64 zx, .int .i64 zy]] W fun e w' => e = .returned (.bool (omB KF g zx zy G)) ∧ Below W.heap.size W w' := by
  have HT := hide (show ∀ t : Nat, t < G → ∃ T1 T2 : Int, (-5000 ≤ T1 ∧ T1 ≤ 5000) ∧ (-5000 ≤ T2 ∧ T2 ≤ 5000) ∧ ApplyIs g t true 0 0 zx zy T1 T2 0 ∧ omT KF g zx zy t = (decide ((zx - T1) % 3 = 0 ∧ (zy - T2) % 3 = 0) && KF t ((zx - T1) / 3) ((zy - T2) / 3)) from by
    intro t ht
    have ha := apply_mid g t true 0 0 zx zy hg ⟨by omega, by omega⟩ (by omega) (by omega) hx hy
    have hz := Sz.mv (g := g) (show Sz g 2000 zx zy by unfold Sz; omega) (show Sz g 0 0 0 by unfold Sz; omega) t true
    rw [Int.toNat_natCast] at ha
    exact ⟨_, _, by unfold Sz at hz; omega, by unfold Sz at hz; omega, ha, rfl⟩)
  have HKe := hide (fun V (hc : Rc V) (t : Nat) (ht : t < G) x y hx hy => kkeeps_any g w h p n cap q k cp s u v t true x y V (KF t x y) 0 Rc hRc (fun V' hV' => HK V' hV' t ht x y hx hy) hc)
  have HRc := hide hRc
  have B0 := bal (o := .cells #[.int .i64 zx, .int .i64 zy] 33) (bal (o := pcV g w h p n cap q k cp s u v) (Below.refl W.heap.size W))
  have Hc := hide (hRc _ _ hc B0)
  have HB := hide B0
  have HP := hide ((OwnP.new W g w h p n cap q k cp s u v).alloc (.cells #[.int .i64 zx, .int .i64 zy] 33))
  have Z0 := Own.new (W.alloc (pcV g w h p n cap q k cp s u v)) zx zy 33
  rw [World.size_alloc] at Z0
  have HZ := hide Z0
  have hG6 : G ≤ 6 := by omega
  clear B0 hRc HK hc Z0
  subst hG
  generalize hans : omB KF G zx zy G = ans
  have Hans := hide hans
  clear hans
  go_enter Tryd.func48, Tryd.ntmps48
  go_wp2
  generalize (W.alloc (pcV G w h p n cap q k cp s u v)).alloc (.cells #[.int .i64 zx, .int .i64 zy] 33) = w0 at *
  go_loopw [14] (fun i wr => ∃ j : Nat, j ≤ G ∧ i = .int .i64 j ∧ omB KF G zx zy j = false ∧ Below w0.heap.size w0 wr) (fun i _ => G - (intOf i).toNat)
  case atStart => exact ⟨0, Nat.zero_le _, rfl, rfl, Below.refl _ _⟩
  case round =>
    obtain ⟨j, hj, rfl, hno, hbel⟩ := hrel
    by_cases hlt : j < G
    · have q2 : (j : Int) < (G : Int) := by omega
      obtain ⟨T1, T2, b1, b2, hAp, hom⟩ := unhide HT j hlt
      have HA := hide hAp
      have HMi := hide (fun V => minus_any zx zy T1 T2 V (by omega))
      have HPa := hide (fun V => kpart_any (zx - T1) (zy - T2) 3 V (Or.inr rfl) (by omega))
      have d1 : -10000 ≤ (zx - T1) / 3 ∧ (zx - T1) / 3 ≤ 10000 := by omega
      have d2 : -10000 ≤ (zy - T2) / 3 ∧ (zy - T2) / 3 ≤ 10000 := by omega
      have HK1 := hide (fun V hc => unhide HKe V hc j hlt _ _ d1 d2)
      have Hl := hide hlt
      have hbN := bal (o := .cells #[.int .i64 j, .bool true, .int .i64 0, .int .i64 0] 41) (Below.refl wr.heap.size wr)
      have SN := btrans hbel hbN
      have c := ((unhide HP).keep SN).2
      have z := ((unhide HZ).keep SN).2.1
      have MN := OwnM.new wr j true 0 0 41
      have hfb : w0.heap.size ≤ wr.heap.size := hbel.size
      clear hAp hbel hbN hlt hj
      go_wp2_with fail
      clear c z
      generalize wr.alloc (.cells #[.int .i64 j, .bool true, .int .i64 0, .int .i64 0] 41) = wN at *
      generalize wr.heap.size = fb at *
      refine (unhide HA _).mono ?_
      rintro e w3 ⟨rfl, hb⟩
      have hb3 := bal (o := .cells #[.int .i64 T1, .int .i64 T2] 33) hb
      have S3 := btrans SN hb3
      have M3 := MN.keep hb3
      have z := ((unhide HZ).keep S3).2.1
      clear hb hb3 MN SN
      go_wp2_with fail
      clear z
      generalize w3.alloc (.cells #[.int .i64 T1, .int .i64 T2] 33) = w4 at *
      refine (unhide HMi _).mono ?_
      rintro e w5 ⟨rfl, hb⟩
      have S5 := btrans S3 hb
      have M5 := M3.keep hb
      clear hb S3 M3
      go_wp2_with fail
      refine (unhide HPa _).mono ?_
      rintro e w6 ⟨rfl, hb⟩
      by_cases hd : (zx - T1) % 3 = 0 ∧ (zy - T2) % 3 = 0
      · rw [if_pos hd]
        have hd2 : decide ((zx - T1) % 3 = 0 ∧ (zy - T2) % 3 = 0) = true := decide_eq_true hd
        rw [hd2, Bool.true_and] at hom
        clear hd hd2
        generalize (zx - T1) / 3 = D1 at *
        generalize (zy - T2) / 3 = D2 at *
        generalize KF j D1 D2 = kb at *
        have hb6 := bal (o := .cells #[.int .i64 D1, .int .i64 D2] 33) hb
        have S6 := btrans S5 hb6
        have M6 := M5.keep hb6
        have m := M6.2
        have S9 := bset (p := ⟨fb, 3, none⟩) (u := .int .i64 D2) (bset (p := ⟨fb, 2, none⟩) (u := .int .i64 D1) S6 hfb) hfb
        have c := ((unhide HP).keep S9).2
        clear hb hb6 S5 M5 M6 S6
        go_wp2_with fail
        clear c m
        generalize ((w6.alloc (.cells #[.int .i64 D1, .int .i64 D2] 33)).setCell ⟨fb, 2, none⟩ (.int .i64 D1)).setCell ⟨fb, 3, none⟩ (.int .i64 D2) = w7 at *
        refine (unhide HK1 _ (unhide HRc _ _ (unhide Hc) S9)).mono ?_
        rintro e w8 ⟨rfl, hb⟩
        have S8 := btrans S9 hb
        clear hb S9 HK1 HPa HMi HA
        cases kb with
        | true =>
          have hy : ans = true := by rw [← unhide Hans]; exact omB_some (unhide Hl) hom
          subst hy
          go_wp2
          go_ret
          exact ⟨ret_bool (by simp), btrans (unhide HB) S8⟩
        | false =>
          have Hno2 := hide (show omB KF G zx zy (j + 1) = false by rw [omB_succ, hno, hom]; rfl)
          go_wp2
          go_roundw
          case rel => exact ⟨j + 1, unhide Hl, by go_num, unhide Hno2, S8⟩
          case measure => have := unhide Hl; simp [intOf]; omega
      · rw [if_neg hd]
        have hd2 : decide ((zx - T1) % 3 = 0 ∧ (zy - T2) % 3 = 0) = false := decide_eq_false hd
        rw [hd2, Bool.false_and] at hom
        have Hno2 := hide (show omB KF G zx zy (j + 1) = false by rw [omB_succ, hno, hom]; rfl)
        have hb6 := bal (o := .cells #[.int .i64 0, .int .i64 0] 33) hb
        have S6 := btrans S5 hb6
        clear hb hb6 S5 M5 hd hd2 HK1 HPa HMi HA
        go_wp2
        go_roundw
        case rel => exact ⟨j + 1, unhide Hl, by go_num, unhide Hno2, S6⟩
        case measure => have := unhide Hl; simp [intOf]; omega
    · have cl : ¬ ((j : Int) < (G : Int)) := by omega
      have e : G = j := by omega
      subst e
      have hy : ans = false := by rw [← unhide Hans]; exact hno
      subst hy
      have HSe := hide (btrans (unhide HB) hbel)
      clear hbel hj hlt
      go_wp2
      go_ret
      exact ⟨ret_bool (by simp), unhide HSe⟩

/-- the points of thirds lie on mirrors -/
def thM (KF : Nat → Int → Int → Bool) (g : Int) (G : Nat) (m : Mv) : Bool := omB KF g ((m.2.2.1 : Int) - m.2.2.2) (if g = 6 then (m.2.2.1 : Int) + m.2.2.2 + m.2.2.2 else (m.2.2.1 : Int) + m.2.2.2) G
def thB (KF : Nat → Int → Int → Bool) (g : Int) (G : Nat) (L : List Mv) (s u v : Nat) : Bool :=
  match fi L 2 false with
  | some m => (bAll 2 false m.2.2.1 m.2.2.2 s u v 3 3).all (thM KF g G)
  | none => true
theorem all_take {α : Type} (p : α → Bool) (l : List α) (k : Nat) (m : α) (h : l[k]? = some m) : (l.take (k + 1)).all p = ((l.take k).all p && p m) := by
  rw [List.take_add_one, h]
  simp
end Go.Proofs.YtpcajcgafmmlkaaDoor

namespace Go.Proofs.YtpcajcgafmmlkaaDoor
open Go.RowKit Go.Maps

set_option maxHeartbeats 1500000 in
set_option maxRecDepth 100000 in
theorem thirds_any (g w h : Int) (p : Option Addr) (n cap q cp s u v : Nat) (L : List Mv) (X Y : Nat) (G : Nat) (KF : Nat → Int → Int → Bool) (Rc : World → Prop) (W : World) (hg : g = 4 ∨ g = 6) (hG : g = (G : Int)) (hs : s ≤ 24) (hu : u ≤ 24) (hv : v ≤ 24)
    (hl : L.length ≤ 6912) (hf : fi L 2 false = some (2, false, X, Y)) (hX : X ≤ 24) (hY : Y ≤ 24)
    (hRc : ∀ V V', Rc V → Below V.heap.size V V' → Rc V') (HK : ∀ V, Rc V → ∀ t : Nat, t < G → ∀ x y : Int, -10000 ≤ x ∧ x ≤ 10000 → -10000 ≤ y ∧ y ≤ 10000 → KeepsIs 74 g w h p n cap t true x y V (KF t x y) 0) (hm : MRow W q L) (hc : Rc W) :
    Calls Tryd.prog 29 #[pvV g w h p n cap q L.length cp s u v] W fun e w' => e = .returned (.bool ((bAll 2 false X Y s u v 3 3).all (thM KF g G))) ∧ Below W.heap.size W w' := by
  have HF := hide (show ∀ V : World, MRow V q L → Calls Tryd.prog 43 #[pvV g w h p n cap q L.length cp s u v, .int .i64 2, .bool false] V fun e w' => e = .returned (.tuple #[.agg #[.int .i64 2, .bool false, .int .i64 X, .int .i64 Y], .bool true]) ∧ Below V.heap.size V w' from fun V hm => by
    have := first_any g w h p n cap q cp s u v L 2 false V hl hm
    rw [hf] at this
    exact this)
  have HBe := hide (show ∀ V : World, Calls Tryd.prog 44 #[pvV g w h p n cap q L.length cp s u v, .agg #[.int .i64 2, .bool false, .int .i64 X, .int .i64 Y], .int .i64 3] V fun e w' => ∃ b cp', e = .returned (.slice (some ⟨b, 0, none⟩) (bAll 2 false X Y s u v 3 3).length cp') ∧ (MRow w' b (bAll 2 false X Y s u v 3 3) ∧ V.heap.size ≤ b) ∧ Below V.heap.size V w' from fun V =>
    behind_any g w h p n cap q L.length cp s u v 2 false X Y 3 V (by omega) hs hu hv hX hY)
  have HOm := hide (fun (V : World) (zx zy : Int) (hx : -1000 ≤ zx ∧ zx ≤ 1000) (hy : -1000 ≤ zy ∧ zy ≤ 1000) (hc : Rc V) => onMirror_any g w h p n cap q L.length cp s u v zx zy G KF Rc V hg hG hx hy hRc HK hc)
  have HTi := hide (fun (V : World) (x y : Nat) (hx : x ≤ 200) (hy : y ≤ 200) => times_one g x y V hg (by omega) (by omega))
  have hBL : ∀ m ∈ bAll 2 false X Y s u v 3 3, m.1 = 2 ∧ m.2.1 = false ∧ m.2.2.1 ≤ 200 ∧ m.2.2.2 ≤ 200 := by
    intro m hm
    unfold bAll bRow bMv at hm
    simp only [List.mem_flatMap, List.mem_map, List.mem_range] at hm
    obtain ⟨i, hi, j, hj, rfl⟩ := hm
    have l1 : i * s ≤ 48 := Nat.le_trans (Nat.mul_le_mul (show i ≤ 2 by omega) hs) (by omega)
    have l2 : j * u ≤ 48 := Nat.le_trans (Nat.mul_le_mul (show j ≤ 2 by omega) hu) (by omega)
    have l3 : j * v ≤ 48 := Nat.le_trans (Nat.mul_le_mul (show j ≤ 2 by omega) hv) (by omega)
    exact ⟨rfl, rfl, by simp only; omega, by simp only; omega⟩
  have HBL := hide hBL
  have hlen : (bAll 2 false X Y s u v 3 3).length = 9 := by rw [bAll_len]
  generalize bAll 2 false X Y s u v 3 3 = BL at *
  have HRc := hide hRc
  have B0 := bal (o := pcV g w h p n cap q L.length cp s u v) (Below.refl W.heap.size W)
  have Hm := hm.keep B0
  have Hc := hide (hRc _ _ hc B0)
  have HB := hide B0
  have HP := hide (OwnP.new W g w h p n cap q L.length cp s u v)
  generalize hans : BL.all (thM KF g G) = ans
  have Hans := hide hans
  clear hm B0 hRc HK hc hBL hf hans hG
  go_enter Tryd.func29, Tryd.ntmps29
  go_wp2_with fail
  generalize W.alloc (pcV g w h p n cap q L.length cp s u v) = w0 at *
  refine (unhide HF _ Hm).mono ?_
  rintro e w1 ⟨rfl, hb⟩
  have S1 := bal (o := .cells #[.int .i64 2, .bool false, .int .i64 X, .int .i64 Y] 41) hb
  have c := ((unhide HP).keep S1).2
  clear hb Hm
  go_wp2_with fail
  clear c
  generalize w1.alloc (.cells #[.int .i64 2, .bool false, .int .i64 X, .int .i64 Y] 41) = w2 at *
  refine (unhide HBe _).mono ?_
  rintro e w3 ⟨qb, cpb, rfl, ⟨hrow, hqb⟩, hb⟩
  have HS3 := hide (btrans S1 hb)
  have HR := hide hrow
  have hq4 : BL.length ≤ 9 := by omega
  clear hb S1 hrow hqb
  go_wp2
  go_loopw [18] (fun i wr => ∃ j : Nat, j ≤ BL.length ∧ i = .int .i64 j ∧ (BL.take j).all (thM KF g G) = true ∧ Below w3.heap.size w3 wr) (fun i _ => BL.length - (intOf i).toNat)
  case atStart => exact ⟨0, Nat.zero_le _, rfl, rfl, Below.refl _ _⟩
  case round =>
    obtain ⟨j, hj, rfl, hyes, hbel⟩ := hrel
    by_cases hlj : j < BL.length
    · have r1 : (0 : Int) ≤ (j : Int) := by omega
      have r2 : (j : Int) < (BL.length : Int) := by omega
      obtain ⟨⟨a1, b1, X1, Y1⟩, hmj⟩ : ∃ m, BL[j]? = some m := ⟨_, List.getElem?_eq_getElem hlj⟩
      obtain ⟨e1, e2, e3, e4⟩ := unhide HBL _ (List.mem_of_getElem? hmj)
      dsimp only at e1 e2 e3 e4
      clear e1 e2
      have p1 := ((unhide HR).keep hbel).2 j _ hmj
      have Hat := hide (all_take (thM KF g G) BL j _ hmj)
      have hmemb := List.mem_of_getElem? hmj
      have hth : thM KF g G (a1, b1, X1, Y1) = omB KF g ((X1 : Int) - Y1) (if g = 6 then (X1 : Int) + Y1 + Y1 else (X1 : Int) + Y1) G := rfl
      have HT1 := hide (fun V => unhide HTi V X1 Y1 e3 e4)
      have bz : -1000 ≤ (if g = 6 then (X1 : Int) + Y1 + Y1 else (X1 : Int) + Y1) ∧ (if g = 6 then (X1 : Int) + Y1 + Y1 else (X1 : Int) + Y1) ≤ 1000 := by split <;> omega
      have bw : -1000 ≤ (X1 : Int) - Y1 ∧ (X1 : Int) - Y1 ≤ 1000 := by omega
      generalize (if g = 6 then (X1 : Int) + Y1 + Y1 else (X1 : Int) + Y1) = Z2 at *
      generalize (X1 : Int) - (Y1 : Int) = Z1 at *
      have HO1 := hide (fun V hc => unhide HOm V Z1 Z2 bw bz hc)
      rw [← hth] at HO1
      have Hl := hide hlj
      have hbN := bal (o := .cells #[.int .i64 a1, .bool b1, .int .i64 X1, .int .i64 Y1] 41) (Below.refl wr.heap.size wr)
      have SN := btrans (unhide HS3) (btrans hbel hbN)
      have hbel2 := btrans hbel hbN
      have c := ((unhide HP).keep SN).2
      clear hth hmj hbel hbN hj hlj
      go_wp2_with fail
      clear c p1
      generalize wr.alloc (.cells #[.int .i64 a1, .bool b1, .int .i64 X1, .int .i64 Y1] 41) = wN at *
      refine (unhide HT1 _).mono ?_
      rintro e w5 ⟨rfl, hb⟩
      have hb5 := bal (o := .cells #[.int .i64 Z1, .int .i64 Z2] 33) hb
      have S5 := btrans SN hb5
      have S5' := btrans hbel2 hb5
      have c := ((unhide HP).keep S5).2
      clear hb hb5 SN hbel2
      go_wp2_with fail
      clear c
      generalize w5.alloc (.cells #[.int .i64 Z1, .int .i64 Z2] 33) = w6 at *
      refine (unhide HO1 _ (unhide HRc _ _ (unhide Hc) S5)).mono ?_
      rintro e w7 ⟨rfl, hb⟩
      have S7 := btrans S5 hb
      have S7' := btrans S5' hb
      clear hb S5 S5' HO1 HT1
      cases htm : thM KF g G (a1, b1, X1, Y1) with
      | true =>
        have Hy2 := hide (show (BL.take (j + 1)).all (thM KF g G) = true by rw [unhide Hat, hyes, htm]; rfl)
        clear Hat htm hyes
        go_wp2
        go_roundw
        case rel => exact ⟨j + 1, unhide Hl, by go_num, unhide Hy2, S7'⟩
        case measure => have := unhide Hl; simp [intOf]; omega
      | false =>
        have hy : ans = false := by
          rw [← unhide Hans]
          refine bfalse (fun k => ?_)
          have := List.all_eq_true.1 k _ hmemb
          rw [htm] at this
          cases this
        subst hy
        clear htm hyes Hat
        go_wp2
        go_ret
        exact ⟨ret_bool (by simp), btrans (unhide HB) S7⟩
    · have cl : ¬ ((j : Int) < (BL.length : Int)) := by omega
      have e : BL.length = j := by omega
      rw [← e, List.take_length] at hyes
      have hy : ans = true := by rw [← unhide Hans]; exact hyes
      subst hy
      have HSe := hide (btrans (unhide HB) (btrans (unhide HS3) hbel))
      clear hbel hj hlj e
      go_wp2
      go_ret
      exact ⟨ret_bool (by simp), unhide HSe⟩
end Go.Proofs.YtpcajcgafmmlkaaDoor

namespace Go.Proofs.YtpcajcgafmmlkaaDoor
open Go.RowKit Go.Maps

/-- the table of the kinds -/
def kdO (T G : Nat) (F : Nat → Option (Bool × Bool)) (th : Bool) : Int :=
  if Cn (fun t => (F t).isSome) G = 0 then ([0, 1, 2, 13, 10, 0, 16] : List Int).getD T 0
  else if T = 1 then chO G F 3 4 5 0 else if T = 2 then chO G F 6 8 9 7 else if T = 3 then (if th = true then 14 else 15) else if T = 4 then (if allW G F (fun h => h.1) = true then 11 else 12) else 17

set_option maxHeartbeats 2000000 in
set_option maxRecDepth 100000 in
theorem kind_plain (g w h : Int) (p : Option Addr) (n cap q k cp s u v : Nat) (T G : Nat) (F : Nat → Option (Bool × Bool)) (th : Bool) (Rc : World → Prop) (W : World) (hT : T ≤ 6) (hRc : ∀ V V', Rc V → Below V.heap.size V V' → Rc V')
    (H1 : ∀ V, Rc V → Calls Tryd.prog 25 #[pvV g w h p n cap q k cp s u v] V fun e w' => e = .returned (.int .i64 T) ∧ Below V.heap.size V w')
    (H2 : ∀ V, Rc V → Calls Tryd.prog 26 #[pvV g w h p n cap q k cp s u v] V fun e w' => ∃ b, e = .returned (.map (some b)) ∧ MapIs w' b G F ∧ Below V.heap.size V w')
    (H3 : T = 3 → ∀ V, Rc V → Calls Tryd.prog 29 #[pvV g w h p n cap q k cp s u v] V fun e w' => e = .returned (.bool th) ∧ Below V.heap.size V w')
    (hc : Rc W) :
    Calls Tryd.prog 11 #[pvV g w h p n cap q k cp s u v] W fun e w' => e = .returned (.int .i64 (kdO T G F th)) ∧ Below W.heap.size W w' := by
  have HRc := hide hRc
  have K1 := hide H1
  have K2 := hide H2
  have K3 := hide H3
  have B0 := bal (o := pcV g w h p n cap q k cp s u v) (Below.refl W.heap.size W)
  have Hc := hide (hRc _ _ hc B0)
  have HB := hide B0
  have HP := hide (OwnP.new W g w h p n cap q k cp s u v)
  generalize hans : kdO T G F th = ans
  have Hans := hide hans
  clear B0 hRc H1 H2 H3 hc hans
  go_enter Tryd.func11, Tryd.ntmps11
  go_wp2_with fail
  generalize W.alloc (pcV g w h p n cap q k cp s u v) = w0 at *
  have Mk := hide (show ∀ V, Below w0.heap.size w0 V → Below w0.heap.size w0 V ∧ (V.cell? ⟨W.heap.size, 0, none⟩ = some (.int .i64 g) ∧ V.cell? ⟨W.heap.size, 1, none⟩ = some (.int .i64 w) ∧ V.cell? ⟨W.heap.size, 2, none⟩ = some (.int .i64 h) ∧ V.cell? ⟨W.heap.size, 3, none⟩ = some (.slice p n cap) ∧ V.cell? ⟨W.heap.size, 4, none⟩ = some (.slice (some ⟨q, 0, none⟩) k cp) ∧ V.cell? ⟨W.heap.size, 5, none⟩ = some (.int .i64 s) ∧ V.cell? ⟨W.heap.size, 6, none⟩ = some (.int .i64 0) ∧ V.cell? ⟨W.heap.size, 7, none⟩ = some (.int .i64 u) ∧ V.cell? ⟨W.heap.size, 8, none⟩ = some (.int .i64 v)) from fun V hV => ⟨hV, ((unhide HP).keep hV).2⟩)
  go_region_held3 (fun V => Below w0.heap.size w0 V ∧ (V.cell? ⟨W.heap.size, 0, none⟩ = some (.int .i64 g) ∧ V.cell? ⟨W.heap.size, 1, none⟩ = some (.int .i64 w) ∧ V.cell? ⟨W.heap.size, 2, none⟩ = some (.int .i64 h) ∧ V.cell? ⟨W.heap.size, 3, none⟩ = some (.slice p n cap) ∧ V.cell? ⟨W.heap.size, 4, none⟩ = some (.slice (some ⟨q, 0, none⟩) k cp) ∧ V.cell? ⟨W.heap.size, 5, none⟩ = some (.int .i64 s) ∧ V.cell? ⟨W.heap.size, 6, none⟩ = some (.int .i64 0) ∧ V.cell? ⟨W.heap.size, 7, none⟩ = some (.int .i64 u) ∧ V.cell? ⟨W.heap.size, 8, none⟩ = some (.int .i64 v)))
    (first
      | (exact unhide Mk _ (Below.drew (Below.refl _ _)))
      | (exact unhide Mk _ (btrans (by assumption : Below w0.heap.size w0 _ ∧ _).1 hb)))
    (first
      | (go_at_call 25; refine (unhide K1 _ (unhide HRc _ _ (unhide Hc) (by assumption : Below w0.heap.size w0 _ ∧ _).1)).mono ?_; rintro e w6 ⟨rfl, hb⟩)
      | (go_at_call 26; refine (unhide K2 _ (unhide HRc _ _ (unhide Hc) (by assumption : Below w0.heap.size w0 _ ∧ _).1)).mono ?_; rintro e w7 ⟨bm, rfl, hmap, hb⟩))
  have S7 := (by assumption : Below w0.heap.size w0 w7 ∧ _).1
  rename Below w0.heap.size w0 w7 ∧ _ => hHeld
  have Hmap := hide hmap
  have HS7 := hide S7
  obtain ⟨D, hown, hD⟩ := hmap
  have hsize := hD.1
  clear hHeld hb hD S7 Mk
  by_cases hz : Cn (fun t => (F t).isSome) G = 0
  · have HW := hide (fun V => withoutFlips_any T V hT)
    have hy : ans = ([0, 1, 2, 13, 10, 0, 16] : List Int).getD T 0 := by rw [← unhide Hans]; unfold kdO; rw [if_pos hz]
    rw [← hy] at HW
    rw [hz] at hsize
    clear hz hy
    go_wp2_with (first | (at_len; refine wpList_len_own _ rfl _ 56 rfl 3 83 Tryd.underlying56 _ bm G D rfl hown ?_; rw [hsize]; go_frame) | fail)
    refine (unhide HW _).mono ?_
    rintro e w8 ⟨rfl, hb⟩
    have S8 := btrans (unhide HS7) hb
    clear hb
    go_wp2
    go_ret
    exact ⟨rfl, btrans (unhide HB) S8⟩
  · have hzz : ((Maps.size D : Int) == 0) = false := by rw [hsize]; simp; omega
    have Hz := hide hz
    clear hz hsize
    by_cases h1 : T = 1
    · have hy : ans = chO G F 3 4 5 0 := by rw [← unhide Hans]; unfold kdO; rw [if_neg (unhide Hz), if_pos h1]
      have HC := hide (choose_any bm G F 3 4 5 0 w7 (unhide Hmap))
      rw [← hy] at HC
      have t1 : ((T : Int) == 1) = true := by simp; omega
      clear hy h1
      go_wp2_with (first | (at_len; refine wpList_len_own _ rfl _ 56 rfl 3 83 Tryd.underlying56 _ bm G D rfl hown ?_; go_frame) | fail)
      refine (unhide HC).mono ?_
      rintro e w8 ⟨rfl, hb⟩
      have S8 := btrans (unhide HS7) hb
      clear hb
      go_wp2
      go_ret
      exact ⟨rfl, btrans (unhide HB) S8⟩
    · have t1 : ((T : Int) == 1) = false := by simp; omega
      by_cases h2 : T = 2
      · have hy : ans = chO G F 6 8 9 7 := by rw [← unhide Hans]; unfold kdO; rw [if_neg (unhide Hz), if_neg h1, if_pos h2]
        have HC := hide (choose_any bm G F 6 8 9 7 w7 (unhide Hmap))
        rw [← hy] at HC
        have t2 : ((T : Int) == 2) = true := by simp; omega
        clear hy h1 h2
        go_wp2_with (first | (at_len; refine wpList_len_own _ rfl _ 56 rfl 3 83 Tryd.underlying56 _ bm G D rfl hown ?_; go_frame) | fail)
        refine (unhide HC).mono ?_
        rintro e w8 ⟨rfl, hb⟩
        have S8 := btrans (unhide HS7) hb
        clear hb
        go_wp2
        go_ret
        exact ⟨rfl, btrans (unhide HB) S8⟩
      · have t2 : ((T : Int) == 2) = false := by simp; omega
        by_cases h3 : T = 3
        · have hy : ans = if th = true then 14 else 15 := by rw [← unhide Hans]; unfold kdO; rw [if_neg (unhide Hz), if_neg h1, if_neg h2, if_pos h3]
          have HC := hide (unhide K3 h3 w7 (unhide HRc _ _ (unhide Hc) (unhide HS7)))
          have t3 : ((T : Int) == 3) = true := by simp; omega
          have c := ((unhide HP).keep (unhide HS7)).2
          clear h1 h2 h3 K3
          go_wp2_with (first | (at_len; refine wpList_len_own _ rfl _ 56 rfl 3 83 Tryd.underlying56 _ bm G D rfl hown ?_; go_frame) | fail)
          clear c
          refine (unhide HC).mono ?_
          rintro e w8 ⟨rfl, hb⟩
          have S8 := btrans (unhide HS7) hb
          clear hb HC
          cases th with
          | true =>
            rw [if_pos rfl] at hy
            subst hy
            go_wp2
            go_ret
            exact ⟨rfl, btrans (unhide HB) S8⟩
          | false =>
            rw [if_neg (by simp)] at hy
            subst hy
            go_wp2
            go_ret
            exact ⟨rfl, btrans (unhide HB) S8⟩
        · have t3 : ((T : Int) == 3) = false := by simp; omega
          by_cases h4 : T = 4
          · have hy : ans = if allW G F (fun h => h.1) = true then 11 else 12 := by rw [← unhide Hans]; unfold kdO; rw [if_neg (unhide Hz), if_neg h1, if_neg h2, if_neg h3, if_pos h4]
            have HC := hide (mirrorsOfEach_any bm G F w7 (unhide Hmap))
            have t4 : ((T : Int) == 4) = true := by simp; omega
            generalize allW G F (fun h => h.1) = ml at *
            clear h1 h2 h3 h4
            go_wp2_with (first | (at_len; refine wpList_len_own _ rfl _ 56 rfl 3 83 Tryd.underlying56 _ bm G D rfl hown ?_; go_frame) | fail)
            refine (unhide HC).mono ?_
            rintro e w8 ⟨rfl, hb⟩
            have S8 := btrans (unhide HS7) hb
            clear hb HC
            cases ml with
            | true =>
              rw [if_pos rfl] at hy
              subst hy
              go_wp2
              go_ret
              exact ⟨rfl, btrans (unhide HB) S8⟩
            | false =>
              rw [if_neg (by simp)] at hy
              subst hy
              go_wp2
              go_ret
              exact ⟨rfl, btrans (unhide HB) S8⟩
          · have hy : ans = 17 := by rw [← unhide Hans]; unfold kdO; rw [if_neg (unhide Hz), if_neg h1, if_neg h2, if_neg h3, if_neg h4]
            have t4 : ((T : Int) == 4) = false := by simp; omega
            subst hy
            clear h1 h2 h3 h4
            go_wp2_with (first | (at_len; refine wpList_len_own _ rfl _ 56 rfl 3 83 Tryd.underlying56 _ bm G D rfl hown ?_; go_frame) | fail)
            go_ret
            exact ⟨rfl, btrans (unhide HB) (unhide HS7)⟩
end Go.Proofs.YtpcajcgafmmlkaaDoor

namespace Go.Proofs.YtpcajcgafmmlkaaDoor
open Go.RowKit Go.Maps

abbrev zpV : Value := .agg #[.int .i64 0, .int .i64 0, .int .i64 0, .slice none 0 0, .slice none 0 0, .int .i64 0, .int .i64 0, .int .i64 0, .int .i64 0]
abbrev zpC : Obj := .cells #[.int .i64 0, .int .i64 0, .int .i64 0, .slice none 0 0, .slice none 0 0, .int .i64 0, .int .i64 0, .int .i64 0, .int .i64 0] 35
def OwnZ (W : World) (b : Nat) : Prop := b < W.heap.size ∧ (W.cell? ⟨b, 0, none⟩ = some (.int .i64 0) ∧ W.cell? ⟨b, 1, none⟩ = some (.int .i64 0) ∧ W.cell? ⟨b, 2, none⟩ = some (.int .i64 0) ∧ W.cell? ⟨b, 3, none⟩ = some (.slice none 0 0) ∧ W.cell? ⟨b, 4, none⟩ = some (.slice none 0 0) ∧ W.cell? ⟨b, 5, none⟩ = some (.int .i64 0) ∧ W.cell? ⟨b, 6, none⟩ = some (.int .i64 0) ∧ W.cell? ⟨b, 7, none⟩ = some (.int .i64 0) ∧ W.cell? ⟨b, 8, none⟩ = some (.int .i64 0)) ∧ (W.frozen? ⟨b, 0, none⟩ = false ∧ W.frozen? ⟨b, 1, none⟩ = false ∧ W.frozen? ⟨b, 2, none⟩ = false ∧ W.frozen? ⟨b, 3, none⟩ = false ∧ W.frozen? ⟨b, 4, none⟩ = false ∧ W.frozen? ⟨b, 5, none⟩ = false ∧ W.frozen? ⟨b, 6, none⟩ = false ∧ W.frozen? ⟨b, 7, none⟩ = false ∧ W.frozen? ⟨b, 8, none⟩ = false)
theorem OwnZ.new (W : World) : OwnZ (W.alloc zpC) W.heap.size := by
  refine ⟨by simp, ⟨?_, ?_, ?_, ?_, ?_, ?_, ?_, ?_, ?_⟩, ?_, ?_, ?_, ?_, ?_, ?_, ?_, ?_, ?_⟩ <;> simp [go_sem]
theorem OwnZ.keep {W w1 : World} {b : Nat} (h : OwnZ W b) (hb : Below W.heap.size W w1) : OwnZ w1 b := by
  obtain ⟨h0, ⟨a0, a1, a2, a3, a4, a5, a6, a7, a8⟩, f0, f1, f2, f3, f4, f5, f6, f7, f8⟩ := h
  exact ⟨Nat.lt_of_lt_of_le h0 hb.size, ⟨keepC hb h0 a0, keepC hb h0 a1, keepC hb h0 a2, keepC hb h0 a3, keepC hb h0 a4, keepC hb h0 a5, keepC hb h0 a6, keepC hb h0 a7, keepC hb h0 a8⟩, keepF hb h0 f0, keepF hb h0 f1, keepF hb h0 f2, keepF hb h0 f3, keepF hb h0 f4, keepF hb h0 f5, keepF hb h0 f6, keepF hb h0 f7, keepF hb h0 f8⟩

set_option maxHeartbeats 1500000 in
set_option maxRecDepth 100000 in
theorem patternOf_err (g w h : Int) (p : Option Addr) (n cap : Nat) (W : World) (er : Int) (hp : 1 ≤ er) (Rc : World → Prop) (hRc : ∀ V V', Rc V → Below V.heap.size V V' → Rc V')
    (H1 : ∀ V, Rc V → Calls Tryd.prog 23 #[Ch.ch g w h p n cap] V fun e w' => e = .returned (.tuple #[.slice none 0 0, .int .i64 er]) ∧ Below V.heap.size V w') (hc : Rc W) :
    Calls Tryd.prog 10 #[Ch.ch g w h p n cap] W fun e w' => e = .returned (.tuple #[zpV, .int .i64 er]) ∧ Below W.heap.size W w' := by
  have K1 := hide H1
  have B0 := bal (o := zpC) (bal (o := .cells #[.int .i64 g, .int .i64 w, .int .i64 h, .slice p n cap] 24) (Below.refl W.heap.size W))
  have Hc := hide (hRc _ _ hc B0)
  have HB := hide B0
  have Z0 := OwnZ.new (W.alloc (.cells #[.int .i64 g, .int .i64 w, .int .i64 h, .slice p n cap] 24))
  rw [World.size_alloc] at Z0
  have hee : (er != 0) = true := by simp; omega
  clear hc hRc H1 B0 hp
  go_enter Tryd.func10, Tryd.ntmps10
  go_wp2_with fail
  generalize (W.alloc (.cells #[.int .i64 g, .int .i64 w, .int .i64 h, .slice p n cap] 24)).alloc zpC = w0 at *
  refine (unhide K1 _ (unhide Hc)).mono ?_
  rintro e w1 ⟨rfl, hb⟩
  have z := (Z0.keep hb).2
  have S1 := btrans (unhide HB) hb
  clear hb Z0
  go_wp2
  exact bodyPost_ret (v := .tuple #[zpV, .int .i64 er]) (by simp [results, Tryd.results10, go_sem, z]) rfl ⟨rfl, bset (bset (bset (bset (bset (bset (bset (bset (bset S1 (by dsimp only; omega)) (by dsimp only; omega)) (by dsimp only; omega)) (by dsimp only; omega)) (by dsimp only; omega)) (by dsimp only; omega)) (by dsimp only; omega)) (by dsimp only; omega)) (by dsimp only; omega)⟩

set_option maxHeartbeats 1500000 in
set_option maxRecDepth 100000 in
theorem patternOf_ok (g w h : Int) (p : Option Addr) (n cap : Nat) (L : List Mv) (s u v : Nat) (hL0 : ∃ m, L[0]? = some m) (W : World) (Rc : World → Prop) (hRc : ∀ V V', Rc V → Below V.heap.size V V' → Rc V')
    (H1 : ∀ V, Rc V → Calls Tryd.prog 23 #[Ch.ch g w h p n cap] V fun e w' => ∃ q cp, e = .returned (.tuple #[.slice (some ⟨q, 0, none⟩) L.length cp, .int .i64 0]) ∧ MRow w' q L ∧ Below V.heap.size V w')
    (H2 : ∀ V, Rc V → Calls Tryd.prog 24 #[Ch.ch g w h p n cap] V fun e w' => e = .returned (.tuple #[.agg #[.int .i64 s, .int .i64 0], .agg #[.int .i64 u, .int .i64 v], .int .i64 0]) ∧ Below V.heap.size V w') (hc : Rc W) :
    Calls Tryd.prog 10 #[Ch.ch g w h p n cap] W fun e w' => ∃ q cp, e = .returned (.tuple #[pvV g w h p n cap q L.length cp s u v, .int .i64 0]) ∧ MRow w' q L ∧ Below W.heap.size W w' := by
  have K1 := hide H1
  have K2 := hide H2
  have HRc := hide hRc
  have B0 := bal (o := zpC) (bal (o := .cells #[.int .i64 g, .int .i64 w, .int .i64 h, .slice p n cap] 24) (Below.refl W.heap.size W))
  have Hc := hide (hRc _ _ hc B0)
  have HB := hide B0
  have HC0 := hide ((Ch.OwnC.new W g w h p n cap 24).alloc zpC)
  have Z0 := OwnZ.new (W.alloc (.cells #[.int .i64 g, .int .i64 w, .int .i64 h, .slice p n cap] 24))
  rw [World.size_alloc] at Z0
  have HZ := hide Z0
  clear hc hRc H1 H2 B0 Z0
  go_enter Tryd.func10, Tryd.ntmps10
  go_wp2_with fail
  have hwz : W.heap.size + 1 < ((W.alloc (.cells #[.int .i64 g, .int .i64 w, .int .i64 h, .slice p n cap] 24)).alloc zpC).heap.size := by simp
  generalize (W.alloc (.cells #[.int .i64 g, .int .i64 w, .int .i64 h, .slice p n cap] 24)).alloc zpC = w0 at *
  refine (unhide K1 _ (unhide Hc)).mono ?_
  rintro e w1 ⟨q, cp, rfl, hm, hb⟩
  have S1 := hb
  have HM := hide hm
  have HQ := hide hm.1
  have c := ((unhide HC0).keep S1).2
  clear hb hm
  go_wp2_with fail
  clear c
  refine (unhide K2 _ (unhide HRc _ _ (unhide Hc) S1)).mono ?_
  rintro e w2 ⟨rfl, hb⟩
  have hb2 := bal (o := .cells #[.int .i64 u, .int .i64 v] 33) (bal (o := .cells #[.int .i64 s, .int .i64 0] 33) hb)
  have S2 := btrans S1 hb2
  have c := ((unhide HC0).keep S2).2
  have z := ((unhide HZ).keep S2).2
  have HM2 := hide ((unhide HM).keep hb2)
  have hne : W.heap.size + 1 ≠ q := by
    intro e
    obtain ⟨m0, h0⟩ := hL0
    have a := ((unhide HM2).2 0 m0 h0).2.1
    have b := z.1.2.1
    rw [← e, show 0 * 4 + 1 = 1 from rfl, b] at a
    cases a
  have HR2 := hide ((((((((((unhide HM2).far (o := 0) (v := .int .i64 g) hne).far (o := 1) (v := .int .i64 w) hne).far (o := 2) (v := .int .i64 h) hne).far (o := 3) (v := .slice p n cap) hne).far (o := 4) (v := .slice (some ⟨q, 0, none⟩) L.length cp) hne).far (o := 5) (v := .int .i64 s) hne).far (o := 6) (v := .int .i64 0) hne).far (o := 7) (v := .int .i64 u) hne).far (o := 8) (v := .int .i64 v) hne)
  have HSf := hide (btrans (unhide HB) S2)
  clear hb hb2 S1 S2 HM HM2 hL0
  go_wp2
  exact bodyPost_ret (v := .tuple #[pvV g w h p n cap q L.length cp s u v, .int .i64 0]) (by simp [results, Tryd.results10, go_sem, z]) rfl ⟨q, cp, rfl, unhide HR2, bset (bset (bset (bset (bset (bset (bset (bset (bset (unhide HSf) (by dsimp only; omega)) (by dsimp only; omega)) (by dsimp only; omega)) (by dsimp only; omega)) (by dsimp only; omega)) (by dsimp only; omega)) (by dsimp only; omega)) (by dsimp only; omega)) (by dsimp only; omega)⟩

set_option maxHeartbeats 1500000 in
set_option maxRecDepth 100000 in
theorem Kind_err (g w h : Int) (p : Option Addr) (n cap : Nat) (W : World) (er : Int) (hp : 1 ≤ er) (Rc : World → Prop) (hRc : ∀ V V', Rc V → Below V.heap.size V V' → Rc V')
    (H1 : ∀ V, Rc V → Calls Tryd.prog 10 #[Ch.ch g w h p n cap] V fun e w' => e = .returned (.tuple #[zpV, .int .i64 er]) ∧ Below V.heap.size V w') (hc : Rc W) :
    Calls Tryd.prog 4 #[Ch.ch g w h p n cap] W fun e w' => e = .returned (.tuple #[.int .i64 0, .int .i64 er]) ∧ Below W.heap.size W w' := by
  have K1 := hide H1
  have B0 := bal (o := .cells #[.int .i64 g, .int .i64 w, .int .i64 h, .slice p n cap] 24) (Below.refl W.heap.size W)
  have Hc := hide (hRc _ _ hc B0)
  have HB := hide B0
  have hee : (er != 0) = true := by simp; omega
  clear hc hRc H1 B0 hp
  go_enter Tryd.func4, Tryd.ntmps4
  go_wp2_with fail
  generalize W.alloc (.cells #[.int .i64 g, .int .i64 w, .int .i64 h, .slice p n cap] 24) = w0 at *
  refine (unhide K1 _ (unhide Hc)).mono ?_
  rintro e w1 ⟨rfl, hb⟩
  have S1 := btrans (unhide HB) (bal (o := zpC) hb)
  clear hb
  go_wp2
  exact bodyPost_ret (v := .tuple #[.int .i64 0, .int .i64 er]) (by simp [results, Tryd.results4]) rfl ⟨rfl, S1⟩

set_option maxHeartbeats 1500000 in
set_option maxRecDepth 100000 in
theorem Kind_ok (g w h : Int) (p : Option Addr) (n cap : Nat) (L : List Mv) (s u v : Nat) (kd : Int) (W : World) (Rc : World → Prop) (hRc : ∀ V V', Rc V → Below V.heap.size V V' → Rc V')
    (H1 : ∀ V, Rc V → Calls Tryd.prog 10 #[Ch.ch g w h p n cap] V fun e w' => ∃ q cp, e = .returned (.tuple #[pvV g w h p n cap q L.length cp s u v, .int .i64 0]) ∧ MRow w' q L ∧ Below V.heap.size V w')
    (H2 : ∀ V q cp, Rc V → MRow V q L → Calls Tryd.prog 11 #[pvV g w h p n cap q L.length cp s u v] V fun e w' => e = .returned (.int .i64 kd) ∧ Below V.heap.size V w') (hc : Rc W) :
    Calls Tryd.prog 4 #[Ch.ch g w h p n cap] W fun e w' => e = .returned (.tuple #[.int .i64 kd, .int .i64 0]) ∧ Below W.heap.size W w' := by
  have K1 := hide H1
  have K2 := hide H2
  have HRc := hide hRc
  have B0 := bal (o := .cells #[.int .i64 g, .int .i64 w, .int .i64 h, .slice p n cap] 24) (Below.refl W.heap.size W)
  have Hc := hide (hRc _ _ hc B0)
  have HB := hide B0
  clear hc hRc H1 H2 B0
  go_enter Tryd.func4, Tryd.ntmps4
  go_wp2_with fail
  generalize W.alloc (.cells #[.int .i64 g, .int .i64 w, .int .i64 h, .slice p n cap] 24) = w0 at *
  refine (unhide K1 _ (unhide Hc)).mono ?_
  rintro e w1 ⟨q, cp, rfl, hm, hb⟩
  have hb1 := bal (o := pcV g w h p n cap q L.length cp s u v) hb
  have HM := hide (hm.keep (bal (o := pcV g w h p n cap q L.length cp s u v) (Below.refl w1.heap.size w1)))
  clear hb hm
  go_wp2_with fail
  generalize w1.alloc (pcV g w h p n cap q L.length cp s u v) = w2 at *
  refine (unhide K2 _ _ _ (unhide HRc _ _ (unhide Hc) hb1) (unhide HM)).mono ?_
  rintro e w3 ⟨rfl, hb⟩
  have S3 := btrans (unhide HB) (btrans hb1 hb)
  clear hb hb1
  go_wp2
  exact bodyPost_ret (v := .tuple #[.int .i64 kd, .int .i64 0]) (by simp [results, Tryd.results4]) rfl ⟨rfl, S3⟩
end Go.Proofs.YtpcajcgafmmlkaaDoor
