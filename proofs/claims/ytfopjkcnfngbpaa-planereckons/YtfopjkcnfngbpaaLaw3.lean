/-
  PlaneReckons is proved: for every grid number and every two points the law answers true, and its arguments read as before. No condition.
-/
import Derived.Test.YtfopjkcnfngbpaaRGcd
import Derived.Test.YtfopjkcnfngbpaaGcdProof
namespace Go.Proofs.Ytfopjkcnfngbpaa
open Go.ChangeShapes Go.WideShapes Go.ChangeAt Go.RowKit Go.Joins

def GIs (F : Nat) (g ax ay bx b er : Int) (P : Int → Int → Prop) : Prop := ∀ W : World, Calls Try.prog F #[.int .i64 g, .agg #[.int .i64 ax, .int .i64 ay], .agg #[.int .i64 bx, .int .i64 b]] W fun e w' => (∃ u v, e = .returned (.tuple #[.agg #[.int .i64 u, .int .i64 v], .int .i64 er]) ∧ P u v) ∧ Below W.heap.size W w'

set_option maxRecDepth 100000 in
set_option maxHeartbeats 4000000 in
theorem reckons_walk (g ax ay bx b X Y te n ne er : Int) (P : Int → Int → Prop) (w : World) (T1 : TimesIs g ax ay bx b X Y te) (T2 : RTimesIs g ax ay bx b X Y te) (N1 : NormIs g ax ay n ne) (N2 : RNormIs g ax ay n ne)
    (G1 : GIs 12 g ax ay bx b er P) (G2 : GIs 13 g ax ay bx b er P) (uq : Hid (∀ u v u' v', P u v → P u' v' → u = u' ∧ v = v')) :
    Calls Try.prog 3 #[.int .i64 g, .agg #[.int .i64 ax, .int .i64 ay], .agg #[.int .i64 bx, .int .i64 b]] w fun e w' => e = .returned (.bool true) ∧ Below w.heap.size w w' := by
  have A0 := (Own.new w ax ay 23).alloc (.cells #[.int .i64 bx, .int .i64 b] 23)
  have C0 := Own.new (w.alloc (.cells #[.int .i64 ax, .int .i64 ay] 23)) bx b 23
  rw [World.size_alloc] at C0
  have S0 := bal (o := .cells #[.int .i64 bx, .int .i64 b] 23) (bal (o := .cells #[.int .i64 ax, .int .i64 ay] 23) (Below.refl w.heap.size w))
  go_enter Try.func3, Try.ntmps3
  go_wp2_with fail
  generalize (w.alloc (.cells #[.int .i64 ax, .int .i64 ay] 23)).alloc (.cells #[.int .i64 bx, .int .i64 b] 23) = w0 at *
  refine (T1 _).mono ?_
  rintro e w1 ⟨rfl, hb⟩
  have B1 := bal (o := .cells #[.int .i64 X, .int .i64 Y] 23) (Below.refl w1.heap.size w1)
  have A1 := (A0.keep hb).keep B1
  have C1 := (C0.keep hb).keep B1
  have S1 := btrans (btrans S0 hb) B1
  have X1 := Own.new w1 X Y 23
  have hx0 : w.heap.size + 1 < w1.heap.size := (C0.keep hb).1
  clear A0 C0 S0 hb B1
  have q1 := A1.2.1
  have q2 := C1.2.1
  go_wp2_with fail
  clear q1 q2
  generalize w1.alloc (.cells #[.int .i64 X, .int .i64 Y] 23) = w2 at *
  generalize w1.heap.size = bx1 at *
  refine (T2 _).mono ?_
  rintro e w3 ⟨rfl, hb⟩
  have B3 := bal (o := .cells #[.int .i64 X, .int .i64 Y] 23) (Below.refl w3.heap.size w3)
  have A3 := (A1.keep hb).keep B3
  have C3 := (C1.keep hb).keep B3
  have X3 := (X1.keep hb).keep B3
  have S3 := btrans (btrans S1 hb) B3
  have Y3 := Own.new w3 X Y 23
  have hy0 : bx1 < w3.heap.size := (X1.keep hb).1
  clear A1 C1 S1 X1 hb B3
  have q1 := A3.2.1
  have q2 := X3.2.1
  go_wp2_with fail
  clear q1 q2
  generalize w3.alloc (.cells #[.int .i64 X, .int .i64 Y] 23) = w4 at *
  generalize w3.heap.size = by1 at *
  refine (N1 _).mono ?_
  rintro e w5 ⟨rfl, hb⟩
  have A5 := A3.keep hb
  have C5 := C3.keep hb
  have X5 := X3.keep hb
  have Y5 := Y3.keep hb
  have S5 := btrans S3 hb
  clear A3 C3 X3 Y3 S3 hb
  have q1 := A5.2.1
  go_wp2_with fail
  clear q1
  refine (N2 _).mono ?_
  rintro e w6 ⟨rfl, hb⟩
  have A6 := A5.keep hb
  have C6 := C5.keep hb
  have X6 := X5.keep hb
  have Y6 := Y5.keep hb
  have S6 := btrans S5 hb
  clear A5 C5 X5 Y5 S5 hb
  have q1 := A6.2.1
  have q2 := C6.2.1
  go_wp2_with fail
  clear q1 q2
  refine (G1 _).mono ?_
  rintro e w7 ⟨⟨u, v, rfl, hP⟩, hb⟩
  have HP := hide hP
  clear hP
  have A7 := A6.keep hb
  have C7 := C6.keep hb
  have X7 := X6.keep hb
  have Y7 := Y6.keep hb
  have S7 := btrans S6 hb
  clear A6 C6 X6 Y6 S6 hb
  have A8 := (A7.far (c := bx1) (o := 0) (v := .int .i64 u) (by omega)).far (c := bx1) (o := 1) (v := .int .i64 v) (by omega)
  have C8 := (C7.far (c := bx1) (o := 0) (v := .int .i64 u) (by omega)).far (c := bx1) (o := 1) (v := .int .i64 v) (by omega)
  have Y8 := (Y7.far (c := bx1) (o := 0) (v := .int .i64 u) (by omega)).far (c := bx1) (o := 1) (v := .int .i64 v) (by omega)
  have X8 := X7.set u v
  have S8 := bset (p := ⟨bx1, 1, none⟩) (u := .int .i64 v) (bset (p := ⟨bx1, 0, none⟩) (u := .int .i64 u) S7 (by dsimp only; omega)) (by dsimp only; omega)
  have q0 := X7.2
  have q1 := A7.2.1
  have q2 := C7.2.1
  have ne1 : bx1 ≠ w.heap.size := by omega
  have ne2 : w.heap.size ≠ bx1 := by omega
  have ne3 : bx1 ≠ w.heap.size + 1 := by omega
  have ne4 : w.heap.size + 1 ≠ bx1 := by omega
  go_wp2_with fail
  clear q0 q1 q2 A7 C7 X7 Y7 S7
  generalize (w7.setCell ⟨bx1, 0, none⟩ (.int .i64 u)).setCell ⟨bx1, 1, none⟩ (.int .i64 v) = w8 at *
  refine (G2 _).mono ?_
  rintro e w9 ⟨⟨u', v', rfl, hP'⟩, hb⟩
  obtain ⟨rfl, rfl⟩ := unhide uq u v u' v' (unhide HP) hP'
  clear hP' HP
  have X9 := X8.keep hb
  have Y9 := Y8.keep hb
  have S9 := btrans S8 hb
  clear A8 C8 X8 Y8 S8 hb
  have q1 := X9.2.1
  have q2 := Y9.2
  have ne5 : by1 ≠ bx1 := by omega
  have ne6 : bx1 ≠ by1 := by omega
  go_wp2
  go_ret
  exact ⟨rfl, bset (bset S9 (by dsimp only; omega)) (by dsimp only; omega)⟩

set_option maxHeartbeats 1000000 in
theorem rgcd_kind (g ax ay bx b : Int) (h : okg g = false) : GIs 13 g ax ay bx b 1 (fun u v => u = 0 ∧ v = 0) := by
  intro w
  have R0 := three w ax ay bx b
  go_enter Try.func13, Try.ntmps13
  go_wp2_with fail
  generalize ((w.alloc (.cells #[.int .i64 ax, .int .i64 ay] 23)).alloc (.cells #[.int .i64 bx, .int .i64 b] 23)).alloc (.cells #[.int .i64 0, .int .i64 0] 23) = w0 at *
  refine (grid_any g _).mono ?_
  rintro e w1 ⟨rfl, rfl⟩
  have q := R0.2.2.2.2
  go_wp2
  exact bodyPost_ret (v := .tuple #[.agg #[.int .i64 0, .int .i64 0], .int .i64 1]) (by simp [results, Try.results13, go_sem, q]) rfl ⟨⟨0, 0, rfl, rfl, rfl⟩, bset (bset R0.1 (by dsimp only; omega)) (by dsimp only; omega)⟩

set_option maxHeartbeats 1000000 in
theorem rgcd_range (g ax ay bx b : Int) (h : okg g = true) (hs : (sm2 ax ay && sm2 bx b) = false) : GIs 13 g ax ay bx b 3 (fun u v => u = 0 ∧ v = 0) := by
  intro w
  have R0 := three w ax ay bx b
  cases h1 : sm2 ax ay with
  | false =>
    go_enter Try.func13, Try.ntmps13
    go_wp2_with fail
    generalize ((w.alloc (.cells #[.int .i64 ax, .int .i64 ay] 23)).alloc (.cells #[.int .i64 bx, .int .i64 b] 23)).alloc (.cells #[.int .i64 0, .int .i64 0] 23) = w0 at *
    refine (grid_any g _).mono ?_
    rintro e w1 ⟨rfl, rfl⟩
    have q1 := R0.2.1.2.1
    go_wp2_with fail
    clear q1
    refine (small_any ax ay _).mono ?_
    rintro e w2 ⟨rfl, hb⟩
    have R2 := R0.keep hb
    have q := R2.2.2.2.2
    clear R0 hb
    go_wp2
    exact bodyPost_ret (v := .tuple #[.agg #[.int .i64 0, .int .i64 0], .int .i64 3]) (by simp [results, Try.results13, go_sem, q]) rfl ⟨⟨0, 0, rfl, rfl, rfl⟩, bset (bset R2.1 (by dsimp only; omega)) (by dsimp only; omega)⟩
  | true =>
    have h2 : sm2 bx b = false := by simpa [h1] using hs
    clear hs
    go_enter Try.func13, Try.ntmps13
    go_wp2_with fail
    generalize ((w.alloc (.cells #[.int .i64 ax, .int .i64 ay] 23)).alloc (.cells #[.int .i64 bx, .int .i64 b] 23)).alloc (.cells #[.int .i64 0, .int .i64 0] 23) = w0 at *
    refine (grid_any g _).mono ?_
    rintro e w1 ⟨rfl, rfl⟩
    have q1 := R0.2.1.2.1
    go_wp2_with fail
    clear q1
    refine (small_any ax ay _).mono ?_
    rintro e w2 ⟨rfl, hb⟩
    have R2 := R0.keep hb
    clear R0 hb
    have q1 := R2.2.2.1.2.1
    go_wp2_with fail
    clear q1
    refine (small_any bx b _).mono ?_
    rintro e w3 ⟨rfl, hb⟩
    have R3 := R2.keep hb
    clear R2 hb
    have q := R3.2.2.2.2
    go_wp2
    exact bodyPost_ret (v := .tuple #[.agg #[.int .i64 0, .int .i64 0], .int .i64 3]) (by simp [results, Try.results13, go_sem, q]) rfl ⟨⟨0, 0, rfl, rfl, rfl⟩, bset (bset R3.1 (by dsimp only; omega)) (by dsimp only; omega)⟩

theorem gi_step (g : Nat) (ax ay bx b a1 a2 b1 b2 : Int) (hg : (g : Int) = 4 ∨ (g : Int) = 6) (h : GI g ax ay bx b a1 a2 b1 b2) (hne : ¬ (b1 = 0 ∧ b2 = 0)) : RestIs g a1 a2 b1 b2 (fun r1 r2 => (nn g r1 r2).toNat < (nn g b1 b2).toNat ∧ GI g ax ay bx b b1 b2 r1 r2) := by
  obtain ⟨i1, i2, i3, i4, i5⟩ := h
  intro W
  refine (rest_any g a1 a2 b1 b2 hg i4 i5 hne W).mono ?_
  rintro e w' ⟨⟨x, y, rfl, hC, hl⟩, hb⟩
  refine ⟨⟨x, y, rfl, ?_, i2, ?_, ?_, i5, by omega⟩, hb⟩
  · have := nn_nonneg g x y
    omega
  · obtain ⟨q1, q2, e1, e2⟩ := hC
    have := i1.sub i2 (-q1) (-q2)
    have f1 : a1 - pX (-q1) (-q2) b1 b2 = x := by unfold pX at *; grind
    have f2 : a2 - pY g (-q1) (-q2) b1 b2 = y := by unfold pY at *; split <;> simp_all <;> grind
    rw [f1, f2] at this
    exact this
  · intro d1 d2 h k
    obtain ⟨q1, q2, e1, e2⟩ := hC
    have := k.add (h.mul (-q1) (-q2))
    have f1 : x + pX b1 b2 (-q1) (-q2) = a1 := by unfold pX at *; grind
    have f2 : y + pY g b1 b2 (-q1) (-q2) = a2 := by unfold pY at *; split <;> simp_all <;> grind
    rw [f1, f2] at this
    exact i3 d1 d2 this h
theorem rgcd_any (g ax ay bx b : Int) (he : e2 g ax ay bx b = 0) : GIs 13 g ax ay bx b 0 (GQ g ax ay bx b) := by
  obtain ⟨hg, sa, sb⟩ := e2_zero _ _ _ _ _ he
  obtain ⟨gn, rfl⟩ := Int.eq_ofNat_of_zero_le (show 0 ≤ g by omega)
  intro W
  refine rgcd_loop gn ax ay bx b W hg (by simpa [okg] using hg) sa sb (GI gn ax ay bx b) (GQ gn ax ay bx b) ?_ ?_ ?_ ?_
  · exact ⟨Lin.left _ _ _ _ _, Lin.right _ _ _ _ _, fun _ _ h k => ⟨h, k⟩, nn_sm _ _ _ sa, nn_sm _ _ _ sb⟩
  · exact fun a1 a2 b1 b2 h hne => gi_step gn ax ay bx b a1 a2 b1 b2 hg h hne
  · exact fun a1 a2 h => h.2.2.2.1
  · intro a1 a2 ⟨i1, _, i3, i4, _⟩ k hc
    have d := i3 a1 a2 (Dv.refl _ _ _) (Dv.zero _ _ _)
    exact ⟨hc, d.1.tu hg k, d.2.tu hg k, i1.tu hg k, by rw [nn_tu']; exact i4⟩

theorem rtimes_any (g ax ay bx b : Int) : RTimesIs g ax ay bx b (tX g ax ay bx b) (tY g ax ay bx b) (tE g ax ay bx b) := by
  by_cases he : e2 g ax ay bx b = 0
  · obtain ⟨hg, sa, sb⟩ := e2_zero _ _ _ _ _ he
    have ka := (sm2_iff _ _).1 sa
    have kb := (sm2_iff _ _).1 sb
    refine rtimes_ok g ax ay bx b _ _ _ _ _ (by simpa [okg] using hg) sa sb (rproduct_any g ax ay bx b hg (by omega) (by omega) (by omega) (by omega)) ?_
    cases hs : sm2 (pX ax ay bx b) (pY g ax ay bx b) with
    | true => exact Or.inl ⟨rfl, by simp [tX, tE, he, hs], by simp [tY, tE, he, hs], by simp [tE, he, hs]⟩
    | false => exact Or.inr ⟨rfl, by simp [tX, tE, he, hs], by simp [tY, tE, he, hs], by simp [tE, he, hs]⟩
  · have t1 : tX g ax ay bx b = 0 := by simp [tX, tE, he]
    have t2 : tY g ax ay bx b = 0 := by simp [tY, tE, he]
    have t3 : tE g ax ay bx b = e2 g ax ay bx b := by simp [tE, he]
    rw [t1, t2, t3]
    unfold e2 at he ⊢
    cases ho : okg g with
    | false => simpa using rtimes_kind g ax ay bx b ho
    | true =>
      rw [ho] at he
      cases hs : sm2 ax ay && sm2 bx b with
      | true => simp [hs] at he
      | false => simpa using rtimes_range g ax ay bx b ho hs
theorem reckons_any (g ax ay bx b : Int) (w : World) :
    Calls Try.prog 3 #[.int .i64 g, .agg #[.int .i64 ax, .int .i64 ay], .agg #[.int .i64 bx, .int .i64 b]] w fun e w' => e = .returned (.bool true) ∧ Below w.heap.size w w' := by
  by_cases he : e2 g ax ay bx b = 0
  · obtain ⟨hg, _, _⟩ := e2_zero _ _ _ _ _ he
    exact reckons_walk g ax ay bx b _ _ _ _ _ 0 (GQ g ax ay bx b) w (times_any g ax ay bx b) (rtimes_any g ax ay bx b) (norm_any g ax ay) (rnorm_any g ax ay) (gcd_any g ax ay bx b he) (rgcd_any g ax ay bx b he)
      (fun u v u' v' h k => gq_unique g ax ay bx b u v u' v' hg h k)
  · have hp : 1 ≤ e2 g ax ay bx b := by
      unfold e2 at he ⊢
      repeat' split
      all_goals simp_all
    refine reckons_walk g ax ay bx b _ _ _ _ _ (e2 g ax ay bx b) (fun u v => u = 0 ∧ v = 0) w (times_any g ax ay bx b) (rtimes_any g ax ay bx b) (norm_any g ax ay) (rnorm_any g ax ay) ?_ ?_ (fun u v u' v' h k => ⟨h.1.trans k.1.symm, h.2.trans k.2.symm⟩)
    · intro W
      refine (gcd_err g ax ay bx b W _ rfl hp).mono ?_
      rintro e w' ⟨rfl, hb⟩
      exact ⟨⟨0, 0, rfl, rfl, rfl⟩, hb⟩
    · unfold e2 at he ⊢
      cases ho : okg g with
      | false => simpa using rgcd_kind g ax ay bx b ho
      | true =>
        rw [ho] at he
        cases hs : sm2 ax ay && sm2 bx b with
        | true => simp [hs] at he
        | false => simpa using rgcd_range g ax ay bx b ho hs

/-! ### the row -/
set_option maxRecDepth 100000 in
theorem reckons_lifted (os : Os) (started : os.Started) (H : Type) (enc : TypeId × Value → H) :
    ReturnsInHanded {} Try.checked os 3 .any (Rows.planeReckonsSpec.pre6 enc Try.prog Try.f3 Rows.planeReckonsRow.domain false) (Rows.planeReckonsSpec.post enc Try.prog Try.f3 false true false false) := by
  refine returnsInHanded_of_change (C := Try.checked) own started (by kernel_rfl) Try.func3
    (ChangeSpec.witness6 (enc := enc) (C := Try.checked) false ⟨#[], #[.int .i64 0, .agg #[.int .i64 0, .int .i64 0], .agg #[.int .i64 0, .int .i64 0]], []⟩ 8 (by kernel_rfl) (by kernel_rfl) (by kernel_rfl) (by kernel_rfl)) ?_
  intro W base args ds gs before hval0 hW hcnd _
  have hval : ∀ (j : Nat) t v, Try.f3.params[j]? = some t → args[j]? = some v → Value.okWide Try.prog W .any base t v := hval0
  have hW' := hW
  obtain ⟨p, q, hA0, hV, rfl, hfz, hnd⟩ := hW
  have hA : DataW.TrodAll enc Try.prog W 0 (fun _ => true) true Try.f3.params.toList args.toList ds p := hA0
  rw [Try.params3] at hA hval
  obtain ⟨v0, vs0, d0, ds0, p0, q0, hargs, rfl, rfl, h0, r0⟩ := trodAll_cons hA
  obtain ⟨v1, vs1, d1, ds1, p1, q1, rfl, rfl, rfl, h1, r1⟩ := trodAll_cons r0
  obtain ⟨v2, vs2, d2, ds2, p2, q2, rfl, rfl, rfl, h2, r2⟩ := trodAll_cons r1
  obtain ⟨rfl, rfl, rfl⟩ := trodAll_nil r2
  obtain rfl : args = #[v0, v1, v2] := by cases args; simp_all
  obtain ⟨rfl, rfl⟩ := trodVars_none hV
  obtain ⟨g, rfl, rfl, rfl, wg⟩ := open_int Try.underlying3 (hval 0 3 v0 rfl rfl) h0
  obtain ⟨ax, ay, rfl, rfl, rfl, wax, way⟩ := point_open (hval 1 23 v1 rfl rfl) h1
  obtain ⟨bx, b, rfl, rfl, rfl, wbx, wb⟩ := point_open (hval 2 23 v2 rfl rfl) h2
  clear hA0 hval0
  simp only [List.append_nil] at hW'
  refine (reckons_any g ax ay bx b W).mono fun e W' ⟨he, hg⟩ => ?_
  subst he
  exact ⟨_, rfl, _, _, _, [], [], [], hW', trodAll_cons_mk (shut_bool Try.underlying4 _) trodAll_mk0,
    trodAll_cons_mk (shut_int Try.underlying3 wg) (trodAll_cons_mk (point_shut wax way) (trodAll_cons_mk (point_shut wbx wb) trodAll_mk0)), rfl, hg.frame _, fun h => by cases h⟩

theorem reckons_holds : Rows.PlaneReckonsSaid :=
  OpenClaim.holds_of_wide 3 Try.f3 rfl rfl rfl rfl rfl rfl rfl ⟨rfl, rfl, rfl, rfl, rfl⟩ rfl rfl rfl rfl rfl (by kernel_rfl) Try.func3 (by kernel_rfl)
    (of_decide_eq_true (by kernel_rfl)) (by unfold Func.isWrapper; first | (rw [if_pos (by decide +kernel)]; kernel_rfl) | (rw [if_neg (by decide +kernel)]; exact ⟨rfl, rfl⟩))
    (fun os started H enc _ => reckons_lifted os started H enc)
#print axioms reckons_holds
end Go.Proofs.Ytfopjkcnfngbpaa
