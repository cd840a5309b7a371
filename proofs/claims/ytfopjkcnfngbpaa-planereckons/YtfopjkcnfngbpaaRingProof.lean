/-
  PlaneRing is proved: for every grid number and every three points the law answers true, and its arguments read as before. No condition.
-/
import Derived.Test.YtfopjkcnfngbpaaRing
import Derived.ProofKit
import Derived.OpenShut
import Derived.Lib.SmallJoins
namespace Go.Proofs.Ytfopjkcnfngbpaa
open Go.ChangeShapes Go.WideShapes Go.ChangeAt Go.RowKit Go.Joins

/-! ### the plain law -/
theorem pX_comm (ax ay bx b : Int) : pX ax ay bx b = pX bx b ax ay := by unfold pX; grind
theorem pY_comm (g ax ay bx b : Int) : pY g ax ay bx b = pY g bx b ax ay := by unfold pY; grind
theorem e2_comm (g ax ay bx b : Int) : e2 g ax ay bx b = e2 g bx b ax ay := by unfold e2; rw [Bool.and_comm]
theorem tE_comm (g ax ay bx b : Int) : tE g ax ay bx b = tE g bx b ax ay := by unfold tE; rw [e2_comm, pX_comm, pY_comm]
theorem tX_comm (g ax ay bx b : Int) : tX g ax ay bx b = tX g bx b ax ay := by unfold tX; rw [tE_comm, pX_comm]
theorem tY_comm (g ax ay bx b : Int) : tY g ax ay bx b = tY g bx b ax ay := by unfold tY; rw [tE_comm, pY_comm]

theorem e2_of (g ax ay bx b : Int) (hg : g = 4 ∨ g = 6) (ha : sm2 ax ay = true) (hb : sm2 bx b = true) : e2 g ax ay bx b = 0 := by
  have : okg g = true := by simp [okg, hg]
  simp [e2, this, ha, hb]
theorem e1_of (g ax ay : Int) (hg : g = 4 ∨ g = 6) (ha : sm2 ax ay = true) : e1 g ax ay = 0 := by
  have : okg g = true := by simp [okg, hg]
  simp [e1, this, ha]

theorem tE_zero (g ax ay bx b : Int) (h : tE g ax ay bx b = 0) : (g = 4 ∨ g = 6) ∧ sm2 ax ay = true ∧ sm2 bx b = true ∧ sm2 (pX ax ay bx b) (pY g ax ay bx b) = true ∧ tX g ax ay bx b = pX ax ay bx b ∧ tY g ax ay bx b = pY g ax ay bx b := by
  have hx : tX g ax ay bx b = pX ax ay bx b := by simp [tX, h]
  have hy : tY g ax ay bx b = pY g ax ay bx b := by simp [tY, h]
  unfold tE at h
  by_cases h1 : e2 g ax ay bx b = 0
  · obtain ⟨a, b', c⟩ := e2_zero _ _ _ _ _ h1
    rw [if_pos h1] at h
    by_cases h2 : sm2 (pX ax ay bx b) (pY g ax ay bx b) = true
    · exact ⟨a, b', c, h2, hx, hy⟩
    · rw [if_neg h2] at h; omega
  · rw [if_neg h1] at h; exact absurd h h1

theorem tE_pos (g ax ay bx b : Int) (h : tE g ax ay bx b ≠ 0) : 1 ≤ tE g ax ay bx b := by
  unfold tE at *
  by_cases h1 : e2 g ax ay bx b = 0
  · rw [if_pos h1] at *
    by_cases h2 : sm2 (pX ax ay bx b) (pY g ax ay bx b) = true
    · rw [if_pos h2] at h; omega
    · rw [if_neg h2]; omega
  · rw [if_neg h1]; exact e2_pos _ _ _ _ _ h1

theorem t_same (g ax ay bx b cx c dx d : Int) (h1 : e2 g ax ay bx b = 0) (h2 : e2 g cx c dx d = 0) (hx : pX ax ay bx b = pX cx c dx d) (hy : pY g ax ay bx b = pY g cx c dx d) :
    tX g ax ay bx b = tX g cx c dx d ∧ tY g ax ay bx b = tY g cx c dx d ∧ tE g ax ay bx b = tE g cx c dx d := by
  have h3 : tE g ax ay bx b = tE g cx c dx d := by unfold tE; rw [h1, h2, hx, hy]
  exact ⟨by unfold tX; rw [h3, hx], by unfold tY; rw [h3, hy], h3⟩

theorem pX_assoc (g ax ay bx b cx c : Int) : pX (pX ax ay bx b) (pY g ax ay bx b) cx c = pX ax ay (pX bx b cx c) (pY g bx b cx c) := by
  unfold pX pY; split <;> grind
theorem pY_assoc (g ax ay bx b cx c : Int) : pY g (pX ax ay bx b) (pY g ax ay bx b) cx c = pY g ax ay (pX bx b cx c) (pY g bx b cx c) := by
  unfold pX pY; split <;> grind
theorem pX_add (ax ay bx b cx c : Int) : pX (ax + bx) (ay + b) cx c = pX ax ay cx c + pX bx b cx c := by unfold pX; grind
theorem pY_add (g ax ay bx b cx c : Int) : pY g (ax + bx) (ay + b) cx c = pY g ax ay cx c + pY g bx b cx c := by unfold pY; split <;> grind
theorem nn_mul (g ax ay bx b : Int) : nn g (pX ax ay bx b) (pY g ax ay bx b) = nn g ax ay * nn g bx b := by unfold nn pX pY; split <;> grind
theorem sq_nonneg (x : Int) : 0 ≤ x * x := by
  rcases Int.le_total 0 x with h | h
  · exact Int.mul_nonneg h h
  · exact Int.mul_nonneg_of_nonpos_of_nonpos h h
theorem nn_nonneg (g x y : Int) : 0 ≤ nn g x y := by
  have h1 := sq_nonneg x
  have h2 := sq_nonneg y
  have h3 := sq_nonneg (x + y)
  have h4 : (x + y) * (x + y) = x * x + 2 * (x * y) + y * y := by grind
  unfold nn
  split <;> omega
theorem nn_bound (g x y : Int) (hx : -1048576 ≤ x ∧ x ≤ 1048576) (hy : -1048576 ≤ y ∧ y ≤ 1048576) : nn g x y ≤ 4611686018427387904 := by
  have h1 := mul_bd x x 1048576 1048576 (by decide) (by decide) hx hx
  have h2 := mul_bd y y 1048576 1048576 (by decide) (by decide) hy hy
  have h3 := mul_bd x y 1048576 1048576 (by decide) (by decide) hx hy
  unfold nn
  split <;> omega

theorem timesIs (g ax ay bx b : Int) : TimesIs g ax ay bx b (tX g ax ay bx b) (tY g ax ay bx b) (tE g ax ay bx b) := fun W => times_any g ax ay bx b W
theorem normIs (g ax ay : Int) (hg : g = 4 ∨ g = 6) (ha : sm2 ax ay = true) : NormIs g ax ay (nn g ax ay) 0 := by
  have h := e1_of g ax ay hg ha
  intro W
  have := norm_any g ax ay W
  rw [show nN g ax ay = nn g ax ay by simp [nN, h], show nE g ax ay = 0 from h] at this
  exact this

theorem ring_any (g ax ay bx b cx c : Int) (w : World) :
    Calls Try.prog 5 #[.int .i64 g, .agg #[.int .i64 ax, .int .i64 ay], .agg #[.int .i64 bx, .int .i64 b], .agg #[.int .i64 cx, .int .i64 c]] w fun e w' => e = .returned (.bool true) ∧ Below w.heap.size w w' := by
  have T1 := timesIs g ax ay bx b
  have T2 := timesIs g bx b ax ay
  rw [← tX_comm, ← tY_comm, ← tE_comm] at T2
  by_cases hE : tE g ax ay bx b = 0
  · obtain ⟨hg, sa, sb, sp, hX, hY⟩ := tE_zero _ _ _ _ _ hE
    rw [hE, hX, hY] at T1 T2
    have N1 := normIs g ax ay hg sa
    have N2 := normIs g bx b hg sb
    have N3 := normIs g _ _ hg sp
    have hb' := (sm2_iff _ _).1 sp
    have hpq := nn_nonneg g (pX ax ay bx b) (pY g ax ay bx b)
    have hpq' := nn_bound g (pX ax ay bx b) (pY g ax ay bx b) hb'.1 hb'.2
    rw [nn_mul] at N3 hpq hpq'
    have T3 := timesIs g (pX ax ay bx b) (pY g ax ay bx b) cx c
    have T4 := timesIs g bx b cx c
    by_cases hF : tE g bx b cx c = 0
    · obtain ⟨_, _, sc, su, hUX, hUY⟩ := tE_zero _ _ _ _ _ hF
      rw [hF, hUX, hUY] at T4
      have T5 := timesIs g ax ay (pX bx b cx c) (pY g bx b cx c)
      obtain ⟨x1, x2, x3⟩ := t_same g (pX ax ay bx b) (pY g ax ay bx b) cx c ax ay (pX bx b cx c) (pY g bx b cx c) (e2_of _ _ _ _ _ hg sp sc) (e2_of _ _ _ _ _ hg sa su) (pX_assoc _ _ _ _ _ _ _) (pY_assoc _ _ _ _ _ _ _)
      rw [← x1, ← x2, ← x3] at T5
      have T6 := timesIs g ax ay cx c
      have T7 := timesIs g (ax + bx) (ay + b) cx c
      have ha2 := (sm2_iff _ _).1 sa
      have hb2 := (sm2_iff _ _).1 sb
      have hu2 := (sm2_iff _ _).1 su
      have hs2 : (-1048576 ≤ tX g ax ay cx c ∧ tX g ax ay cx c ≤ 1048576) ∧ (-1048576 ≤ tY g ax ay cx c ∧ tY g ax ay cx c ≤ 1048576) := by
        by_cases h : tE g ax ay cx c = 0
        · obtain ⟨_, _, _, s, e1, e2⟩ := tE_zero _ _ _ _ _ h
          rw [e1, e2]; exact (sm2_iff _ _).1 s
        · simp [tX, tY, h]
      refine ring_C g ax ay bx b cx c w _ _ _ _ _ _ _ _ _ _ _ _ _ _ _ T1 T2 N1 N2 N3 ⟨hpq, hpq'⟩ T3 T4 T5 T6 T7 ha2 hb2 hu2 hs2 ?_
      show _ ∨ _ ∨ _
      by_cases h : tE g ax ay cx c = 0
      · obtain ⟨_, _, _, _, e1, e2⟩ := tE_zero _ _ _ _ _ h
        by_cases k : tE g (ax + bx) (ay + b) cx c = 0
        · obtain ⟨_, _, _, _, e3, e4⟩ := tE_zero _ _ _ _ _ k
          exact Or.inr (Or.inr ⟨h, k, by rw [e3, e1, pX_add], by rw [e4, e2, pY_add]⟩)
        · exact Or.inr (Or.inl ⟨h, tE_pos _ _ _ _ _ k⟩)
      · exact Or.inl (tE_pos _ _ _ _ _ h)
    · exact ring_B g ax ay bx b cx c w _ _ _ _ _ _ _ _ _ _ T1 T2 N1 N2 N3 ⟨hpq, hpq'⟩ T3 T4 (tE_pos _ _ _ _ _ hF)
  · exact ring_A g ax ay bx b cx c w _ _ _ T1 T2 (tE_pos _ _ _ _ _ hE)

/-! ### the row -/
theorem own : ownKnob Try.prog.godebug = none := by kernel_rfl
theorem cells23 : Try.prog.cellsOf 23 = 2 := by kernel_rfl

theorem point_open {H : Type} {enc : TypeId × Value → H} {W : World} {base : Nat} {sp : Nat → Bool} {hd : Bool} {r : Reach} {b0 : Nat} {v : Value} {d : DataW H} {p : List MemPlace} (hv : Value.okWide Try.prog W r b0 23 v) (h : DataW.Trod enc Try.prog W base sp hd 23 v d p) :
    ∃ x y : Int, v = .agg #[.int .i64 x, .int .i64 y] ∧ d = .agg [.lit (.int .i64 x), .lit (.int .i64 y)] ∧ p = [] ∧ (Lit.int .i64 x).wf = true ∧ (Lit.int .i64 y).wf = true := by
  obtain ⟨c0, c1, y0, y1, m, rfl, rfl, rfl, hy0, hy1⟩ := open_agg2 Try.underlying23 (by kernel_rfl) cells23 hv h
  obtain ⟨a, e0, rfl, wa⟩ := DataW.trod_int Try.underlying3 hy0
  obtain ⟨b, e1, rfl, wb⟩ := DataW.trod_int Try.underlying3 hy1
  simp at e0 e1
  subst e0 e1
  exact ⟨a, b, rfl, rfl, rfl, wa, wb⟩

theorem point_shut {H : Type} {enc : TypeId × Value → H} {W : World} {sp : Nat → Bool} {x y : Int} (wa : (Lit.int .i64 x).wf = true) (wb : (Lit.int .i64 y).wf = true) :
    DataW.Trod enc Try.prog W 0 sp true 23 (.agg #[.int .i64 x, .int .i64 y]) (.agg [.lit (.int .i64 x), .lit (.int .i64 y)]) [] :=
  shut_agg2 (y0 := (.lit (.int .i64 x), [])) (y1 := (.lit (.int .i64 y), [])) Try.underlying23 (by kernel_rfl) cells23 ⟨1, by simp [DataW.trod, Try.underlying3, wa]⟩ ⟨1, by simp [DataW.trod, Try.underlying3, wb]⟩

set_option maxRecDepth 100000 in
theorem ring_lifted (os : Os) (started : os.Started) (H : Type) (enc : TypeId × Value → H) :
    ReturnsInHanded {} Try.checked os 5 .any (Rows.planeRingSpec.pre6 enc Try.prog Try.f5 Rows.planeRingRow.domain false) (Rows.planeRingSpec.post enc Try.prog Try.f5 false true false false) := by
  refine returnsInHanded_of_change (C := Try.checked) own started (by kernel_rfl) Try.func5
    (ChangeSpec.witness6 (enc := enc) (C := Try.checked) false ⟨#[], #[.int .i64 0, .agg #[.int .i64 0, .int .i64 0], .agg #[.int .i64 0, .int .i64 0], .agg #[.int .i64 0, .int .i64 0]], []⟩ 8 (by kernel_rfl) (by kernel_rfl) (by kernel_rfl) (by kernel_rfl)) ?_
  intro W base args ds gs before hval0 hW hcnd _
  have hval : ∀ (j : Nat) t v, Try.f5.params[j]? = some t → args[j]? = some v → Value.okWide Try.prog W .any base t v := hval0
  have hW' := hW
  obtain ⟨p, q, hA0, hV, rfl, hfz, hnd⟩ := hW
  have hA : DataW.TrodAll enc Try.prog W 0 (fun _ => true) true Try.f5.params.toList args.toList ds p := hA0
  rw [Try.params5] at hA hval
  obtain ⟨v0, v1, v2, v3, d0, d1, d2, d3, p0, p1, p2, p3, rfl, rfl, rfl, h0, h1, h2, h3⟩ := trodAll_four hA
  obtain ⟨rfl, rfl⟩ := trodVars_none hV
  obtain ⟨g, rfl, rfl, rfl, wg⟩ := open_int Try.underlying3 (hval 0 3 v0 rfl rfl) h0
  obtain ⟨ax, ay, rfl, rfl, rfl, wax, way⟩ := point_open (hval 1 23 v1 rfl rfl) h1
  obtain ⟨bx, b, rfl, rfl, rfl, wbx, wb⟩ := point_open (hval 2 23 v2 rfl rfl) h2
  obtain ⟨cx, c, rfl, rfl, rfl, wcx, wc⟩ := point_open (hval 3 23 v3 rfl rfl) h3
  clear hA0 hval0
  simp only [List.append_nil] at hW'
  refine (ring_any g ax ay bx b cx c W).mono fun e W' ⟨he, hg⟩ => ?_
  subst he
  exact ⟨_, rfl, _, _, _, [], [], [], hW', trodAll_cons_mk (shut_bool Try.underlying4 _) trodAll_mk0,
    trodAll_cons_mk (shut_int Try.underlying3 wg) (trodAll_cons_mk (point_shut wax way) (trodAll_cons_mk (point_shut wbx wb) (trodAll_cons_mk (point_shut wcx wc) trodAll_mk0))), rfl, hg.frame _, fun h => by cases h⟩

theorem ring_over : Rows.planeRingRow.holds Try.pinned (OpenSpec.ofChange Rows.planeRingSpec) :=
  OpenClaim.holds_of_wide 5 Try.f5 rfl rfl rfl rfl rfl rfl rfl ⟨rfl, rfl, rfl, rfl, rfl⟩ rfl rfl rfl rfl rfl (by kernel_rfl) Try.func5 (by kernel_rfl)
    (of_decide_eq_true (by kernel_rfl)) (by unfold Func.isWrapper; first | (rw [if_pos (by decide +kernel)]; kernel_rfl) | (rw [if_neg (by decide +kernel)]; exact ⟨rfl, rfl⟩))
    (fun os started H enc _ => ring_lifted os started H enc)

theorem ring_holds : Rows.PlaneRingSaid := ring_over
#print axioms ring_holds
end Go.Proofs.Ytfopjkcnfngbpaa
