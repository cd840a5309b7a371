/-
  PlaneGroup is proved: for every grid number, every three moves and every two points the law answers true, and its arguments read as before. No condition.
-/
import Derived.Test.YtfopjkcnfngbpaaMoveMath
import Derived.Test.YtfopjkcnfngbpaaMoveRow
import Derived.Test.YtfopjkcnfngbpaaGroup2
import Derived.Test.YtfopjkcnfngbpaaGroup3
import Derived.Test.YtfopjkcnfngbpaaGroup4
namespace Go.Proofs.Ytfopjkcnfngbpaa
open Go.ChangeShapes Go.WideShapes Go.ChangeAt Go.RowKit Go.Joins

theorem normsTo (g ax ay : Int) : NormsTo g ax ay (nN g ax ay) (nE g ax ay) := fun W => norm_any g ax ay W
theorem wE_of (g t x y : Int) (hg : g = 4 ∨ g = 6) (ht : 0 ≤ t ∧ t < g) (hs : sm2 x y = true) : wE g t x y = 0 := by
  unfold wE; rw [if_pos (e1_of g x y hg hs), if_pos ht]

theorem li_zero (g x y : Int) : li g 0 false x y = (x, y) := rfl

theorem tail_any (g t : Int) (f : Bool) (x y zx zy vx vy : Int) : GTail g zx zy vx vy (aP g t f x y zx zy).1 (aP g t f x y zx zy).2 (aP g t f x y vx vy).1 (aP g t f x y vx vy).2 (aE g t f x y zx zy) (aE g t f x y vx vy) := by
  by_cases h5 : aE g t f x y zx zy = 0
  · by_cases h6 : aE g t f x y vx vy = 0
    · obtain ⟨_, sz, sa, pa⟩ := aE_zero _ _ _ _ _ _ _ h5
      obtain ⟨_, sv, sb, pb⟩ := aE_zero _ _ _ _ _ _ _ h6
      rw [pa, pb]
      refine Or.inr (Or.inr ⟨h5, h6, (sm2_iff _ _).1 sa, (sm2_iff _ _).1 sb, (sm2_iff _ _).1 sz, (sm2_iff _ _).1 sv, _, _, _, _, normsTo _ _ _, normsTo _ _ _, ?_⟩)
      by_cases h7 : nE g ((mv g t.toNat f x y zx zy).1 - (mv g t.toNat f x y vx vy).1) ((mv g t.toNat f x y zx zy).2 - (mv g t.toNat f x y vx vy).2) = 0
      · by_cases h8 : nE g (zx - vx) (zy - vy) = 0
        · refine Or.inr (Or.inr ⟨h7, h8, ?_⟩)
          have h7' : e1 g ((mv g t.toNat f x y zx zy).1 - (mv g t.toNat f x y vx vy).1) ((mv g t.toNat f x y zx zy).2 - (mv g t.toNat f x y vx vy).2) = 0 := h7
          have h8' : e1 g (zx - vx) (zy - vy) = 0 := h8
          unfold nN
          rw [if_pos h7', if_pos h8', ← nn_li g t.toNat f (zx - vx) (zy - vy), li_sub]
          simp only [mv_li]
          congr 1 <;> omega
        · exact Or.inr (Or.inl ⟨h7, e1_pos _ _ _ h8⟩)
      · exact Or.inl (e1_pos _ _ _ h7)
    · exact Or.inr (Or.inl ⟨h5, aE_pos _ _ _ _ _ _ _ h6⟩)
  · exact Or.inl (aE_pos _ _ _ _ _ _ _ h5)

theorem cT_back (g t : Int) (f : Bool) (hg : g = 4 ∨ g = 6) (ht : 0 ≤ t ∧ t < g) : cT g (bt g t f) f t = 0 ∧ cT g t f (bt g t f) = 0 ∧ cF f f = false := by
  rcases hg with rfl | rfl <;> cases f <;> exact ⟨by simp only [cT, bt]; omega, by simp only [cT, bt]; omega, rfl⟩

theorem back1 (g t : Int) (f : Bool) (x y : Int) : mv g (bt g t f).toNat f (iP g t f x y).1 (iP g t f x y).2 x y = (0, 0) := by
  rw [mv_li]; unfold iP; exact Prod.ext (by simp only; omega) (by simp only; omega)
theorem back2 (g t : Int) (f : Bool) (x y : Int) (hg : g = 4 ∨ g = 6) (ht : 0 ≤ t ∧ t < g) : mv g t.toNat f x y (iP g t f x y).1 (iP g t f x y).2 = (0, 0) := by
  rw [mv_li]; unfold iP
  rw [li_neg, li_comp g t f (bt g t f) f x y hg ht (bt_range g t f hg ht), (cT_back g t f hg ht).2.1, (cT_back g t f hg ht).2.2]
  exact Prod.ext (by simp [li, tu, mi]; omega) (by simp [li, tu, mi]; omega)

/-- a call of Compose whose moves and whose answer are known -/
theorem compose_is (g t : Int) (f : Bool) (x y t' : Int) (f' : Bool) (x' y' : Int) (u v : Int) (h : wE g t x y = 0) (k : wE g t' x' y' = 0) (e : mv g t.toNat f x y x' y' = (u, v)) :
    ComposeIs g t f x y t' f' x' y' (if sm2 u v = true then cT g t f t' else 0) (if sm2 u v = true then cF f f' else false) (if sm2 u v = true then u else 0) (if sm2 u v = true then v else 0) (if sm2 u v = true then 0 else 4) := by
  have C := compose_any g t f x y t' f' x' y'
  have hE := kE_of g t f x y t' x' y' h k
  rw [e] at hE
  unfold kT kF kP at C
  rw [hE, e] at C
  simp only at C
  cases s : sm2 u v with
  | true => rw [s] at C; simpa using C
  | false => rw [s] at C; simpa using C
theorem apply_is (g t : Int) (f : Bool) (bx b x y u v : Int) (h : wE g t bx b = 0) (k : sm2 x y = true) (e : mv g t.toNat f bx b x y = (u, v)) :
    ApplyIs g t f bx b x y (if sm2 u v = true then u else 0) (if sm2 u v = true then v else 0) (if sm2 u v = true then 0 else 4) := by
  have C := apply_any g t f bx b x y
  have hE := aE_of g t f bx b x y h k
  rw [e] at hE
  unfold aP at C
  rw [hE, e] at C
  simp only at C
  cases s : sm2 u v with
  | true => rw [s] at C; simpa using C
  | false => rw [s] at C; simpa using C

theorem group_any (g : Int) (ft : Int) (ff : Bool) (fx fy : Int) (ht : Int) (hf : Bool) (hx hy : Int) (kt : Int) (kf : Bool) (kx ky : Int) (zx zy vx vy : Int) (w : World) :
    GroupIs g ft ff fx fy ht hf hx hy kt kf kx ky zx zy vx vy w := by
  have T1 := compose_any g ft ff fx fy ht hf hx hy
  by_cases hE : kE g ft ff fx fy ht hx hy = 0
  · obtain ⟨wf, wh, sg, e1, e2, e3⟩ := kE_zero g ft ff fx fy ht hf hx hy hE
    rw [hE, e1, e2, e3] at T1
    obtain ⟨hg, rf, sf⟩ := wE_zero _ _ _ _ wf
    obtain ⟨_, rh, sh⟩ := wE_zero _ _ _ _ wh
    have wg : wE g (cT g ft ff ht) (mv g ft.toNat ff fx fy hx hy).1 (mv g ft.toNat ff fx fy hx hy).2 = 0 := wE_of _ _ _ _ hg (cT_range g ft ff ht hg) sg
    have hT := tail_any g ft ff fx fy zx zy vx vy
    have A5 := apply_any g ft ff fx fy zx zy
    have A6 := apply_any g ft ff fx fy vx vy
    -- the first block
    have A1 := apply_any g ht hf hx hy zx zy
    have T2 := compose_any g ht hf hx hy kt kf kx ky
    have I1 := inverse_any g ft ff fx fy
    have B1 : aE g ht hf hx hy zx zy = 0 → ∃ px py pe, ApplyIs g ft ff fx fy (aP g ht hf hx hy zx zy).1 (aP g ht hf hx hy zx zy).2 px py pe ∧ ApplyIs g (cT g ft ff ht) (cF ff hf) (mv g ft.toNat ff fx fy hx hy).1 (mv g ft.toNat ff fx fy hx hy).2 zx zy px py pe := by
      intro h
      obtain ⟨_, sz, sy, py⟩ := aE_zero _ _ _ _ _ _ _ h
      rw [py]
      have m := mv_comp g ft ff fx fy ht hf hx hy zx zy hg rf rh
      exact ⟨_, _, _, apply_is g ft ff fx fy _ _ _ _ wf sy rfl, apply_is g _ _ _ _ zx zy _ _ wg sz (by rw [m]; rfl)⟩
    have B2 : kE g ht hf hx hy kt kx ky = 0 → ∃ qt qf qx qy qe, ComposeIs g (cT g ft ff ht) (cF ff hf) (mv g ft.toNat ff fx fy hx hy).1 (mv g ft.toNat ff fx fy hx hy).2 kt kf kx ky qt qf qx qy qe ∧ ComposeIs g ft ff fx fy (kT g ht hf hx hy kt kx ky) (kF g ht hf hx hy kt kf kx ky) (kP g ht hf hx hy kt kx ky).1 (kP g ht hf hx hy kt kx ky).2 qt qf qx qy qe := by
      intro h
      obtain ⟨_, wk, sm, p1, p2, p3⟩ := kE_zero g ht hf hx hy kt kf kx ky h
      rw [p1, p2, p3]
      have m := mv_comp g ft ff fx fy ht hf hx hy kx ky hg rf rh
      have C1 := compose_is g (cT g ft ff ht) (cF ff hf) _ _ kt kf kx ky _ _ wg wk m
      have C2 := compose_is g ft ff fx fy (cT g ht hf kt) (cF hf kf) _ _ _ _ wf (wE_of _ _ _ _ hg (cT_range g ht hf kt hg) sm) rfl
      rw [← cT_assoc g ft ff ht hf kt hg, ← cF_assoc] at C2
      exact ⟨_, _, _, _, _, C1, C2⟩
    have B3 : iE g ft ff fx fy = 0 → ComposeIs g (bt g ft ff) ff (iP g ft ff fx fy).1 (iP g ft ff fx fy).2 ft ff fx fy 0 false 0 0 0 ∧ ComposeIs g ft ff fx fy (bt g ft ff) ff (iP g ft ff fx fy).1 (iP g ft ff fx fy).2 0 false 0 0 0 := by
      intro h
      have si : sm2 (iP g ft ff fx fy).1 (iP g ft ff fx fy).2 = true := by
        unfold iE at h
        rw [if_pos wf] at h
        by_cases s : sm2 (iP g ft ff fx fy).1 (iP g ft ff fx fy).2 = true
        · exact s
        · rw [if_neg s] at h; omega
      have wi : wE g (bt g ft ff) (iP g ft ff fx fy).1 (iP g ft ff fx fy).2 = 0 := wE_of _ _ _ _ hg (bt_range g ft ff hg rf) si
      have c := cT_back g ft ff hg rf
      have C1 := compose_is g (bt g ft ff) ff _ _ ft ff fx fy _ _ wi wf (back1 g ft ff fx fy)
      have C2 := compose_is g ft ff fx fy (bt g ft ff) ff _ _ _ _ wf wi (back2 g ft ff fx fy hg rf)
      rw [c.1, c.2.2] at C1
      rw [c.2.1, c.2.2] at C2
      have s0 : sm2 0 0 = true := by decide
      rw [s0] at C1 C2
      exact ⟨C1, C2⟩
    have iE_pos : iE g ft ff fx fy ≠ 0 → 1 ≤ iE g ft ff fx fy := by
      intro h
      unfold iE at *
      rw [if_pos wf] at *
      by_cases s : sm2 (iP g ft ff fx fy).1 (iP g ft ff fx fy).2 = true
      · rw [if_pos s] at h; omega
      · rw [if_neg s]; omega
    by_cases b1 : aE g ht hf hx hy zx zy = 0
    · obtain ⟨px, py, pe, A2, A3⟩ := B1 b1
      rw [b1] at A1
      by_cases b2 : kE g ht hf hx hy kt kx ky = 0
      · obtain ⟨qt, qf, qx, qy, qe, T3, T4⟩ := B2 b2
        rw [b2] at T2
        by_cases b3 : iE g ft ff fx fy = 0
        · obtain ⟨T5, T6⟩ := B3 b3
          rw [b3] at I1
          simp only [if_true] at I1
          exact group_111 g ft ff fx fy ht hf hx hy kt kf kx ky zx zy vx vy w _ _ _ _ _ _ _ _ _ _ _ _ _ _ _ _ _ _ _ _ _ _ _ _ _ _ _ _ T1 A1 A2 A3 T2 T3 T4 I1 T5 T6 A5 A6 hT
        · exact group_110 g ft ff fx fy ht hf hx hy kt kf kx ky zx zy vx vy w _ _ _ _ _ _ _ _ _ _ _ _ _ _ _ _ _ _ _ _ _ _ _ _ _ _ _ _ _ T1 A1 A2 A3 T2 T3 T4 I1 (iE_pos b3) A5 A6 hT
      · have p2 := kE_pos _ _ _ _ _ _ _ _ b2
        by_cases b3 : iE g ft ff fx fy = 0
        · obtain ⟨T5, T6⟩ := B3 b3
          rw [b3] at I1
          simp only [if_true] at I1
          exact group_101 g ft ff fx fy ht hf hx hy kt kf kx ky zx zy vx vy w _ _ _ _ _ _ _ _ _ _ _ _ _ _ _ _ _ _ _ _ _ _ _ _ T1 A1 A2 A3 T2 p2 I1 T5 T6 A5 A6 hT
        · exact group_100 g ft ff fx fy ht hf hx hy kt kf kx ky zx zy vx vy w _ _ _ _ _ _ _ _ _ _ _ _ _ _ _ _ _ _ _ _ _ _ _ _ _ T1 A1 A2 A3 T2 p2 I1 (iE_pos b3) A5 A6 hT
    · have p1 := aE_pos _ _ _ _ _ _ _ b1
      by_cases b2 : kE g ht hf hx hy kt kx ky = 0
      · obtain ⟨qt, qf, qx, qy, qe, T3, T4⟩ := B2 b2
        rw [b2] at T2
        by_cases b3 : iE g ft ff fx fy = 0
        · obtain ⟨T5, T6⟩ := B3 b3
          rw [b3] at I1
          simp only [if_true] at I1
          exact group_011 g ft ff fx fy ht hf hx hy kt kf kx ky zx zy vx vy w _ _ _ _ _ _ _ _ _ _ _ _ _ _ _ _ _ _ _ _ _ _ _ _ _ _ T1 A1 p1 T2 T3 T4 I1 T5 T6 A5 A6 hT
        · exact group_010 g ft ff fx fy ht hf hx hy kt kf kx ky zx zy vx vy w _ _ _ _ _ _ _ _ _ _ _ _ _ _ _ _ _ _ _ _ _ _ _ _ _ _ _ T1 A1 p1 T2 T3 T4 I1 (iE_pos b3) A5 A6 hT
      · have p2 := kE_pos _ _ _ _ _ _ _ _ b2
        by_cases b3 : iE g ft ff fx fy = 0
        · obtain ⟨T5, T6⟩ := B3 b3
          rw [b3] at I1
          simp only [if_true] at I1
          exact group_001 g ft ff fx fy ht hf hx hy kt kf kx ky zx zy vx vy w _ _ _ _ _ _ _ _ _ _ _ _ _ _ _ _ _ _ _ _ _ _ T1 A1 p1 T2 p2 I1 T5 T6 A5 A6 hT
        · exact group_000 g ft ff fx fy ht hf hx hy kt kf kx ky zx zy vx vy w _ _ _ _ _ _ _ _ _ _ _ _ _ _ _ _ _ _ _ _ _ _ _ T1 A1 p1 T2 p2 I1 (iE_pos b3) A5 A6 hT
  · exact group_err g ft ff fx fy ht hf hx hy kt kf kx ky zx zy vx vy w _ _ _ _ _ T1 (kE_pos _ _ _ _ _ _ _ _ hE)

/-! ### the row -/
set_option maxRecDepth 100000 in
theorem group_lifted (os : Os) (started : os.Started) (H : Type) (enc : TypeId × Value → H) :
    ReturnsInHanded {} Try.checked os 6 .any (Rows.planeGroupSpec.pre6 enc Try.prog Try.f6 Rows.planeGroupRow.domain false) (Rows.planeGroupSpec.post enc Try.prog Try.f6 false true false false) := by
  refine returnsInHanded_of_change (C := Try.checked) own started (by kernel_rfl) Try.func6
    (ChangeSpec.witness6 (enc := enc) (C := Try.checked) false ⟨#[], #[.int .i64 0, .agg #[.int .i64 0, .bool false, .int .i64 0, .int .i64 0], .agg #[.int .i64 0, .bool false, .int .i64 0, .int .i64 0], .agg #[.int .i64 0, .bool false, .int .i64 0, .int .i64 0], .agg #[.int .i64 0, .int .i64 0], .agg #[.int .i64 0, .int .i64 0]], []⟩ 8 (by kernel_rfl) (by kernel_rfl) (by kernel_rfl) (by kernel_rfl)) ?_
  intro W base args ds gs before hval0 hW hcnd _
  have hval : ∀ (j : Nat) t v, Try.f6.params[j]? = some t → args[j]? = some v → Value.okWide Try.prog W .any base t v := hval0
  have hW' := hW
  obtain ⟨p, q, hA0, hV, rfl, hfz, hnd⟩ := hW
  have hA : DataW.TrodAll enc Try.prog W 0 (fun _ => true) true Try.f6.params.toList args.toList ds p := hA0
  rw [Try.params6] at hA hval
  obtain ⟨v0, vs0, d0, ds0, p0, q0, hargs, rfl, rfl, h0, r0⟩ := trodAll_cons hA
  obtain ⟨v1, vs1, d1, ds1, p1, q1, rfl, rfl, rfl, h1, r1⟩ := trodAll_cons r0
  obtain ⟨v2, vs2, d2, ds2, p2, q2, rfl, rfl, rfl, h2, r2⟩ := trodAll_cons r1
  obtain ⟨v3, vs3, d3, ds3, p3, q3, rfl, rfl, rfl, h3, r3⟩ := trodAll_cons r2
  obtain ⟨v4, vs4, d4, ds4, p4, q4, rfl, rfl, rfl, h4, r4⟩ := trodAll_cons r3
  obtain ⟨v5, vs5, d5, ds5, p5, q5, rfl, rfl, rfl, h5, r5⟩ := trodAll_cons r4
  obtain ⟨rfl, rfl, rfl⟩ := trodAll_nil r5
  obtain rfl : args = #[v0, v1, v2, v3, v4, v5] := by cases args; simp_all
  obtain ⟨rfl, rfl⟩ := trodVars_none hV
  obtain ⟨g, rfl, rfl, rfl, wg⟩ := open_int Try.underlying3 (hval 0 3 v0 rfl rfl) h0
  obtain ⟨ft, ff, fx, fy, rfl, rfl, rfl, wft, wfx, wfy⟩ := move_open (hval 1 31 v1 rfl rfl) h1
  obtain ⟨ht, hf, hx, hy, rfl, rfl, rfl, wht, whx, why⟩ := move_open (hval 2 31 v2 rfl rfl) h2
  obtain ⟨kt, kf, kx, ky, rfl, rfl, rfl, wkt, wkx, wky⟩ := move_open (hval 3 31 v3 rfl rfl) h3
  obtain ⟨zx, zy, rfl, rfl, rfl, wzx, wzy⟩ := point_open (hval 4 23 v4 rfl rfl) h4
  obtain ⟨vx, vy, rfl, rfl, rfl, wvx, wvy⟩ := point_open (hval 5 23 v5 rfl rfl) h5
  clear hA0 hval0
  simp only [List.append_nil] at hW'
  refine (group_any g ft ff fx fy ht hf hx hy kt kf kx ky zx zy vx vy W).mono fun e W' ⟨he, hg⟩ => ?_
  subst he
  exact ⟨_, rfl, _, _, _, [], [], [], hW', trodAll_cons_mk (shut_bool Try.underlying4 _) trodAll_mk0,
    trodAll_cons_mk (shut_int Try.underlying3 wg) (trodAll_cons_mk (move_shut wft wfx wfy) (trodAll_cons_mk (move_shut wht whx why) (trodAll_cons_mk (move_shut wkt wkx wky) (trodAll_cons_mk (point_shut wzx wzy) (trodAll_cons_mk (point_shut wvx wvy) trodAll_mk0))))), rfl, hg.frame _, fun h => by cases h⟩

theorem group_over : Rows.planeGroupRow.holds Try.pinned (OpenSpec.ofChange Rows.planeGroupSpec) :=
  OpenClaim.holds_of_wide 6 Try.f6 rfl rfl rfl rfl rfl rfl rfl ⟨rfl, rfl, rfl, rfl, rfl⟩ rfl rfl rfl rfl rfl (by kernel_rfl) Try.func6 (by kernel_rfl)
    (of_decide_eq_true (by kernel_rfl)) (by unfold Func.isWrapper; first | (rw [if_pos (by decide +kernel)]; kernel_rfl) | (rw [if_neg (by decide +kernel)]; exact ⟨rfl, rfl⟩))
    (fun os started H enc _ => group_lifted os started H enc)

theorem group_holds : Rows.PlaneGroupSaid := group_over
#print axioms group_holds
end Go.Proofs.Ytfopjkcnfngbpaa
