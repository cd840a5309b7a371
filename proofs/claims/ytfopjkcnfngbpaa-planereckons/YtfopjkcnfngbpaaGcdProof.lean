/-
  PlaneGcd is proved: for every grid number and every three points the law answers true, and its arguments read as before. No condition.
-/
import Derived.Test.YtfopjkcnfngbpaaGcdMath
import Derived.Test.YtfopjkcnfngbpaaLaw7
namespace Go.Proofs.Ytfopjkcnfngbpaa
open Go.ChangeShapes Go.WideShapes Go.ChangeAt Go.RowKit Go.Joins

/-! ### a step of dividing -/
theorem prodIs (g ax ay bx b : Int) (hg : g = 4 ∨ g = 6) (h1 : big (ax * bx)) (h2 : big (ay * b)) (h3 : big (ax * b)) (h4 : big (ay * bx)) : ProdIs g ax ay bx b (pX ax ay bx b) (pY g ax ay bx b) := by
  intro W
  rcases hg with rfl | rfl
  · rw [show pX ax ay bx b = ax * bx - ay * b from rfl, show pY 4 ax ay bx b = ax * b + ay * bx by simp [pY]]
    exact product4 ax ay bx b W h1 h2 h3 h4
  · rw [show pX ax ay bx b = ax * bx - ay * b from rfl, show pY 6 ax ay bx b = ax * b + ay * bx + ay * b by simp [pY]]
    exact product6 ax ay bx b W h1 h2 h3 h4
theorem inNormIs (g x y : Int) (hg : g = 4 ∨ g = 6) (h1 : -2097152 ≤ x ∧ x ≤ 2097152) (h2 : -2097152 ≤ y ∧ y ≤ 2097152) : InNormIs g x y (nn g x y) := by
  intro W
  rcases hg with rfl | rfl
  · rw [show nn 4 x y = x * x + y * y by simp [nn]]; exact norm4 x y W (by omega) (by omega)
  · rw [show nn 6 x y = x * x + x * y + y * y by simp [nn]]; exact norm6 x y W (by omega) (by omega)
theorem big_of (a b A B : Int) (hA : 0 ≤ A) (hB : 0 ≤ B) (h : -A ≤ a ∧ a ≤ A) (k : -B ≤ b ∧ b ≤ B) (hm : A * B ≤ 1152921504606846976) : big (a * b) := by
  have := mul_bd a b A B hA hB h k
  unfold big; omega

/-- the quotient is not long -/
theorem quo_le (u n q M : Int) (hn : 1 ≤ n) (hu : -(M * n) ≤ u ∧ u ≤ M * n) (h : -n ≤ 2 * (u - q * n) ∧ 2 * (u - q * n) ≤ n) : -(M + 1) ≤ q ∧ q ≤ M + 1 := by
  refine ⟨?_, ?_⟩
  · by_cases k : -(M + 1) ≤ q
    · exact k
    · have := Int.mul_le_mul_of_nonneg_right (a := q) (b := -(M + 2)) (c := n) (by omega) (by omega)
      have e : -(M + 2) * n = -(M * n) - 2 * n := by grind
      omega
  · by_cases k : q ≤ M + 1
    · exact k
    · have := Int.mul_le_mul_of_nonneg_right (a := M + 2) (b := q) (c := n) (by omega) (by omega)
      have e : (M + 2) * n = M * n + 2 * n := by grind
      omega

theorem rem_step (g a1 a2 b1 b2 : Int) (hg : g = 4 ∨ g = 6) (ha : nn g a1 a2 ≤ 3298534883328) (hb : nn g b1 b2 ≤ 3298534883328) (hne : ¬ (b1 = 0 ∧ b2 = 0)) :
    ∃ q1 q2, RemIs g a1 a2 b1 b2 (a1 - pX q1 q2 b1 b2) (a2 - pY g q1 q2 b1 b2) ∧ nn g (a1 - pX q1 q2 b1 b2) (a2 - pY g q1 q2 b1 b2) < nn g b1 b2 := by
  have pa := parts_le g a1 a2 ha
  have pb := parts_le g b1 b2 hb
  have hn := nn_pos g b1 b2 hne
  have pn := part_le_nn g (tq g b1 b2) (-b2)
  rw [mirror_nn] at pn
  have hm1 : -4194304 ≤ tq g b1 b2 ∧ tq g b1 b2 ≤ 4194304 := by unfold tq; split <;> omega
  generalize hmx : tq g b1 b2 = mx at *
  generalize hmy : -b2 = my at *
  have hmy' : -2097152 ≤ my ∧ my ≤ 2097152 := by omega
  -- how long the product is, in norms of b
  have k1 := mul_bd a1 mx 2097152 (nn g b1 b2) (by decide) (by omega) pa.1 pn.1
  have k2 := mul_bd a2 my 2097152 (nn g b1 b2) (by decide) (by omega) pa.2 pn.2
  have k3 := mul_bd a1 my 2097152 (nn g b1 b2) (by decide) (by omega) pa.1 pn.2
  have k4 := mul_bd a2 mx 2097152 (nn g b1 b2) (by decide) (by omega) pa.2 pn.1
  have cXe : cX g a1 a2 b1 b2 = pX a1 a2 mx my := by unfold cX; rw [hmx, hmy]
  have cYe : cY g a1 a2 b1 b2 = pY g a1 a2 mx my := by unfold cY; rw [hmx, hmy]
  have uX : -(8388608 * nn g b1 b2) ≤ pX a1 a2 mx my ∧ pX a1 a2 mx my ≤ 8388608 * nn g b1 b2 := by unfold pX; omega
  have uY : -(8388608 * nn g b1 b2) ≤ pY g a1 a2 mx my ∧ pY g a1 a2 mx my ≤ 8388608 * nn g b1 b2 := by unfold pY; split <;> omega
  have s1 := nr_spec (pX a1 a2 mx my) (nn g b1 b2) hn
  have s2 := nr_spec (pY g a1 a2 mx my) (nn g b1 b2) hn
  have l1 := quo_le _ _ _ 8388608 hn uX s1
  have l2 := quo_le _ _ _ 8388608 hn uY s2
  have less := rem_less g a1 a2 b1 b2 (nr (pX a1 a2 mx my) (nn g b1 b2)) (nr (pY g a1 a2 mx my) (nn g b1 b2)) hg hne (by rw [cXe]; exact s1) (by rw [cYe]; exact s2)
  have pr := parts_le g _ _ (show nn g (a1 - pX (nr (pX a1 a2 mx my) (nn g b1 b2)) (nr (pY g a1 a2 mx my) (nn g b1 b2)) b1 b2) (a2 - pY g (nr (pX a1 a2 mx my) (nn g b1 b2)) (nr (pY g a1 a2 mx my) (nn g b1 b2)) b1 b2) ≤ 3298534883328 by omega)
  refine ⟨_, _, ?_, less⟩
  have j1 := mul_bd a1 mx 2097152 4194304 (by decide) (by decide) pa.1 hm1
  have j2 := mul_bd a2 my 2097152 2097152 (by decide) (by decide) pa.2 hmy'
  have j3 := mul_bd a1 my 2097152 2097152 (by decide) (by decide) pa.1 hmy'
  have j4 := mul_bd a2 mx 2097152 4194304 (by decide) (by decide) pa.2 hm1
  have N1 := near_any (pX a1 a2 mx my) (nn g b1 b2) ⟨hn, by omega⟩ (by unfold pX; omega)
  have N2 := near_any (pY g a1 a2 mx my) (nn g b1 b2) ⟨hn, by omega⟩ (by unfold pY; split <;> omega)
  generalize nr (pX a1 a2 mx my) (nn g b1 b2) = q1 at *
  generalize nr (pY g a1 a2 mx my) (nn g b1 b2) = q2 at *
  have M : MirrIs g b1 b2 mx my := fun W => by
    have := mirror_any g b1 b2 hg (by unfold Sz; omega) W
    rw [hmx, hmy] at this
    exact this
  intro W
  exact remainder_is g a1 a2 b1 b2 (nn g b1 b2) mx my _ _ q1 q2 _ _ W (inNormIs g b1 b2 hg pb.1 pb.2) M
    (prodIs g a1 a2 mx my hg (big_of _ _ 2097152 4194304 (by decide) (by decide) pa.1 hm1 (by decide)) (big_of _ _ 2097152 2097152 (by decide) (by decide) pa.2 hmy' (by decide)) (big_of _ _ 2097152 2097152 (by decide) (by decide) pa.1 hmy' (by decide)) (big_of _ _ 2097152 4194304 (by decide) (by decide) pa.2 hm1 (by decide)))
    N1 N2
    (prodIs g q1 q2 b1 b2 hg (big_of _ _ 8388609 2097152 (by decide) (by decide) l1 pb.1 (by decide)) (big_of _ _ 8388609 2097152 (by decide) (by decide) l2 pb.2 (by decide)) (big_of _ _ 8388609 2097152 (by decide) (by decide) l1 pb.2 (by decide)) (big_of _ _ 8388609 2097152 (by decide) (by decide) l2 pb.1 (by decide)))
    (by omega) (by omega)

/-! ### turned, it divides as before -/
theorem Dv.turn {g dx dy x y : Int} (hg : g = 4 ∨ g = 6) (h : Dv g dx dy x y) : Dv g (-dy) (tq g dx dy) x y := by
  obtain ⟨q1, q2, rfl, rfl⟩ := h
  rcases hg with rfl | rfl
  · exact ⟨q2, -q1, by simp only [pX, tq]; grind, by simp only [pY, tq]; grind⟩
  · exact ⟨q1 + q2, -q1, by simp only [pX, tq]; grind, by simp only [pY, tq]; grind⟩
theorem Lin.turn {g ax ay bx b z1 z2 : Int} (hg : g = 4 ∨ g = 6) (h : Lin g ax ay bx b z1 z2) : Lin g ax ay bx b (-z2) (tq g z1 z2) := by
  obtain ⟨s1, s2, t1, t2, rfl, rfl⟩ := h
  rcases hg with rfl | rfl
  · exact ⟨-s2, s1, -t2, t1, by simp only [pX, pY]; grind, by simp only [pX, pY, tq]; grind⟩
  · exact ⟨-s2, s1 + s2, -t2, t1 + t2, by simp only [pX, pY]; grind, by simp only [pX, pY, tq]; grind⟩
theorem Dv.tu {g dx dy x y : Int} (hg : g = 4 ∨ g = 6) (h : Dv g dx dy x y) (k : Nat) : Dv g (tu g k dx dy).1 (tu g k dx dy).2 x y := by
  induction k with
  | zero => exact h
  | succ k ih => exact ih.turn hg
theorem Lin.tu {g ax ay bx b z1 z2 : Int} (hg : g = 4 ∨ g = 6) (h : Lin g ax ay bx b z1 z2) (k : Nat) : Lin g ax ay bx b (tu g k z1 z2).1 (tu g k z1 z2).2 := by
  induction k with
  | zero => exact h
  | succ k ih => exact ih.turn hg
theorem nn_tu' (g : Int) (k : Nat) (x y : Int) : nn g (tu g k x y).1 (tu g k x y).2 = nn g x y := by
  induction k with
  | zero => rfl
  | succ k ih =>
    simp only [tu]
    rw [← ih]
    unfold nn tq; split <;> grind
theorem can_some (g : Nat) (x y : Int) (hg : (g : Int) = 4 ∨ (g : Int) = 6) (h : ∀ j, j < g → ¬ Can (tu g j x y).1 (tu g j x y).2) : x = 0 ∧ y = 0 := by
  rcases hg with e | e
  · obtain rfl : g = 4 := by omega
    have h0 := h 0 (by omega)
    have h1 := h 1 (by omega)
    have h2 := h 2 (by omega)
    have h3 := h 3 (by omega)
    simp [tu, tq, Can] at h0 h1 h2 h3
    omega
  · obtain rfl : g = 6 := by omega
    have h0 := h 0 (by omega)
    have h1 := h 1 (by omega)
    have h2 := h 2 (by omega)
    have h3 := h 3 (by omega)
    have h4 := h 4 (by omega)
    have h5 := h 5 (by omega)
    simp [tu, tq, Can] at h0 h1 h2 h3 h4 h5
    omega

/-! ### what Gcd answers -/
/-- a greatest divisor of two points, the one that is told -/
def GQ (g ax ay bx b dx dy : Int) : Prop := (Can dx dy ∨ (dx = 0 ∧ dy = 0)) ∧ Dv g dx dy ax ay ∧ Dv g dx dy bx b ∧ Lin g ax ay bx b dx dy ∧ nn g dx dy ≤ 3298534883328
def GI (g ax ay bx b a1 a2 b1 b2 : Int) : Prop := Lin g ax ay bx b a1 a2 ∧ Lin g ax ay bx b b1 b2 ∧ (∀ d1 d2, Dv g d1 d2 a1 a2 → Dv g d1 d2 b1 b2 → Dv g d1 d2 ax ay ∧ Dv g d1 d2 bx b) ∧ nn g a1 a2 ≤ 3298534883328 ∧ nn g b1 b2 ≤ 3298534883328

theorem gcd_any (g ax ay bx b : Int) (he : e2 g ax ay bx b = 0) : GcdIs g ax ay bx b (GQ g ax ay bx b) := by
  obtain ⟨hg, sa, sb⟩ := e2_zero _ _ _ _ _ he
  intro W
  refine gcd_loop g ax ay bx b W he (GI g ax ay bx b) (GQ g ax ay bx b) ?_ ?_ ?_
  · exact ⟨Lin.left _ _ _ _ _, Lin.right _ _ _ _ _, fun _ _ h k => ⟨h, k⟩, nn_sm _ _ _ sa, nn_sm _ _ _ sb⟩
  · intro a1 a2 b1 b2 ⟨i1, i2, i3, i4, i5⟩ hne
    obtain ⟨q1, q2, R, less⟩ := rem_step g a1 a2 b1 b2 hg i4 i5 hne
    have n0 := nn_nonneg g (a1 - pX q1 q2 b1 b2) (a2 - pY g q1 q2 b1 b2)
    refine ⟨_, _, R, by omega, i2, i1.sub i2 q1 q2, ?_, i5, by omega⟩
    intro d1 d2 h k
    have e := k.add (h.mul q1 q2)
    rw [← pX_comm q1 q2, ← pY_comm g q1 q2, show a1 - pX q1 q2 b1 b2 + pX q1 q2 b1 b2 = a1 by omega, show a2 - pY g q1 q2 b1 b2 + pY g q1 q2 b1 b2 = a2 by omega] at e
    exact i3 d1 d2 e h
  · intro a1 a2 ⟨i1, _, i3, i4, _⟩ W'
    have pa := parts_le g a1 a2 i4
    obtain ⟨gn, hgn⟩ := Int.eq_ofNat_of_zero_le (show 0 ≤ g by omega)
    have up := upright_is gn a1 a2 W' (by omega) (by unfold Sz; omega)
    rw [← hgn] at up
    refine up.mono ?_
    rintro e w' ⟨⟨k, hk, rfl, hc⟩, hb⟩
    refine ⟨⟨_, _, rfl, ?_, ?_⟩, hb⟩
    · rcases hc with h | ⟨rfl, h⟩
      · exact Or.inl h
      · rw [hgn] at h ⊢
        obtain ⟨rfl, rfl⟩ := can_some k a1 a2 (by omega) h
        have := nn_tu' (k : Int) k 0 0
        have z : nn (k : Int) 0 0 = 0 := by unfold nn; simp
        rw [z] at this
        exact Or.inr (nn_zero _ _ _ this)
    · have d := i3 a1 a2 (Dv.refl _ _ _) (Dv.zero _ _ _)
      exact ⟨d.1.tu hg k, d.2.tu hg k, i1.tu hg k, by rw [nn_tu']; exact i4⟩

/-! ### Divides -/
theorem dv_zero {g x y : Int} (h : Dv g 0 0 x y) : x = 0 ∧ y = 0 := by
  obtain ⟨q1, q2, rfl, rfl⟩ := h
  exact ⟨by unfold pX; grind, by unfold pY; split <;> grind⟩
theorem div_any (g dx dy ax ay : Int) (hg : g = 4 ∨ g = 6) (h : Dv g dx dy ax ay) (hd : nn g dx dy ≤ 3298534883328) (h1 : -68719476736 ≤ ax ∧ ax ≤ 68719476736) (h2 : -68719476736 ≤ ay ∧ ay ≤ 68719476736) : DivIs g dx dy ax ay := by
  by_cases hz : dx = 0 ∧ dy = 0
  · obtain ⟨rfl, rfl⟩ := hz
    obtain ⟨rfl, rfl⟩ := dv_zero h
    exact divides_zero g
  · have pd := parts_le g dx dy hd
    have hn := nn_pos g dx dy hz
    obtain ⟨q1, q2, ex, ey⟩ := h
    have ck := conj_self g dx dy hg q1 q2
    rw [pX_comm q1 q2, pY_comm g q1 q2, ← ex, ← ey] at ck
    unfold cX cY at ck
    have ht : -4194304 ≤ tq g dx dy ∧ tq g dx dy ≤ 4194304 := by unfold tq; split <;> omega
    have A1 : RMirrIs g dx dy (tq g dx dy) (-dy) := fun W => rmirrored_any g dx dy hg W (by unfold bd; omega) (by unfold bd; omega)
    have A2 := rproduct_any g ax ay (tq g dx dy) (-dy) hg h1 h2 ht (by omega)
    have A3 := square_any g dx dy hg (big_of _ _ 2097152 2097152 (by decide) (by decide) pd.1 pd.1 (by decide)) (big_of _ _ 2097152 2097152 (by decide) (by decide) pd.1 pd.2 (by decide)) (big_of _ _ 2097152 2097152 (by decide) (by decide) pd.2 pd.2 (by decide))
    rw [ck.1, ck.2] at A2
    by_cases z : dx = 0
    · subst z
      exact divides_y g dy ax ay _ _ _ _ _ (by simp; omega) A1 A2 A3 ⟨hn, by omega⟩ (Int.mul_tmod_left _ _) (Int.mul_tmod_left _ _)
    · exact divides_x g dx dy ax ay _ _ _ _ _ (by simp [z]) A1 A2 A3 ⟨hn, by omega⟩ (Int.mul_tmod_left _ _) (Int.mul_tmod_left _ _)

theorem law7_any (g ax ay bx b cx c : Int) (w : World) : Law7 g ax ay bx b cx c w := by
  by_cases he : e2 g ax ay bx b = 0
  · obtain ⟨hg, sa, sb⟩ := e2_zero _ _ _ _ _ he
    have ha := (sm2_iff _ _).1 sa
    have hb := (sm2_iff _ _).1 sb
    have T1 := timesIs g ax ay cx c
    have T2 := timesIs g bx b cx c
    refine law7_ok g ax ay bx b cx c w _ _ _ _ _ _ (GQ g ax ay bx b) (fun fx fy => (tE g ax ay cx c = 0 ∧ tE g bx b cx c = 0) ∧ GQ g (pX ax ay cx c) (pY g ax ay cx c) (pX bx b cx c) (pY g bx b cx c) fx fy) (GQ g (pX ax ay cx c) (pY g ax ay cx c) (pX bx b cx c) (pY g bx b cx c)) (gcd_any g ax ay bx b he) T1 T2 ?_ ?_
    · intro dx dy ⟨_, da, db, lin, nd⟩
      refine ⟨div_any g dx dy ax ay hg da nd (by omega) (by omega), div_any g dx dy bx b hg db nd (by omega) (by omega), ?_⟩
      intro fx fy ⟨⟨t1, t2⟩, _, fa, fb, flin, nf⟩
      obtain ⟨_, _, sc, sx, _, _⟩ := tE_zero _ _ _ _ _ t1
      obtain ⟨_, _, _, sy, _, _⟩ := tE_zero _ _ _ _ _ t2
      have hc := (sm2_iff _ _).1 sc
      have pf := parts_le g fx fy nf
      have pd := parts_le g dx dy nd
      -- c divides a c and b c
      have ca : Dv g cx c (pX ax ay cx c) (pY g ax ay cx c) := ⟨ax, ay, pX_comm _ _ _ _, pY_comm _ _ _ _ _⟩
      have cb : Dv g cx c (pX bx b cx c) (pY g bx b cx c) := ⟨bx, b, pX_comm _ _ _ _, pY_comm _ _ _ _ _⟩
      -- c d divides them, too
      have cda : Dv g (pX cx c dx dy) (pY g cx c dx dy) (pX ax ay cx c) (pY g ax ay cx c) := by
        obtain ⟨q1, q2, e1, e2⟩ := da
        exact ⟨q1, q2, by rw [pX_assoc, ← e1, ← e2]; exact pX_comm _ _ _ _, by rw [pY_assoc, ← e1, ← e2]; exact pY_comm _ _ _ _ _⟩
      have cdb : Dv g (pX cx c dx dy) (pY g cx c dx dy) (pX bx b cx c) (pY g bx b cx c) := by
        obtain ⟨q1, q2, e1, e2⟩ := db
        exact ⟨q1, q2, by rw [pX_assoc, ← e1, ← e2]; exact pX_comm _ _ _ _, by rw [pY_assoc, ← e1, ← e2]; exact pY_comm _ _ _ _ _⟩
      -- c d is made of a c and b c
      have fcd : Dv g fx fy (pX cx c dx dy) (pY g cx c dx dy) := by
        refine fa.lin fb ?_
        obtain ⟨s1, s2, t1, t2, rfl, rfl⟩ := lin
        exact ⟨s1, s2, t1, t2, by unfold pX pY; split <;> grind, by unfold pX pY; split <;> grind⟩
      have np : nn g (pX cx c dx dy) (pY g cx c dx dy) ≤ 3298534883328 := by
        by_cases z1 : pX ax ay cx c = 0 ∧ pY g ax ay cx c = 0
        · by_cases z2 : pX bx b cx c = 0 ∧ pY g bx b cx c = 0
          · have z := flin
            rw [z1.1, z1.2, z2.1, z2.2] at z
            have fz : fx = 0 ∧ fy = 0 := dv_zero ((Dv.zero g 0 0).lin (Dv.zero g 0 0) z)
            rw [fz.1, fz.2] at fcd
            have := dv_zero fcd
            rw [this.1, this.2]
            have : nn g 0 0 = 0 := by unfold nn; simp
            omega
          · have := nn_dv cdb z2
            have := nn_sm g _ _ sy
            omega
        · have := nn_dv cda z1
          have := nn_sm g _ _ sx
          omega
      have pp := parts_le g _ _ np
      have nc := nn_sm g cx c sc
      exact ⟨div_any g cx c fx fy hg (ca.lin cb flin) nc (by omega) (by omega), _, _, rproduct_any g cx c dx dy hg (by omega) (by omega) (by omega) (by omega),
        div_any g _ _ fx fy hg (cda.lin cdb flin) np (by omega) (by omega), div_any g fx fy _ _ hg fcd nf (by omega) (by omega)⟩
    · show _ ∨ _ ∨ _
      by_cases t1 : tE g ax ay cx c = 0
      · by_cases t2 : tE g bx b cx c = 0
        · obtain ⟨_, _, _, sx, x1, x2⟩ := tE_zero _ _ _ _ _ t1
          obtain ⟨_, _, _, sy, y1, y2⟩ := tE_zero _ _ _ _ _ t2
          refine Or.inr (Or.inr ⟨t1, t2, ?_, fun u v h => ⟨⟨t1, t2⟩, h⟩⟩)
          rw [x1, x2, y1, y2]
          exact gcd_any _ _ _ _ _ (e2_of _ _ _ _ _ hg sx sy)
        · exact Or.inr (Or.inl ⟨t1, tE_pos _ _ _ _ _ t2⟩)
      · exact Or.inl (tE_pos _ _ _ _ _ t1)
  · exact law7_err g ax ay bx b cx c w _ rfl (e2_pos _ _ _ _ _ he)

/-! ### the row -/
set_option maxRecDepth 100000 in
theorem gcd_lifted (os : Os) (started : os.Started) (H : Type) (enc : TypeId × Value → H) :
    ReturnsInHanded {} Try.checked os 7 .any (Rows.planeGcdSpec.pre6 enc Try.prog Try.f7 Rows.planeGcdRow.domain false) (Rows.planeGcdSpec.post enc Try.prog Try.f7 false true false false) := by
  refine returnsInHanded_of_change (C := Try.checked) own started (by kernel_rfl) Try.func7
    (ChangeSpec.witness6 (enc := enc) (C := Try.checked) false ⟨#[], #[.int .i64 0, .agg #[.int .i64 0, .int .i64 0], .agg #[.int .i64 0, .int .i64 0], .agg #[.int .i64 0, .int .i64 0]], []⟩ 8 (by kernel_rfl) (by kernel_rfl) (by kernel_rfl) (by kernel_rfl)) ?_
  intro W base args ds gs before hval0 hW hcnd _
  have hval : ∀ (j : Nat) t v, Try.f7.params[j]? = some t → args[j]? = some v → Value.okWide Try.prog W .any base t v := hval0
  have hW' := hW
  obtain ⟨p, q, hA0, hV, rfl, hfz, hnd⟩ := hW
  have hA : DataW.TrodAll enc Try.prog W 0 (fun _ => true) true Try.f7.params.toList args.toList ds p := hA0
  rw [Try.params7] at hA hval
  obtain ⟨v0, v1, v2, v3, d0, d1, d2, d3, p0, p1, p2, p3, rfl, rfl, rfl, h0, h1, h2, h3⟩ := trodAll_four hA
  obtain ⟨rfl, rfl⟩ := trodVars_none hV
  obtain ⟨g, rfl, rfl, rfl, wg⟩ := open_int Try.underlying3 (hval 0 3 v0 rfl rfl) h0
  obtain ⟨ax, ay, rfl, rfl, rfl, wax, way⟩ := point_open (hval 1 23 v1 rfl rfl) h1
  obtain ⟨bx, b, rfl, rfl, rfl, wbx, wb⟩ := point_open (hval 2 23 v2 rfl rfl) h2
  obtain ⟨cx, c, rfl, rfl, rfl, wcx, wc⟩ := point_open (hval 3 23 v3 rfl rfl) h3
  clear hA0 hval0
  simp only [List.append_nil] at hW'
  have law := law7_any g ax ay bx b cx c W
  unfold Law7 at law
  refine law.mono fun e W' ⟨he, hg⟩ => ?_
  subst he
  exact ⟨_, rfl, _, _, _, [], [], [], hW', trodAll_cons_mk (shut_bool Try.underlying4 _) trodAll_mk0,
    trodAll_cons_mk (shut_int Try.underlying3 wg) (trodAll_cons_mk (point_shut wax way) (trodAll_cons_mk (point_shut wbx wb) (trodAll_cons_mk (point_shut wcx wc) trodAll_mk0))), rfl, hg.frame _, fun h => by cases h⟩

theorem gcd_over : Rows.planeGcdRow.holds Try.pinned (OpenSpec.ofChange Rows.planeGcdSpec) :=
  OpenClaim.holds_of_wide 7 Try.f7 rfl rfl rfl rfl rfl rfl rfl ⟨rfl, rfl, rfl, rfl, rfl⟩ rfl rfl rfl rfl rfl (by kernel_rfl) Try.func7 (by kernel_rfl)
    (of_decide_eq_true (by kernel_rfl)) (by unfold Func.isWrapper; first | (rw [if_pos (by decide +kernel)]; kernel_rfl) | (rw [if_neg (by decide +kernel)]; exact ⟨rfl, rfl⟩))
    (fun os started H enc _ => gcd_lifted os started H enc)

theorem gcd_holds : Rows.PlaneGcdSaid := gcd_over
#print axioms gcd_holds
end Go.Proofs.Ytfopjkcnfngbpaa
