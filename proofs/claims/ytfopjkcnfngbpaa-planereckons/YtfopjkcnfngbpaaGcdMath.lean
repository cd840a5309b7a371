/-
  Plain facts about the whole numbers of Gauss and of Eisenstein: dividing with a remainder that is shorter, and what a greatest divisor is. No Go in sight but for the definitions.
-/
import Derived.Test.YtfopjkcnfngbpaaRingProof
import Derived.Test.YtfopjkcnfngbpaaGcdA
namespace Go.Proofs.Ytfopjkcnfngbpaa
open Go.RowKit

/-! ### dividing -/
/-- (ax, ay) divides (bx, b) -/
def Dv (g ax ay bx b : Int) : Prop := ∃ qx qy, bx = pX ax ay qx qy ∧ b = pY g ax ay qx qy
/-- (z1, z2) is made of (ax, ay) and (bx, b) -/
def Lin (g ax ay bx b z1 z2 : Int) : Prop := ∃ sx sy tx ty, z1 = pX ax ay sx sy + pX bx b tx ty ∧ z2 = pY g ax ay sx sy + pY g bx b tx ty

theorem Dv.refl (g x y : Int) : Dv g x y x y := ⟨1, 0, by unfold pX; grind, by unfold pY; split <;> grind⟩
theorem Dv.zero (g x y : Int) : Dv g x y 0 0 := ⟨0, 0, by unfold pX; grind, by unfold pY; split <;> grind⟩
theorem Dv.add {g ax ay bx b cx c : Int} (h : Dv g ax ay bx b) (k : Dv g ax ay cx c) : Dv g ax ay (bx + cx) (b + c) := by
  obtain ⟨q1, q2, rfl, rfl⟩ := h
  obtain ⟨r1, r2, rfl, rfl⟩ := k
  exact ⟨q1 + r1, q2 + r2, by unfold pX; grind, by unfold pY; split <;> grind⟩
theorem Dv.mul {g ax ay bx b : Int} (h : Dv g ax ay bx b) (s t : Int) : Dv g ax ay (pX bx b s t) (pY g bx b s t) := by
  obtain ⟨q1, q2, rfl, rfl⟩ := h
  exact ⟨pX q1 q2 s t, pY g q1 q2 s t, by rw [pX_assoc], by rw [pY_assoc]⟩
theorem Dv.lin {g dx dy ax ay bx b z1 z2 : Int} (h : Dv g dx dy ax ay) (k : Dv g dx dy bx b) (l : Lin g ax ay bx b z1 z2) : Dv g dx dy z1 z2 := by
  obtain ⟨sx, sy, tx, ty, rfl, rfl⟩ := l
  exact (h.mul sx sy).add (k.mul tx ty)
theorem Lin.left (g ax ay bx b : Int) : Lin g ax ay bx b ax ay := ⟨1, 0, 0, 0, by unfold pX; grind, by unfold pY; split <;> grind⟩
theorem Lin.right (g ax ay bx b : Int) : Lin g ax ay bx b bx b := ⟨0, 0, 1, 0, by unfold pX; grind, by unfold pY; split <;> grind⟩
theorem Lin.sub {g ax ay bx b u1 u2 v1 v2 : Int} (h : Lin g ax ay bx b u1 u2) (k : Lin g ax ay bx b v1 v2) (q1 q2 : Int) : Lin g ax ay bx b (u1 - pX q1 q2 v1 v2) (u2 - pY g q1 q2 v1 v2) := by
  obtain ⟨s1, s2, t1, t2, rfl, rfl⟩ := h
  obtain ⟨m1, m2, n1, n2, rfl, rfl⟩ := k
  exact ⟨s1 - pX q1 q2 m1 m2, s2 - pY g q1 q2 m1 m2, t1 - pX q1 q2 n1 n2, t2 - pY g q1 q2 n1 n2, by unfold pX pY; split <;> grind, by unfold pX pY; split <;> grind⟩

/-! ### how long the parts are -/
theorem parts_le (g x y : Int) (h : nn g x y ≤ 3298534883328) : (-2097152 ≤ x ∧ x ≤ 2097152) ∧ (-2097152 ≤ y ∧ y ≤ 2097152) := by
  have h0 : 3 * (x * x) ≤ 4 * nn g x y ∧ 3 * (y * y) ≤ 4 * nn g x y := by
    have s1 := sq_nonneg (x + 2 * y)
    have s2 := sq_nonneg (2 * x + y)
    have s3 := sq_nonneg x
    have s4 := sq_nonneg y
    have e1 : (x + 2 * y) * (x + 2 * y) = x * x + 4 * (x * y) + 4 * (y * y) := by grind
    have e2 : (2 * x + y) * (2 * x + y) = 4 * (x * x) + 4 * (x * y) + y * y := by grind
    unfold nn
    split <;> omega
  have key : ∀ z : Int, z * z ≤ 4398046511104 → -2097152 ≤ z ∧ z ≤ 2097152 := by
    intro z hz
    refine ⟨?_, ?_⟩
    · by_cases k : -2097152 ≤ z
      · exact k
      · have := Int.mul_le_mul (a := 2097153) (b := 2097153) (c := -z) (d := -z) (by omega) (by omega) (by decide) (by omega)
        have e : -z * -z = z * z := by grind
        omega
    · by_cases k : z ≤ 2097152
      · exact k
      · have := Int.mul_le_mul (a := 2097153) (b := 2097153) (c := z) (d := z) (by omega) (by omega) (by decide) (by omega)
        omega
  exact ⟨key x (by omega), key y (by omega)⟩
theorem part_le_nn (g x y : Int) : (-(nn g x y) ≤ x ∧ x ≤ nn g x y) ∧ (-(nn g x y) ≤ y ∧ y ≤ nn g x y) := by
  have s1 := sq_nonneg (x + 2 * y)
  have s2 := sq_nonneg (2 * x + y)
  have e1 : (x + 2 * y) * (x + 2 * y) = x * x + 4 * (x * y) + 4 * (y * y) := by grind
  have e2 : (2 * x + y) * (2 * x + y) = 4 * (x * x) + 4 * (x * y) + y * y := by grind
  have a1 := sq_nonneg (x - 2)
  have a2 := sq_nonneg (x + 2)
  have a3 := sq_nonneg (y - 2)
  have a4 := sq_nonneg (y + 2)
  have b1 : (x - 2) * (x - 2) = x * x - 4 * x + 4 := by grind
  have b2 : (x + 2) * (x + 2) = x * x + 4 * x + 4 := by grind
  have b3 : (y - 2) * (y - 2) = y * y - 4 * y + 4 := by grind
  have b4 : (y + 2) * (y + 2) = y * y + 4 * y + 4 := by grind
  have c1 := sq_nonneg x
  have c2 := sq_nonneg y
  have x1 : x ≤ x * x ∧ -x ≤ x * x := by
    by_cases k : x = 0
    · subst k; omega
    · by_cases l : 0 < x
      · have := Int.mul_le_mul_of_nonneg_left (a := 1) (b := x) (c := x) (by omega) (by omega); omega
      · have := Int.mul_le_mul_of_nonneg_left (a := 1) (b := -x) (c := -x) (by omega) (by omega)
        have e : -x * -x = x * x := by grind
        omega
  have y1 : y ≤ y * y ∧ -y ≤ y * y := by
    by_cases k : y = 0
    · subst k; omega
    · by_cases l : 0 < y
      · have := Int.mul_le_mul_of_nonneg_left (a := 1) (b := y) (c := y) (by omega) (by omega); omega
      · have := Int.mul_le_mul_of_nonneg_left (a := 1) (b := -y) (c := -y) (by omega) (by omega)
        have e : -y * -y = y * y := by grind
        omega
  unfold nn
  split <;> omega
theorem nn_zero (g x y : Int) (h : nn g x y = 0) : x = 0 ∧ y = 0 := by
  have := part_le_nn g x y
  omega
theorem nn_pos (g x y : Int) (h : ¬ (x = 0 ∧ y = 0)) : 1 ≤ nn g x y := by
  have := nn_nonneg g x y
  by_cases k : nn g x y = 0
  · exact absurd (nn_zero g x y k) h
  · omega
theorem nn_sm (g x y : Int) (h : sm2 x y = true) : nn g x y ≤ 3298534883328 := by
  have k := (sm2_iff _ _).1 h
  have h1 := mul_bd x x 1048576 1048576 (by decide) (by decide) k.1 k.1
  have h2 := mul_bd y y 1048576 1048576 (by decide) (by decide) k.2 k.2
  have h3 := mul_bd x y 1048576 1048576 (by decide) (by decide) k.1 k.2
  unfold nn
  split <;> omega
/-- what divides something that is not 0 is no longer -/
theorem nn_dv {g dx dy ax ay : Int} (h : Dv g dx dy ax ay) (ha : ¬ (ax = 0 ∧ ay = 0)) : nn g dx dy ≤ nn g ax ay := by
  obtain ⟨q1, q2, rfl, rfl⟩ := h
  rw [nn_mul]
  have hq : 1 ≤ nn g q1 q2 := by
    apply nn_pos
    rintro ⟨rfl, rfl⟩
    exact ha ⟨by unfold pX; grind, by unfold pY; split <;> grind⟩
  have := Int.mul_le_mul_of_nonneg_left (a := 1) (b := nn g q1 q2) (c := nn g dx dy) hq (nn_nonneg g dx dy)
  omega

/-! ### the remainder -/
/-- a times b mirrored -/
def cX (g ax ay bx b : Int) : Int := pX ax ay (tq g bx b) (-b)
def cY (g ax ay bx b : Int) : Int := pY g ax ay (tq g bx b) (-b)
theorem mirror_nn (g x y : Int) : nn g (tq g x y) (-y) = nn g x y := by unfold nn tq; split <;> grind
theorem conj_self (g bx b : Int) (hg : g = 4 ∨ g = 6) (qx qy : Int) : cX g (pX qx qy bx b) (pY g qx qy bx b) bx b = qx * nn g bx b ∧ cY g (pX qx qy bx b) (pY g qx qy bx b) bx b = qy * nn g bx b := by
  rcases hg with rfl | rfl
  · simp only [cX, cY, pX, pY, tq, nn]; exact ⟨by grind, by grind⟩
  · simp only [cX, cY, pX, pY, tq, nn]; exact ⟨by grind, by grind⟩
theorem c_sub (g ax ay cx c bx b : Int) : cX g (ax - cx) (ay - c) bx b = cX g ax ay bx b - cX g cx c bx b ∧ cY g (ax - cx) (ay - c) bx b = cY g ax ay bx b - cY g cx c bx b := by
  unfold cX cY pX pY; refine ⟨by grind, ?_⟩; split <;> grind
/-- what is left is shorter -/
theorem rem_less (g ax ay bx b qx qy : Int) (hg : g = 4 ∨ g = 6) (hb : ¬ (bx = 0 ∧ b = 0))
    (h1 : -(nn g bx b) ≤ 2 * (cX g ax ay bx b - qx * nn g bx b) ∧ 2 * (cX g ax ay bx b - qx * nn g bx b) ≤ nn g bx b)
    (h2 : -(nn g bx b) ≤ 2 * (cY g ax ay bx b - qy * nn g bx b) ∧ 2 * (cY g ax ay bx b - qy * nn g bx b) ≤ nn g bx b) :
    nn g (ax - pX qx qy bx b) (ay - pY g qx qy bx b) < nn g bx b := by
  have hn := nn_pos g bx b hb
  have cs := c_sub g ax ay (pX qx qy bx b) (pY g qx qy bx b) bx b
  have ck := conj_self g bx b hg qx qy
  rw [ck.1, ck.2] at cs
  have hm : nn g (cX g (ax - pX qx qy bx b) (ay - pY g qx qy bx b) bx b) (cY g (ax - pX qx qy bx b) (ay - pY g qx qy bx b) bx b) = nn g (ax - pX qx qy bx b) (ay - pY g qx qy bx b) * nn g bx b := by
    unfold cX cY; rw [nn_mul, mirror_nn]
  rw [cs.1, cs.2] at hm
  generalize cX g ax ay bx b - qx * nn g bx b = r1 at *
  generalize cY g ax ay bx b - qy * nn g bx b = r2 at *
  generalize nn g (ax - pX qx qy bx b) (ay - pY g qx qy bx b) = R at *
  generalize nn g bx b = n at *
  clear cs ck
  have m1 := mul_bd (2 * r1) (2 * r1) n n (by omega) (by omega) (by omega) (by omega)
  have m2 := mul_bd (2 * r2) (2 * r2) n n (by omega) (by omega) (by omega) (by omega)
  have m3 := mul_bd (2 * r1) (2 * r2) n n (by omega) (by omega) (by omega) (by omega)
  have f1 : 2 * r1 * (2 * r1) = 4 * (r1 * r1) := by grind
  have f2 : 2 * r2 * (2 * r2) = 4 * (r2 * r2) := by grind
  have f3 : 2 * r1 * (2 * r2) = 4 * (r1 * r2) := by grind
  have h4 : 4 * (R * n) ≤ 3 * (n * n) := by
    rw [← hm]; unfold nn; split <;> omega
  by_cases k : R < n
  · exact k
  · have := Int.mul_le_mul_of_nonneg_right (a := n) (b := R) (c := n) (by omega) (by omega)
    have hp : 0 < n * n := Int.mul_pos (by omega) (by omega)
    omega

end Go.Proofs.Ytfopjkcnfngbpaa
