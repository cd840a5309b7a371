/-
  Plain facts: what is left when nothing that is taken away makes it shorter is shorter than what was taken away; two greatest divisors that are told are one. No Go in sight but for the definitions.
-/
import Derived.Test.YtfopjkcnfngbpaaGcdProof
namespace Go.Proofs.Ytfopjkcnfngbpaa
open Go.RowKit

theorem rest_less4 (ax ay bx b : Int) (hb : ¬ (bx = 0 ∧ b = 0))
    (h0 : nn 4 ax ay ≤ nn 4 (ax + bx) (ay + b)) (h1 : nn 4 ax ay ≤ nn 4 (ax + -b) (ay + bx))
    (h2 : nn 4 ax ay ≤ nn 4 (ax + -bx) (ay + -b)) (h3 : nn 4 ax ay ≤ nn 4 (ax + b) (ay + -bx)) : nn 4 ax ay < nn 4 bx b := by
  have := rem_less 4 ax ay bx b 0 0 (Or.inl rfl) hb (by simp [cX, tq, pX, nn] at *; grind) (by simp [cY, tq, pY, nn] at *; grind)
  simpa [pX, pY] using this

theorem rest_less6 (ax ay bx b : Int) (hb : ¬ (bx = 0 ∧ b = 0))
    (h0 : nn 6 ax ay ≤ nn 6 (ax + bx) (ay + b)) (h1 : nn 6 ax ay ≤ nn 6 (ax + -b) (ay + (bx + b)))
    (h2 : nn 6 ax ay ≤ nn 6 (ax + -(bx + b)) (ay + bx)) (h3 : nn 6 ax ay ≤ nn 6 (ax + -bx) (ay + -b))
    (h4 : nn 6 ax ay ≤ nn 6 (ax + b) (ay + -(bx + b))) (h5 : nn 6 ax ay ≤ nn 6 (ax + (bx + b)) (ay + -bx)) : nn 6 ax ay < nn 6 bx b := by
  have hn := nn_pos 6 bx b hb
  have hm : nn 6 (cX 6 ax ay bx b) (cY 6 ax ay bx b) = nn 6 ax ay * nn 6 bx b := by unfold cX cY; rw [nn_mul, mirror_nn]
  have k0 : -(nn 6 bx b) ≤ 2 * cX 6 ax ay bx b + cY 6 ax ay bx b := by simp [cX, cY, tq, pX, pY, nn] at *; grind
  have k3 : 2 * cX 6 ax ay bx b + cY 6 ax ay bx b ≤ nn 6 bx b := by simp [cX, cY, tq, pX, pY, nn] at *; grind
  have k1 : -(nn 6 bx b) ≤ cX 6 ax ay bx b + 2 * cY 6 ax ay bx b := by simp [cX, cY, tq, pX, pY, nn] at *; grind
  have k4 : cX 6 ax ay bx b + 2 * cY 6 ax ay bx b ≤ nn 6 bx b := by simp [cX, cY, tq, pX, pY, nn] at *; grind
  have k2 : cX 6 ax ay bx b - cY 6 ax ay bx b ≤ nn 6 bx b := by simp [cX, cY, tq, pX, pY, nn] at *; grind
  have k5 : -(nn 6 bx b) ≤ cX 6 ax ay bx b - cY 6 ax ay bx b := by simp [cX, cY, tq, pX, pY, nn] at *; grind
  generalize cX 6 ax ay bx b = x at *
  generalize cY 6 ax ay bx b = y at *
  generalize nn 6 ax ay = R at *
  generalize nn 6 bx b = n at *
  clear h0 h1 h2 h3 h4 h5
  have m1 := mul_bd (2 * x + y) (2 * x + y) n n (by omega) (by omega) (by omega) (by omega)
  have m2 := mul_bd (x + 2 * y) (x + 2 * y) n n (by omega) (by omega) (by omega) (by omega)
  have m3 := mul_bd (x - y) (x - y) n n (by omega) (by omega) (by omega) (by omega)
  have f : (2 * x + y) * (2 * x + y) + (x + 2 * y) * (x + 2 * y) + (x - y) * (x - y) = 6 * nn 6 x y := by simp [nn]; grind
  rw [hm] at f
  by_cases k : R < n
  · exact k
  · have := Int.mul_le_mul_of_nonneg_right (a := n) (b := R) (c := n) (by omega) (by omega)
    have hp : 0 < n * n := Int.mul_pos (by omega) (by omega)
    omega

theorem rest_less (g : Nat) (ax ay bx b : Int) (hg : (g : Int) = 4 ∨ (g : Int) = 6) (hb : ¬ (bx = 0 ∧ b = 0))
    (h : ∀ k, k < g → nn g ax ay ≤ nn g (ax + (tu g k bx b).1) (ay + (tu g k bx b).2)) : nn g ax ay < nn g bx b := by
  rcases hg with e | e
  · obtain rfl : g = 4 := by omega
    have h0 := h 0 (by omega)
    have h1 := h 1 (by omega)
    have h2 := h 2 (by omega)
    have h3 := h 3 (by omega)
    simp [tu, tq] at h0 h1 h2 h3
    exact rest_less4 ax ay bx b hb h0 h1 h2 h3
  · obtain rfl : g = 6 := by omega
    have h0 := h 0 (by omega)
    have h1 := h 1 (by omega)
    have h2 := h 2 (by omega)
    have h3 := h 3 (by omega)
    have h4 := h 4 (by omega)
    have h5 := h 5 (by omega)
    have t2 : tu ((6 : Nat) : Int) 2 bx b = (-(bx + b), bx) := by simp [tu, tq]; omega
    have t3 : tu ((6 : Nat) : Int) 3 bx b = (-bx, -b) := by simp [tu, tq]; omega
    have t4 : tu ((6 : Nat) : Int) 4 bx b = (b, -(bx + b)) := by simp [tu, tq]; omega
    have t5 : tu ((6 : Nat) : Int) 5 bx b = (bx + b, -bx) := by simp [tu, tq]; omega
    rw [t2] at h2
    rw [t3] at h3
    rw [t4] at h4
    rw [t5] at h5
    simp [tu, tq] at h0 h1
    exact rest_less6 ax ay bx b hb h0 h1 h2 h3 h4 h5

theorem gq_unique (g ax ay bx b d1 d2 e1 e2 : Int) (hg : g = 4 ∨ g = 6) (h : GQ g ax ay bx b d1 d2) (k : GQ g ax ay bx b e1 e2) : d1 = e1 ∧ d2 = e2 := by
  have de : Dv g d1 d2 e1 e2 := Dv.lin h.2.1 h.2.2.1 k.2.2.2.1
  have ed : Dv g e1 e2 d1 d2 := Dv.lin k.2.1 k.2.2.1 h.2.2.2.1
  rcases h.1 with c | ⟨z1, z2⟩
  · rcases k.1 with c' | ⟨z1, z2⟩
    · have n1 := nn_dv de (by unfold Can at c'; omega)
      have n2 := nn_dv ed (by unfold Can at c; omega)
      have p := nn_pos g d1 d2 (by unfold Can at c; omega)
      obtain ⟨q1, q2, r1, r2⟩ := de
      have m : nn g e1 e2 = nn g d1 d2 * nn g q1 q2 := by rw [r1, r2, nn_mul]
      have hq : nn g q1 q2 = 1 := by
        have : nn g d1 d2 * nn g q1 q2 = nn g d1 d2 * 1 := by omega
        exact Int.eq_of_mul_eq_mul_left (by omega) this
      have bb := part_le_nn g q1 q2
      rw [hq] at bb
      have hx : q1 = -1 ∨ q1 = 0 ∨ q1 = 1 := by omega
      have hy : q2 = -1 ∨ q2 = 0 ∨ q2 = 1 := by omega
      unfold Can at c c'
      clear n1 n2 p m bb ed h k
      rcases hg with rfl | rfl <;> rcases hx with rfl | rfl | rfl <;> rcases hy with rfl | rfl | rfl <;> simp [nn] at hq <;> simp [pX, pY] at r1 r2 <;> omega
    · subst z1 z2
      obtain ⟨q1, q2, r1, r2⟩ := ed
      have : d1 = 0 := by rw [r1]; simp [pX]
      unfold Can at c
      omega
  · subst z1 z2
    obtain ⟨q1, q2, r1, r2⟩ := de
    have u : e1 = 0 := by rw [r1]; simp [pX]
    have v : e2 = 0 := by rw [r2]; simp [pY]
    omega

end Go.Proofs.Ytfopjkcnfngbpaa
