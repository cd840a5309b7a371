/-
  How far rounding goes in a mix: sums of products over sums, in whole numbers.
-/
import Derived.Test.YtlilmchlddiacaaFl
namespace Go.Proofs.Ytlilmchlddiacaa

theorem up1 {U O h a S P T s x : Nat} (h1 : U * (S * O) ≤ (U * h + a * O) * T) (hP : U * (P * O) ≤ U * (s * x) + s * x + U * O) (hx : x ≤ h) (hh : h ≤ O) (hs : U ≤ s) : U * ((S + P) * O) ≤ U * (h * (T + s)) + (a + 2) * (O * (T + s)) := by
  have k1 : U * (s * x) ≤ U * (s * h) := Nat.mul_le_mul_left _ (Nat.mul_le_mul_left _ hx)
  have k2 : s * x ≤ s * O := Nat.mul_le_mul_left _ (Nat.le_trans hx hh)
  have k3 : U * O ≤ s * O := Nat.mul_le_mul_right _ hs
  grind
theorem up2 {U O h a Q M S' : Nat} (hQ : U * (Q * O) ≤ U * (h * M) + (a + 2) * (O * M)) (hS : U * S' ≤ U * Q + Q + U) (hh : h ≤ O) (ha : a + 3 ≤ U) (hM : U * U ≤ M) : U * (S' * O) ≤ M * (U * h + (a + 4) * O) := by
  have hU : 0 < U := by omega
  refine Nat.le_of_mul_le_mul_left ?_ hU
  have k1 := Nat.mul_le_mul_right (U * O) hS
  have k2 := Nat.mul_le_mul_left U hQ
  have k3 : U * (h * M) ≤ U * (O * M) := Nat.mul_le_mul_left _ (Nat.mul_le_mul_right _ hh)
  have k4 : U * U * O ≤ M * O := Nat.mul_le_mul_right _ hM
  have k5 : (a + 3) * (O * M) ≤ U * (O * M) := Nat.mul_le_mul_right _ ha
  grind
theorem tw {U M T' : Nat} (hT : U * M ≤ U * T' + M + U) (hM : U ≤ M) (hU : 4 ≤ U) : U * M ≤ U * T' + 4 * T' ∧ M ≤ 2 * T' := by
  have k1 : 4 * M ≤ U * M := Nat.mul_le_mul_right _ hU
  have k2 : U * M ≤ U * (2 * T') := by rw [Nat.mul_left_comm]; omega
  have k3 := Nat.le_of_mul_le_mul_left k2 (by omega)
  exact ⟨by omega, k3⟩
theorem up3 {U O A M T' : Nat} (hT : U * M ≤ U * T' + M + U) (hM : U ≤ M) (hU : 4 ≤ U) (hA : A ≤ 2 * (U * O)) : M * A ≤ (A + 8 * O) * T' := by
  obtain ⟨k1, -⟩ := tw hT hM hU
  refine Nat.le_of_mul_le_mul_left ?_ (show 0 < U by omega)
  have k2 := Nat.mul_le_mul_right A k1
  have k3 := Nat.mul_le_mul_left (4 * T') hA
  grind
theorem mix_up {U O h a S P T s x S' T' : Nat} (h1 : U * (S * O) ≤ (U * h + a * O) * T) (hP : U * (P * O) ≤ U * (s * x) + s * x + U * O) (hS : U * S' ≤ U * (S + P) + (S + P) + U) (hT : U * (T + s) ≤ U * T' + (T + s) + U) (hx : x ≤ h) (hh : h ≤ O) (hs : U * U ≤ s) (ha : a + 20 ≤ U) :
    U * (S' * O) ≤ (U * h + (a + 12) * O) * T' := by
  have hUU : U ≤ U * U := Nat.le_mul_of_pos_left U (by omega)
  have q1 := up1 h1 hP hx hh (by omega)
  have q2 := up2 q1 hS hh (by omega) (by omega)
  have q3 := up3 (A := U * h + (a + 4) * O) (O := O) hT (by omega) (by omega) (by
    have k1 : U * h ≤ U * O := Nat.mul_le_mul_left _ hh
    have k2 : (a + 4) * O ≤ U * O := Nat.mul_le_mul_right _ (by omega)
    omega)
  refine Nat.le_trans q2 (Nat.le_trans q3 (Nat.mul_le_mul_right _ ?_))
  simp only [Nat.add_mul]
  omega
theorem lo1 {U O l a S P T s x : Nat} (h1 : U * (l * T) ≤ U * (S * O) + a * (O * T)) (hP : U * (s * x) ≤ U * (P * O) + s * x + U * O) (hx : l ≤ x) (hh : x ≤ O) (hs : U ≤ s) : U * (l * (T + s)) ≤ U * ((S + P) * O) + (a + 2) * (O * (T + s)) := by
  have k1 : U * (s * l) ≤ U * (s * x) := Nat.mul_le_mul_left _ (Nat.mul_le_mul_left _ hx)
  have k2 : s * x ≤ s * O := Nat.mul_le_mul_left _ hh
  have k3 : U * O ≤ s * O := Nat.mul_le_mul_right _ hs
  grind
theorem lo2 {U O l a Q M S' : Nat} (hQ : U * (l * M) ≤ U * (Q * O) + (a + 2) * (O * M)) (hS : U * Q ≤ U * S' + Q + U) (hQM : Q ≤ 2 * M) (hM : U ≤ M) : U * (l * M) ≤ U * (S' * O) + (a + 5) * (O * M) := by
  have k1 := Nat.mul_le_mul_right O hS
  have k2 := Nat.mul_le_mul_right O hQM
  have k3 := Nat.mul_le_mul_right O hM
  grind
theorem lo3 {U O l a M S' T' : Nat} (hQ : U * (l * M) ≤ U * (S' * O) + (a + 5) * (O * M)) (hT : U * M ≤ U * T' + M + U) (hT2 : U * T' ≤ U * M + M + U) (hM : U ≤ M) (hl : l ≤ O) (ha : 4 * (a + 7) ≤ U) : U * (l * T') ≤ U * (S' * O) + (a + 12) * (O * T') := by
  obtain ⟨k1, -⟩ := tw hT hM (by omega)
  have k2 : (a + 7) * M ≤ (a + 8) * T' := by
    refine Nat.le_of_mul_le_mul_left ?_ (show 0 < U by omega)
    have j1 := Nat.mul_le_mul_left (a + 7) k1
    have j2 := Nat.mul_le_mul_right T' ha
    grind
  have k3 := Nat.mul_le_mul_right O k2
  have k4 := Nat.mul_le_mul_right l hT2
  have k5 := Nat.mul_le_mul_left M hl
  have k6 := Nat.mul_le_mul_right l hM
  grind
end Go.Proofs.Ytlilmchlddiacaa
