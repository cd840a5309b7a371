/-
  What Dots answers of anything; DyeSums.
-/
import Derived.Test.YtlilmchlddiacaaDC
namespace Go.Proofs.Ytlilmchlddiacaa
open Go.RowKit

/-- what dots are of anything -/
def DotIs (w : Int) (n : Nat) (g : Nat → Int) (m : Nat) (f : Nat → Int) (lost er : Int) : Prop :=
  (¬ FitP w n ∧ m = 0 ∧ f = (fun _ => 0) ∧ lost = 0 ∧ er = 8) ∨ (FitP w n ∧ (∃ k, k < n ∧ (∀ j, j < k → grB (g j)) ∧ ¬ grB (g k)) ∧ m = 0 ∧ f = (fun _ => 0) ∧ lost = 0 ∧ er = 3) ∨ (FitP w n ∧ (∀ j, j < n → grB (g j)) ∧ m = n ∧ f = dtF w.toNat n g ∧ lost = (ruS w.toNat n g n).lost ∧ er = 0)
theorem first_bad' (P : Nat → Prop) : ∀ n, (∀ k, k < n → P k) ∨ ∃ k, k < n ∧ (∀ j, j < k → P j) ∧ ¬ P k := by
  intro n
  induction n with
  | zero => exact .inl (fun k hk => by omega)
  | succ n ih =>
    rcases ih with h | ⟨k, hk, h1, h2⟩
    · by_cases hn : P n
      · exact .inl (fun k hk => by rcases (show k < n ∨ k = n by omega) with h3 | rfl; exact h k h3; exact hn)
      · exact .inr ⟨n, by omega, h, hn⟩
    · exact .inr ⟨k, by omega, h1, h2⟩
theorem dot_split (w : Int) (n : Nat) (g : Nat → Int) : ∃ m f lost er, DotIs w n g m f lost er := by
  by_cases hf : FitP w n
  · rcases first_bad' (fun k => grB (g k)) n with h | h
    · exact ⟨_, _, _, _, .inr (.inr ⟨hf, h, rfl, rfl, rfl, rfl⟩)⟩
    · exact ⟨_, _, _, _, .inr (.inl ⟨hf, h, rfl, rfl, rfl, rfl⟩)⟩
  · exact ⟨_, _, _, _, .inl ⟨hf, rfl, rfl, rfl, rfl⟩⟩
theorem fit_nat {w : Int} {n : Nat} (h : FitP w n) : w = (w.toNat : Int) ∧ 0 < w.toNat ∧ w.toNat ≤ 4096 ∧ n ≤ 65536 ∧ n % w.toNat = 0 := by
  obtain ⟨h1, h2, h3, h4⟩ := h
  have e : w = (w.toNat : Int) := by omega
  refine ⟨e, by omega, by omega, h3, ?_⟩
  rw [e] at h4
  have : ((n % w.toNat : Nat) : Int) = 0 := by simpa using h4
  omega
theorem dots_any {w : Int} {n m : Nat} {g f : Nat → Int} {lost er : Int} (h : DotIs w n g m f lost er) (cap : Nat) (q : Option Addr) (W : World) (hI : Is W q n g) : AnsD 12 #[.int .i64 w, .slice q n cap] W m f lost er := by
  rcases h with ⟨h, rfl, rfl, rfl, rfl⟩ | ⟨h, ⟨k, hk, h1, h2⟩, rfl, rfl, rfl, rfl⟩ | ⟨h, h1, rfl, rfl, rfl, rfl⟩
  · exact dots_fit w n cap q h W
  · obtain ⟨e, k1, k2, k3, k4⟩ := fit_nat h
    rw [e]
    exact dots_bad w.toNat n k cap q g k1 k2 k3 k4 hk h1 h2 W hI
  · obtain ⟨e, k1, k2, k3, k4⟩ := fit_nat h
    have := dots_ok w.toNat m cap q g k1 k2 k3 k4 h1 W hI
    rw [← e] at this
    exact this

theorem sum_bd (f : Nat → Int) (n : Nat) (h : ∀ j, j < n → 0 ≤ f j ∧ f j ≤ 255) : ∀ x, x ≤ n → 0 ≤ ts (fun j => 16 * f j) 0 x ∧ ts (fun j => 16 * f j) 0 x ≤ 4080 * (x : Int) := by
  intro x
  induction x with
  | zero => exact fun _ => ⟨Int.le_refl _, Int.le_refl _⟩
  | succ x ih =>
    intro hx
    have := ih (by omega)
    have := h x (by omega)
    rw [ts, Nat.zero_add]
    omega
theorem dt_two (v : Int) : dt v = 0 ∨ dt v = 255 := by unfold dt; split <;> simp

set_option maxRecDepth 100000 in
set_option maxHeartbeats 2000000 in
theorem sums_bad (w : Int) (n m cap : Nat) (q : Option Addr) (f : Nat → Int) (lost er : Int) (he : er = 8 ∨ er = 3) (HA : ∀ V, Calls Try.prog 15 #[] V fun e w' => e = .returned (.bool true) ∧ Below V.heap.size V w') (W : World) (HD : ∀ V, Below W.heap.size W V → AnsD 12 #[.int .i64 w, .slice q n cap] V m f lost er) :
    Calls Try.prog 6 #[.int .i64 w, .slice q n cap] W fun e w' => e = .returned (.bool true) ∧ Below W.heap.size W w' := by
  have HA' := hide HA
  have HD' := hide HD
  have e0 : (er != 0) = true := by simp; omega
  have e1 : ¬ er = 0 := by omega
  clear HA HD he
  go_enter Try.func6, Try.ntmps6
  go_wp2_with fail
  refine (unhide HA' _).mono ?_
  rintro e w1 ⟨rfl, hb1⟩
  have Hb1 := hide hb1
  clear hb1
  go_wp2_with fail
  refine (unhide HD' _ (unhide Hb1)).mono ?_
  rintro e w2 ⟨q2, cp, rfl, -, hb2⟩
  have Hb := hide (btrans (unhide Hb1) hb2)
  clear hb2 HA' HD'
  go_wp2
  go_ret
  exact ⟨rfl, unhide Hb⟩

set_option maxRecDepth 100000 in
set_option maxHeartbeats 2000000 in
theorem sums_ok (w : Int) (n cap : Nat) (q : Option Addr) (g f : Nat → Int) (lost : Int) (hn : n ≤ 65536) (hg : ∀ j, j < n → 0 ≤ g j ∧ g j ≤ 255) (hf : ∀ j, f j = 0 ∨ f j = 255) (hs : ts (fun j => 16 * f j) 0 n + lost = ts (fun j => 16 * g j) 0 n)
    (HA : ∀ V, Calls Try.prog 15 #[] V fun e w' => e = .returned (.bool true) ∧ Below V.heap.size V w') (W : World) (HD : ∀ V, Below W.heap.size W V → AnsD 12 #[.int .i64 w, .slice q n cap] V n f lost 0) (hI : Is W q n g) :
    Calls Try.prog 6 #[.int .i64 w, .slice q n cap] W fun e w' => e = .returned (.bool true) ∧ Below W.heap.size W w' := by
  have HA' := hide HA
  have HD' := hide HD
  have HI := hide hI
  have HG := hide hg
  have HF := hide hf
  have HS := hide hs
  have HBg := hide (sum_bd g n hg)
  have HBf := hide (sum_bd f n (fun j _ => by have := hf j; omega))
  have emm : ((n : Int) != (n : Int)) = false := by simp
  clear HA HD hI hg hf hs
  go_enter Try.func6, Try.ntmps6
  go_wp2_with fail
  refine (unhide HA' _).mono ?_
  rintro e w1 ⟨rfl, hb1⟩
  have Hb1 := hide hb1
  clear hb1
  go_wp2_with fail
  refine (unhide HD' _ (unhide Hb1)).mono ?_
  rintro e w2 ⟨q2, cp, rfl, hI2, hb2⟩
  have Hb := hide (btrans (unhide Hb1) hb2)
  have HI1 := hide ((unhide HI).keep (unhide Hb))
  have HI2 := hide hI2
  clear hb2 HA' HD' hI2 Hb1 HI
  go_wp2
  go_loopw [8, 9, 30] (fun a b i wr => ∃ x : Nat, x ≤ n ∧ i = .int .i64 x ∧ a = .int .i64 (ts (fun j => 16 * g j) 0 x) ∧ b = .int .i64 (ts (fun j => 16 * f j) 0 x) ∧ Below w2.heap.size w2 wr) (fun _ _ i _ => n - (intOf i).toNat)
  case atStart => exact ⟨0, Nat.zero_le _, rfl, rfl, rfl, Below.refl _ _⟩
  case round =>
    obtain ⟨x, hx, rfl, rfl, rfl, hb⟩ := hrel
    by_cases hlt : x < n
    · obtain ⟨a1, o1, rfl, -, hk1⟩ := ((unhide HI1).keep hb).at (x := x) hlt
      obtain ⟨a2, o2, rfl, -, hk2⟩ := ((unhide HI2).keep hb).at (x := x) hlt
      have k1 := hk1 x hlt
      have k2 := hk2 x hlt
      have q0 : (x : Int) < (n : Int) := by omega
      have q1 : (0 : Int) ≤ (x : Int) := by omega
      have Hbb := hide hb
      obtain ⟨A, hA⟩ : ∃ A, ts (fun j => 16 * g j) 0 x = A := ⟨_, rfl⟩
      obtain ⟨B, hB⟩ : ∃ B, ts (fun j => 16 * f j) 0 x = B := ⟨_, rfl⟩
      have bA := unhide HBg x hx
      have bB := unhide HBf x hx
      have bG := unhide HG x hlt
      have bF := unhide HF x
      have Hn1 := hide (show ts (fun j => 16 * g j) 0 (x + 1) = A + 16 * g x by rw [ts, hA, Nat.zero_add])
      have Hn2 := hide (show ts (fun j => 16 * f j) 0 (x + 1) = B + 16 * f x by rw [ts, hB, Nat.zero_add])
      rw [hA] at bA ⊢
      rw [hB] at bB ⊢
      clear hk1 hk2 hb hA hB
      obtain ⟨bA1, bA2⟩ := bA
      obtain ⟨bB1, bB2⟩ := bB
      obtain ⟨bG1, bG2⟩ := bG
      have bA3 : A ≤ 1000000000 := by omega
      have bB3 : B ≤ 1000000000 := by omega
      clear bA2 bB2
      generalize g x = gx at *
      generalize f x = fx at *
      rcases bF with rfl | rfl
      · go_wp2
        go_roundw
        case rel => exact ⟨x + 1, by omega, by go_num, by rw [unhide Hn1], by rw [unhide Hn2]; simp, unhide Hbb⟩
        case measure => simp [intOf]; omega
      · go_wp2
        go_roundw
        case rel => exact ⟨x + 1, by omega, by go_num, by rw [unhide Hn1], by rw [unhide Hn2]; rfl, unhide Hbb⟩
        case measure => simp [intOf]; omega
    · obtain rfl : n = x := by omega
      have cl : ¬ ((n : Int) < (n : Int)) := by omega
      have bA := unhide HBg n (Nat.le_refl _)
      have bB := unhide HBf n (Nat.le_refl _)
      have hs := unhide HS
      have Hbb := hide (btrans (unhide Hb) hb)
      clear hb Hb HBg HBf HS
      generalize ts (fun j => 16 * g j) 0 n = A at *
      generalize ts (fun j => 16 * f j) 0 n = B at *
      have b1 : 0 ≤ B ∧ B ≤ 1000000000 := by omega
      have b2 : -1000000000 ≤ lost ∧ lost ≤ 1000000000 := by omega
      have hAB : B + lost = A := hs
      obtain ⟨b1a, b1b⟩ := b1
      obtain ⟨b2a, b2b⟩ := b2
      clear bA bB hs
      subst hAB
      go_wp2
      go_ret
      exact ⟨ret_bool (by simp), unhide Hbb⟩
end Go.Proofs.Ytlilmchlddiacaa
