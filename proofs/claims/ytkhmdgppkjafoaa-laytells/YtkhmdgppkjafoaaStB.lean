/-
  The stable sort: rotate and insertion.
-/
import Derived.Test.YtkhmdgppkjafoaaStA
namespace Go.Proofs.Ytkhmdgppkjafoaa
open Go.RowKit

set_option maxRecDepth 100000 in
set_option maxHeartbeats 2000000 in
theorem rot_any {E : El} {D : Nat → Prop} {W0 V : World} {b n cap B : Nat} {g : Nat → Nat} (h : SW E D W0 b n g V) (a m e : Nat) (ham : a < m) (hme : m < e) (hen : e ≤ n) (hn : n ≤ 256) :
    Calls Try.prog 28 #[slV b n cap, .int .i64 a, .int .i64 m, .int .i64 e, cpV B] V fun x V' => x = .returned (.tuple #[]) ∧ SW E D W0 b n (roR g a m e) V' := by
  have Hh := hide h
  obtain ⟨i0, hi0⟩ : ∃ x : Nat, x = m - a := ⟨_, rfl⟩
  obtain ⟨j0, hj0⟩ : ∃ x : Nat, x = e - m := ⟨_, rfl⟩
  have z1 : (m : Int) - (a : Int) = (i0 : Int) := by omega
  have z2 : (e : Int) - (m : Int) = (j0 : Int) := by omega
  have H0 := hide (show 1 ≤ i0 ∧ 1 ≤ j0 ∧ i0 ≤ m ∧ m + j0 ≤ n ∧ m - i0 = a ∧ m + j0 = e by omega)
  have HR := hide (show ∀ V', SW E D W0 b n (roR g a m e) V' → SW E D W0 b n (roR g a m e) V' from fun _ k => k)
  clear h hi0 hj0
  go_enter Try.func28, Try.ntmps28
  go_wp2
  clear z1 z2
  go_loopw [10, 11] (fun v u wr => ∃ (i j : Nat) (gk : Nat → Nat), v = .int .i64 i ∧ u = .int .i64 j ∧ 1 ≤ i ∧ 1 ≤ j ∧ i ≤ m ∧ m + j ≤ n ∧ Hid (roR gk (m - i) m (m + j) = roR g a m e) ∧ SW E D W0 b n gk wr) (fun v u _ => (intOf v).toNat + (intOf u).toNat)
  case atStart =>
    obtain ⟨k1, k2, k3, k4, k5, k6⟩ := unhide H0
    exact ⟨i0, j0, g, rfl, rfl, k1, k2, k3, k4, (by rw [k5, k6] : roR g (m - i0) m (m + j0) = roR g a m e), unhide Hh⟩
  case round =>
    clear Hh H0
    obtain ⟨i, j, gk, rfl, rfl, hi, hj, him, hjn, Hro, hS⟩ := hrel
    have HS := hide hS
    clear hS
    obtain ⟨mi, hmi⟩ : ∃ x : Nat, x = m - i := ⟨_, rfl⟩
    have z1 : (m : Int) - (i : Int) = (mi : Int) := by omega
    by_cases hij : i = j
    · subst hij
      have g1 : ((i : Int) != (i : Int)) = false := by simp
      have HC := hide (show Calls Try.prog 29 #[slV b n cap, .int .i64 mi, .int .i64 m, .int .i64 i, cpV B] wr fun e V' => e = .returned (.tuple #[]) ∧ SW E D W0 b n (swR gk mi m i) V' from swapr_any (unhide HS) mi m i (by omega) (by omega) hn)
      have He := hide (show swR gk mi m i = roR g a m e by rw [hmi, roR_end gk m i him]; exact unhide Hro)
      clear hmi
      go_wp2_with fail
      refine (unhide HC).mono ?_
      rintro x w1 ⟨rfl, hS⟩
      go_wp2
      go_end0
      exact ⟨rfl, by rw [← unhide He]; exact hS⟩
    · by_cases hlt : j < i
      · have g1 : ((i : Int) != (j : Int)) = true := by simp; omega
        have g2 : (j : Int) < (i : Int) := by omega
        obtain ⟨ij, hij2⟩ : ∃ x : Nat, x = i - j := ⟨_, rfl⟩
        have z2 : (i : Int) - (j : Int) = (ij : Int) := by omega
        have HC := hide (show Calls Try.prog 29 #[slV b n cap, .int .i64 mi, .int .i64 m, .int .i64 j, cpV B] wr fun e V' => e = .returned (.tuple #[]) ∧ SW E D W0 b n (swR gk mi m j) V' from swapr_any (unhide HS) mi m j (by omega) (by omega) hn)
        have He := hide (show roR (swR gk mi m j) (m - ij) m (m + j) = roR g a m e by rw [hmi, hij2, roR_more gk m i j hlt him]; exact unhide Hro)
        have H1 := hide (show 1 ≤ ij ∧ ij ≤ m ∧ ij < i by omega)
        clear hmi hij2 hij hlt
        go_wp2_with fail
        refine (unhide HC).mono ?_
        rintro x w1 ⟨rfl, hS⟩
        have HS1 := hide hS
        clear hS
        go_wp2
        go_roundw
        case rel =>
          obtain ⟨k1, k2, k3⟩ := unhide H1
          exact ⟨ij, j, _, rfl, rfl, k1, hj, k2, hjn, unhide He, unhide HS1⟩
        case measure => have := unhide H1; simp [intOf]; omega
      · have g1 : ((i : Int) != (j : Int)) = true := by simp; omega
        have g2 : ¬ ((j : Int) < (i : Int)) := by omega
        obtain ⟨ji, hji⟩ : ∃ x : Nat, x = j - i := ⟨_, rfl⟩
        obtain ⟨mj, hmj⟩ : ∃ x : Nat, x = m + j := ⟨_, rfl⟩
        obtain ⟨k2, hk2⟩ : ∃ x : Nat, x = m + j - i := ⟨_, rfl⟩
        have z2 : (j : Int) - (i : Int) = (ji : Int) := by omega
        have z3 : (m : Int) + (j : Int) = (mj : Int) := by omega
        have z4 : (mj : Int) - (i : Int) = (k2 : Int) := by omega
        have HC := hide (show Calls Try.prog 29 #[slV b n cap, .int .i64 mi, .int .i64 k2, .int .i64 i, cpV B] wr fun e V' => e = .returned (.tuple #[]) ∧ SW E D W0 b n (swR gk mi k2 i) V' from swapr_any (unhide HS) mi k2 i (by omega) (by omega) hn)
        have He := hide (show roR (swR gk mi k2 i) (m - i) m (m + ji) = roR g a m e by rw [hmi, hk2, hji, roR_less gk m i j (by omega) him]; exact unhide Hro)
        have H1 := hide (show 1 ≤ ji ∧ m + ji ≤ n ∧ ji < j by omega)
        have gb : mj ≤ 512 := by omega
        clear hmi hji hk2 hmj hij hlt
        go_wp2_with fail
        refine (unhide HC).mono ?_
        rintro x w1 ⟨rfl, hS⟩
        have HS1 := hide hS
        clear hS
        go_wp2
        go_roundw
        case rel =>
          obtain ⟨k1, k2, k3⟩ := unhide H1
          exact ⟨i, ji, _, rfl, rfl, hi, k1, him, k2, unhide He, unhide HS1⟩
        case measure => have := unhide H1; simp [intOf]; omega

/-- what comparing answers -/
def cpI (x y : Nat) : Int := if x < y then -1 else if y < x then 1 else 0
theorem cpI_lt {x y : Nat} : cpI x y < 0 ↔ x < y := by unfold cpI; split <;> (try split) <;> omega
/-- the function that is handed in compares by keys -/
def CmpIs (E : El) (D : Nat → Prop) (K : Nat → Nat) (B : Nat) (W0 : World) (b : Nat) : Prop := ∀ V, W0.grownBy V (some b) → ∀ x y, D x → D y → Calls Try.prog 21 #[E.v x, E.v y, .pointer (some ⟨B, 0, none⟩)] V fun e V' => e = .returned (.int .i64 (cpI (K x) (K y))) ∧ ∃ k, V' = V.drewN k
/-- comparing two places, in letters -/
theorem SW.cmp {E : El} {D : Nat → Prop} {K : Nat → Nat} {W0 V : World} {b n B : Nat} {g : Nat → Nat} (hC : CmpIs E D K B W0 b) (h : SW E D W0 b n g V) (i j : Nat) (hi : i < n) (hj : j < n) : ∃ q1 q2 z : Int, V.cell? ⟨b, i, none⟩ = some (.int .i64 q1) ∧ V.cell? ⟨b, j, none⟩ = some (.int .i64 q2) ∧ (z < 0 ↔ K (g i) < K (g j)) ∧
    Hid (∀ k, Calls Try.prog 21 #[.int .i64 q1, .int .i64 q2, .pointer (some ⟨B, 0, none⟩)] (V.drewN k) fun e V' => e = .returned (.int .i64 z) ∧ ∃ m, V' = (V.drewN k).drewN m) := by
  obtain ⟨i1, _, i3⟩ := h.1.2 i hi
  obtain ⟨j1, _, j3⟩ := h.1.2 j hj
  exact ⟨_, _, _, i1, j1, cpI_lt, hide fun k => hC (V.drewN k) (h.drewN k).2 _ _ i3 j3⟩

set_option maxRecDepth 100000 in
set_option maxHeartbeats 4000000 in
theorem ins_any {E : El} {D : Nat → Prop} {K : Nat → Nat} {W0 V : World} {b n cap B : Nat} {g0 : Nat → Nat} (hC : CmpIs E D K B W0 b) (h : SW E D W0 b n g0 V) (a e : Nat) (hae : a ≤ e) (hen : e ≤ n) (hn : n ≤ 256) (hv : ∀ i j, a ≤ i → i < j → j < e → g0 i < g0 j) :
    Calls Try.prog 26 #[slV b n cap, .int .i64 a, .int .i64 e, cpV B] V fun x V' => x = .returned (.tuple #[]) ∧ ∃ g, SW E D W0 b n g V' ∧ Of a e g0 g ∧ Up K a e g := by
  have Hh := hide h
  have HC := hide hC
  have Hv := hide hv
  clear h hC hv
  go_enter Try.func26, Try.ntmps26
  go_wp2
  go_loopw [8] (fun v wr => ∃ (i : Nat) (g : Nat → Nat), v = .int .i64 i ∧ a < i ∧ i ≤ e + 1 ∧ SW E D W0 b n g wr ∧ Hid (Of a (min i e) g0 g ∧ Up K a (min i e) g)) (fun v _ => e + 1 - (intOf v).toNat)
  case atStart => exact ⟨a + 1, g0, by go_num, by omega, by omega, unhide Hh, (⟨Of.refl _ _ _, Up.nil (by omega)⟩ : Of a (min (a + 1) e) g0 g0 ∧ Up K a (min (a + 1) e) g0)⟩
  case round =>
    clear Hh
    obtain ⟨i, g, rfl, hai, hie, hS, Hou⟩ := hrel
    have HS := hide hS
    clear hS
    by_cases hlt : i < e
    · have q0 : (i : Int) < (e : Int) := by omega
      have Hou2 := hide (show Of a i g0 g ∧ Up K a i g by have := unhide Hou; rw [Nat.min_eq_left (by omega)] at this; exact this)
      have Hval := hide (show ∀ k, a ≤ k → k < i → g k < g i from fun k k1 k2 => by
        obtain ⟨j, j1, j2, ej⟩ := (unhide Hou2).1.2 k k1 k2
        rw [ej, (unhide Hou2).1.1 i (.inr (Nat.le_refl _))]
        exact unhide Hv j i j1 j2 hlt)
      clear Hou
      go_wp2
      go_loopw [9] (fun v wr => ∃ (j : Nat), v = .int .i64 j ∧ a ≤ j ∧ j ≤ i ∧ SW E D W0 b n (inC g i j) wr ∧ Hid (∀ k, j ≤ k → k < i → lx K (g i) (g k))) (fun v _ => (intOf v).toNat)
      case atStart => exact ⟨i, rfl, by omega, Nat.le_refl _, by rw [inC_start]; exact unhide HS, (fun k k1 k2 => by omega : ∀ k, i ≤ k → k < i → lx K (g i) (g k))⟩
      case round =>
        clear HS
        obtain ⟨j, rfl, haj, hji, hS, Hlx⟩ := hrel
        by_cases hja : a < j
        · have q1 : (a : Int) < (j : Int) := by omega
          obtain ⟨jp, hjp⟩ : ∃ x : Nat, x = j - 1 := ⟨_, rfl⟩
          have z1 : (j : Int) - 1 = (jp : Int) := by omega
          obtain ⟨q1', q2', z, r1, r2, hz, HCz⟩ := SW.cmp (unhide HC) hS j jp (by omega) (by omega)
          have g1 : (j : Int) < (n : Int) := by omega
          have g2 : (jp : Int) < (n : Int) := by omega
          have g3 : (0 : Int) ≤ (j : Int) := by omega
          have g4 : (0 : Int) ≤ (jp : Int) := by omega
          rw [inC_at, inC_lo g i j jp (by omega)] at hz
          by_cases hneg : z < 0
          · have Hk := hide (hz.1 hneg)
            have hd : decide (z < 0) = true := by simpa using hneg
            have HS := hide hS
            have Hjp := hide hjp
            clear hz hS hjp
            go_wp2_with fail
            go_quiet (first | (go_at_call 21; exact Calls.quiet_of (unhide HCz _)))
            have HS2 := hide ((unhide HS).drewN nq)
            clear r1 r2 HCz HS
            generalize wr.drewN nq = w2 at *
            obtain ⟨q1', q2', r1, r2, r3, r4, r5, r6, hN⟩ := (unhide HS2).two j jp (by omega) (by have := unhide Hjp; omega) (by have := unhide Hjp; omega)
            have HN := hide (show SW E D W0 b n (inC g i jp) ((w2.setCell ⟨b, j, none⟩ (.int .i64 q2')).setCell ⟨b, jp, none⟩ (.int .i64 q1')).drew by have e := inC_step g i j (by omega) hji; rw [← unhide Hjp] at e; rw [← e]; exact hN)
            have Hlx2 := hide (show ∀ k, jp ≤ k → k < i → lx K (g i) (g k) from fun k k1 k2 => by
              by_cases c : k = jp
              · rw [c]; exact lx_key (unhide Hk)
              · exact unhide Hlx k (by have := unhide Hjp; omega) k2)
            have H1 := hide (show a ≤ jp ∧ jp ≤ i ∧ jp < j by have := unhide Hjp; omega)
            clear hN HS2 Hlx
            go_wp2_with fail
            go_region
            all_goals go_wp2
            go_roundw
            case rel => exact ⟨jp, rfl, (unhide H1).1, (unhide H1).2.1, unhide HN, unhide Hlx2⟩
            case measure => have := unhide H1; simp [intOf]; omega
          · have Hk := hide (fun hh => hneg (hz.2 hh))
            have hd : decide (z < 0) = false := by simpa using hneg
            have HS := hide hS
            have Hjp := hide hjp
            clear hz hS hjp hneg
            go_wp2_with fail
            go_quiet (first | (go_at_call 21; exact Calls.quiet_of (unhide HCz _)))
            have HS2 := hide ((unhide HS).drewN nq)
            have Hres := hide (show Of a (i + 1) g0 (inC g i j) ∧ Up K a (i + 1) (inC g i j) from ⟨((unhide Hou2).1.mono (Nat.le_refl _) (by omega)).trans (inC_of g a i j haj hji), ins_up (unhide Hou2).2 haj hji (unhide Hlx) (.inr (by
              rw [← unhide Hjp]
              exact lx_not (unhide Hk) (unhide Hval jp (by have := unhide Hjp; omega) (by have := unhide Hjp; omega))))⟩)
            clear r1 r2 HCz HS
            generalize wr.drewN nq = w2 at *
            go_wp2
            go_roundw
            case rel => exact ⟨i + 1, inC g i j, by go_num, by omega, by omega, unhide HS2, (by rw [Nat.min_eq_left (by omega)]; exact unhide Hres : Of a (min (i + 1) e) g0 (inC g i j) ∧ Up K a (min (i + 1) e) (inC g i j))⟩
            case measure => simp [intOf]; omega
        · obtain rfl : j = a := by omega
          have q1 : decide ((j : Int) < (j : Int)) = false := by simp
          have Hres := hide (show Of j (i + 1) g0 (inC g i j) ∧ Up K j (i + 1) (inC g i j) from ⟨((unhide Hou2).1.mono (Nat.le_refl _) (by omega)).trans (inC_of g j i j haj hji), ins_up (unhide Hou2).2 haj hji (unhide Hlx) (.inl rfl)⟩)
          have HS := hide hS
          clear hS
          go_wp2_with fail
          go_quiet (fail)
          have HS2 := hide ((unhide HS).drewN nq)
          generalize wr.drewN nq = w2 at *
          go_wp2
          go_roundw
          case rel => exact ⟨i + 1, inC g i j, by go_num, by omega, by omega, unhide HS2, (by rw [Nat.min_eq_left (by omega)]; exact unhide Hres : Of j (min (i + 1) e) g0 (inC g i j) ∧ Up K j (min (i + 1) e) (inC g i j))⟩
          case measure => simp [intOf]; omega
    · have q0 : ¬ ((i : Int) < (e : Int)) := by omega
      have Hou2 := hide (show Of a e g0 g ∧ Up K a e g by have := unhide Hou; rw [Nat.min_eq_right (by omega)] at this; exact this)
      go_wp2
      go_end0
      exact ⟨rfl, g, unhide HS, unhide Hou2⟩
end Go.Proofs.Ytkhmdgppkjafoaa
