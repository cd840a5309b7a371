/-
  The stable sort: what lies where; swapRange and rotate.
-/
import Derived.Test.YtkhmdgppkjafoaaStM
import Derived.Test.YtkhmdgppkjafoaaBase
import Derived.BigRegion
namespace Go.Proofs.Ytkhmdgppkjafoaa
open Go.RowKit

theorem gset {a b : World} {o : Nat} (h : a.grownBy b (some o)) (j : Nat) (v : Value) : a.grownBy (b.setCell ⟨o, j, none⟩ v) (some o) :=
  World.grownBy.trans h ⟨rfl, rfl, rfl, by simp, fun k _ hne => by
    have hne' : ¬ o = k := fun e => hne (by rw [e])
    simp [World.setCell, Array.getElem?_modify, hne']⟩
/-- the numbers that are sorted -/
structure El where
  i : Nat → Int
abbrev El.v (E : El) (x : Nat) : Value := .int .i64 (E.i x)
/-- a row of them -/
def SRow (E : El) (D : Nat → Prop) (V : World) (b n : Nat) (g : Nat → Nat) : Prop := b < V.heap.size ∧ ∀ k, k < n → V.cell? ⟨b, k, none⟩ = some (E.v (g k)) ∧ V.frozen? ⟨b, k, none⟩ = false ∧ D (g k)
/-- the row, and nothing else has changed -/
def SW (E : El) (D : Nat → Prop) (W0 : World) (b n : Nat) (g : Nat → Nat) (V : World) : Prop := SRow E D V b n g ∧ W0.grownBy V (some b)
theorem grown_draws (W0 V : World) (b k : Nat) (h : W0.grownBy V (some b)) : W0.grownBy (V.drewN k) (some b) := ⟨h.os, h.tape, h.output, h.size, h.block⟩
theorem SW.drewN {E : El} {D : Nat → Prop} {W0 V : World} {b n : Nat} {g : Nat → Nat} (h : SW E D W0 b n g V) (k : Nat) : SW E D W0 b n g (V.drewN k) := ⟨⟨h.1.1, h.1.2⟩, grown_draws W0 V b k h.2⟩
theorem SW.drew {E : El} {D : Nat → Prop} {W0 V : World} {b n : Nat} {g : Nat → Nat} (h : SW E D W0 b n g V) : SW E D W0 b n g V.drew := h.drewN 1
theorem SW.swap {E : El} {D : Nat → Prop} {W0 V : World} {b n : Nat} {g : Nat → Nat} (h : SW E D W0 b n g V) (i j : Nat) (hi : i < n) (hj : j < n) : SW E D W0 b n (sw g i j) ((V.setCell ⟨b, i, none⟩ (E.v (g j))).setCell ⟨b, j, none⟩ (E.v (g i))) := by
  refine ⟨⟨by simpa using h.1.1, fun k hk => ?_⟩, gset (gset h.2 i _) j _⟩
  obtain ⟨k1, k2, k3⟩ := h.1.2 k hk
  have ci := (h.1.2 i hi).1
  have cj := (h.1.2 j hj).1
  refine ⟨?_, by rw [World.frozen?_setCell, World.frozen?_setCell]; exact k2, ?_⟩
  · unfold sw
    by_cases e2 : k = j
    · subst e2
      by_cases e1 : k = i
      · subst e1
        rw [if_pos rfl, World.cell?_setCell_same' _ _ _ (by rw [World.cell?_setCell_same' _ _ _ (by rw [k1]; rfl)]; rfl)]
      · rw [if_neg e1, if_pos rfl, World.cell?_setCell_same' _ _ _ (by rw [World.cell?_setCell_other _ _ _ _ (by intro e; cases e; exact e1 rfl), k1]; rfl)]
    · rw [World.cell?_setCell_other _ _ _ _ (by intro e; cases e; exact e2 rfl)]
      by_cases e1 : k = i
      · subst e1
        rw [if_pos rfl, World.cell?_setCell_same' _ _ _ (by rw [k1]; rfl)]
      · rw [if_neg e1, if_neg e2, World.cell?_setCell_other _ _ _ _ (by intro e; cases e; exact e1 rfl)]
        exact k1
  · unfold sw
    split
    · exact (h.1.2 j hj).2.2
    · split
      · exact (h.1.2 i hi).2.2
      · exact k3
/-- what the exchange of two places needs, in letters -/
theorem SW.two {E : El} {D : Nat → Prop} {W0 V : World} {b n : Nat} {g : Nat → Nat} (h : SW E D W0 b n g V) (i j : Nat) (hi : i < n) (hj : j < n) (hne : i ≠ j) : ∃ q1 q2 : Int, V.cell? ⟨b, i, none⟩ = some (.int .i64 q1) ∧ V.cell? ⟨b, j, none⟩ = some (.int .i64 q2) ∧ V.frozen? ⟨b, i, none⟩ = false ∧ V.frozen? ⟨b, j, none⟩ = false ∧
    (V.setCell ⟨b, i, none⟩ (.int .i64 q2)).cell? ⟨b, j, none⟩ = some (.int .i64 q2) ∧ (V.setCell ⟨b, i, none⟩ (.int .i64 q2)).frozen? ⟨b, j, none⟩ = false ∧
    SW E D W0 b n (sw g i j) ((V.setCell ⟨b, i, none⟩ (.int .i64 q2)).setCell ⟨b, j, none⟩ (.int .i64 q1)).drew := by
  obtain ⟨i1, i2, _⟩ := h.1.2 i hi
  obtain ⟨j1, j2, _⟩ := h.1.2 j hj
  exact ⟨_, _, i1, j1, i2, j2, by rw [World.cell?_setCell_other _ _ _ _ (by intro e; cases e; exact hne rfl)]; exact j1, by rw [World.frozen?_setCell]; exact j2, (h.swap i j hi hj).drew⟩

abbrev cpV (B : Nat) : Value := .func (.func 21) #[] #[.pointer (some ⟨B, 0, none⟩)]
abbrev slV (b n cap : Nat) : Value := .slice (some ⟨b, 0, none⟩) n cap

set_option maxRecDepth 100000 in
set_option maxHeartbeats 2000000 in
theorem swapr_any {E : El} {D : Nat → Prop} {W0 V : World} {b n cap B : Nat} {g : Nat → Nat} (h : SW E D W0 b n g V) (a c m : Nat) (hac : a + m ≤ c) (hc : c + m ≤ n) (hn : n ≤ 256) :
    Calls Try.prog 29 #[slV b n cap, .int .i64 a, .int .i64 c, .int .i64 m, cpV B] V fun e V' => e = .returned (.tuple #[]) ∧ SW E D W0 b n (swR g a c m) V' := by
  have Hh := hide h
  clear h
  go_enter Try.func29, Try.ntmps29
  go_wp2
  go_loopw [10] (fun v wr => ∃ i : Nat, i ≤ m ∧ v = .int .i64 i ∧ SW E D W0 b n (swR g a c i) wr) (fun v _ => m - (intOf v).toNat)
  case atStart => exact ⟨0, Nat.zero_le _, rfl, by rw [swR_zero]; exact unhide Hh⟩
  case round =>
    clear Hh
    obtain ⟨i, hi, rfl, hS⟩ := hrel
    by_cases hlt : i < m
    · have q0 : (i : Int) < (m : Int) := by omega
      obtain ⟨q1, q2, r1, r2, r3, r4, r5, r6, hN⟩ := hS.two (a + i) (c + i) (by omega) (by omega) (by omega)
      rw [swR_step g a c i m hac hlt] at hN
      have HN := hide hN
      obtain ⟨ia, hia⟩ : ∃ x : Nat, x = a + i := ⟨_, rfl⟩
      obtain ⟨ic, hic⟩ : ∃ x : Nat, x = c + i := ⟨_, rfl⟩
      rw [← hia, ← hic] at HN
      rw [← hia] at r1 r3 r5 r6
      rw [← hic] at r2 r4 r5 r6
      have e1 : (a : Int) + (i : Int) = (ia : Int) := by omega
      have e2 : (c : Int) + (i : Int) = (ic : Int) := by omega
      have g1 : (ia : Int) < (n : Int) := by omega
      have g2 : (ic : Int) < (n : Int) := by omega
      have g3 : (0 : Int) ≤ (ia : Int) := by omega
      have g4 : (0 : Int) ≤ (ic : Int) := by omega
      clear hia hic hN hS hac hc
      go_wp2_with fail
      go_region
      all_goals go_wp2
      go_roundw
      case rel => exact ⟨i + 1, by omega, by go_num, unhide HN⟩
      case measure => simp [intOf]; omega
    · obtain rfl : m = i := by omega
      have cl : ¬ ((m : Int) < (m : Int)) := by omega
      go_wp2
      go_end0
      exact ⟨rfl, hS⟩
end Go.Proofs.Ytkhmdgppkjafoaa
