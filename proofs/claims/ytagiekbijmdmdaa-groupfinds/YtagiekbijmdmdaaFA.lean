/-
  SameMoves and SamePoints of the reference: two rows that hold the same.
-/
import Derived.Test.YtagiekbijmdmdaaGJ
namespace Go.Proofs.Ytagiekbijmdmdaa
open Go.RowKit

set_option maxHeartbeats 4000000 in
set_option maxRecDepth 100000 in
theorem sameMoves_any (b b' cap cap' : Nat) (L : List Mv) (W : World) (hl : L.length ≤ 6912) (h1 : MRow W b L) (h2 : MRow W b' L) :
    Calls Try.prog 14 #[.slice (some ⟨b, 0, none⟩) L.length cap, .slice (some ⟨b', 0, none⟩) L.length cap'] W fun e w' => e = .returned (.bool true) ∧ Below W.heap.size W w' := by
  have H1 := hide h1
  have H2 := hide h2
  clear h1 h2
  go_enter Try.func14, Try.ntmps14
  go_wp2
  go_loopw [13] (fun i wr => ∃ k : Nat, k ≤ L.length ∧ i = .int .i64 k ∧ Below W.heap.size W wr) (fun i _ => L.length - (intOf i).toNat)
  case atStart => exact ⟨0, Nat.zero_le _, rfl, Below.refl _ _⟩
  case round =>
    obtain ⟨k, hk, rfl, hbel⟩ := hrel
    by_cases hlt : k < L.length
    · have q1 : (0 : Int) ≤ (k : Int) := by omega
      have q2 : (k : Int) < (L.length : Int) := by omega
      obtain ⟨⟨t, f, x, y⟩, hm⟩ : ∃ m, L[k]? = some m := ⟨_, List.getElem?_eq_getElem hlt⟩
      have p1 := ((unhide H1).keep hbel).2 k _ hm
      have p2 := ((unhide H2).keep hbel).2 k _ hm
      have Hl := hide hlt
      have Hb := hide hbel
      clear hm hbel hlt
      go_wp2_with fail
      go_quiet (fail)
      go_wp2
      go_roundw
      case rel => exact ⟨k + 1, unhide Hl, by go_num, btrans (unhide Hb) (Joins.below_draws _ _ _)⟩
      case measure => have := unhide Hl; simp [intOf]; omega
    · have e : k = L.length := by omega
      have cl : ¬ ((k : Int) < (L.length : Int)) := by omega
      have Hb := hide hbel
      clear hbel e
      go_wp2
      go_ret
      exact ⟨ret_bool (by simp), unhide Hb⟩

/-- a row of points -/
def ZRow (W : World) (b : Nat) (L : List (Int × Int)) : Prop := b < W.heap.size ∧ ∀ j z, L[j]? = some z → W.cell? ⟨b, j * 2, none⟩ = some (.int .i64 z.1) ∧ W.cell? ⟨b, j * 2 + 1, none⟩ = some (.int .i64 z.2)
theorem ZRow.keep {W w1 : World} {b : Nat} {L : List (Int × Int)} (h : ZRow W b L) (hb : Below W.heap.size W w1) : ZRow w1 b L :=
  ⟨Nat.lt_of_lt_of_le h.1 hb.size, fun j z hz => ⟨keepC hb h.1 (h.2 j z hz).1, keepC hb h.1 (h.2 j z hz).2⟩⟩

set_option maxHeartbeats 4000000 in
set_option maxRecDepth 100000 in
theorem samePoints_any (b b' cap cap' : Nat) (L : List (Int × Int)) (W : World) (hl : L.length ≤ 6912) (h1 : ZRow W b L) (h2 : ZRow W b' L) :
    Calls Try.prog 18 #[.slice (some ⟨b, 0, none⟩) L.length cap, .slice (some ⟨b', 0, none⟩) L.length cap'] W fun e w' => e = .returned (.bool true) ∧ Below W.heap.size W w' := by
  have H1 := hide h1
  have H2 := hide h2
  clear h1 h2
  go_enter Try.func18, Try.ntmps18
  go_wp2
  go_loopw [13] (fun i wr => ∃ k : Nat, k ≤ L.length ∧ i = .int .i64 k ∧ Below W.heap.size W wr) (fun i _ => L.length - (intOf i).toNat)
  case atStart => exact ⟨0, Nat.zero_le _, rfl, Below.refl _ _⟩
  case round =>
    obtain ⟨k, hk, rfl, hbel⟩ := hrel
    by_cases hlt : k < L.length
    · have q1 : (0 : Int) ≤ (k : Int) := by omega
      have q2 : (k : Int) < (L.length : Int) := by omega
      obtain ⟨⟨x, y⟩, hm⟩ : ∃ m, L[k]? = some m := ⟨_, List.getElem?_eq_getElem hlt⟩
      have p1 := ((unhide H1).keep hbel).2 k _ hm
      have p2 := ((unhide H2).keep hbel).2 k _ hm
      have Hl := hide hlt
      have Hb := hide hbel
      clear hm hbel hlt
      go_wp2_with fail
      go_quiet (fail)
      go_wp2
      go_roundw
      case rel => exact ⟨k + 1, unhide Hl, by go_num, btrans (unhide Hb) (Joins.below_draws _ _ _)⟩
      case measure => have := unhide Hl; simp [intOf]; omega
    · have e : k = L.length := by omega
      have cl : ¬ ((k : Int) < (L.length : Int)) := by omega
      have Hb := hide hbel
      clear hbel e
      go_wp2
      go_ret
      exact ⟨ret_bool (by simp), unhide Hb⟩
end Go.Proofs.Ytagiekbijmdmdaa
