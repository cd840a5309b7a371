/-
  The reference: Same, two dyes bit by bit.
-/
import Derived.Test.YtlilmchlddiacaaFE
import Derived.Laws.EntriesVeiled
namespace Go.Proofs.Ytlilmchlddiacaa
open Go.RowKit

theorem bits26 (x : Nat) (w : World) : (callFunc 26 #[.float .f64 x]).run Try.prog w = .ok (.value (.int .u64 x)) w := by
  rw [run_callFunc_extern Try.func26 (by kernel_rfl) (by kernel_rfl) (by kernel_rfl) (e := Extern.MathFloatBits.float64bits) (by kernel_rfl)]
  rfl
set_option maxRecDepth 100000 in
theorem same1 (x : Nat) (W : World) : Calls Try.prog 25 #[.float .f64 x, .float .f64 x] W fun e w' => e = .returned (.bool true) ∧ w' = W := by
  go_enter Try.func25, Try.ntmps25
  go_wp2
  rw [bits26]
  try simp only [Result.andThen]
  try rw [Oper.upon_value]
  go_wp2
  rw [bits26]
  try simp only [Result.andThen]
  try rw [Oper.upon_value]
  go_wp2
  go_ret
  exact ⟨rfl, rfl⟩
set_option maxRecDepth 100000 in
set_option maxHeartbeats 1000000 in
theorem same_dye (p : Nat → Nat) (W : World) : Calls Try.prog 9 #[pvV p, pvV p] W fun e w' => e = .returned (.bool true) ∧ Below W.heap.size W w' := by
  obtain ⟨w0, E, hA, hQ, hb⟩ := two_full W p p 26 26
  have a0 := (hA.2 0 (by omega)).1
  have a1 := (hA.2 1 (by omega)).1
  have a2 := (hA.2 2 (by omega)).1
  have b0 := (hQ.2 0 (by omega)).1
  have b1 := (hQ.2 1 (by omega)).1
  have b2 := (hQ.2 2 (by omega)).1
  have Hb := hide hb
  have HS := hide (fun x V => same1 x V)
  clear hA hQ hb
  unfold pvV
  go_enter Try.func9, Try.ntmps9
  go_upto_region 1 with fail
  clear E
  generalize p 0 = p0 at *
  generalize p 1 = p1 at *
  generalize p 2 = p2 at *
  generalize W.heap.size + 1 = n1 at b0 b1 b2 ⊢
  generalize W.heap.size = n0 at a0 a1 a2 ⊢
  go_wp2_with fail
  refine (unhide HS _ _).mono ?_
  rintro e w1 ⟨rfl, rfl⟩
  go_wp2_with fail
  refine (unhide HS _ _).mono ?_
  rintro e w1 ⟨rfl, rfl⟩
  go_wp2_with fail
  refine (unhide HS _ _).mono ?_
  rintro e w1 ⟨rfl, rfl⟩
  go_wp2
  go_ret
  exact ⟨rfl, unhide Hb⟩
end Go.Proofs.Ytlilmchlddiacaa
