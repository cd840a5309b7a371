/-
  LoomOnce: a closed fact, asked first.
-/
import Derived.Test.YtndfecdhmncdaaaLvA
import Derived.Test.YtndfecdhmncdaaaLvC
namespace Go.Proofs.Ytndfecdhmncdaaa
open Go.RowKit

theorem alive_live : (liveS 1 ((List.range 4).map (fun _ => (0 : Int)))).1.1 = 6 ∧ (liveS 1 ((List.range 4).map (fun _ => (0 : Int)))).2.2.2.2.2.1.length = 1 := ⟨by rfl, by rfl⟩

set_option maxRecDepth 100000 in
set_option maxHeartbeats 2000000 in
theorem alive_any (W : World) : Calls Try.prog 8 #[] W fun e w' => e = .returned (.bool true) ∧ Below W.heap.size W w' := by
  have B1 := bal (o := .cells #[.bool true] 4) (Below.refl W.heap.size W)
  have B2 := hide (bal (o := .cells #[.int .i64 0, .int .i64 0, .int .i64 0, .int .i64 0] 3) B1)
  have hB : Bs (W.alloc (.cells #[.bool true] 4)) (some ⟨W.heap.size, 0, none⟩) 1 1 (fun _ => true) :=
    ⟨Nat.le_refl _, .inr ⟨_, 0, rfl, by simp, fun k hk => by obtain rfl : k = 0 := by omega
                                                             simp [go_sem]⟩⟩
  have hR : Rt ((W.alloc (.cells #[.bool true] 4)).alloc (.cells #[.int .i64 0, .int .i64 0, .int .i64 0, .int .i64 0] 3)) 1 1 (some ⟨W.heap.size, 0, none⟩) 1 1 (fun _ => true) :=
    ⟨by decide, by decide, rfl, hB.keep (bal (Below.refl _ _))⟩
  have hI : Is ((W.alloc (.cells #[.bool true] 4)).alloc (.cells #[.int .i64 0, .int .i64 0, .int .i64 0, .int .i64 0] 3)) (some ⟨W.heap.size + 1, 0, none⟩) 4 (fun _ => 0) :=
    .inr ⟨_, 0, rfl, by simp, fun k hk => by
      match k, hk with
      | 0, _ => simp [go_sem]
      | 1, _ => simp [go_sem]
      | 2, _ => simp [go_sem]
      | 3, _ => simp [go_sem]⟩
  have HL := hide (live_any hR (by decide) hI (tc := 4) (by unfold maxLen; omega))
  unfold LivePost at HL
  rw [alive_live.1, alive_live.2] at HL
  clear B1 hB hR hI
  go_enter Try.func8, Try.ntmps8
  go_wp2_with fail
  refine (unhide HL).mono ?_
  rintro e w1 ⟨q4, c4, xs, rfl, -, -, hb⟩
  have S1 := hide (btrans (unhide B2) hb)
  clear hb
  go_wp2
  go_ret
  exact ⟨rfl, bal (unhide S1)⟩
end Go.Proofs.Ytndfecdhmncdaaa
