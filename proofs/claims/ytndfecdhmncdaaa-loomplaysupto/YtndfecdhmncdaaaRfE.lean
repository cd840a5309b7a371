/-
  The document's own loom: in which states an event may come.
-/
import Derived.Test.YtndfecdhmncdaaaRfD
namespace Go.Proofs.Ytndfecdhmncdaaa
open Go.RowKit

/-- in which states an event may come -/
def alL (ev : Int) : List Int :=
  if ev = 1 then [0] else if ev = 2 then [1] else if ev = 3 then [2] else if ev = 4 then [2] else if ev = 5 then [3] else if ev = 6 then [4] else if ev = 7 then [1, 2, 3, 4] else [5]
def AllIs (W : World) (ev : Int) (l : List Int) : Prop :=
  Calls Try.prog 19 #[.int .i64 ev] W fun e w' => ∃ q c, e = .returned (.slice (some ⟨q, 0, none⟩) l.length c) ∧ Is w' (some ⟨q, 0, none⟩) l.length (fun j => l.getD j 0) ∧ Below W.heap.size W w'

set_option maxRecDepth 100000 in
set_option maxHeartbeats 4000000 in
theorem all_1 (W : World) : AllIs W 1 [0] := by
  unfold AllIs
  go_enter Try.func19, Try.ntmps19
  go_wp2
  go_ret
  refine ⟨_, _, rfl, .inr ⟨_, 0, rfl, ?_, ?_⟩, ?_⟩
  · simp; try omega
  · intro k hk
    obtain rfl : k = 0 := by simpa using hk
    simp [go_sem]
  · repeat first | exact Below.refl _ _ | refine bal ?_

set_option maxRecDepth 100000 in
set_option maxHeartbeats 4000000 in
theorem all_2 (W : World) : AllIs W 2 [1] := by
  unfold AllIs
  go_enter Try.func19, Try.ntmps19
  go_wp2
  go_ret
  refine ⟨_, _, rfl, .inr ⟨_, 0, rfl, ?_, ?_⟩, ?_⟩
  · simp; try omega
  · intro k hk
    obtain rfl : k = 0 := by simpa using hk
    simp [go_sem]
  · repeat first | exact Below.refl _ _ | refine bal ?_

set_option maxRecDepth 100000 in
set_option maxHeartbeats 4000000 in
theorem all_3 (W : World) : AllIs W 3 [2] := by
  unfold AllIs
  go_enter Try.func19, Try.ntmps19
  go_wp2
  go_ret
  refine ⟨_, _, rfl, .inr ⟨_, 0, rfl, ?_, ?_⟩, ?_⟩
  · simp; try omega
  · intro k hk
    obtain rfl : k = 0 := by simpa using hk
    simp [go_sem]
  · repeat first | exact Below.refl _ _ | refine bal ?_

set_option maxRecDepth 100000 in
set_option maxHeartbeats 4000000 in
theorem all_4 (W : World) : AllIs W 4 [2] := by
  unfold AllIs
  go_enter Try.func19, Try.ntmps19
  go_wp2
  go_ret
  refine ⟨_, _, rfl, .inr ⟨_, 0, rfl, ?_, ?_⟩, ?_⟩
  · simp; try omega
  · intro k hk
    obtain rfl : k = 0 := by simpa using hk
    simp [go_sem]
  · repeat first | exact Below.refl _ _ | refine bal ?_

set_option maxRecDepth 100000 in
set_option maxHeartbeats 4000000 in
theorem all_5 (W : World) : AllIs W 5 [3] := by
  unfold AllIs
  go_enter Try.func19, Try.ntmps19
  go_wp2
  go_ret
  refine ⟨_, _, rfl, .inr ⟨_, 0, rfl, ?_, ?_⟩, ?_⟩
  · simp; try omega
  · intro k hk
    obtain rfl : k = 0 := by simpa using hk
    simp [go_sem]
  · repeat first | exact Below.refl _ _ | refine bal ?_

set_option maxRecDepth 100000 in
set_option maxHeartbeats 4000000 in
theorem all_6 (W : World) : AllIs W 6 [4] := by
  unfold AllIs
  go_enter Try.func19, Try.ntmps19
  go_wp2
  go_ret
  refine ⟨_, _, rfl, .inr ⟨_, 0, rfl, ?_, ?_⟩, ?_⟩
  · simp; try omega
  · intro k hk
    obtain rfl : k = 0 := by simpa using hk
    simp [go_sem]
  · repeat first | exact Below.refl _ _ | refine bal ?_

set_option maxRecDepth 100000 in
set_option maxHeartbeats 4000000 in
theorem all_7 (W : World) : AllIs W 7 [1, 2, 3, 4] := by
  unfold AllIs
  go_enter Try.func19, Try.ntmps19
  go_wp2
  go_ret
  refine ⟨_, _, rfl, .inr ⟨_, 0, rfl, ?_, ?_⟩, ?_⟩
  · simp; try omega
  · intro k hk
    match k, hk with
    | 0, _ => simp [go_sem]
    | 1, _ => simp [go_sem]
    | 2, _ => simp [go_sem]
    | 3, _ => simp [go_sem]
  · repeat first | exact Below.refl _ _ | refine bal ?_

set_option maxRecDepth 100000 in
set_option maxHeartbeats 4000000 in
theorem all_8 (W : World) : AllIs W 8 [5] := by
  unfold AllIs
  go_enter Try.func19, Try.ntmps19
  go_wp2
  go_ret
  refine ⟨_, _, rfl, .inr ⟨_, 0, rfl, ?_, ?_⟩, ?_⟩
  · simp; try omega
  · intro k hk
    obtain rfl : k = 0 := by simpa using hk
    simp [go_sem]
  · repeat first | exact Below.refl _ _ | refine bal ?_

set_option maxRecDepth 100000 in
set_option maxHeartbeats 4000000 in
theorem all_9 (W : World) : AllIs W 9 [5] := by
  unfold AllIs
  go_enter Try.func19, Try.ntmps19
  go_wp2
  go_ret
  refine ⟨_, _, rfl, .inr ⟨_, 0, rfl, ?_, ?_⟩, ?_⟩
  · simp; try omega
  · intro k hk
    obtain rfl : k = 0 := by simpa using hk
    simp [go_sem]
  · repeat first | exact Below.refl _ _ | refine bal ?_

theorem all_any (W : World) (ev : Int) (he : evB ev = true) : AllIs W ev (alL ev) := by
  rcases evB_cases he with rfl | rfl | rfl | rfl | rfl | rfl | rfl | rfl | rfl
  · exact all_1 W
  · exact all_2 W
  · exact all_3 W
  · exact all_4 W
  · exact all_5 W
  · exact all_6 W
  · exact all_7 W
  · exact all_8 W
  · exact all_9 W
end Go.Proofs.Ytndfecdhmncdaaa
