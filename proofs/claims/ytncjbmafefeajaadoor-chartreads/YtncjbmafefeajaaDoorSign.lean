/-
  What gridSign and Sign of package chart answer, where the table of signs stands as its initialiser lays it.
-/
import Derived.Test.YtncjbmafefeajaaDoorBuild
namespace Go.Proofs.YtncjbmafefeajaaDoor
open Go.RowKit

/-- the table of signs -/
abbrev tabA : Array Value := #[.int .i64 0, .int .i32 183, .int .i64 1, .int .i64 1, .int .i32 9608, .int .i64 1, .int .i64 2, .int .i32 48, .int .i64 10, .int .i64 12, .int .i32 945, .int .i64 17, .int .i64 29, .int .i32 963, .int .i64 7, .int .i64 36, .int .i32 97, .int .i64 26]
/-- .. lies in a world -/
def Tab (W : World) : Prop := ∃ t fr, W.heap[0]? = some (.cells tabA t fr)
theorem Tab.pos {W : World} (h : Tab W) : 0 < W.heap.size := by
  obtain ⟨t, fr, h⟩ := h
  exact (Array.getElem?_eq_some_iff.1 h).1
theorem Tab.below {W w1 : World} {B : Nat} (h : Tab W) (hB : 0 < B) (hb : Below B W w1) : Tab w1 := by
  obtain ⟨t, fr, h⟩ := h
  exact ⟨t, fr, by rw [hb.block 0 hB]; exact h⟩
theorem Tab.keep {W w1 : World} (h : Tab W) (hb : Below W.heap.size W w1) : Tab w1 := h.below h.pos hb
theorem size66 : (Tryd.prog.info? 37).map (·.size) = some 18 := by kernel_rfl

theorem ret_i32 {a b : Int} (h : a = b) : Ending.returned (.int .i32 a) = .returned (.int .i32 b) := by rw [h]
/-- the sign of a colour -/
def sg (c : Int) : Int := if c < 0 then 63 else if c = 0 then 183 else if c = 1 then 9608 else if c < 12 then 48 + (c - 2) else if c < 29 then 945 + (c - 12) else if c < 36 then 963 + (c - 29) else if c < 62 then 97 + (c - 36) else 63
def gc : Nat → Int | 0 => 0 | 1 => 1 | 2 => 2 | 3 => 12 | 4 => 29 | _ => 36
def gm : Nat → Int | 0 => 1 | 1 => 1 | 2 => 10 | 3 => 17 | 4 => 7 | _ => 26

/-- the table, as it is loaded -/
abbrev tabV : Value := .agg tabA
theorem idx0 (w : World) : (Instr.index 37 tabV (.int .i64 0)).run Tryd.prog w = .ok (.agg #[.int .i64 0, .int .i32 183, .int .i64 1]) w := by kernel_rfl
theorem idx1 (w : World) : (Instr.index 37 tabV (.int .i64 1)).run Tryd.prog w = .ok (.agg #[.int .i64 1, .int .i32 9608, .int .i64 1]) w := by kernel_rfl
theorem idx2 (w : World) : (Instr.index 37 tabV (.int .i64 2)).run Tryd.prog w = .ok (.agg #[.int .i64 2, .int .i32 48, .int .i64 10]) w := by kernel_rfl
theorem idx3 (w : World) : (Instr.index 37 tabV (.int .i64 3)).run Tryd.prog w = .ok (.agg #[.int .i64 12, .int .i32 945, .int .i64 17]) w := by kernel_rfl
theorem idx4 (w : World) : (Instr.index 37 tabV (.int .i64 4)).run Tryd.prog w = .ok (.agg #[.int .i64 29, .int .i32 963, .int .i64 7]) w := by kernel_rfl
theorem idx5 (w : World) : (Instr.index 37 tabV (.int .i64 5)).run Tryd.prog w = .ok (.agg #[.int .i64 36, .int .i32 97, .int .i64 26]) w := by kernel_rfl

set_option maxHeartbeats 4000000 in
theorem sign_any (c : Int) (w : World) (hc : -9223372036854775808 ≤ c ∧ c ≤ 9223372036854775807) (hT : Tab w) : Calls Tryd.prog 4 #[.int .i64 c] w fun e w' => e = .returned (.int .i32 (sg c)) ∧ Below w.heap.size w w' := by
  obtain ⟨tt, fr, ht⟩ := hT
  go_enter Tryd.func4, Tryd.ntmps4
  go_wp2_with (refine wpList_load_row rfl 37 _ rfl 0 rfl tt _ fr _ ht Tryd.underlying37 rfl size66 ?_)
  clear ht
  go_loopw [6] (fun i w1 => ∃ k : Nat, k ≤ 6 ∧ i = .int .i64 k ∧ (∀ j, j < k → ¬ (gc j ≤ c ∧ c - gc j < gm j)) ∧ Below w.heap.size w w1) (fun i _ => 6 - (intOf i).toNat)
  case atStart => exact ⟨0, Nat.zero_le _, rfl, fun j hj => by omega, Below.refl _ _⟩
  case round =>
    obtain ⟨k, hk, rfl, hn, hbel⟩ := hrel
    have Hn := hide hn
    clear hn
    by_cases hlt : k < 6
    · by_cases hin : gc k ≤ c ∧ c - gc k < gm k
      · have h6 : k = 0 ∨ k = 1 ∨ k = 2 ∨ k = 3 ∨ k = 4 ∨ k = 5 := by omega
        rcases h6 with rfl | rfl | rfl | rfl | rfl | rfl
        all_goals
          simp only [gc, gm] at hin
          have h1 := hin.1
          have h2 := hin.2
          clear hin
          go_wp2
          first | rw [idx0] | rw [idx1] | rw [idx2] | rw [idx3] | rw [idx4] | rw [idx5]
          simp only [Result.andThen]
          rw [Oper.upon_value]
          go_wp2
          go_ret
          exact ⟨ret_i32 (by unfold sg; repeat' split
                             all_goals omega), bal hbel⟩
      · have Hn2 := hide (show ∀ j, j < k + 1 → ¬ (gc j ≤ c ∧ c - gc j < gm j) from fun j hj => by
          by_cases e : j = k
          · rw [e]; exact hin
          · exact unhide Hn j (by omega))
        clear Hn
        by_cases h1 : gc k ≤ c
        · have h2 : ¬ c - gc k < gm k := fun h => hin ⟨h1, h⟩
          clear hin
          have h6 : k = 0 ∨ k = 1 ∨ k = 2 ∨ k = 3 ∨ k = 4 ∨ k = 5 := by omega
          rcases h6 with rfl | rfl | rfl | rfl | rfl | rfl
          all_goals
            simp only [gc, gm] at h1 h2
            go_wp2
            first | rw [idx0] | rw [idx1] | rw [idx2] | rw [idx3] | rw [idx4] | rw [idx5]
            simp only [Result.andThen]
            rw [Oper.upon_value]
            go_wp2
            go_roundw
            case rel => exact ⟨_, by omega, by go_num, unhide Hn2, bal hbel⟩
            case measure => simp [intOf]
        · clear hin
          have h6 : k = 0 ∨ k = 1 ∨ k = 2 ∨ k = 3 ∨ k = 4 ∨ k = 5 := by omega
          rcases h6 with rfl | rfl | rfl | rfl | rfl | rfl
          all_goals
            simp only [gc] at h1
            go_wp2
            first | rw [idx0] | rw [idx1] | rw [idx2] | rw [idx3] | rw [idx4] | rw [idx5]
            simp only [Result.andThen]
            rw [Oper.upon_value]
            go_wp2
            go_roundw
            case rel => exact ⟨_, by omega, by go_num, unhide Hn2, bal hbel⟩
            case measure => simp [intOf]
    · have e : k = 6 := by omega
      subst e
      have hs : sg c = 63 := by
        have n0 := unhide Hn 0 (by omega)
        have n1 := unhide Hn 1 (by omega)
        have n2 := unhide Hn 2 (by omega)
        have n3 := unhide Hn 3 (by omega)
        have n4 := unhide Hn 4 (by omega)
        have n5 := unhide Hn 5 (by omega)
        simp only [gc, gm] at n0 n1 n2 n3 n4 n5
        unfold sg
        repeat' split
        all_goals omega
      have Hs := hide hs
      clear hs Hn
      go_wp2
      go_ret
      exact ⟨ret_i32 (unhide Hs).symm, hbel⟩
end Go.Proofs.YtncjbmafefeajaaDoor
