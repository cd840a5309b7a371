/-
  Sign and Colour of package chart, where the tables of signs and of utf8 stand as their initialisers lay them.
-/
import Derived.Test.YtbnjjkanokmakaaDoorSM
import Derived.Test.YtbnjjkanokmakaaDoorShelf
namespace Go.Proofs.YtbnjjkanokmakaaDoor
open Go.RowKit

/-- the table of signs -/
abbrev tabA : Array Value := #[.int .i64 0, .int .i32 183, .int .i64 1, .int .i64 1, .int .i32 9608, .int .i64 1, .int .i64 2, .int .i32 48, .int .i64 10, .int .i64 12, .int .i32 945, .int .i64 17, .int .i64 29, .int .i32 963, .int .i64 7, .int .i64 36, .int .i32 97, .int .i64 26]
/-- .. lies in a world -/
def Tab (W : World) : Prop := ∃ t fr, W.heap[0]? = some (.cells tabA t fr)
theorem Tab.pos {W : World} (h : Tab W) : 0 < W.heap.size := by
  obtain ⟨t, fr, h⟩ := h
  exact (Array.getElem?_eq_some_iff.1 h).1
theorem Tab.below {W w1 : World} {B : Nat} (h : Tab W) (hB : 0 < B) (hb : Below B W w1) : Tab w1 := by
  obtain ⟨t, fr, h⟩ := h
  exact ⟨t, fr, by rw [hb.block 0 hB]; exact h⟩
theorem Tab.keep {W w1 : World} (h : Tab W) (hb : Below W.heap.size W w1) : Tab w1 := h.below h.pos hb
theorem size78 : (Tryd.prog.info? 78).map (·.size) = some 18 := by kernel_rfl
theorem ret_i32 {a b : Int} (h : a = b) : Ending.returned (.int .i32 a) = .returned (.int .i32 b) := by rw [h]
/-- the table, as it is loaded -/
abbrev tabV : Value := .agg tabA
theorem idx0 (w : World) : (Instr.index 78 tabV (.int .i64 0)).run Tryd.prog w = .ok (.agg #[.int .i64 0, .int .i32 183, .int .i64 1]) w := by kernel_rfl
theorem idx1 (w : World) : (Instr.index 78 tabV (.int .i64 1)).run Tryd.prog w = .ok (.agg #[.int .i64 1, .int .i32 9608, .int .i64 1]) w := by kernel_rfl
theorem idx2 (w : World) : (Instr.index 78 tabV (.int .i64 2)).run Tryd.prog w = .ok (.agg #[.int .i64 2, .int .i32 48, .int .i64 10]) w := by kernel_rfl
theorem idx3 (w : World) : (Instr.index 78 tabV (.int .i64 3)).run Tryd.prog w = .ok (.agg #[.int .i64 12, .int .i32 945, .int .i64 17]) w := by kernel_rfl
theorem idx4 (w : World) : (Instr.index 78 tabV (.int .i64 4)).run Tryd.prog w = .ok (.agg #[.int .i64 29, .int .i32 963, .int .i64 7]) w := by kernel_rfl
theorem idx5 (w : World) : (Instr.index 78 tabV (.int .i64 5)).run Tryd.prog w = .ok (.agg #[.int .i64 36, .int .i32 97, .int .i64 26]) w := by kernel_rfl
set_option maxRecDepth 100000 in
set_option maxHeartbeats 4000000 in
theorem sign_any (c : Int) (w : World) (hc : -9223372036854775808 ≤ c ∧ c ≤ 9223372036854775807) (hT : Tab w) : Calls Tryd.prog 33 #[.int .i64 c] w fun e w' => e = .returned (.int .i32 (sg c)) ∧ Below w.heap.size w w' := by
  obtain ⟨tt, fr, ht⟩ := hT
  go_enter Tryd.func33, Tryd.ntmps33
  go_wp2_with (refine wpList_load_row rfl 78 _ rfl 0 rfl tt _ fr _ ht Tryd.underlying78 rfl size78 ?_)
  clear ht
  go_loopw [6] (fun i w1 => ∃ k : Nat, k ≤ 6 ∧ i = .int .i64 k ∧ (∀ j, j < k → ¬ (gc j ≤ c ∧ c - gc j < gm j)) ∧ Below w.heap.size w w1) (fun i _ => 6 - (intOf i).toNat)
  case atStart => exact ⟨0, Nat.zero_le _, rfl, fun j hj => by omega, Below.refl _ _⟩
  case round =>
    obtain ⟨k, hk, rfl, hn, hbel⟩ := hrel
    have Hn := hide hn
    clear hn
    by_cases hlt : k < 6
    · by_cases hin : gc k ≤ c ∧ c - gc k < gm k
      · have h6 : k = 0 ∨ k = 1 ∨ k = 2 ∨ k = 3 ∨ k = 4 ∨ k = 5 := by omega
        rcases h6 with rfl | rfl | rfl | rfl | rfl | rfl
        all_goals
          simp only [gc, gm] at hin
          have h1 := hin.1
          have h2 := hin.2
          clear hin
          go_wp2
          first | rw [idx0] | rw [idx1] | rw [idx2] | rw [idx3] | rw [idx4] | rw [idx5]
          simp only [Result.andThen]
          rw [Oper.upon_value]
          go_wp2
          go_ret
          exact ⟨ret_i32 (by unfold sg; repeat' split
                             all_goals omega), bal hbel⟩
      · have Hn2 := hide (show ∀ j, j < k + 1 → ¬ (gc j ≤ c ∧ c - gc j < gm j) from fun j hj => by
          by_cases e : j = k
          · rw [e]; exact hin
          · exact unhide Hn j (by omega))
        clear Hn
        by_cases h1 : gc k ≤ c
        · have h2 : ¬ c - gc k < gm k := fun h => hin ⟨h1, h⟩
          clear hin
          have h6 : k = 0 ∨ k = 1 ∨ k = 2 ∨ k = 3 ∨ k = 4 ∨ k = 5 := by omega
          rcases h6 with rfl | rfl | rfl | rfl | rfl | rfl
          all_goals
            simp only [gc, gm] at h1 h2
            go_wp2
            first | rw [idx0] | rw [idx1] | rw [idx2] | rw [idx3] | rw [idx4] | rw [idx5]
            simp only [Result.andThen]
            rw [Oper.upon_value]
            go_wp2
            go_roundw
            case rel => exact ⟨_, by omega, by go_num, unhide Hn2, bal hbel⟩
            case measure => simp [intOf]
        · clear hin
          have h6 : k = 0 ∨ k = 1 ∨ k = 2 ∨ k = 3 ∨ k = 4 ∨ k = 5 := by omega
          rcases h6 with rfl | rfl | rfl | rfl | rfl | rfl
          all_goals
            simp only [gc] at h1
            go_wp2
            first | rw [idx0] | rw [idx1] | rw [idx2] | rw [idx3] | rw [idx4] | rw [idx5]
            simp only [Result.andThen]
            rw [Oper.upon_value]
            go_wp2
            go_roundw
            case rel => exact ⟨_, by omega, by go_num, unhide Hn2, bal hbel⟩
            case measure => simp [intOf]
    · have e : k = 6 := by omega
      subst e
      have hs : sg c = 63 := by
        have n0 := unhide Hn 0 (by omega)
        have n1 := unhide Hn 1 (by omega)
        have n2 := unhide Hn 2 (by omega)
        have n3 := unhide Hn 3 (by omega)
        have n4 := unhide Hn 4 (by omega)
        have n5 := unhide Hn 5 (by omega)
        simp only [gc, gm] at n0 n1 n2 n3 n4 n5
        unfold sg
        repeat' split
        all_goals omega
      have Hs := hide hs
      clear hs Hn
      go_wp2
      go_ret
      exact ⟨ret_i32 (unhide Hs).symm, hbel⟩
theorem utf8_keep {W w1 : World} (h : Lib.Utf8Tabs 3 4 W) (hb : Below W.heap.size W w1) : Lib.Utf8Tabs 3 4 w1 := by
  have l1 := World.block_lt_of_cell? W _ (h.1 0 (by omega))
  have l2 := World.block_lt_of_cell? W _ (h.2 0 (by omega)).1
  refine ⟨fun c hc => ?_, fun i hi => ⟨?_, ?_⟩⟩
  · rw [hb.cell (p := ⟨3, c, none⟩) l1]; exact h.1 c hc
  · rw [hb.cell (p := ⟨4, 2 * i, none⟩) l2]; exact (h.2 i hi).1
  · rw [hb.cell (p := ⟨4, 2 * i + 1, none⟩) l2]; exact (h.2 i hi).2
set_option maxRecDepth 100000 in
set_option maxHeartbeats 4000000 in
theorem colour_any (t : ByteArray) (w : World) (hT : Tab w) (hU : Lib.Utf8Tabs 3 4 w) : Calls Tryd.prog 49 #[.string t] w fun e w' => e = .returned (.tuple #[.int .i64 (colP (Lib.decodeGo t).1 (Lib.decodeGo t).2).1, .int .i64 (colP (Lib.decodeGo t).1 (Lib.decodeGo t).2).2]) ∧ Below w.heap.size w w' := by
  have HD := hide (Tryd.utf8_DecodeRuneInString t w hU)
  have HT := hide hT
  have hr := decoded_le t
  clear hU hT
  generalize (Lib.decodeGo t).1 = rn at *
  generalize (Lib.decodeGo t).2 = n at *
  obtain ⟨r, hrn⟩ : ∃ r : Int, r = rn := ⟨_, rfl⟩
  have hr2 : 0 ≤ r ∧ r ≤ 1114111 := by omega
  rw [← hrn] at HD ⊢
  clear hrn hr
  go_enter Tryd.func49, Tryd.ntmps49
  go_wp2_with fail
  refine (unhide HD).mono ?_
  rintro e w1 ⟨rfl, hb⟩
  obtain ⟨tt, fr, ht⟩ := (unhide HT).keep hb
  go_wp2_with (refine wpList_load_row rfl 78 _ rfl 0 rfl tt _ fr _ ht Tryd.underlying78 rfl size78 ?_)
  clear ht HT
  go_loopw [14] (fun i wr => ∃ k : Nat, k ≤ 6 ∧ i = .int .i64 k ∧ (∀ j, j < k → ¬ (gs j ≤ r ∧ r - gs j < gm j)) ∧ Below w.heap.size w wr) (fun i _ => 6 - (intOf i).toNat)
  case atStart => exact ⟨0, Nat.zero_le _, rfl, fun j hj => by omega, hb⟩
  case round =>
    clear hb
    obtain ⟨k, hk, rfl, hn, hbel⟩ := hrel
    have Hn := hide hn
    clear hn
    by_cases hlt : k < 6
    · by_cases hin : gs k ≤ r ∧ r - gs k < gm k
      · have hc := colP_in r n k hlt hin
        have H1 := hide (congrArg Prod.fst hc)
        have H2 := hide (congrArg Prod.snd hc)
        clear hc
        have h6 : k = 0 ∨ k = 1 ∨ k = 2 ∨ k = 3 ∨ k = 4 ∨ k = 5 := by omega
        rcases h6 with rfl | rfl | rfl | rfl | rfl | rfl
        all_goals
          simp only [gs, gm] at hin
          have h1 := hin.1
          have h2 := hin.2
          clear hin
          go_wp2
          first | rw [idx0] | rw [idx1] | rw [idx2] | rw [idx3] | rw [idx4] | rw [idx5]
          simp only [Result.andThen]
          rw [Oper.upon_value]
          go_wp2
          refine bodyPost_ret (v := .tuple #[.int .i64 (colP r n).1, .int .i64 (colP r n).2]) ?_ rfl ⟨rfl, bal hbel⟩
          rw [unhide H1, unhide H2]
          simp [results, Tryd.results49, go_sem, gc, gs]
          try omega
      · have Hn2 := hide (show ∀ j, j < k + 1 → ¬ (gs j ≤ r ∧ r - gs j < gm j) from fun j hj => by
          by_cases e : j = k
          · rw [e]; exact hin
          · exact unhide Hn j (by omega))
        clear Hn
        by_cases h1 : gs k ≤ r
        · have h2 : ¬ r - gs k < gm k := fun h => hin ⟨h1, h⟩
          clear hin
          have h6 : k = 0 ∨ k = 1 ∨ k = 2 ∨ k = 3 ∨ k = 4 ∨ k = 5 := by omega
          rcases h6 with rfl | rfl | rfl | rfl | rfl | rfl
          all_goals
            simp only [gs, gm] at h1 h2
            go_wp2
            first | rw [idx0] | rw [idx1] | rw [idx2] | rw [idx3] | rw [idx4] | rw [idx5]
            simp only [Result.andThen]
            rw [Oper.upon_value]
            go_wp2
            go_roundw
            case rel => exact ⟨_, by omega, by go_num, unhide Hn2, bal hbel⟩
            case measure => simp [intOf]
        · clear hin
          have h6 : k = 0 ∨ k = 1 ∨ k = 2 ∨ k = 3 ∨ k = 4 ∨ k = 5 := by omega
          rcases h6 with rfl | rfl | rfl | rfl | rfl | rfl
          all_goals
            simp only [gs] at h1
            go_wp2
            first | rw [idx0] | rw [idx1] | rw [idx2] | rw [idx3] | rw [idx4] | rw [idx5]
            simp only [Result.andThen]
            rw [Oper.upon_value]
            go_wp2
            go_roundw
            case rel => exact ⟨_, by omega, by go_num, unhide Hn2, bal hbel⟩
            case measure => simp [intOf]
    · have e : k = 6 := by omega
      subst e
      have hs := colP_out r n (unhide Hn)
      have Hs := hide hs
      clear hs Hn
      go_wp2
      exact bodyPost_ret (v := .tuple #[.int .i64 0, .int .i64 0]) (by simp [results, Tryd.results49, go_sem]) rfl ⟨by rw [unhide Hs], hbel⟩
/-- the tables that reading looks into -/
def Tabs (W : World) : Prop := Tab W ∧ Lib.Utf8Tabs 3 4 W
theorem Tabs.keep {W w1 : World} (h : Tabs W) (hb : Below W.heap.size W w1) : Tabs w1 := ⟨h.1.keep hb, utf8_keep h.2 hb⟩
end Go.Proofs.YtbnjjkanokmakaaDoor
