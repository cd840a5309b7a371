/-
  What gridOf, lineEnds and Colour of package chart answer, where the tables of signs and of utf8 stand as their initialisers lay them.
-/
import Derived.Test.YtncjbmafefeajaaDoorPrint
namespace Go.Proofs.YtncjbmafefeajaaDoor
open Go.RowKit

def grid (r : Int) : Int := if r = 9633 then 4 else if r = 9651 then 6 else 0
theorem gridOf_any (r : Int) (w : World) : Calls Tryd.prog 18 #[.int .i32 r] w fun e w' => e = .returned (.int .i64 (grid r)) ∧ w' = w := by
  by_cases h1 : r = 9633
  · subst h1
    go_enter Tryd.func18, Tryd.ntmps18
    go_wp2
    go_ret
    exact ⟨rfl, rfl⟩
  · by_cases h2 : r = 9651
    · subst h2
      go_enter Tryd.func18, Tryd.ntmps18
      go_wp2
      go_ret
      exact ⟨rfl, rfl⟩
    · have e := hide (show grid r = 0 by simp [grid, h1, h2])
      have h1' : (r == 9633) = false := by simp [h1]
      have h2' : (r == 9651) = false := by simp [h2]
      clear h1 h2
      go_enter Tryd.func18, Tryd.ntmps18
      go_wp2
      go_ret
      exact ⟨ret_int (unhide e).symm, rfl⟩

/-- a line feed stands at a place -/
def lf (s : ByteArray) (p : Nat) : Bool := s.data[p]? == some 10
theorem lineEnds_any (s : ByteArray) (p : Nat) (w : World) : Calls Tryd.prog 19 #[.string s, .int .i64 p] w fun e w' => e = .returned (.bool (lf s p)) ∧ w' = w := by
  by_cases h : p < s.size
  · have e := hide (show ((((s[p]'h).toNat : Nat) : Int) == 10) = lf s p by
      have h0 : s.data[p]? = some (s[p]'h) := by rw [Array.getElem?_eq_getElem (show p < s.data.size from h)]; rfl
      unfold lf
      rw [h0]
      by_cases h10 : (s[p]'h) = 10
      · rw [h10]; rfl
      · have : (s[p]'h).toNat ≠ 10 := fun hh => h10 (UInt8.toNat_inj.1 hh)
        have h1 : ((((s[p]'h).toNat : Nat) : Int) == 10) = false := by simp; omega
        have h2 : (some (s[p]'h) == some (10 : UInt8)) = false := by simp [h10]
        rw [h1, h2])
    go_enter Tryd.func19, Tryd.ntmps19
    go_wp2
    go_ret
    exact ⟨ret_bool (unhide e), rfl⟩
  · have e := hide (show lf s p = false by simp [lf, Array.getElem?_eq_none (show s.data.size ≤ p from Nat.le_of_not_lt h)])
    have h' : ¬ (p : Int) < (s.size : Int) := by omega
    have h'' : decide ((p : Int) < (s.size : Int)) = false := by simp; omega
    go_enter Tryd.func19, Tryd.ntmps19
    go_wp2
    go_ret
    exact ⟨ret_bool (unhide e).symm, rfl⟩

/-! ### Colour -/
/-- the colour of a rune -/
def grp (r : Int) : Option Int := if r = 183 then some 0 else if r = 9608 then some 1 else if 48 ≤ r ∧ r ≤ 57 then some (r - 48 + 2) else if 945 ≤ r ∧ r ≤ 961 then some (r - 945 + 12) else if 963 ≤ r ∧ r ≤ 969 then some (r - 963 + 29) else if 97 ≤ r ∧ r ≤ 122 then some (r - 97 + 36) else none
def colP (r : Int) (n : Nat) : Int × Int := match grp r with | some c => (c, n) | none => (0, 0)
def gs : Nat → Int | 0 => 183 | 1 => 9608 | 2 => 48 | 3 => 945 | 4 => 963 | _ => 97
theorem colP_in (r : Int) (n k : Nat) (hk : k < 6) (h : gs k ≤ r ∧ r - gs k < gm k) : colP r n = (gc k + (r - gs k), (n : Int)) := by
  have e : grp r = some (gc k + (r - gs k)) := by
    have h6 : k = 0 ∨ k = 1 ∨ k = 2 ∨ k = 3 ∨ k = 4 ∨ k = 5 := by omega
    rcases h6 with rfl | rfl | rfl | rfl | rfl | rfl
    all_goals
      simp only [gs, gm, gc] at h ⊢
      unfold grp
      repeat' split
      all_goals first | (exfalso; omega) | exact congrArg some (by omega)
  unfold colP
  rw [e]
theorem colP_out (r : Int) (n : Nat) (h : ∀ j, j < 6 → ¬ (gs j ≤ r ∧ r - gs j < gm j)) : colP r n = (0, 0) := by
  have n0 := h 0 (by omega)
  have n1 := h 1 (by omega)
  have n2 := h 2 (by omega)
  have n3 := h 3 (by omega)
  have n4 := h 4 (by omega)
  have n5 := h 5 (by omega)
  simp only [gs, gm] at n0 n1 n2 n3 n4 n5
  unfold colP
  have : grp r = none := by
    unfold grp
    repeat' split
    all_goals first | rfl | (exfalso; omega)
  rw [this]

theorem utf8_keep {W w1 : World} (h : Lib.Utf8Tabs 1 2 W) (hb : Below W.heap.size W w1) : Lib.Utf8Tabs 1 2 w1 := by
  have l1 := World.block_lt_of_cell? W _ (h.1 0 (by omega))
  have l2 := World.block_lt_of_cell? W _ (h.2 0 (by omega)).1
  refine ⟨fun c hc => ?_, fun i hi => ⟨?_, ?_⟩⟩
  · rw [hb.cell (p := ⟨1, c, none⟩) l1]; exact h.1 c hc
  · rw [hb.cell (p := ⟨2, 2 * i, none⟩) l2]; exact (h.2 i hi).1
  · rw [hb.cell (p := ⟨2, 2 * i + 1, none⟩) l2]; exact (h.2 i hi).2
theorem decoded_le (t : ByteArray) : (Lib.decodeGo t).1 ≤ 1114111 ∧ (Lib.decodeGo t).2 ≤ 4 := by
  unfold Lib.decodeGo
  split
  · omega
  · rw [Lib.decode_at]
    have := UInt8.toNat_lt (t.get! 0)
    unfold Lib.decodeN
    repeat' split
    all_goals (simp only; omega)

set_option maxHeartbeats 4000000 in
theorem colour_any (t : ByteArray) (w : World) (hT : Tab w) (hU : Lib.Utf8Tabs 1 2 w) : Calls Tryd.prog 6 #[.string t] w fun e w' => e = .returned (.tuple #[.int .i64 (colP (Lib.decodeGo t).1 (Lib.decodeGo t).2).1, .int .i64 (colP (Lib.decodeGo t).1 (Lib.decodeGo t).2).2]) ∧ Below w.heap.size w w' := by
  have HD := hide (Tryd.utf8_DecodeRuneInString t w hU)
  have HT := hide hT
  have hr := decoded_le t
  clear hU hT
  generalize (Lib.decodeGo t).1 = rn at *
  generalize (Lib.decodeGo t).2 = n at *
  obtain ⟨r, hrn⟩ : ∃ r : Int, r = rn := ⟨_, rfl⟩
  have hr2 : 0 ≤ r ∧ r ≤ 1114111 := by omega
  rw [← hrn] at HD ⊢
  clear hrn hr
  go_enter Tryd.func6, Tryd.ntmps6
  go_wp2_with fail
  refine (unhide HD).mono ?_
  rintro e w1 ⟨rfl, hb⟩
  obtain ⟨tt, fr, ht⟩ := (unhide HT).keep hb
  go_wp2_with (refine wpList_load_row rfl 37 _ rfl 0 rfl tt _ fr _ ht Tryd.underlying37 rfl size66 ?_)
  clear ht HT
  go_loopw [14] (fun i wr => ∃ k : Nat, k ≤ 6 ∧ i = .int .i64 k ∧ (∀ j, j < k → ¬ (gs j ≤ r ∧ r - gs j < gm j)) ∧ Below w.heap.size w wr) (fun i _ => 6 - (intOf i).toNat)
  case atStart => exact ⟨0, Nat.zero_le _, rfl, fun j hj => by omega, hb⟩
  case round =>
    clear hb
    obtain ⟨k, hk, rfl, hn, hbel⟩ := hrel
    have Hn := hide hn
    clear hn
    by_cases hlt : k < 6
    · by_cases hin : gs k ≤ r ∧ r - gs k < gm k
      · have hc := colP_in r n k hlt hin
        have H1 := hide (congrArg Prod.fst hc)
        have H2 := hide (congrArg Prod.snd hc)
        clear hc
        have h6 : k = 0 ∨ k = 1 ∨ k = 2 ∨ k = 3 ∨ k = 4 ∨ k = 5 := by omega
        rcases h6 with rfl | rfl | rfl | rfl | rfl | rfl
        all_goals
          simp only [gs, gm] at hin
          have h1 := hin.1
          have h2 := hin.2
          clear hin
          go_wp2
          first | rw [idx0] | rw [idx1] | rw [idx2] | rw [idx3] | rw [idx4] | rw [idx5]
          simp only [Result.andThen]
          rw [Oper.upon_value]
          go_wp2
          refine bodyPost_ret (v := .tuple #[.int .i64 (colP r n).1, .int .i64 (colP r n).2]) ?_ rfl ⟨rfl, bal hbel⟩
          rw [unhide H1, unhide H2]
          simp [results, Tryd.results6, go_sem, gc, gs]
          try omega
      · have Hn2 := hide (show ∀ j, j < k + 1 → ¬ (gs j ≤ r ∧ r - gs j < gm j) from fun j hj => by
          by_cases e : j = k
          · rw [e]; exact hin
          · exact unhide Hn j (by omega))
        clear Hn
        by_cases h1 : gs k ≤ r
        · have h2 : ¬ r - gs k < gm k := fun h => hin ⟨h1, h⟩
          clear hin
          have h6 : k = 0 ∨ k = 1 ∨ k = 2 ∨ k = 3 ∨ k = 4 ∨ k = 5 := by omega
          rcases h6 with rfl | rfl | rfl | rfl | rfl | rfl
          all_goals
            simp only [gs, gm] at h1 h2
            go_wp2
            first | rw [idx0] | rw [idx1] | rw [idx2] | rw [idx3] | rw [idx4] | rw [idx5]
            simp only [Result.andThen]
            rw [Oper.upon_value]
            go_wp2
            go_roundw
            case rel => exact ⟨_, by omega, by go_num, unhide Hn2, bal hbel⟩
            case measure => simp [intOf]
        · clear hin
          have h6 : k = 0 ∨ k = 1 ∨ k = 2 ∨ k = 3 ∨ k = 4 ∨ k = 5 := by omega
          rcases h6 with rfl | rfl | rfl | rfl | rfl | rfl
          all_goals
            simp only [gs] at h1
            go_wp2
            first | rw [idx0] | rw [idx1] | rw [idx2] | rw [idx3] | rw [idx4] | rw [idx5]
            simp only [Result.andThen]
            rw [Oper.upon_value]
            go_wp2
            go_roundw
            case rel => exact ⟨_, by omega, by go_num, unhide Hn2, bal hbel⟩
            case measure => simp [intOf]
    · have e : k = 6 := by omega
      subst e
      have hs := colP_out r n (unhide Hn)
      have Hs := hide hs
      clear hs Hn
      go_wp2
      exact bodyPost_ret (v := .tuple #[.int .i64 0, .int .i64 0]) (by simp [results, Tryd.results6, go_sem]) rfl ⟨by rw [unhide Hs], hbel⟩
end Go.Proofs.YtncjbmafefeajaaDoor
