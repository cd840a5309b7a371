/-
  What starts and Sign of the reference answer.
-/
import Derived.Test.YtncjbmafefeajaaDoorSame
namespace Go.Proofs.YtncjbmafefeajaaDoor
open Go.RowKit

/-- a text stands at a place of another one -/
def st (s : ByteArray) (p : Nat) (t : List UInt8) : Bool := t.isPrefixOf ((byt s).drop p)
theorem st_yes (s : ByteArray) (p : Nat) (t : List UInt8) (h : p + t.length ≤ s.size) : ((s.extract p (p + t.length)).toList == (⟨t.toArray⟩ : ByteArray).toList) = st s p t := by
  have e : (s.extract p (p + t.length)).toList = ((byt s).drop p).take t.length := by
    rw [ByteArray.toList_eq]
    cases s with
    | mk d => simp [Array.toList_extract, List.extract]
  have e2 : (⟨t.toArray⟩ : ByteArray).toList = t := by rw [ByteArray.toList_eq]
  rw [e, e2, Bool.eq_iff_iff]
  unfold st
  rw [List.isPrefixOf_iff_prefix, List.prefix_iff_eq_take]
  simp
  exact eq_comm
theorem st_no (s : ByteArray) (p : Nat) (t : List UInt8) (ht : t ≠ []) (h : ¬ p + t.length ≤ s.size) : st s p t = false := by
  cases e : st s p t
  · rfl
  · exfalso
    unfold st at e
    rw [List.isPrefixOf_iff_prefix] at e
    have := e.length_le
    rw [List.length_drop, size_byt] at this
    have : t.length ≠ 0 := fun hh => ht (List.length_eq_zero_iff.1 hh)
    omega
set_option maxHeartbeats 1000000 in
theorem starts_any (s : ByteArray) (p : Nat) (t : List UInt8) (w : World) (hp : p ≤ 1000000) (ht : t.length ≤ 8) (h0 : t ≠ []) : Calls Tryd.prog 13 #[.string s, .int .i64 p, .string ⟨t.toArray⟩] w fun e w' => e = .returned (.bool (st s p t)) ∧ w' = w := by
  have hz : (⟨t.toArray⟩ : ByteArray).size = t.length := rfl
  by_cases h : p + t.length ≤ s.size
  · have e := hide (st_yes s p t h)
    rw [← hz] at e
    generalize st s p t = r at *
    rw [← hz] at h ht
    clear hz h0
    generalize (⟨t.toArray⟩ : ByteArray) = t at *
    have h' : decide ((p : Int) + (t.size : Int) ≤ (s.size : Int)) = true := by simp; omega
    go_enter Tryd.func13, Tryd.ntmps13
    go_wp2
    go_ret
    exact ⟨ret_bool (unhide e), rfl⟩
  · have e := hide (st_no s p t h0 h)
    generalize st s p t = r at *
    rw [← hz] at h ht
    clear hz h0
    generalize (⟨t.toArray⟩ : ByteArray) = t at *
    have h' : decide ((p : Int) + (t.size : Int) ≤ (s.size : Int)) = false := by simp; omega
    go_enter Tryd.func13, Tryd.ntmps13
    go_wp2
    go_ret
    exact ⟨ret_bool (unhide e).symm, rfl⟩

/-- a sign stands at a place just where it is read there -/
theorem st_sign (s : ByteArray) (p : Nat) (c : Nat) (hc : c < 62) : st s p (sb c) = true ↔ signAt s p = some ((c : Int), (sb c).length) := by
  unfold st
  rw [List.isPrefixOf_iff_prefix]
  constructor
  · rintro ⟨r, h⟩
    exact sign_complete s p c (by omega) r h.symm
  · intro h
    exact ⟨_, (sign_sound s p c _ h).1.symm⟩
theorem st_lf (s : ByteArray) (p : Nat) : st s p [10] = lf s p := by
  unfold st lf
  rw [show s.data[p]? = (byt s)[p]? from (Array.getElem?_toList).symm]
  cases h : (byt s)[p]? with
  | none =>
    have : (byt s).length ≤ p := List.getElem?_eq_none_iff.1 h
    rw [List.drop_eq_nil_of_le this]; rfl
  | some b =>
    obtain ⟨hl, hb⟩ := List.getElem?_eq_some_iff.1 h
    rw [List.drop_eq_getElem_cons hl, hb]
    show ((10 == b) && true) = (some b == some 10)
    by_cases h10 : b = 10
    · subst h10; rfl
    · have e1 : ((10 : UInt8) == b) = false := beq_eq_false_iff_ne.2 (fun e => h10 e.symm)
      have e2 : (some b == some (10 : UInt8)) = false := beq_eq_false_iff_ne.2 (fun e => h10 (Option.some.inj e))
      rw [e1, e2]; rfl

/-! ### Sign -/
theorem decoded1 : ∀ c, c < 62 → Utf8.decode ⟨(sb (c : Nat)).toArray⟩ 0 = ((sg c).toNat, (sb c).length) ∧ 0 < (sb (c : Nat)).length ∧ (sb (c : Nat)).length ≤ 3 ∧ (((sg c).toNat : Nat) : Int) = sg c := by decide +kernel

theorem sign_cell {W : World} {B g cap c : Nat} (h : W.ownsRow B 9 1 (.slice (some ⟨g, 0, none⟩) 62 cap) 62 (signCells 62)) (hc : c < 62) : W.cell? ⟨g, c, none⟩ = some (.string ⟨(sb c).toArray⟩) := by
  rw [h.cellAt c (by omega)]
  simp [signCells, hc, signV]
set_option maxHeartbeats 1000000 in
theorem rsign_out (c : Int) (w : World) (hc : c < 0 ∨ 61 < c) (hb : -9223372036854775808 ≤ c ∧ c ≤ 9223372036854775807) : Calls Tryd.prog 5 #[.int .i64 c] w fun e w' => e = .returned (.int .i32 (sg c)) ∧ Below w.heap.size w w' := by
  have e := hide (show sg c = 63 by unfold sg; repeat' split
                                    all_goals omega)
  rcases hc with h | h
  · have h1 : decide (c < 0) = true := by simp; omega
    go_enter Tryd.func5, Tryd.ntmps5
    go_wp2
    go_ret
    exact ⟨ret_i32 (unhide e).symm, Below.refl _ _⟩
  · have h1 : decide (c < 0) = false := by simp; omega
    have h2 : decide (61 < c) = true := by simp; omega
    go_enter Tryd.func5, Tryd.ntmps5
    go_wp2
    go_ret
    exact ⟨ret_i32 (unhide e).symm, Below.refl _ _⟩
set_option maxHeartbeats 4000000 in
set_option maxRecDepth 100000 in
theorem rsign_in (c : Nat) (w : World) (hc : c < 62) : Calls Tryd.prog 5 #[.int .i64 c] w fun e w' => e = .returned (.int .i32 (sg c)) ∧ Below w.heap.size w w' := by
  have HS := hide (signs_any w)
  have h1 : decide ((c : Int) < 0) = false := by simp
  have h2 : decide (61 < (c : Int)) = false := by simp; omega
  obtain ⟨hd, hl0, hl3, hsg⟩ := decoded1 c hc
  rw [← hsg]
  have HC := hide (fun (w1 : World) (g cap : Nat) (h : w1.ownsRow w.heap.size 9 1 (.slice (some ⟨g, 0, none⟩) 62 cap) 62 (signCells 62)) => sign_cell h hc)
  have hz : (⟨(sb (c : Nat)).toArray⟩ : ByteArray).size = (sb (c : Nat)).length := rfl
  rw [← hz] at hd hl0 hl3
  clear hz hsg
  generalize (sg (c : Nat)).toNat = r at *
  generalize (⟨(sb (c : Nat)).toArray⟩ : ByteArray) = t at *
  have HD := hide hd
  clear hd
  go_enter Tryd.func5, Tryd.ntmps5
  go_wp2_with fail
  refine (unhide HS).mono ?_
  rintro e w1 ⟨g, cap, rfl, hown, hbel⟩
  have hcell := unhide HC w1 g cap hown
  clear hown HC
  go_wp2
  have hit0 := World.iter_heap w1 t 0
  have hB0 : Below w.heap.size w (w1.iter t 0) := hbel.alloc hbel.size (.stringIter t 0)
  clear hcell
  generalize w1.iter t 0 = w2 at *
  have hit1 := Lib.iterAt_heap w2 w1.heap.size t 0 t.size hit0
  have hB1 := Lib.below_iterAt hB0 (k := w1.heap.size) hbel.size t t.size
  go_loopw [3] (fun v wr => (v = .int .i32 63 ∧ wr = w2 ∨ v = .int .i32 r ∧ wr = w2.iterAt w1.heap.size t t.size)) (fun _ wr => t.size - wr.iterPos w1.heap.size)
  case atStart => exact Or.inl ⟨rfl, rfl⟩
  case round =>
    rcases hrel with ⟨rfl, rfl⟩ | ⟨rfl, rfl⟩
    · have hnx : ∀ ty, (Instr.next (.pointer (some ⟨w1.heap.size, 0, none⟩)) true ty).run Tryd.prog wr = _ := fun ty => Lib.run_next_any_at wr w1.heap.size t 0 ty hit0 hl0
      rw [unhide HD] at hnx
      go_wp2
      refine ⟨Or.inr ⟨rfl, trivial⟩, ?_⟩
      simp only [World.iterPos, hit0, hit1]
      omega
    · have hnx : ∀ ty, (Instr.next (.pointer (some ⟨w1.heap.size, 0, none⟩)) true ty).run Tryd.prog (w2.iterAt w1.heap.size t t.size) = _ := fun ty => Lib.run_next_end_at _ w1.heap.size t t.size ty hit1 (by omega)
      generalize w2.iterAt w1.heap.size t t.size = w3 at *
      go_wp2
      go_ret
      exact ⟨rfl, hB1⟩
theorem rsign_any (c : Int) (w : World) (hc : -9223372036854775808 ≤ c ∧ c ≤ 9223372036854775807) : Calls Tryd.prog 5 #[.int .i64 c] w fun e w' => e = .returned (.int .i32 (sg c)) ∧ Below w.heap.size w w' := by
  by_cases h : 0 ≤ c ∧ c ≤ 61
  · have := rsign_in c.toNat w (by omega)
    rwa [show ((c.toNat : Nat) : Int) = c by omega] at this
  · exact rsign_out c w (by omega) hc
end Go.Proofs.YtncjbmafefeajaaDoor
