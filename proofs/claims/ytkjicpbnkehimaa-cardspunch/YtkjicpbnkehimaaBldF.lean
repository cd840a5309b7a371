/-
  A strings.Builder that has been read by String and is written on: String and WriteByte.
-/
import Derived.Test.YtkjicpbnkehimaaBld
import Derived.Shelf.Strings.BuilderF
import Derived.Lib.FrozenHead2
namespace Go.Proofs.Ytkjicpbnkehimaa
open Go.RowKit

/-- a builder of our own, its head frozen or not -/
abbrev BdF (B b : Nat) (bs : List Value) (w : World) : Prop := Lib.IsBuilderF 40 5 B b bs w
theorem string_f (B b : Nat) (l : List UInt8) (w : World) (h : BdF B b (Lib.byteCells l) w) (hBw : B ≤ w.heap.size) :
    Calls Try.prog 20 #[.pointer (some ⟨b, 0, none⟩)] w fun e w' => e = .returned (.string ⟨l.toArray⟩) ∧ BdF B b (Lib.byteCells l) w' ∧ Below B w w' := Any.Builder_String_any_f Try.lays169 Try.Builder_Extra_169 B b l w h hBw
set_option maxHeartbeats 1000000 in
set_option maxRecDepth 100000 in
theorem check_f (B b : Nat) (bs : List Value) (w : World) (h : BdF B b bs w) :
    Calls Try.prog 32 #[.pointer (some ⟨b, 0, none⟩)] w fun e w' => e = .returned (.tuple #[]) ∧ Lib.BuilderAtF 40 5 B b (.pointer (some ⟨b, 0, none⟩)) bs w' ∧ Below B w w' := by
  obtain ⟨iB, q1, q2⟩ := Option.map_eq_some_iff.1 size40
  have own : B ≤ b := h.elim (fun k => k.1) (fun k => k.1)
  cases h with
  | inr k =>
    have k0 := k.cell0
    have same := Lib.run_neq_ptr_same w ⟨b, 0, none⟩ Try.underlying38 q1
    go_enter Try.func32, Try.ntmps32
    go_wp2
    go_end0
    exact ⟨rfl, k, Below.refl B w⟩
  | inl k =>
    have k0 := k.cell0
    have k1 := k.frozen0
    have there := Lib.run_to_unsafe w ⟨b, 0, none⟩ Try.underlying38 Try.underlying73 q1 (by rw [q2]; decide) k.shape (Nat.zero_lt_succ 1)
    have back := Lib.run_from_unsafe w ⟨b, 0, none⟩ Try.underlying73 Try.underlying38 q1 k.shape lies40
    have hides : (callFunc 39 #[.pointer (some ⟨b, 0, none⟩)]).run Try.prog w = .ok (.value (.pointer (some ⟨b, 0, none⟩))) w := (run_callFunc_extern Try.func39 (by kernel_rfl) (by kernel_rfl) (by kernel_rfl) (e := Extern.AbiNoEscape.same) (by kernel_rfl) _ w).trans rfl
    have kept := Below.setCell (p := ⟨b, 0, none⟩) (Below.refl B w) own (.pointer (some ⟨b, 0, none⟩))
    go_enter Try.func32, Try.ntmps32
    go_wp2
    go_end0
    exact ⟨rfl, k.used _, kept⟩

theorem bdf_ahead {B b : Nat} {bs : List Value} {w : World} (h : Lib.BuilderAtF 40 5 B b (.pointer (some ⟨b, 0, none⟩)) bs w) :
    ∃ ao cap, B ≤ b ∧ b < w.heap.size ∧ w.heap[b]? = some (.cells #[.pointer (some ⟨b, 0, none⟩), .slice ao bs.length cap] 40 (0, 0)) ∧ w.ownsRowF B 5 1 (.slice ao bs.length cap) bs.length bs ∧ (Value.slice ao bs.length cap).ownBlock ≠ some b ∧ w.cell? ⟨b, 1, none⟩ = some (.slice ao bs.length cap) := by
  have hl := h.lt
  obtain ⟨hB, v, hb, hown, hne⟩ := h
  obtain ⟨ao, cap, rfl⟩ : ∃ ao cap, v = .slice ao bs.length cap := by
    exact hown.2.elim (fun k => ⟨none, 0, by rw [k.1, k.2]⟩) (fun ⟨g, c, _, _, k⟩ => ⟨some ⟨g, 0, none⟩, c, k.1⟩)
  exact ⟨ao, cap, hB, hl, hb, hown, hne, by rw [Lib.cell_of_heap hb]; rfl⟩
theorem bdf_slice {B : Nat} {n : Nat} {xs : List Value} {v : Value} {w : World} (h : w.ownsRowF B 5 1 v n xs) : ∃ q cap, v = .slice q n cap := by
  exact h.2.elim (fun k => ⟨none, 0, by rw [k.1, k.2]⟩) (fun ⟨g, c, _, _, k⟩ => ⟨some ⟨g, 0, none⟩, c, k.1⟩)
set_option maxHeartbeats 2000000 in
set_option maxRecDepth 100000 in
theorem byte_f (B b : Nat) (bs : List Value) (c : Int) (w : World) (h : BdF B b bs w) (hlen : bs.length + 1 ≤ 140737488355328) (hBw : B ≤ w.heap.size) :
    Calls Try.prog 14 #[.pointer (some ⟨b, 0, none⟩), .int .u8 c] w fun e w' => e = .returned .nilIface ∧ BdF B b (bs ++ [.int .u8 c]) w' ∧ Below B w w' := by
  obtain ⟨i0, hi, hz0, hz1, hz2⟩ := info_parts info5
  go_enter Try.func14, Try.ntmps14
  go_wp2_with (go_at_call 32; refine (check_f B b bs _ h).mono ?_)
  rintro e w1 ⟨rfl, h1, hb1⟩
  obtain ⟨ao, cap, hB, hl, hb, hown, hne, c1⟩ := bdf_ahead h1
  have hs1 := hb1.size
  go_wp2_with (at_builtin; refine wpList_append_ownF _ rfl _ _ 35 rfl B 5 i0 (.int .u8 0) 1 1 Try.underlying35 hi hz0 hz1 hz2 rfl (by decide) _ _ _ rfl (hown.alloc _) ⟨w1.heap.size, 0, none⟩ 1 1 [.int .u8 c] rfl rfl ?at_ ?one_ ?max_ ?fit_ ?base_ ?_)
  case base_ => rw [show (w1.alloc _).heap.size = w1.heap.size + 1 by simp]; omega
  case fit_ => omega
  case max_ => exact Nat.le_trans hlen (by decide)
  case one_ => exact fun u hu => by rw [List.mem_singleton.1 hu]; rfl
  case at_ =>
    intro j u hj
    cases j with
    | succ j => simp at hj
    | zero =>
      have hu : Value.int .u8 c = u := Option.some.inj hj
      rw [← hu]
      simp [Addr.add]
  intro v' w2 hown' hgrow _
  obtain ⟨hb2, d1, f1⟩ := bd_behind hl hb hne hgrow
  obtain ⟨q, cap', rfl⟩ := bdf_slice hown'
  go_wp2
  go_ret
  refine ⟨rfl, Or.inr ?_, ?_⟩
  · exact Lib.BuilderAtF.put (T := 40) (e := 5) hB hb2 (bs' := bs ++ [.int .u8 c]) (by simpa using hown') (by decide)
  · exact ((hb1.alloc (by omega) _).grown hgrow (by simp; omega) (fun k hk => (hown.lt k hk).1)).setCell (p := ⟨b, 1, none⟩) hB _
end Go.Proofs.Ytkjicpbnkehimaa
