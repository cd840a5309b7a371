/-
  What copyCheck, WriteByte and WriteString of a strings.Builder do to a builder that the caller made itself.
-/
import Derived.Test.YtkjicpbnkehimaaShelf
import Derived.Test.YtkjicpbnkehimaaCb
import Derived.Lib.RuneBytes
import Derived.Lib.AppendStr
namespace Go.Proofs.Ytkjicpbnkehimaa
open Go.RowKit

theorem size40 : (Try.prog.info? 40).map (·.size) = some 2 := by kernel_rfl
theorem lies40 : liesAt Try.prog Try.prog.depth 40 (2 / Try.prog.cellsOf 40) 0 40 1 = true := by kernel_rfl
theorem info5 : (Try.prog.info? 5).map (fun i => (i.zero, i.size, i.bytes)) = some (some (.int .u8 0), 1, 1) := by kernel_rfl

/-- a builder of our own: fresh or used -/
abbrev Bd (B b : Nat) (bs : List Value) (w : World) : Prop := Lib.IsBuilder 40 5 B b bs w

set_option maxHeartbeats 1000000 in
set_option maxRecDepth 100000 in
theorem check_any (B b : Nat) (bs : List Value) (w : World) (h : Bd B b bs w) :
    Calls Try.prog 32 #[.pointer (some ⟨b, 0, none⟩)] w fun e w' => e = .returned (.tuple #[]) ∧ Lib.BuilderAt 40 5 B b (.pointer (some ⟨b, 0, none⟩)) bs w' ∧ Below B w w' := by
  obtain ⟨iB, q1, q2⟩ := Option.map_eq_some_iff.1 size40
  have own : B ≤ b := h.elim (fun k => k.1) (fun k => k.1)
  cases h with
  | inr k =>
    have k0 := k.cell0
    have same := Lib.run_neq_ptr_same w ⟨b, 0, none⟩ Try.underlying38 q1
    go_enter Try.func32, Try.ntmps32
    go_wp2
    go_end0
    exact ⟨rfl, k, Below.refl B w⟩
  | inl k =>
    have k0 := k.cell0
    have k1 := k.frozen0
    have there := Lib.run_to_unsafe w ⟨b, 0, none⟩ Try.underlying38 Try.underlying73 q1 (by rw [q2]; decide) k.shape (Nat.zero_lt_succ 1)
    have back := Lib.run_from_unsafe w ⟨b, 0, none⟩ Try.underlying73 Try.underlying38 q1 k.shape lies40
    have hides : (callFunc 39 #[.pointer (some ⟨b, 0, none⟩)]).run Try.prog w = .ok (.value (.pointer (some ⟨b, 0, none⟩))) w := (run_callFunc_extern Try.func39 (by kernel_rfl) (by kernel_rfl) (by kernel_rfl) (e := Extern.AbiNoEscape.same) (by kernel_rfl) _ w).trans rfl
    have kept := Below.setCell (p := ⟨b, 0, none⟩) (Below.refl B w) own (.pointer (some ⟨b, 0, none⟩))
    go_enter Try.func32, Try.ntmps32
    go_wp2
    go_end0
    exact ⟨rfl, k.used _, kept⟩

/-- what the walk of a writer needs of the builder's block, ahead of the append and behind it -/
theorem bd_ahead {B b : Nat} {bs : List Value} {w : World} (h : Lib.BuilderAt 40 5 B b (.pointer (some ⟨b, 0, none⟩)) bs w) :
    ∃ ao cap, B ≤ b ∧ b < w.heap.size ∧ w.heap[b]? = some (.cells #[.pointer (some ⟨b, 0, none⟩), .slice ao bs.length cap] 40 (0, 0)) ∧ w.ownsRow B 5 1 (.slice ao bs.length cap) bs.length bs ∧ (Value.slice ao bs.length cap).ownBlock ≠ some b ∧ w.cell? ⟨b, 1, none⟩ = some (.slice ao bs.length cap) := by
  have hl := h.lt
  obtain ⟨hB, v, hb, hown, hne⟩ := h
  obtain ⟨ao, cap, rfl⟩ : ∃ ao cap, v = .slice ao bs.length cap := by
    exact hown.2.elim (fun k => ⟨none, 0, by rw [k.1, k.2]⟩) (fun ⟨g, c, _, k⟩ => ⟨some ⟨g, 0, none⟩, c, k.1⟩)
  exact ⟨ao, cap, hB, hl, hb, hown, hne, by rw [Lib.cell_of_heap hb]; rfl⟩
theorem bd_behind {b : Nat} {v u : Value} {w1 w2 : World} {o : Obj} (hl : b < w1.heap.size) (hb : w1.heap[b]? = some (.cells #[v, u] 40 (0, 0))) (hne : u.ownBlock ≠ some b) (hg : (w1.alloc o).grownBy w2 u.ownBlock) :
    w2.heap[b]? = some (.cells #[v, u] 40 (0, 0)) ∧ w2.cell? ⟨b, 1, none⟩ = some u ∧ w2.frozen? ⟨b, 1, none⟩ = false := by
  have h2 : w2.heap[b]? = some (.cells #[v, u] 40 (0, 0)) := by
    rw [hg.block b (by simp; omega) (fun e => hne e.symm), Lib.alloc_old w1 _ b hl]
    exact hb
  exact ⟨h2, by rw [Lib.cell_of_heap h2]; rfl, Lib.frozen_of_heap h2 1⟩
theorem bd_slice {B : Nat} {n m : Nat} {xs : List Value} {v : Value} {w : World} (h : w.ownsRow B 5 1 v (n + m) xs) (hm : 1 ≤ m) : ∃ g cap, v = .slice (some ⟨g, 0, none⟩) (n + m) cap := by
  rcases h.2 with ⟨_, h0⟩ | ⟨g, cap, cur, hv, _⟩
  · omega
  · exact ⟨g, cap, hv⟩

set_option maxHeartbeats 2000000 in
set_option maxRecDepth 100000 in
theorem byte_any (B b : Nat) (bs : List Value) (c : Int) (w : World) (h : Bd B b bs w) (hlen : bs.length + 1 ≤ 140737488355328) (hBw : B ≤ w.heap.size) :
    Calls Try.prog 14 #[.pointer (some ⟨b, 0, none⟩), .int .u8 c] w fun e w' => e = .returned .nilIface ∧ Bd B b (bs ++ [.int .u8 c]) w' ∧ Below B w w' := by
  obtain ⟨i0, hi, hz0, hz1, hz2⟩ := info_parts info5
  go_enter Try.func14, Try.ntmps14
  go_wp2_with (go_at_call 32; refine (check_any B b bs _ h).mono ?_)
  rintro e w1 ⟨rfl, h1, hb1⟩
  obtain ⟨ao, cap, hB, hl, hb, hown, hne, c1⟩ := bd_ahead h1
  have hs1 := hb1.size
  go_wp2_with (at_builtin; refine wpList_append_own _ rfl _ _ 35 rfl B 5 i0 (.int .u8 0) 1 1 Try.underlying35 hi hz0 hz1 hz2 rfl (by decide) _ _ _ rfl (hown.alloc _) ⟨w1.heap.size, 0, none⟩ 1 1 [.int .u8 c] rfl rfl ?at_ ?one_ ?max_ ?fit_ ?base_ ?_)
  case base_ => rw [show (w1.alloc _).heap.size = w1.heap.size + 1 by simp]; omega
  case fit_ => omega
  case max_ => exact Nat.le_trans hlen (by decide)
  case one_ => exact fun u hu => by rw [List.mem_singleton.1 hu]; rfl
  case at_ =>
    intro j u hj
    cases j with
    | succ j => simp at hj
    | zero =>
      have hu : Value.int .u8 c = u := Option.some.inj hj
      rw [← hu]
      simp [Addr.add]
  intro v' w2 hown' hgrow _
  obtain ⟨hb2, d1, f1⟩ := bd_behind hl hb hne hgrow
  obtain ⟨g, cap', rfl⟩ := bd_slice hown' (by omega)
  go_wp2
  go_ret
  refine ⟨rfl, Or.inr ?_, ?_⟩
  · exact Lib.BuilderAt.put (T := 40) (e := 5) hB hb2 (bs' := bs ++ [.int .u8 c]) (by simpa using hown') (by decide)
  · exact ((hb1.alloc (by omega) _).grown hgrow (by simp; omega) (fun k hk => (hown.lt k hk).1)).setCell (p := ⟨b, 1, none⟩) hB _


theorem bd_behind0 {b : Nat} {v u : Value} {w1 w2 : World} (hl : b < w1.heap.size) (hb : w1.heap[b]? = some (.cells #[v, u] 40 (0, 0))) (hne : u.ownBlock ≠ some b) (hg : w1.grownBy w2 u.ownBlock) :
    w2.heap[b]? = some (.cells #[v, u] 40 (0, 0)) ∧ w2.cell? ⟨b, 1, none⟩ = some u ∧ w2.frozen? ⟨b, 1, none⟩ = false := by
  have h2 : w2.heap[b]? = some (.cells #[v, u] 40 (0, 0)) := by
    rw [hg.block b hl (fun e => hne e.symm)]
    exact hb
  exact ⟨h2, by rw [Lib.cell_of_heap h2]; rfl, Lib.frozen_of_heap h2 1⟩
theorem bd_slice0 {B : Nat} {n : Nat} {xs : List Value} {v : Value} {w : World} (h : w.ownsRow B 5 1 v n xs) : ∃ q cap, v = .slice q n cap := by
  exact h.2.elim (fun k => ⟨none, 0, by rw [k.1, k.2]⟩) (fun ⟨g, c, _, k⟩ => ⟨some ⟨g, 0, none⟩, c, k.1⟩)

set_option maxHeartbeats 2000000 in
set_option maxRecDepth 100000 in
theorem str_any (B b : Nat) (bs : List Value) (s : ByteArray) (w : World) (h : Bd B b bs w) (hlen : bs.length + s.size ≤ 140737488355328) (hBw : B ≤ w.heap.size) :
    Calls Try.prog 13 #[.pointer (some ⟨b, 0, none⟩), .string s] w fun e w' => (∃ k : Int, e = .returned (.tuple #[.int .i64 k, .nilIface])) ∧ Bd B b (bs ++ Lib.strCells s) w' ∧ Below B w w' := by
  obtain ⟨i0, hi, hz0, hz1, hz2⟩ := info_parts info5
  go_enter Try.func13, Try.ntmps13
  go_wp2_with (go_at_call 32; refine (check_any B b bs _ h).mono ?_)
  rintro e w1 ⟨rfl, h1, hb1⟩
  obtain ⟨ao, cap, hB, hl, hb, hown, hne, c1⟩ := bd_ahead h1
  have hs1 := hb1.size
  go_wp2_with (at_builtin; refine Lib.wpList_append_own_string _ rfl _ _ 35 9 rfl B 5 i0 Try.underlying35 Try.underlying9 hi hz0 hz1 hz2 _ _ _ rfl hown s rfl ?c3 ?c4 ?c5 ?_)
  case c3 => unfold maxLen; omega
  case c4 => omega
  case c5 => omega
  intro v' w2 hown' hgrow _
  obtain ⟨hb2, d1, f1⟩ := bd_behind0 hl hb hne hgrow
  obtain ⟨q, cap', rfl⟩ := bd_slice0 hown'
  go_wp2
  go_ret2
  refine ⟨⟨_, rfl⟩, Or.inr ?_, ?_⟩
  · exact Lib.BuilderAt.put (T := 40) (e := 5) hB hb2 (bs' := bs ++ Lib.strCells s) (by simpa [Lib.strCells_length] using hown') (by decide)
  · exact (hb1.grown hgrow (by omega) (fun k hk => (hown.lt k hk).1)).setCell (p := ⟨b, 1, none⟩) hB _

theorem own_keep {w w1 : World} {B : Nat} {e : TypeId} {size : Nat} {v : Value} {n : Nat} {xs : List Value} (h : w.ownsRow B e size v n xs) (hb : Below w.heap.size w w1) : w1.ownsRow B e size v n xs :=
  h.kept (row := none) ⟨hb.os, hb.tape, hb.output, hb.size, fun k hk _ => hb.block k hk⟩ (by cases v.ownBlock <;> simp)
theorem at_keep {w w1 : World} {B b : Nat} {p : Value} {bs : List Value} (h : Lib.BuilderAt 40 5 B b p bs w) (hb : Below w.heap.size w w1) : Lib.BuilderAt 40 5 B b p bs w1 := by
  have hl := h.lt
  obtain ⟨hB, v, hbk, hown, hne⟩ := h
  exact ⟨hB, v, by rw [hb.block b hl]; exact hbk, own_keep hown hb, hne⟩
theorem bd_keep {w w1 : World} {B b : Nat} {bs : List Value} (h : Bd B b bs w) (hb : Below w.heap.size w w1) : Bd B b bs w1 := by
  rcases h with h | h
  · exact Or.inl (at_keep h hb)
  · exact Or.inr (at_keep h hb)
theorem byteCells_append (a b : List UInt8) : Lib.byteCells (a ++ b) = Lib.byteCells a ++ Lib.byteCells b := by simp [Lib.byteCells]
end Go.Proofs.Ytkjicpbnkehimaa
