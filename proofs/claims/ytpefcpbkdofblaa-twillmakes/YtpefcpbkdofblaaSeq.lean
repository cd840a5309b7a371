/-
  blank, rows and what a range over rows gives.
-/
import Derived.Test.YtpefcpbkdofblaaBase
import Derived.RangeFuncNested
import Derived.RangeFuncBound
import Derived.RangeFuncCalls
import Derived.RangeFuncLeaves
import Derived.Shelf.Abstract
import Derived.Shelf.RegionOpen
import Derived.OwnWalkIn
import Derived.TacticsInMore
import Derived.LoopNIn
import Derived.LoopIn
namespace Go.Proofs.Ytpefcpbkdofblaa
open Go.RowKit Go.Shelf

attribute [local go_sem] Oper.semAt_some

theorem info4 : (Try.prog.info? 4).map (fun i => (i.zero, i.size, i.bytes)) = some (some (.bool false), 1, 1) := by kernel_rfl
/-- a row of truths that may be written -/
def BRow (W : World) (b k : Nat) (f : Nat → Bool) : Prop := b < W.heap.size ∧ ∀ j, j < k → W.cell? ⟨b, j, none⟩ = some (.bool (f j)) ∧ W.frozen? ⟨b, j, none⟩ = false
theorem BRow.keep {W w1 : World} {b k : Nat} {f : Nat → Bool} (h : BRow W b k f) (hb : Below W.heap.size W w1) : BRow w1 b k f :=
  ⟨Nat.lt_of_lt_of_le h.1 hb.size, fun j hj => ⟨keepC hb h.1 (h.2 j hj).1, keepF hb h.1 (h.2 j hj).2⟩⟩
theorem BRow.set {W : World} {b k : Nat} {f : Nat → Bool} (h : BRow W b k f) (j : Nat) (v : Bool) : BRow (W.setCell ⟨b, j, none⟩ (.bool v)) b k (fun i => if i = j then v else f i) := by
  refine ⟨by simpa using h.1, fun i hi => ?_⟩
  obtain ⟨h1, h2⟩ := h.2 i hi
  refine ⟨?_, by rw [World.frozen?_setCell]; exact h2⟩
  by_cases e : i = j
  · subst e
    rw [World.cell?_setCell_same' _ _ _ (by rw [h1]; rfl)]; simp
  · simp [go_sem, e, h1]
theorem BRow.grown {a c : World} {row : Option Nat} {b k : Nat} {f : Nat → Bool} (h : BRow a b k f) (hg : a.grownBy c row) (hne : some b ≠ row) : BRow c b k f :=
  ⟨Nat.lt_of_lt_of_le h.1 hg.size, fun j hj => ⟨gcell hg h.1 hne (h.2 j hj).1, gfroz hg h.1 hne (h.2 j hj).2⟩⟩
theorem BRow.far {W : World} {b k : Nat} {f : Nat → Bool} (h : BRow W b k f) {c : Nat} (hc : c ≠ b) (o : Nat) (v : Value) : BRow (W.setCell ⟨c, o, none⟩ v) b k f :=
  h.grown (gset (World.grownBy.refl _ _) o v) (fun e => hc (Option.some.inj e).symm)
theorem brow_made {w : World} {B b k : Nat} (h : w.ownsRow B 4 1 (.slice (some ⟨b, 0, none⟩) k k) k (madeCells #[.bool false] k).toList) : BRow w b k (fun _ => false) :=
  ⟨(h.lt b rfl).2, fun j hj => ⟨by rw [h.cellAt j (by omega), toList_madeCells_one, List.getElem?_replicate, if_pos (by omega)], h.frozenAt j⟩⟩

set_option maxHeartbeats 1000000 in
theorem blank_any (w h n : Nat) (W : World) (hn : n = w * h) (hn4 : n ≤ 4096) : Calls Try.prog 35 #[.int .i64 w, .int .i64 h] W fun e w' => ∃ q, e = .returned (tr w h (some ⟨q, 0, none⟩) n n) ∧ W.heap.size ≤ q ∧ BRow w' q n (fun _ => false) ∧ Below W.heap.size W w' := by
  obtain ⟨i0, hi, hz0, hz1, hz2⟩ := info_parts info4
  have hby : i0.bytes * n ≤ 281474976710656 := by rw [hz2]; omega
  have hml : n ≤ maxLen := by unfold maxLen; omega
  have e1 : wrap64 ((w : Int) * (h : Int)) = (n : Int) := by
    rw [hn, ← Int.natCast_mul]
    exact Go.IntWalk.wrap64_in _ (by omega)
  clear hn
  go_enter Try.func35, Try.ntmps35
  go_wp2_with (refine wpList_make_full _ rfl _ _ 23 rfl (W.heap.size + 1) 4 i0 _ 1 Try.underlying23 hi hz0 hz1 .i64 .i64 (wrap64 ((w : Int) * (h : Int))) (wrap64 ((w : Int) * (h : Int))) n rfl rfl e1 e1 hby hml (by simp) ?_)
  intro wm hown hgrow
  have R0 := brow_made hown
  have S0 := (Below.refl _ (W.alloc (.cells #[.int .i64 0, .int .i64 0, .slice none 0 0] 25))).grown hgrow (Nat.le_refl _) (fun k hk => by cases hk)
  have S1 := btrans (bal (Below.refl W.heap.size W)) S0
  have hq : W.heap.size < wm.heap.size := by have := R0.1; omega
  have c0 := (S0.cell (p := ⟨W.heap.size, 0, none⟩) (by simp)).trans (show _ = some (Value.int .i64 0) by simp [go_sem])
  have c1 := (S0.cell (p := ⟨W.heap.size, 1, none⟩) (by simp)).trans (show _ = some (Value.int .i64 0) by simp [go_sem])
  have c2 := (S0.cell (p := ⟨W.heap.size, 2, none⟩) (by simp)).trans (show _ = some (Value.slice none 0 0) by simp [go_sem])
  have f0 := (S0.frozen (p := ⟨W.heap.size, 0, none⟩) (by simp)).trans (show _ = false by simp [go_sem])
  have f1 := (S0.frozen (p := ⟨W.heap.size, 1, none⟩) (by simp)).trans (show _ = false by simp [go_sem])
  have f2 := (S0.frozen (p := ⟨W.heap.size, 2, none⟩) (by simp)).trans (show _ = false by simp [go_sem])
  have HR := hide R0
  have HS := hide S1
  clear R0 S0 S1 hown hgrow
  go_wp2
  refine bodyPost_ret (v := tr w h (some ⟨W.heap.size + 1, 0, none⟩) n n) (by simp [results, Try.results35, go_sem, c0, c1, c2]) rfl ⟨W.heap.size + 1, rfl, by omega, ?_, bset (bset (bset (unhide HS) (by dsimp only; omega)) (by dsimp only; omega)) (by dsimp only; omega)⟩
  exact (((unhide HR).far (by omega) _ _).far (by omega) _ _).far (by omega) _ _
theorem grown_of {a b : World} (h : Below a.heap.size a b) : a.grownBy b none := gbelow none h

/-- truths in a box -/
def OwnM (W : World) (b : Nat) (w h : Int) (p : Option Addr) (n cap : Nat) : Prop := b < W.heap.size ∧ W.cell? ⟨b, 0, none⟩ = some (.int .i64 w) ∧ W.cell? ⟨b, 1, none⟩ = some (.int .i64 h) ∧ W.cell? ⟨b, 2, none⟩ = some (.slice p n cap)
theorem OwnM.keep {W w1 : World} {b : Nat} {w h : Int} {p : Option Addr} {n cap : Nat} (k : OwnM W b w h p n cap) (hb : Below W.heap.size W w1) : OwnM w1 b w h p n cap :=
  ⟨Nat.lt_of_lt_of_le k.1 hb.size, keepC hb k.1 k.2.1, keepC hb k.1 k.2.2.1, keepC hb k.1 k.2.2.2⟩
theorem OwnM.alloc {W : World} {b : Nat} {w h : Int} {p : Option Addr} {n cap : Nat} (k : OwnM W b w h p n cap) (o : Obj) : OwnM (W.alloc o) b w h p n cap := k.keep (bal (Below.refl _ _))
theorem OwnM.new (W : World) (w h : Int) (p : Option Addr) (n cap : Nat) (t : TypeId) : OwnM (W.alloc (.cells #[.int .i64 w, .int .i64 h, .slice p n cap] t)) W.heap.size w h p n cap :=
  ⟨by simp, by simp [go_sem], by simp [go_sem], by simp [go_sem]⟩
theorem OwnM.grown {a c : World} {row : Option Nat} {b : Nat} {w h : Int} {p : Option Addr} {n cap : Nat} (k : OwnM a b w h p n cap) (hg : a.grownBy c row) (hne : some b ≠ row) : OwnM c b w h p n cap :=
  ⟨Nat.lt_of_lt_of_le k.1 hg.size, gcell hg k.1 hne k.2.1, gcell hg k.1 hne k.2.2.1, gcell hg k.1 hne k.2.2.2⟩
theorem OwnM.block {a c : World} {b : Nat} {w h : Int} {p : Option Addr} {n cap : Nat} (k : OwnM a b w h p n cap) (hs : b < c.heap.size) (hg : c.heap[b]? = a.heap[b]?) : OwnM c b w h p n cap :=
  ⟨hs, (World.cell?_of_block hg).trans k.2.1, (World.cell?_of_block hg).trans k.2.2.1, (World.cell?_of_block hg).trans k.2.2.2⟩

/-- what a round of a range over rows keeps: the box of the truths -/
def KpB (B : Nat) (W W' : World) : Prop := W.heap.size ≤ W'.heap.size ∧ W'.heap[B]? = W.heap[B]?
theorem kpB_t {B : Nat} {X Y Z : World} (h : KpB B X Y) (k : KpB B Y Z) : KpB B X Z := ⟨Nat.le_trans h.1 k.1, k.2.trans h.2⟩
theorem kpB_b {B : Nat} {w : World} (hB : B < w.heap.size) (W : World) (l : Nat) (o o' : Obj) (hl : w.heap.size ≤ l) (_ : W.heap[l]? = some o) (_ : o.isCells = false) (_ : o.isWalk = false) : KpB B W (W.putObj l o') :=
  ⟨by simp, World.putObj_heap_other (by omega)⟩
theorem KpB.of_grown {B : Nat} {W W' : World} {row : Option Nat} (hg : W.grownBy W' row) (hB : B < W.heap.size) (hne : some B ≠ row) : KpB B W W' := ⟨hg.size, hg.block B hB hne⟩

abbrev rowEnc (p : Option Addr) (cap w h : Nat) (y : Fin h) : Array Value := #[.int .i64 ((y.1 : Nat) : Int), rowV p cap w y.1]

set_option maxHeartbeats 1000000 in
theorem rows_any (w h : Int) (p : Option Addr) (n cap : Nat) (W : World) : Calls Try.prog 36 #[tr w h p n cap] W fun e w' => e = .returned (.func (.func 39) #[] #[.pointer (some ⟨W.heap.size, 0, none⟩)]) ∧ w' = W.alloc (.cells #[.int .i64 w, .int .i64 h, .slice p n cap] 25) := by
  go_enter Try.func36, Try.ntmps36
  go_wp2
  go_ret
  exact ⟨rfl, rfl⟩

set_option maxRecDepth 100000 in
set_option maxHeartbeats 2000000 in
theorem rows1_in (n0 : Nat) (l Bm w h nn : Nat) (p : Option Addr) (cap : Nat) (hw : w ≤ 64) (hh : h ≤ 64) (hc : h * w ≤ cap) (J Jx : List (Fin h) → World → Prop)
    (W : World) (hJ : AbidesFrom W.heap.size J) (hY : ∀ pre x W1, J pre W1 → pre.length < h → YieldAt Fence.wide (n0 - 1) Try.prog l (rowEnc p cap w h x) W1 fun e W' =>
      (e = .returned (.bool true) ∧ J (pre ++ [x]) W' ∧ KpB Bm W1 W') ∨ (e = .returned (.bool false) ∧ Jx (pre ++ [x]) W'))
    (hB : OwnM W Bm w h p nn cap) (h0 : J [] W) :
    CallsIn Fence.wide n0 Try.prog 39 #[.func (.yield l) #[] #[], .pointer (some ⟨Bm, 0, none⟩)] W fun e W' => (∃ v, e = .returned v) ∧
      ((∃ ys : List (Fin h), ys.map (·.1) = List.range h ∧ J ys W') ∨ (∃ pre, True ∧ Jx pre W')) := by
  have hB' := hB.2
  have HB := hide hB
  have HY := hide hY
  have HJ := hide hJ
  clear hB hY hJ
  refine callsIn_of_wp Try.func39 rfl trivial ?_ rfl
  simp only [Try.ntmps39, List.size_toArray, List.length_cons, List.length_nil, Nat.reduceAdd, Nat.reduceSub, Array.replicate_succ, Array.replicate_zero, List.push_toArray, List.append_toArray, List.nil_append, List.cons_append]
  gi_wp2
  clear hB'
  gi_loopw [6] (fun i wr => ∃ (k : Nat) (pre : List (Fin h)), k ≤ h ∧ i = .int .i64 k ∧ pre.map (·.1) = List.range k ∧ J pre wr ∧ OwnM wr Bm w h p nn cap) (fun i _ => h - (intOf i).toNat)
  case atStart => exact ⟨0, [], Nat.zero_le _, rfl, rfl, h0, unhide HB⟩
  case round =>
    obtain ⟨k, pre, hk, rfl, hp, hJs, hB⟩ := hrel
    have Hp := hide hp
    have HJs := hide hJs
    clear hp hJs
    by_cases hlt : k < h
    · have hb' := hB.2
      have hrow := hide (fun V => row_any w h k p nn cap V hw hlt hh hc)
      have HBk := hide hB
      have hbz := hB.1
      clear hB
      gi_wp2_with fail
      refine ⟨trivial, (fun h => by cases h), (callsIn_wide.2 (unhide hrow _)).mono ?_⟩
      rintro e w1 ⟨rfl, hb⟩
      have hJ1 := unhide HJ _ _ _ none (unhide HJs) (grown_of hb) (fun r e => by cases e)
      obtain ⟨fn, tmps, assign, body, hy, hR⟩ := unhide HY pre ⟨k, hlt⟩ w1 hJ1 (by have := congrArg List.length (unhide Hp); simp at this; omega)
      dsimp only [rowEnc] at hy
      clear hb'
      gi_wp2
      refine ⟨(fun h => by cases h), hR.mono ?_⟩
      rintro e W3 (⟨rfl, hJ3, hk3⟩ | ⟨rfl, hJx3⟩)
      · have HJ3 := hide hJ3
        have HB3 := hide (((unhide HBk).keep hb).block (Nat.lt_of_lt_of_le ((unhide HBk).keep hb).1 hk3.1) hk3.2)
        clear hJ3 hk3 hJ1 hR hy
        gi_wp2
        go_roundw
        case rel => exact ⟨k + 1, pre ++ [⟨k, hlt⟩], by omega, by simp, by rw [List.map_append, unhide Hp, List.range_succ]; rfl, unhide HJ3, unhide HB3⟩
        case measure => simp [intOf]; omega
      · gi_wp2
        refine bodyPost_ret (results_none rfl _ _ _) rfl ?_
        exact ⟨⟨_, rfl⟩, .inr ⟨_, trivial, hJx3⟩⟩
    · obtain rfl : k = h := by omega
      gi_wp2
      go_end0
      exact ⟨⟨_, rfl⟩, .inl ⟨pre, unhide Hp, unhide HJs⟩⟩

theorem rows_stops (n0 : Nat) (Bm w h nn : Nat) (p : Option Addr) (cap : Nat) (hw : w ≤ 64) (hh : h ≤ 64) (hc : h * w ≤ cap) (W : World) (hB : OwnM W Bm w h p nn cap) :
    SeqStopsK Fence.wide n0 Try.prog 39 #[.pointer (some ⟨Bm, 0, none⟩)] (rowEnc p cap w h) (KpB Bm) (fun ys => ys.map (·.1) = List.range h) (fun _ => True) h W := fun l J Jx W1 hW hJ _ hY h0 =>
  rows1_in n0 l Bm w h nn p cap hw hh hc J Jx W1 hJ hY (hB.keep hW) h0
end Go.Proofs.Ytpefcpbkdofblaa
