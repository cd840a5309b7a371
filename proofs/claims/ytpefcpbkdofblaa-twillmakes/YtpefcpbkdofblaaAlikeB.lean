/-
  Alike of package truth: the mathematics, and what its walk wants.
-/
import Derived.Test.YtpefcpbkdofblaaAlikeA
import Derived.Maps.AppendAt
namespace Go.Proofs.Ytpefcpbkdofblaa
open Go.RowKit Go.Shelf

theorem info3 : (Try.prog.info? 3).map (fun i => (i.zero, i.size, i.bytes)) = some (some (.int .i64 0), 1, 8) := by kernel_rfl
theorem info22 : (Try.prog.info? 23).map (fun i => (i.zero, i.size, i.bytes)) = some (some (.slice none 0 0), 1, 24) := by kernel_rfl

/-- a row of numbers that may be written -/
def IRow (W : World) (b k : Nat) (f : Nat → Nat) : Prop := b < W.heap.size ∧ ∀ j, j < k → W.cell? ⟨b, j, none⟩ = some (.int .i64 (f j : Nat)) ∧ W.frozen? ⟨b, j, none⟩ = false
theorem IRow.keep {W w1 : World} {b k : Nat} {f : Nat → Nat} (h : IRow W b k f) (hb : Below W.heap.size W w1) : IRow w1 b k f :=
  ⟨Nat.lt_of_lt_of_le h.1 hb.size, fun j hj => ⟨keepC hb h.1 (h.2 j hj).1, keepF hb h.1 (h.2 j hj).2⟩⟩
theorem IRow.set {W : World} {b k : Nat} {f : Nat → Nat} (h : IRow W b k f) (j v : Nat) : IRow (W.setCell ⟨b, j, none⟩ (.int .i64 (v : Nat))) b k (fun i => if i = j then v else f i) := by
  refine ⟨by simpa using h.1, fun i hi => ?_⟩
  obtain ⟨h1, h2⟩ := h.2 i hi
  refine ⟨?_, by rw [World.frozen?_setCell]; exact h2⟩
  by_cases e : i = j
  · subst e
    rw [World.cell?_setCell_same' _ _ _ (by rw [h1]; rfl)]; simp
  · simp [go_sem, e, h1]
theorem IRow.grown {a c : World} {row : Option Nat} {b k : Nat} {f : Nat → Nat} (h : IRow a b k f) (hg : a.grownBy c row) (hne : some b ≠ row) : IRow c b k f :=
  ⟨Nat.lt_of_lt_of_le h.1 hg.size, fun j hj => ⟨gcell hg h.1 hne (h.2 j hj).1, gfroz hg h.1 hne (h.2 j hj).2⟩⟩
theorem irow_made {w : World} {B b k : Nat} (h : w.ownsRow B 3 1 (.slice (some ⟨b, 0, none⟩) k k) k (madeCells #[.int .i64 0] k).toList) : IRow w b k (fun _ => 0) :=
  ⟨(h.lt b rfl).2, fun j hj => ⟨by rw [h.cellAt j (by omega), toList_madeCells_one, List.getElem?_replicate, if_pos (by omega)]; rfl, h.frozenAt j⟩⟩
theorem IRow.congr {W : World} {b k : Nat} {f g : Nat → Nat} (h : IRow W b k f) (e : ∀ j, j < k → f j = g j) : IRow W b k g := ⟨h.1, fun j hj => by rw [← e j hj]; exact h.2 j hj⟩

/-- 'make' of at most 64 numbers, inside a fence: a new row of noughts; nothing else has turned -/
theorem make_nums {F : Fence} {m : Nat} (V : World) {os : Array Oper} {more : List Oper} {op : Oper} {act : Act} {Q : Exit → Act → World → Prop} (x : Operand) (k : Nat) (hk : k ≤ 64)
    (h1 : op.guard = none) (h2 : op.op = Op.makeSlice 22 x x) (h3 : act.eval x = .int .i64 k)
    (next : ∀ V', IRow V' V.heap.size k (fun _ => 0) → Below V.heap.size V V' → wpListIn F m Try.prog os Q more (act.put op.dst (.slice (some ⟨V.heap.size, 0, none⟩) k k)) V') :
    wpListIn F m Try.prog os Q (op :: more) act V := by
  obtain ⟨t, ht, ht0, ht1, ht2⟩ := info_parts info3
  obtain ⟨V', hrun, hrow, hgrow⟩ := run_make_full (P := Try.prog) V V.heap.size 22 3 t (.int .i64 0) 1 Try.underlying22 ht ht0 ht1 .i64 .i64 k (by rw [ht2]; omega) (by unfold maxLen; omega) (Nat.le_refl _)
  rw [Nat.mul_one] at hrow
  have hnext := next V' (irow_made hrow) ((Below.refl V.heap.size V).grown hgrow (Nat.le_refl _) (fun j e => by cases e))
  refine wpListIn_plain h1 fun K hK => ⟨by simp [Oper.about, h2], ?_⟩
  rw [Oper.semAt_plain F _ _ (by rw [h2]; intro c e; cases e)]
  simp [execOp, h2, h3, hrun, Result.andThen]
  exact hK _ _ hnext

/-- all that lay in w0 lies as it lay, but for the blocks of S -/
def Kept (S : Nat → Prop) (w0 W : World) : Prop := W.os = w0.os ∧ W.tape = w0.tape ∧ W.output = w0.output ∧ w0.heap.size ≤ W.heap.size ∧ ∀ k, k < w0.heap.size → ¬ S k → W.heap[k]? = w0.heap[k]?
theorem Kept.refl (S : Nat → Prop) (w : World) : Kept S w w := ⟨rfl, rfl, rfl, Nat.le_refl _, fun _ _ _ => rfl⟩
theorem Kept.grown {S : Nat → Prop} {w0 W V : World} {row : Option Nat} (h : Kept S w0 W) (hg : W.grownBy V row) (hr : ∀ r, row = some r → w0.heap.size ≤ r ∨ S r) : Kept S w0 V :=
  ⟨hg.os.trans h.1, hg.tape.trans h.2.1, hg.output.trans h.2.2.1, Nat.le_trans h.2.2.2.1 hg.size, fun k hk hS => (hg.block k (Nat.lt_of_lt_of_le hk h.2.2.2.1) (fun e => by
    rcases hr k e.symm with h1 | h1
    · omega
    · exact hS h1)).trans (h.2.2.2.2 k hk hS)⟩
theorem Kept.below {S : Nat → Prop} {w0 W V : World} (h : Kept S w0 W) (hb : Below W.heap.size W V) : Kept S w0 V := h.grown (gbelow none hb) (fun r e => by cases e)
theorem Kept.cell {S : Nat → Prop} {w0 W : World} (h : Kept S w0 W) {p : Addr} {v : Value} (hl : p.block < w0.heap.size) (hS : ¬ S p.block) (hc : w0.cell? p = some v) : W.cell? p = some v := by
  rw [World.cell?_of_block (h.2.2.2.2 p.block hl hS)]; exact hc
theorem Kept.own {S : Nat → Prop} {w0 W : World} (h : Kept S w0 W) {b : Nat} {w hh : Int} {p : Option Addr} {n cap : Nat} (k : OwnM w0 b w hh p n cap) (hS : ¬ S b) : OwnM W b w hh p n cap :=
  k.block (Nat.lt_of_lt_of_le k.1 h.2.2.2.1) (h.2.2.2.2 b k.1 hS)
theorem Kept.bs {S : Nat → Prop} {w0 W : World} (h : Kept S w0 W) {p : Option Addr} {n cap : Nat} {f : Nat → Bool} (k : Bs w0 p n cap f) (hS : ∀ q, S q → Off p n q) : Bs W p n cap f := by
  refine ⟨k.1, ?_⟩
  rcases k.2 with h0 | ⟨b, o, e, hl, hc⟩
  · exact .inl h0
  · by_cases hn : n = 0
    · exact .inl hn
    · refine .inr ⟨b, o, e, Nat.lt_of_lt_of_le hl h.2.2.2.1, fun j hj => h.cell (p := ⟨b, o + j, none⟩) hl (fun q => ?_) (hc j hj)⟩
      rcases hS _ q with h1 | h1
      · exact hn h1
      · exact h1 _ e rfl
theorem Kept.back {S : Nat → Prop} {W w0 V : World} (hb : Below W.heap.size W w0) (h : Kept S w0 V) (hS : ∀ q, S q → W.heap.size ≤ q) : Below W.heap.size W V :=
  hb.trans ⟨h.1, h.2.1, h.2.2.1, h.2.2.2.1, fun k hk => h.2.2.2.2 k (Nat.lt_of_lt_of_le hk hb.size) (fun q => by have := hS k q; omega)⟩

/-- two rows of truths are alike -/
def rwE (f : Nat → Bool) (w u y : Nat) : Bool := eqN (fun x => f (u * w + x)) (fun x => f (y * w + x)) w
/-- a row more: the rows that are unlike, and the numbers -/
def alStep (f : Nat → Bool) (w : Nat) (s : List Nat × (Nat → Nat)) (y : Nat) : List Nat × (Nat → Nat) :=
  if s.1.any (fun u => rwE f w u y) then (s.1, fun j => if j = y then s.1.findIdx (fun u => rwE f w u y) else s.2 j) else (s.1 ++ [y], fun j => if j = y then s.1.length else s.2 j)
def alS (f : Nat → Bool) (w : Nat) (l : List Nat) : List Nat × (Nat → Nat) := l.foldl (alStep f w) ([], fun _ => 0)
theorem alS_snoc (f : Nat → Bool) (w : Nat) (l : List Nat) (y : Nat) : alS f w (l ++ [y]) = alStep f w (alS f w l) y := by simp [alS]
theorem alStep_mem (f : Nat → Bool) (w : Nat) (s : List Nat × (Nat → Nat)) (y u : Nat) (h : u ∈ (alStep f w s y).1) : u ∈ s.1 ∨ u = y := by
  unfold alStep at h
  split at h
  · exact .inl h
  · simpa using h
theorem alStep_len (f : Nat → Bool) (w : Nat) (s : List Nat × (Nat → Nat)) (y : Nat) : (alStep f w s y).1.length ≤ s.1.length + 1 := by
  unfold alStep
  split <;> simp
theorem foldl_al_mem (f : Nat → Bool) (w : Nat) (l : List Nat) : ∀ (s : List Nat × (Nat → Nat)) (u : Nat), u ∈ (l.foldl (alStep f w) s).1 → u ∈ s.1 ∨ u ∈ l := by
  induction l with
  | nil => intro s u h; exact .inl h
  | cons y l ih =>
    intro s u h
    rcases ih _ u h with h1 | h1
    · rcases alStep_mem f w s y u h1 with h2 | h2
      · exact .inl h2
      · exact .inr (by simp [h2])
    · exact .inr (by simp [h1])
theorem foldl_al_len (f : Nat → Bool) (w : Nat) (l : List Nat) : ∀ (s : List Nat × (Nat → Nat)), (l.foldl (alStep f w) s).1.length ≤ s.1.length + l.length := by
  induction l with
  | nil => intro s; exact Nat.le_refl _
  | cons y l ih =>
    intro s
    have := ih (alStep f w s y)
    have := alStep_len f w s y
    simp only [List.foldl_cons, List.length_cons]
    omega
theorem alS_mem (f : Nat → Bool) (w : Nat) (l : List Nat) (u : Nat) (h : u ∈ (alS f w l).1) : u ∈ l := by
  rcases foldl_al_mem f w l _ u h with h1 | h1
  · simp at h1
  · exact h1
theorem alS_len (f : Nat → Bool) (w : Nat) (l : List Nat) : (alS f w l).1.length ≤ l.length := by
  have := foldl_al_len f w l ([], fun _ => 0)
  simpa [alS] using this

end Go.Proofs.Ytpefcpbkdofblaa
