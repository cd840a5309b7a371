/-
  renumbered: what has been knitted, by the numbers along the yarns.
-/
import Derived.Test.YtancniamgfppiaaYC
namespace Go.Proofs.Ytancniamgfppiaa
open Go.RowKit

open Go.Sort in
theorem sort_nr {V : World} {B : Nat} {u : Value} {l : List Nat} (hown : NR V B u l) (h128 : l.length ≤ 100000) :
    Calls Try.prog 38 #[u] V fun e V' => e = .returned (.tuple #[]) ∧ NR V' B u (soL l) ∧ Kept (fun i => u.ownBlock = some i) V V' := by
  rcases Nat.eq_zero_or_pos l.length with h0 | h0
  · obtain rfl : l = [] := List.eq_nil_of_length_eq_zero h0
    rcases hown.2 with ⟨rfl, -⟩ | ⟨g, cap, cur, rfl, hbase, hg, h1, h2, h3, htake⟩
    · refine (sort_none V).mono ?_
      rintro e w ⟨rfl, rfl⟩
      exact ⟨rfl, hown, Kept.refl _ _⟩
    · have hH := holds_of_blockI (ss := []) hg rfl
      have key := Try.slices_Sort_int g 0 cap [] V hH (World.ownsRow.lt hown g rfl).2 (by simp)
      refine key.mono ?_
      rintro e V' ⟨rfl, k, os, rfl⟩
      have ho := ownsRow_sortedI (w := V) (base := B) (g := g) (cap := cap) (n := k) (e := 3) (os := os) (cur := cur) (ss := []) (ts := []) rfl hbase hg (by simp) h2 h3
      refine ⟨rfl, ?_, grown_kept (row := some g) (grownBy_sortedI _) (fun r q => .inl (by cases q; rfl))⟩
      simpa [NR, numsV, soL] using ho
  · exact sort_any hown h0 h128

/-- blocks of one kind of rows are written -/
abbrev Kc (o : Nat → Nat × Nat) (b : Nat) (W V : World) : Prop := Kept (fun i => Tg W i 3 ∧ (o i).1 = b) W V
theorem NR.cls {o : Nat → Nat × Nat} {W V : World} {B a b j : Nat} {v : Value} {xs : List Nat} (h : NR W B v xs) (g : Og o (a, j) v) (k : Kc o b W V) (hne : a ≠ b) : NR V B v xs :=
  h.but k (fun i hi q => hne (by rw [g i hi] at q; exact q.2))
theorem LRo.cls {o : Nat → Nat × Nat} {W V : World} {B a b : Nat} {v : Value} {xss : List (List Nat)} (h : LRo W B v xss o a) (k : Kc o b W V) (hne : a ≠ b) : LRo V B v xss o a := by
  rcases h with h | ⟨q, cap, f, k1, k2, k3, k4⟩
  · exact .inl h
  · exact .inr ⟨q, cap, f, k1, k2.kept k (fun q => tg_not k2.1.2 (by decide) q.1), k3, fun n x hx => ⟨(k4 n x hx).1.cls (k4 n x hx).2 k hne, (k4 n x hx).2⟩⟩
theorem Kc.of {o : Nat → Nat × Nat} {W V : World} {B a j : Nat} {v : Value} {xs : List Nat} (h : NR W B v xs) (g : Og o (a, j) v) (k : Kept (fun i => v.ownBlock = some i) W V) : Kc o a W V :=
  k.more (fun i q => .inl ⟨own_tg h q, by rw [g i q]⟩)
theorem Kc.kb {o : Nat → Nat × Nat} {W V : World} {a b : Nat} {v0 v1 v2 v3 : Value} {r : Int} (h : KB W b v0 v1 v2 v3 r) (k : Kc o a W V) : KB V b v0 v1 v2 v3 r := h.kept k (fun q => tg_not h.1.2 (by decide) q.1)

/-- a row of loops that may be written -/
def DR (W : World) (q n : Nat) (c : Nat → Int) (h : Nat → Value) : Prop := (q < W.heap.size ∧ Tg W q 43) ∧ ∀ j, j < n → W.cell? ⟨q, j * 2, none⟩ = some (.int .i64 (c j)) ∧ W.cell? ⟨q, j * 2 + 1, none⟩ = some (h j) ∧ W.frozen? ⟨q, j * 2, none⟩ = false ∧ W.frozen? ⟨q, j * 2 + 1, none⟩ = false
theorem DR.kept {S : Nat → Prop} {W V : World} {q n : Nat} {c : Nat → Int} {h : Nat → Value} (r : DR W q n c h) (e : Kept S W V) (hS : ¬ S q) : DR V q n c h :=
  ⟨⟨Nat.lt_of_lt_of_le r.1.1 e.size, r.1.2.kept e r.1.1 hS⟩, fun j hj => ⟨e.cell r.1.1 hS (r.2 j hj).1, e.cell r.1.1 hS (r.2 j hj).2.1, e.froz r.1.1 hS (r.2 j hj).2.2.1, e.froz r.1.1 hS (r.2 j hj).2.2.2⟩⟩
theorem DR.put {W : World} {q n : Nat} {c : Nat → Int} {h : Nat → Value} (r : DR W q n c h) (i : Nat) (z : Int) (v : Value) : DR ((W.setCell ⟨q, i * 2, none⟩ (.int .i64 z)).setCell ⟨q, i * 2 + 1, none⟩ v) q n (fun j => if j = i then z else c j) (putV h i v) := by
  refine ⟨⟨by simpa using r.1.1, (r.1.2.set _ _).set _ _⟩, fun j hj => ⟨?_, ?_, fset (fset (r.2 j hj).2.2.1), fset (fset (r.2 j hj).2.2.2)⟩⟩
  · dsimp only
    by_cases e : j = i
    · subst e
      rw [if_pos rfl]
      exact cset (csame (r.2 j hj).1) (by omega)
    · rw [if_neg e]
      exact cset (cset (r.2 j hj).1 (by omega)) (by omega)
  · unfold putV
    by_cases e : j = i
    · subst e
      rw [if_pos rfl]
      exact csame (cset (r.2 j hj).2.1 (by omega))
    · rw [if_neg e]
      exact cset (cset (r.2 j hj).2.1 (by omega)) (by omega)
theorem DR.congr {W : World} {q n : Nat} {c d : Nat → Int} {h g : Nat → Value} (r : DR W q n c h) (e : ∀ j, j < n → c j = d j ∧ h j = g j) : DR W q n d g := ⟨r.1, fun j hj => by rw [← (e j hj).1, ← (e j hj).2]; exact r.2 j hj⟩
theorem own_dr {W : World} {B n cap g : Nat} (o : W.ownsRow B 43 2 (.slice (some ⟨g, 0, none⟩) n cap) n (madeCells #[.int .i64 0, .slice none 0 0] (n * 2)).toList) : DR W g n (fun _ => 0) (fun _ => .slice none 0 0) := by
  refine ⟨⟨(o.lt g rfl).2, own_tg o rfl⟩, fun j hj => ⟨?_, ?_, o.frozenAt _, o.frozenAt _⟩⟩
  · rw [o.cellAt _ (by omega)]
    simp [madeCells, show j * 2 < n * 2 by omega]
  · rw [o.cellAt _ (by omega)]
    simp [madeCells, show j * 2 + 1 < n * 2 by omega, Nat.add_mod]

/-- what stands there so far: carriers, rows -/
def dcF (c : Nat → Int) (n x : Nat) : Nat → Int := fun p => if ix c n p < x then c (ix c n p) else 0
def dhF (c : Nat → Int) (n x : Nat) (h : Nat → Value) : Nat → Value := fun p => if ix c n p < x then h (ix c n p) else .slice none 0 0
theorem d_next {c : Nat → Int} {n x : Nat} (hC : Cs c n) (hx : x < n) (h : Nat → Value) : ∀ p, p < n → (fun j => if j = nm c n x then c x else dcF c n x j) p = dcF c n (x + 1) p ∧ putV (dhF c n x h) (nm c n x) (h x) p = dhF c n (x + 1) h p := by
  intro p hp
  have e1 := nm_ix hC hp
  unfold dcF dhF putV
  dsimp only
  by_cases e : p = nm c n x
  · subst e
    rw [ix_nm hC hx, if_pos rfl, if_pos rfl, if_pos (by omega), if_pos (by omega)]
    exact ⟨rfl, rfl⟩
  · have e2 : ix c n p ≠ x := fun q => e (by rw [← q]; exact e1.2.symm)
    rw [if_neg e, if_neg e]
    by_cases d : ix c n p < x
    · rw [if_pos d, if_pos (by omega), if_pos d, if_pos (by omega)]
      exact ⟨rfl, rfl⟩
    · rw [if_neg d, if_neg (by omega), if_neg d, if_neg (by omega)]
      exact ⟨rfl, rfl⟩
end Go.Proofs.Ytancniamgfppiaa
