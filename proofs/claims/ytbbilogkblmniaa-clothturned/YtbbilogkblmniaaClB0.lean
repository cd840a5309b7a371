/-
  The mathematics of over's search; rows of numbers; slices.Sort of a row of different numbers.
-/
import Derived.Test.YtbbilogkblmniaaClA
import Derived.Test.YtbbilogkblmniaaShelf
import Derived.Sort.OwnSortedInts
namespace Go.Proofs.Ytbbilogkblmniaa
open Go.RowKit

theorem info3 : (Try.prog.info? 3).map (fun i => (i.zero, i.size, i.bytes)) = some (some (.int .i64 0), 1, 8) := by kernel_rfl
theorem own_keep {w w1 : World} {B : Nat} {e : TypeId} {size : Nat} {v : Value} {n : Nat} {xs : List Value} (h : w.ownsRow B e size v n xs) (hb : Below w.heap.size w w1) : w1.ownsRow B e size v n xs :=
  h.kept (row := none) ⟨hb.os, hb.tape, hb.output, hb.size, fun k hk _ => hb.block k hk⟩ (by cases v.ownBlock <;> simp)
theorem own_form {B : Nat} {e : TypeId} {n z : Nat} {xs : List Value} {v : Value} {w : World} (h : w.ownsRow B e z v n xs) : ∃ q cap, v = .slice q n cap := by
  exact h.2.elim (fun k => ⟨none, 0, by rw [k.1, k.2]⟩) (fun ⟨g, c, _, k⟩ => ⟨some ⟨g, 0, none⟩, c, k.1⟩)
theorem own_slice {B : Nat} {e : TypeId} {n z : Nat} {xs : List Value} {v : Value} {w : World} (h : w.ownsRow B e z v n xs) (hm : 1 ≤ n) : ∃ g cap, v = .slice (some ⟨g, 0, none⟩) n cap := by
  rcases h.2 with ⟨hv, h0⟩ | ⟨g, cap, cur, hv, _⟩
  · omega
  · exact ⟨_, _, hv⟩
/-- whole numbers, as a row has them -/
def lsV (l : List Nat) : List Value := l.map fun k => Value.int .i64 ((k : Nat) : Int)
theorem lsV_snoc (l : List Nat) (k : Nat) : lsV (l ++ [k]) = lsV l ++ [.int .i64 ((k : Nat) : Int)] := by simp [lsV]
/-- a row of numbers -/
def Nr (V : World) (q : Nat) (l : List Nat) : Prop := q < V.heap.size ∧ ∀ k, k < l.length → V.cell? ⟨q, k, none⟩ = some (.int .i64 ((l.getD k 0 : Nat) : Int))
theorem Nr.keep {V V' : World} {q : Nat} {l : List Nat} (h : Nr V q l) (hb : Below V.heap.size V V') : Nr V' q l := ⟨Nat.lt_of_lt_of_le h.1 hb.size, fun k hk => keepC hb h.1 (h.2 k hk)⟩
theorem Nr.grown {V V' : World} {row : Option Nat} {q : Nat} {l : List Nat} (h : Nr V q l) (hg : V.grownBy V' row) (hne : some q ≠ row) : Nr V' q l := ⟨Nat.lt_of_lt_of_le h.1 hg.size, fun k hk => gcell (p := ⟨q, k, none⟩) hg h.1 hne (h.2 k hk)⟩
theorem Nr.is {V : World} {q : Nat} {l : List Nat} (h : Nr V q l) : Is V (some ⟨q, 0, none⟩) l.length (fun k => ((l.getD k 0 : Nat) : Int)) := .inr ⟨q, 0, rfl, h.1, fun k hk => by rw [Nat.zero_add]; exact h.2 k hk⟩
theorem own_nr {W : World} {B m cap g : Nat} {l : List Nat} (h : W.ownsRow B 3 1 (.slice (some ⟨g, 0, none⟩) m cap) m (lsV l)) (hm : m = l.length) : Nr W g l := by
  refine ⟨(h.lt g rfl).2, fun k hk => ?_⟩
  rw [h.cellAt k (by omega)]
  simp [lsV, List.getD, List.getElem?_eq_getElem hk]

/-- two lists in one strict order, of the same things, are one -/
theorem order_ext {α : Type} {r : α → α → Prop} (asym : ∀ a b, r a b → r b a → False) : ∀ l1 l2 : List α, l1.Pairwise r → l2.Pairwise r → (∀ a, a ∈ l1 ↔ a ∈ l2) → l1 = l2 := by
  intro l1
  induction l1 with
  | nil =>
    intro l2 _ _ h
    cases l2 with
    | nil => rfl
    | cons y t => exact absurd ((h y).2 (by simp)) (by simp)
  | cons x t ih =>
    intro l2 h1 h2 h
    cases l2 with
    | nil => exact absurd ((h x).1 (by simp)) (by simp)
    | cons y t2 =>
      rw [List.pairwise_cons] at h1 h2
      have e : x = y := by
        refine Classical.byContradiction fun hne => ?_
        have m1 : x ∈ t2 := by have := (h x).1 (by simp); rw [List.mem_cons] at this; exact this.resolve_left hne
        have m2 : y ∈ t := by have := (h y).2 (by simp); rw [List.mem_cons] at this; exact this.resolve_left (fun k => hne k.symm)
        exact asym _ _ (h1.1 y m2) (h2.1 x m1)
      subst e
      refine congrArg _ (ih t2 h1.2 h2.2 fun a => ⟨fun m => ?_, fun m => ?_⟩)
      · have := (h a).1 (List.mem_cons_of_mem _ m)
        rw [List.mem_cons] at this
        exact this.resolve_left (fun k => by subst k; exact asym _ _ (h1.1 a m) (h1.1 a m))
      · have := (h a).2 (List.mem_cons_of_mem _ m)
        rw [List.mem_cons] at this
        exact this.resolve_left (fun k => by subst k; exact asym _ _ (h2.1 a m) (h2.1 a m))

theorem sorted_is {l L : List Nat} (hn : l.Nodup) (hm : ∀ a, a ∈ l ↔ a ∈ L) (hs : L.Pairwise (· < ·)) : ((l.map (fun k : Nat => (k : Int))).mergeSort fun x y => decide (x ≤ y)) = L.map (fun k : Nat => (k : Int)) := by
  have hp := List.mergeSort_perm (l.map (fun k : Nat => (k : Int))) (fun x y => decide (x ≤ y))
  have hnd : ((l.map (fun k : Nat => (k : Int))).mergeSort fun x y => decide (x ≤ y)).Nodup := hp.nodup_iff.2 (by
    rw [List.Nodup, List.pairwise_map]
    exact hn.imp (by intro a b h; omega))
  have hso := List.pairwise_mergeSort (le := fun x y => decide ((x : Int) ≤ y)) (by intro a b c h1 h2; simp at *; omega) (by intro a b; simp; omega) (l.map (fun k : Nat => (k : Int)))
  refine order_ext (r := fun a b : Int => a < b) (fun a b h1 h2 => by omega) _ _ ?_ ?_ ?_
  · refine (List.Pairwise.and hso hnd).imp ?_
    intro a b ⟨h1, h2⟩
    simp at h1
    omega
  · rw [List.pairwise_map]
    exact hs.imp (by intro a b h; omega)
  · intro a
    rw [hp.mem_iff, List.mem_map, List.mem_map]
    constructor
    · rintro ⟨k, hk, rfl⟩; exact ⟨k, (hm k).1 hk, rfl⟩
    · rintro ⟨k, hk, rfl⟩; exact ⟨k, (hm k).2 hk, rfl⟩

open Go.Sort in
theorem sort_any {V : World} {B g len cp : Nat} {l L : List Nat} (hown : V.ownsRow B 3 1 (.slice (some ⟨g, 0, none⟩) len cp) len (lsV l)) (hl : len = l.length) (hn : l.Nodup) (hm : ∀ a, a ∈ l ↔ a ∈ L) (hs : L.Pairwise (· < ·)) (h128 : len ≤ 128) :
    Calls Try.prog 32 #[.slice (some ⟨g, 0, none⟩) len cp] V fun e V' => e = .returned (.tuple #[]) ∧ (Nr V' g L ∧ len = L.length) ∧ V.grownBy V' (some g) := by
  have hlt := (hown.lt g rfl).2
  have hzl : (l.map (fun k : Nat => (k : Int))).length = len := by simp [hl]
  rcases hown.2 with ⟨h', _⟩ | ⟨g', cap', cur, h', hbase, hg, h1, h2, h3, htake⟩
  · simp at h'
  simp only [Value.slice.injEq, Option.some.injEq, Addr.mk.injEq, and_true, true_and] at h'
  obtain ⟨rfl, rfl⟩ := h'
  have ht : cur.toList.take (l.map (fun k : Nat => (k : Int))).length = (l.map (fun k : Nat => (k : Int))).map (Value.int .i64) := by
    rw [hzl, ← Nat.mul_one len, htake, lsV, List.map_map]; rfl
  have hH := holds_of_blockI hg ht
  have key := Try.slices_Sort_int g 0 cp (l.map (fun k : Nat => (k : Int))) V hH hlt (by rw [hzl]; omega)
  rw [hzl, sorted_is hn hm hs] at key
  have hLl : L.length = len := by
    have := congrArg List.length (sorted_is hn hm hs)
    simp at this; omega
  refine key.mono ?_
  rintro e V' ⟨rfl, k, os, rfl⟩
  have ho := ownsRow_sortedI (w := V) (base := B) (g := g) (cap := cp) (n := k) (e := 3) (os := os) (cur := cur) (ss := l.map (fun k : Nat => (k : Int))) (ts := L.map (fun k : Nat => (k : Int))) (by simp; omega) hbase hg (by rw [hzl]; exact h1) h2 h3
  refine ⟨rfl, ⟨?_, hLl.symm⟩, grownBy_sortedI _⟩
  rw [hzl] at ho
  refine own_nr (B := B) (m := len) (cap := cp) ?_ hLl.symm
  have e : lsV L = (L.map (fun k : Nat => (k : Int))).map (Value.int .i64) := by rw [lsV, List.map_map]; rfl
  rw [e]
  exact ho

/-- what the search has found -/
structure Bf (f : Nat → Bool) (w h s : Nat) (l : List Nat) : Prop where
  nd : l.Nodup
  ok : ∀ a, a ∈ l → a < w + h ∧ ov f w h a s = true
  me : s ∈ l
theorem Bf.len {f : Nat → Bool} {w h s : Nat} {l : List Nat} (b : Bf f w h s l) : l.length ≤ w + h := by
  have := b.nd.length_le_of_subset (l₂ := List.range (w + h)) (fun a ha => by simpa using (b.ok a ha).1)
  simpa using this
theorem Bf.start (f : Nat → Bool) (w h s : Nat) (hs : s < w + h) : Bf f w h s [s] := ⟨by simp, fun a ha => by simp at ha; subst ha; exact ⟨hs, ov_refl _ _ _ _⟩, by simp⟩
theorem getD_mem {l : List Nat} {x : Nat} (hx : x < l.length) : l.getD x 0 ∈ l := by
  simp [List.getD, List.getElem?_eq_getElem hx]
theorem getD_snoc {l : List Nat} {x a : Nat} (hx : x < l.length) : (l ++ [a]).getD x 0 = l.getD x 0 := by
  simp [List.getD, List.getElem?_append_left hx]
theorem Bf.more {f : Nat → Bool} {w h s : Nat} {l : List Nat} (b : Bf f w h s l) {a x : Nat} (ha : a < w + h) (hn : ¬ a ∈ l) (hx : x < l.length) (hr : ab f w a (l.getD x 0) = true) : Bf f w h s (l ++ [a]) := by
  have hm := b.ok _ (getD_mem hx)
  refine ⟨?_, fun c hc => ?_, by simp [b.me]⟩
  · rw [List.nodup_append]
    refine ⟨b.nd, by simp, fun x hx y hy e => ?_⟩
    simp at hy
    subst hy; subst e; exact hn hx
  · rw [List.mem_append] at hc
    rcases hc with hc | hc
    · exact b.ok c hc
    · simp at hc; subst hc
      exact ⟨ha, ov_step ha hm.1 hr hm.2⟩
/-- what is gone through: all that lie above the first x, and of those above the next all below y -/
def Gone (f : Nat → Bool) (w h : Nat) (l : List Nat) (x y : Nat) : Prop := (∀ k, k < x → ∀ a, a < w + h → ab f w a (l.getD k 0) = true → a ∈ l) ∧ ∀ a, a < y → ab f w a (l.getD x 0) = true → a ∈ l
theorem Gone.start (f : Nat → Bool) (w h : Nat) (l : List Nat) : Gone f w h l 0 0 := ⟨fun k hk => by omega, fun a ha => by omega⟩
theorem Gone.skip {f : Nat → Bool} {w h : Nat} {l : List Nat} {x y : Nat} (g : Gone f w h l x y) (hy : y ∈ l ∨ ab f w y (l.getD x 0) = false) : Gone f w h l x (y + 1) := ⟨g.1, fun a ha hr => by
  by_cases e : a = y
  · subst e
    rcases hy with hy | hy
    · exact hy
    · rw [hy] at hr; cases hr
  · exact g.2 a (by omega) hr⟩
theorem Gone.more {f : Nat → Bool} {w h : Nat} {l : List Nat} {x y : Nat} (g : Gone f w h l x y) (hx : x < l.length) : Gone f w h (l ++ [y]) x (y + 1) := ⟨fun k hk a ha hr => by
    rw [getD_snoc (by omega)] at hr
    exact List.mem_append_left _ (g.1 k hk a ha hr), fun a ha hr => by
    rw [getD_snoc hx] at hr
    by_cases e : a = y
    · subst e; simp
    · exact List.mem_append_left _ (g.2 a (by omega) hr)⟩
theorem Gone.next {f : Nat → Bool} {w h : Nat} {l : List Nat} {x : Nat} (g : Gone f w h l x (w + h)) : Gone f w h l (x + 1) 0 := ⟨fun k hk a ha hr => by
    by_cases e : k = x
    · subst e; exact g.2 a ha hr
    · exact g.1 k (by omega) a ha hr, fun a ha => by omega⟩
theorem gone_all {f : Nat → Bool} {w h s : Nat} {l : List Nat} (b : Bf f w h s l) (g : Gone f w h l l.length 0) (a : Nat) : a ∈ l ↔ a ∈ ovL f w h s := by
  constructor
  · intro ha; exact mem_ovL.2 (b.ok a ha)
  · intro ha
    have := mem_ovL.1 ha
    refine ov_min (f := f) (w := w) (h := h) (fun x => x ∈ l) (fun x y hx hy hl hr => ?_) this.2 b.me
    obtain ⟨k, hk, e⟩ := List.getElem_of_mem hl
    exact g.1 k hk x hx (by simp [List.getD, List.getElem?_eq_getElem hk, e, hr])
end Go.Proofs.Ytbbilogkblmniaa
