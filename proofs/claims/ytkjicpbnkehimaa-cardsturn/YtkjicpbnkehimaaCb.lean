/-
  How bits, truths and whole numbers lie in memory; Index and Contains.
-/
import Derived.Test.YtkjicpbnkehimaaBase
import Derived.Deep.CutRange
import Derived.Maps.AppendAt
namespace Go.Proofs.Ytkjicpbnkehimaa
open Go.RowKit

theorem info4 : (Try.prog.info? 4).map (fun i => (i.zero, i.size, i.bytes)) = some (some (.bool false), 1, 1) := by kernel_rfl
/-- a row of truths that may be written -/
def BRow (W : World) (b k : Nat) (f : Nat → Bool) : Prop := b < W.heap.size ∧ ∀ j, j < k → W.cell? ⟨b, j, none⟩ = some (.bool (f j)) ∧ W.frozen? ⟨b, j, none⟩ = false
theorem BRow.keep {W w1 : World} {b k : Nat} {f : Nat → Bool} (h : BRow W b k f) (hb : Below W.heap.size W w1) : BRow w1 b k f :=
  ⟨Nat.lt_of_lt_of_le h.1 hb.size, fun j hj => ⟨keepC hb h.1 (h.2 j hj).1, keepF hb h.1 (h.2 j hj).2⟩⟩
theorem BRow.set {W : World} {b k : Nat} {f : Nat → Bool} (h : BRow W b k f) (j : Nat) (v : Bool) : BRow (W.setCell ⟨b, j, none⟩ (.bool v)) b k (fun i => if i = j then v else f i) := by
  refine ⟨by simpa using h.1, fun i hi => ?_⟩
  obtain ⟨h1, h2⟩ := h.2 i hi
  refine ⟨?_, by rw [World.frozen?_setCell]; exact h2⟩
  by_cases e : i = j
  · subst e
    rw [World.cell?_setCell_same' _ _ _ (by rw [h1]; rfl)]; simp
  · simp [go_sem, e, h1]
theorem BRow.grown {a c : World} {row : Option Nat} {b k : Nat} {f : Nat → Bool} (h : BRow a b k f) (hg : a.grownBy c row) (hne : some b ≠ row) : BRow c b k f :=
  ⟨Nat.lt_of_lt_of_le h.1 hg.size, fun j hj => ⟨gcell hg h.1 hne (h.2 j hj).1, gfroz hg h.1 hne (h.2 j hj).2⟩⟩
theorem BRow.far {W : World} {b k : Nat} {f : Nat → Bool} (h : BRow W b k f) {c : Nat} (hc : c ≠ b) (o : Nat) (v : Value) : BRow (W.setCell ⟨c, o, none⟩ v) b k f :=
  h.grown (gset (World.grownBy.refl _ _) o v) (fun e => hc (Option.some.inj e).symm)
theorem brow_made {w : World} {B b k : Nat} (h : w.ownsRow B 4 1 (.slice (some ⟨b, 0, none⟩) k k) k (madeCells #[.bool false] k).toList) : BRow w b k (fun _ => false) :=
  ⟨(h.lt b rfl).2, fun j hj => ⟨by rw [h.cellAt j (by omega), toList_madeCells_one, List.getElem?_replicate, if_pos (by omega)], h.frozenAt j⟩⟩
theorem grown_of {a b : World} (h : Below a.heap.size a b) : a.grownBy b none := gbelow none h
/-- truths in a box -/
def OwnM (W : World) (b : Nat) (w h : Int) (p : Option Addr) (n cap : Nat) : Prop := b < W.heap.size ∧ W.cell? ⟨b, 0, none⟩ = some (.int .i64 w) ∧ W.cell? ⟨b, 1, none⟩ = some (.int .i64 h) ∧ W.cell? ⟨b, 2, none⟩ = some (.slice p n cap)
theorem OwnM.keep {W w1 : World} {b : Nat} {w h : Int} {p : Option Addr} {n cap : Nat} (k : OwnM W b w h p n cap) (hb : Below W.heap.size W w1) : OwnM w1 b w h p n cap :=
  ⟨Nat.lt_of_lt_of_le k.1 hb.size, keepC hb k.1 k.2.1, keepC hb k.1 k.2.2.1, keepC hb k.1 k.2.2.2⟩
theorem OwnM.alloc {W : World} {b : Nat} {w h : Int} {p : Option Addr} {n cap : Nat} (k : OwnM W b w h p n cap) (o : Obj) : OwnM (W.alloc o) b w h p n cap := k.keep (bal (Below.refl _ _))
theorem OwnM.new (W : World) (w h : Int) (p : Option Addr) (n cap : Nat) (t : TypeId) : OwnM (W.alloc (.cells #[.int .i64 w, .int .i64 h, .slice p n cap] t)) W.heap.size w h p n cap :=
  ⟨by simp, by simp [go_sem], by simp [go_sem], by simp [go_sem]⟩
theorem OwnM.grown {a c : World} {row : Option Nat} {b : Nat} {w h : Int} {p : Option Addr} {n cap : Nat} (k : OwnM a b w h p n cap) (hg : a.grownBy c row) (hne : some b ≠ row) : OwnM c b w h p n cap :=
  ⟨Nat.lt_of_lt_of_le k.1 hg.size, gcell hg k.1 hne k.2.1, gcell hg k.1 hne k.2.2.1, gcell hg k.1 hne k.2.2.2⟩
theorem OwnM.block {a c : World} {b : Nat} {w h : Int} {p : Option Addr} {n cap : Nat} (k : OwnM a b w h p n cap) (hs : b < c.heap.size) (hg : c.heap[b]? = a.heap[b]?) : OwnM c b w h p n cap :=
  ⟨hs, (World.cell?_of_block hg).trans k.2.1, (World.cell?_of_block hg).trans k.2.2.1, (World.cell?_of_block hg).trans k.2.2.2⟩
/-- what a slice's bits are -/
def Bs (W : World) (p : Option Addr) (n cap : Nat) (f : Nat → Bool) : Prop := n ≤ cap ∧ (n = 0 ∨ ∃ b o, p = some ⟨b, o, none⟩ ∧ b < W.heap.size ∧ ∀ k, k < n → W.cell? ⟨b, o + k, none⟩ = some (.bool (f k)))
theorem Bs.keep {W w1 : World} {p : Option Addr} {n cap : Nat} {f : Nat → Bool} (h : Bs W p n cap f) (hb : Below W.heap.size W w1) : Bs w1 p n cap f := by
  refine ⟨h.1, ?_⟩
  rcases h.2 with h0 | ⟨b, o, e, hl, hc⟩
  · exact .inl h0
  · exact .inr ⟨b, o, e, Nat.lt_of_lt_of_le hl hb.size, fun k hk => keepC hb hl (hc k hk)⟩
/-- the bits do not lie in the block q -/
def Off (p : Option Addr) (n q : Nat) : Prop := n = 0 ∨ ∀ a, p = some a → a.block ≠ q
theorem Bs.grown {W w1 : World} {p : Option Addr} {n cap q : Nat} {f : Nat → Bool} (h : Bs W p n cap f) (hg : W.grownBy w1 (some q)) (ho : Off p n q) : Bs w1 p n cap f := by
  refine ⟨h.1, ?_⟩
  rcases h.2 with h0 | ⟨b, o, e, hl, hc⟩
  · exact .inl h0
  · rcases ho with h0 | ho
    · exact .inl h0
    · exact .inr ⟨b, o, e, Nat.lt_of_lt_of_le hl hg.size, fun k hk => gcell (p := ⟨b, o + k, none⟩) hg hl (fun e' => ho _ e (Option.some.inj e')) (hc k hk)⟩
theorem Bs.off {W : World} {p : Option Addr} {n cap : Nat} {f : Nat → Bool} (h : Bs W p n cap f) {q : Nat} (hq : W.heap.size ≤ q) : Off p n q := by
  rcases h.2 with h0 | ⟨b, o, e, hl, hc⟩
  · exact .inl h0
  · exact .inr fun a e' => by rw [e] at e'; cases e'; dsimp only; omega
theorem BRow.congr {W : World} {b k : Nat} {f g : Nat → Bool} (h : BRow W b k f) (e : ∀ j, j < k → f j = g j) : BRow W b k g := ⟨h.1, fun j hj => by rw [← e j hj]; exact h.2 j hj⟩
/-- truths that are right -/
def Rt (W : World) (w h : Nat) (p : Option Addr) (n cap : Nat) (f : Nat → Bool) : Prop := w ≤ 64 ∧ h ≤ 64 ∧ n = w * h ∧ Bs W p n cap f
theorem Rt.keep {W V : World} {w h : Nat} {p : Option Addr} {n cap : Nat} {f : Nat → Bool} (r : Rt W w h p n cap f) (hb : Below W.heap.size W V) : Rt V w h p n cap f := ⟨r.1, r.2.1, r.2.2.1, r.2.2.2.keep hb⟩
theorem BRow.bs {W : World} {q n : Nat} {f : Nat → Bool} (h : BRow W q n f) : Bs W (some ⟨q, 0, none⟩) n n f :=
  ⟨Nat.le_refl _, .inr ⟨q, 0, rfl, h.1, fun k hk => by rw [Nat.zero_add]; exact (h.2 k hk).1⟩⟩
/-- right truths in a box -/
def Tb (W : World) (b w h : Nat) (p : Option Addr) (n cap : Nat) (f : Nat → Bool) : Prop := OwnM W b w h p n cap ∧ Rt W w h p n cap f
theorem Tb.keep {W V : World} {b w h : Nat} {p : Option Addr} {n cap : Nat} {f : Nat → Bool} (r : Tb W b w h p n cap f) (hb : Below W.heap.size W V) : Tb V b w h p n cap f := ⟨r.1.keep hb, r.2.keep hb⟩
theorem Tb.new {V : World} {w h : Nat} {p : Option Addr} {n cap : Nat} {f : Nat → Bool} (r : Rt V w h p n cap f) : Tb (V.alloc (.cells #[.int .i64 w, .int .i64 h, .slice p n cap] 24)) V.heap.size w h p n cap f :=
  ⟨OwnM.new V w h p n cap 24, r.keep (bal (Below.refl _ _))⟩
theorem wE_zero (w h : Int) (n : Nat) (he : wE w h n = 0) : ∃ w' h' : Nat, w = w' ∧ h = h' ∧ w' ≤ 64 ∧ h' ≤ 64 ∧ n = w' * h' := by
  unfold wE at he
  split at he
  · rename_i s
    simp at s
    have b1 := (sd_iff w).1 s.1
    have b2 := (sd_iff h).1 s.2
    obtain ⟨w', rfl⟩ := Int.eq_ofNat_of_zero_le b1.1
    obtain ⟨h', rfl⟩ := Int.eq_ofNat_of_zero_le b2.1
    split at he
    · rename_i e
      exact ⟨w', h', rfl, rfl, by omega, by omega, by rw [← Int.natCast_mul] at e; exact Int.ofNat.inj e⟩
    · omega
  · omega
theorem bs_at {W : World} {p : Option Addr} {n cap k : Nat} {f : Nat → Bool} (h : Bs W p n cap f) (hk : k < n) : ∃ b o, p = some ⟨b, o, none⟩ ∧ b < W.heap.size ∧ W.cell? ⟨b, o + k, none⟩ = some (.bool (f k)) := by
  rcases h.2 with h0 | ⟨b, o, e, hb, hc⟩
  · omega
  · exact ⟨b, o, e, hb, hc k hk⟩
/-- whole numbers that lie in a slice -/
def Is (W : World) (q : Option Addr) (n : Nat) (f : Nat → Int) : Prop := n = 0 ∨ ∃ b o, q = some ⟨b, o, none⟩ ∧ b < W.heap.size ∧ ∀ k, k < n → W.cell? ⟨b, o + k, none⟩ = some (.int .i64 (f k))
theorem Is.keep {W V : World} {q : Option Addr} {n : Nat} {f : Nat → Int} (h : Is W q n f) (hb : Below W.heap.size W V) : Is V q n f := by
  rcases h with h | ⟨b, o, e, hl, hk⟩
  · exact .inl h
  · exact .inr ⟨b, o, e, Nat.lt_of_lt_of_le hl hb.size, fun k hkn => keepC hb hl (hk k hkn)⟩
theorem Is.at {W : World} {q : Option Addr} {n x : Nat} {f : Nat → Int} (h : Is W q n f) (hx : x < n) : ∃ a o, q = some ⟨a, o, none⟩ ∧ a < W.heap.size ∧ W.cell? ⟨a, o + x, none⟩ = some (.int .i64 (f x)) := by
  rcases h with h | ⟨b, o, e, hl, hk⟩
  · omega
  · exact ⟨b, o, e, hl, hk x hx⟩
theorem Is.congr {W : World} {q : Option Addr} {n : Nat} {f g : Nat → Int} (h : Is W q n f) (e : ∀ k, k < n → f k = g k) : Is W q n g := by
  rcases h with h | ⟨b, o, eq, hl, hk⟩
  · exact .inl h
  · exact .inr ⟨b, o, eq, hl, fun k hkn => by rw [← e k hkn]; exact hk k hkn⟩
theorem gmore {a b c : World} {o : Nat} {row : Option Nat} (h : a.grownBy b (some o)) (k : b.grownBy c row) (hr : ∀ j, row = some j → a.heap.size ≤ j) : a.grownBy c (some o) := by
  refine ⟨by rw [k.os, h.os], by rw [k.tape, h.tape], by rw [k.output, h.output], by have := h.size; have := k.size; omega, ?_⟩
  intro i hi hne
  have hs := h.size
  rw [k.block i (by omega) (fun e => by have := hr i e.symm; omega)]
  exact h.block i hi hne
/-- somewhere it is v -/
def hasI (f : Nat → Int) (v : Int) (n : Nat) : Bool := (List.range n).any fun x => v == f x
theorem hasI_yes (f : Nat → Int) (v : Int) (n x : Nat) (h : x < n) (e : v = f x) : hasI f v n = true := List.any_eq_true.2 ⟨x, by simpa using h, by simp [e]⟩
theorem hasI_no (f : Nat → Int) (v : Int) (n : Nat) (h : ∀ x, x < n → ¬ v = f x) : hasI f v n = false := by
  cases c : hasI f v n with
  | false => rfl
  | true =>
    obtain ⟨x, hx, e⟩ := List.any_eq_true.1 c
    exact absurd (by simpa using e) (h x (by simpa using hx))
end Go.Proofs.Ytkjicpbnkehimaa
