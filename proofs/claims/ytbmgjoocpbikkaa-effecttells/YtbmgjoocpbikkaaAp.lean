/-
  A row that grows in a box; numbers of places.
-/
import Derived.Test.YtbmgjoocpbikkaaSs
namespace Go.Proofs.Ytbmgjoocpbikkaa
open Go.RowKit

theorem info4 : (Try.prog.info? 4).map (fun i => (i.zero, i.size, i.bytes)) = some (some (.bool false), 1, 1) := by kernel_rfl
/-- a row that grows, and the box that holds it -/
def AP (e : TypeId) (cs : List Value) (j : Nat) (w0 : World) (bx : Nat) (wr : World) (v : Value) (k : Nat) (xs : List Value) : Prop :=
  Kept (fun i => i = bx) w0 wr ∧ Bx wr bx (cs.set j v) ∧ wr.ownsRow w0.heap.size e 1 v k xs ∧ bx < w0.heap.size
theorem AP.new {e : TypeId} {cs : List Value} {j : Nat} {w0 : World} {bx : Nat} (h : Bx w0 bx (cs.set j (.slice none 0 0))) : AP e cs j w0 bx w0 (.slice none 0 0) 0 [] :=
  ⟨Kept.refl _ _, h, World.ownsRow_nil _ _ _ _, h.1⟩
theorem AP.keep {e : TypeId} {cs : List Value} {j : Nat} {w0 : World} {bx : Nat} {wr V : World} {v : Value} {k : Nat} {xs : List Value} (h : AP e cs j w0 bx wr v k xs) (hb : Below wr.heap.size wr V) : AP e cs j w0 bx V v k xs :=
  ⟨h.1.below hb, h.2.1.keep hb, own_keep h.2.2.1 hb, h.2.2.2⟩
/-- append has been called: the row has grown, the box is as it was -/
theorem AP.grown {e : TypeId} {cs : List Value} {j : Nat} {w0 : World} {bx : Nat} {wr w5 : World} {v : Value} {k : Nat} {xs : List Value} (h : AP e cs j w0 bx wr v k xs) (hg : wr.grownBy w5 v.ownBlock) : Bx w5 bx (cs.set j v) ∧ Kept (fun i => i = bx) w0 w5 := by
  have hs : ∀ r, v.ownBlock = some r → w0.heap.size ≤ r := fun r hr => (h.2.2.1.lt r hr).1
  have k5 : Kept (fun i => v.ownBlock = some i) wr w5 := grown_kept hg fun r hr => .inl hr
  refine ⟨h.2.1.but k5 (fun hr => by have := hs bx hr; have := h.2.2.2; omega), ?_⟩
  exact ((h.1.more (T := fun i => i = bx ∨ v.ownBlock = some i) (fun i hi => .inl (.inl hi))).trans (k5.more (T := fun i => i = bx ∨ v.ownBlock = some i) (fun i hi => .inl (.inr hi)))).more fun i hi => by
    rcases hi with hi | hi
    · exact .inl hi
    · exact .inr (hs i hi)
/-- what has grown is put into the box -/
theorem AP.step {e : TypeId} {cs : List Value} {j : Nat} {w0 : World} {bx : Nat} {w5 : World} {v v' : Value} {k : Nat} {xs : List Value} (h : Bx w5 bx (cs.set j v) ∧ Kept (fun i => i = bx) w0 w5) (hl : bx < w0.heap.size) (ho : w5.ownsRow w0.heap.size e 1 v' k xs) : AP e cs j w0 bx (w5.setCell ⟨bx, j, none⟩ v') v' k xs := by
  have h2 := h.1.set j v'
  rw [List.set_set] at h2
  exact ⟨h.2.set j v' (.inl rfl), h2, own_but ho (kset _ bx j v') (fun i hi e' => by have := (ho.lt i hi).1; omega), hl⟩
theorem lit_one {u : Value} (h : u.oneCell' = true) : ∀ x ∈ [u], x.oneCell' = true := by intro x hx; obtain rfl := List.mem_singleton.1 hx; exact h
theorem lit_row (W : World) (u : Value) (e : TypeId) : (W.alloc (.cells #[u] e)).ownsRow 0 e 1 (.slice (some ⟨W.heap.size, 0, none⟩) 1 1) 1 [u] :=
  own_lit (e := e) (z := 1) (k := 1) W #[u] (Nat.zero_le _) (by unfold maxLen; omega) rfl
/-- the numbers of a place -/
theorem place_nums {w h n x y : Nat} (hw : w ≤ 64) (hh : h ≤ 64) (hn : n = w * h) (hx : x < w) (hy : y < h) : ∃ yw k : Nat, yw = y * w ∧ k = yw + x ∧ k = y * w + x ∧ wrap64 ((y : Int) * (w : Int)) = (yw : Int) ∧ (yw : Int) + (x : Int) = (k : Int) ∧ k < n ∧ n ≤ 4096 ∧ yw ≤ 4096 ∧ k % w = x ∧ k / w = y := by
  have hn4 : n ≤ 4096 := by rw [hn]; exact Nat.mul_le_mul hw hh
  have l := place_lt hx hy
  rw [← hn] at l
  refine ⟨y * w, y * w + x, rfl, rfl, rfl, ?_, by omega, l, hn4, by omega, ?_, ?_⟩
  · rw [← Int.natCast_mul]
    exact Go.IntWalk.wrap64_in _ (by omega)
  · rw [Nat.add_comm, Nat.add_mul_mod_self_right, Nat.mod_eq_of_lt hx]
  · rw [Nat.add_comm, Nat.add_mul_div_right _ _ (by omega), Nat.div_eq_of_lt hx, Nat.zero_add]
theorem row_next (y w : Nat) : y * w + w = (y + 1) * w := by rw [Nat.succ_mul]
/-- truths as cells -/
def bvals (f : Nat → Bool) (n : Nat) : List Value := (List.range n).map fun k => Value.bool (f k)
theorem bvals_len (f : Nat → Bool) (n : Nat) : (bvals f n).length = n := by simp [bvals]
theorem bvals_succ (f : Nat → Bool) (n : Nat) : bvals f (n + 1) = bvals f n ++ [.bool (f n)] := by simp [bvals, List.range_succ]
theorem own_bs {W : World} {B n cap : Nat} {q : Option Addr} {f : Nat → Bool} (h : W.ownsRow B 4 1 (.slice q n cap) n (bvals f n)) : T.Bs W q n cap f := by
  rcases Nat.eq_zero_or_pos n with e | e
  · exact ⟨by omega, .inl e⟩
  · obtain ⟨g, c, e2⟩ := own_slice h e
    cases e2
    refine ⟨?_, .inr ⟨g, 0, rfl, (h.lt g rfl).2, fun k hk => ?_⟩⟩
    · rcases h.2 with ⟨e3, _⟩ | ⟨g', c', cur, e3, _, _, e6, _⟩
      · cases e3
      · cases e3; exact e6
    · rw [Nat.zero_add, h.cellAt k (by omega)]
      simp [bvals, hk]
theorem ir_of {W : World} {B n cap : Nat} {q : Option Addr} {f : Nat → Int} (h : W.ownsRow B 3 1 (.slice q n cap) n (vals f n)) : T.Is W q n f := IR.is (B := B) (cap := cap) h
end Go.Proofs.Ytbmgjoocpbikkaa
