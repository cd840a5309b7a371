/-
  Rows of rows, for the document's Layers.
-/
import Derived.Test.YtpdknodnlamphaaS
namespace Go.Proofs.Ytpdknodnlamphaa
open Go.RowKit

/-- a way to stand that lies in old memory, or in a row of numbers -/
def Ix (W V : World) (q : Option Addr) (n : Nat) (l : List Int) : Prop := ∃ b o, q = some ⟨b, o, none⟩ ∧ b < V.heap.size ∧ (b < W.heap.size ∨ Tg V b 3) ∧ ∀ k, k < n → V.cell? ⟨b, o + k, none⟩ = some (.int .i64 (gt l k))
theorem Ix.is {W V : World} {q : Option Addr} {n : Nat} {l : List Int} (h : Ix W V q n l) : Is V q n (gt l) := by
  obtain ⟨b, o, e, hb, -, hc⟩ := h
  exact .inr ⟨b, o, e, hb, hc⟩
theorem Ix.kept {S : Nat → Prop} {W V U : World} {q : Option Addr} {n : Nat} {l : List Int} (h : Ix W V q n l) (k : Kept S V U) (hS : ∀ i, S i → W.heap.size ≤ i ∧ ¬ Tg V i 3) : Ix W U q n l := by
  obtain ⟨b, o, e, hb, ht, hc⟩ := h
  have hn : ¬ S b := fun s => by
    obtain ⟨h1, h2⟩ := hS b s
    rcases ht with t | t
    · omega
    · exact h2 t
  exact ⟨b, o, e, Nat.lt_of_lt_of_le hb k.size, ht.imp id (fun t => t.kept k hb hn), fun j hj => k.cell hb hn (hc j hj)⟩
theorem IR.ix {W V : World} {B n c : Nat} {q : Option Addr} {l : List Int} (h : IR V B (.slice q n c) l) (hl : l.length = n) (h1 : 1 ≤ n) : Ix W V q n l := by
  obtain ⟨g, cap, e⟩ := own_slice h (by omega)
  cases e
  refine ⟨g, 0, rfl, (h.lt rfl).2, .inr (own_tg h rfl), fun k hk => ?_⟩
  rw [Nat.zero_add, World.ownsRow.cellAt h k (by omega)]
  simp [intsV, gt, List.getD, show k < l.length by omega]
/-- ways to stand in a row -/
def Rs (W V : World) (n : Nat) (v : Value) (ls : List (List Int)) : Prop := ∃ us : List Value, V.ownsRow W.heap.size 22 1 v ls.length us ∧ us.length = ls.length ∧ ∀ (j : Nat) l, ls[j]? = some l → ∃ q c, us[j]? = some (Value.slice q n c) ∧ Ix W V q n l
theorem Rs.nil (W V : World) (n : Nat) : Rs W V n (.slice none 0 0) [] := ⟨[], World.ownsRow_nil _ _ _ _, rfl, fun j l h => by simp at h⟩
theorem Rs.kept {S : Nat → Prop} {W V U : World} {n : Nat} {v : Value} {ls : List (List Int)} (h : Rs W V n v ls) (k : Kept S V U) (hS : ∀ i, S i → W.heap.size ≤ i ∧ ¬ Tg V i 3) (hv : ∀ i, v.ownBlock = some i → ¬ S i) : Rs W U n v ls := by
  obtain ⟨us, h1, h2, h3⟩ := h
  refine ⟨us, own_but h1 k hv, h2, fun j l hj => ?_⟩
  obtain ⟨q, c, e, hi⟩ := h3 j l hj
  exact ⟨q, c, e, hi.kept k hS⟩
theorem Rs.at {W V : World} {n j : Nat} {v : Value} {ls : List (List Int)} {l : List Int} (h : Rs W V n v ls) (hj : ls[j]? = some l) : ∃ g cap q c, v = .slice (some ⟨g, 0, none⟩) ls.length cap ∧ V.cell? ⟨g, j, none⟩ = some (.slice q n c) ∧ Ix W V q n l := by
  obtain ⟨us, h1, h2, h3⟩ := h
  have hl := (List.getElem?_eq_some_iff.1 hj).1
  obtain ⟨q, c, e, hi⟩ := h3 j l hj
  obtain ⟨g, cap, rfl⟩ := own_slice h1 (by omega)
  refine ⟨g, cap, q, c, rfl, ?_, hi⟩
  rw [h1.cellAt j (by omega)]
  exact e
theorem Rs.form {W V : World} {n : Nat} {v : Value} {ls : List (List Int)} (h : Rs W V n v ls) : ∃ q cap, v = .slice q ls.length cap := by
  obtain ⟨us, h1, -⟩ := h
  exact own_form h1
/-- all that Layers has in memory: its map, and two rows -/
structure Sl (W V : World) (n bm : Nat) (M : List (Value × Nat)) (vl vn : Value) (L X : List (List Int)) : Prop where
  mp : MpI V 9 bm M
  bm : W.heap.size ≤ bm
  l : Rs W V n vl L
  x : Rs W V n vn X
  ne : ∀ i, vl.ownBlock = some i → vn.ownBlock ≠ some i
  b : Below W.heap.size W V
theorem Rs.blk {W V : World} {n i : Nat} {v : Value} {ls : List (List Int)} (h : Rs W V n v ls) (e : v.ownBlock = some i) : W.heap.size ≤ i ∧ i < V.heap.size ∧ Tg V i 22 := by
  obtain ⟨us, h1, -⟩ := h
  exact ⟨(h1.lt i e).1, (h1.lt i e).2, own_tg h1 e⟩
theorem MpI.tag {V : World} {k t : TypeId} {b : Nat} {M : List (Value × Nat)} (h : MpI V k b M) : ¬ Tg V b t := by
  obtain ⟨es, clock, hb, -⟩ := h
  rintro ⟨cur, fr, e⟩
  rw [hb] at e
  cases e
theorem Sl.keep {W V U : World} {n bm : Nat} {M : List (Value × Nat)} {vl vn : Value} {L X : List (List Int)} (h : Sl W V n bm M vl vn L X) (hb : Below V.heap.size V U) : Sl W U n bm M vl vn L X :=
  ⟨h.mp.keep hb, h.bm, h.l.kept (Kept.of (S := fun _ => False) hb) (fun _ k => k.elim) (fun _ _ k => k), h.x.kept (Kept.of (S := fun _ => False) hb) (fun _ k => k.elim) (fun _ _ k => k), h.ne, btrans h.b hb⟩
theorem Ix.keep {W V U : World} {q : Option Addr} {n : Nat} {l : List Int} (h : Ix W V q n l) (hb : Below V.heap.size V U) : Ix W U q n l := h.kept (Kept.of (S := fun _ => False) hb) (fun _ k => k.elim)
/-- the map is put something into -/
theorem Sl.put {W V U : World} {n bm : Nat} {M M' : List (Value × Nat)} {vl vn : Value} {L X : List (List Int)} (h : Sl W V n bm M vl vn L X) (hm : MpI U 9 bm M') (hg : V.grownBy U (some bm)) :
    Sl W U n bm M' vl vn L X ∧ ∀ q l, Ix W V q n l → Ix W U q n l := by
  have k : Kept (fun i => i = bm) V U := grown_kept hg (fun r e => .inl (Option.some.inj e).symm)
  have hS : ∀ i, i = bm → W.heap.size ≤ i ∧ ¬ Tg V i 3 := fun i e => by subst e; exact ⟨h.bm, h.mp.tag⟩
  have ho : ∀ {v : Value} {ls : List (List Int)}, Rs W V n v ls → ∀ i, v.ownBlock = some i → ¬ i = bm := fun hr i e k => h.mp.tag (k ▸ (hr.blk e).2.2)
  refine ⟨⟨hm, h.bm, h.l.kept k hS (ho h.l), h.x.kept k hS (ho h.x), h.ne, h.b.grown hg h.b.size (fun r e => by cases e; exact h.bm)⟩, fun q l hi => hi.kept k hS⟩
/-- a way to stand is put behind those that are next -/
theorem Sl.app {W V U : World} {n bm c : Nat} {M : List (Value × Nat)} {vl vn vn' : Value} {L X : List (List Int)} {us : List Value} {q : Option Addr} {l : List Int} (h : Sl W V n bm M vl vn L X) (hI : Ix W V q n l)
    (hus : V.ownsRow W.heap.size 22 1 vn X.length us ∧ us.length = X.length ∧ ∀ (j : Nat) l, X[j]? = some l → ∃ q c, us[j]? = some (Value.slice q n c) ∧ Ix W V q n l)
    (ho : U.ownsRow W.heap.size 22 1 vn' (X.length + 1) (us ++ [Value.slice q n c])) (hg : V.grownBy U vn.ownBlock) (he : vn'.ownBlock = vn.ownBlock ∨ vn'.ownBlock = some V.heap.size) :
    Sl W U n bm M vl vn' L (X ++ [l]) ∧ ∀ q l, Ix W V q n l → Ix W U q n l := by
  have k : Kept (fun i => vn.ownBlock = some i) V U := grown_kept hg (fun r e => .inl e)
  have hS : ∀ i, vn.ownBlock = some i → W.heap.size ≤ i ∧ ¬ Tg V i 3 := fun i e => ⟨(h.x.blk e).1, tg_not (h.x.blk e).2.2 (by decide)⟩
  have hl := h.l.kept k hS (fun i e => fun q => h.ne i e q)
  refine ⟨⟨h.mp.other hg (fun e => h.mp.tag (h.x.blk e.symm).2.2), h.bm, hl, ⟨us ++ [Value.slice q n c], by simpa using ho, by simp [hus.2.1], fun j l' hj => ?_⟩, fun i e q => ?_, h.b.grown hg h.b.size (fun r e => (h.x.blk e).1)⟩, fun q l hi => hi.kept k hS⟩
  · by_cases hjl : j < X.length
    · rw [List.getElem?_append_left hjl] at hj
      obtain ⟨q', c', e, hi⟩ := hus.2.2 j l' hj
      exact ⟨q', c', by rw [List.getElem?_append_left (by omega)]; exact e, hi.kept k hS⟩
    · have hj2 := (List.getElem?_eq_some_iff.1 hj).1
      simp at hj2
      obtain rfl : j = X.length := by omega
      simp at hj
      subst hj
      exact ⟨q, c, by rw [List.getElem?_append_right (by omega)]; simp [hus.2.1], hI.kept k hS⟩
  · rcases he with r | r
    · exact h.ne i e (r ▸ q)
    · rw [r] at q
      cases q
      have := (h.l.blk e).2.1
      omega
theorem info22 : (Try.prog.info? 22).map (fun i => (i.zero, i.size, i.bytes)) = some (some (.slice none 0 0), 1, 24) := by kernel_rfl
end Go.Proofs.Ytpdknodnlamphaa
