/-
  The workshop: next of anything; a loom that is opened again.
-/
import Derived.Test.YtndfecdhmncdaaaWkD
namespace Go.Proofs.Ytndfecdhmncdaaa
open Go.RowKit

theorem inv_bounds {h : Nat} {x : WSt} (k : Inv h x) : x.1.2.1 ≤ h ∧ x.1.2.2.2.2.2 ≤ 0 ∧ x.2.2.2.2.2.1.length ≤ h := by
  obtain ⟨⟨st, wv, sp, dd, g, lf⟩, td, up, th, ro, rs, bad⟩ := x
  obtain ⟨k1, k2, k3, k4, k5⟩ := k
  dsimp only
  refine ⟨?_, k3, ?_⟩
  · rcases k5 with q | q | q | q | q | q | q <;> omega
  · rcases k5 with q | q | q | q | q | q | q <;> omega

theorem next_any {B : Nat} {W : World} {S L D q w h n : Nat} {f : Nat → Bool} {p : Option Addr} {cap : Nat} {x : WSt} (k : WF B W S L D q w h n f p cap x) (a : At4 B S L D q) (hB : B ≤ W.heap.size) (hn : n = w * h) (hw6 : w ≤ 64) (hh6 : h ≤ 64) (hw0 : 0 < w) (hI : Inv h x) : NextIs B W S L D q w h n f p cap (nextS h x) := by
  have hb := inv_bounds hI
  obtain ⟨⟨st, wv, sp, dd, g, lf⟩, td, up, th, ro, rs, bad⟩ := x
  obtain ⟨k1, k2, k3, k4, k5⟩ := hI
  dsimp only at hb
  have hw : wv ≤ 64 := by omega
  have hm : lf ≤ 9223372036854775807 := by omega
  rcases k5 with q | q | q | q | q | q | q
  · obtain ⟨rfl, -⟩ := q
    simp only [nextS]
    rw [if_pos (by decide)]
    exact next_0 k a hw hm
  · obtain ⟨rfl, q1, -⟩ := q
    simp only [nextS]
    rw [if_neg (by decide), if_pos (by decide)]
    exact next_1 k a hB hn hw6 hh6 hw0 q1 hm
  · obtain ⟨rfl, -⟩ := q
    simp only [nextS]
    rw [if_neg (by decide), if_neg (by decide), if_pos (by decide)]
    exact next_2 k a hw hm
  · obtain ⟨rfl, -⟩ := q
    simp only [nextS]
    rw [if_neg (by decide), if_neg (by decide), if_neg (by decide), if_pos (by decide)]
    exact next_3 k a hw hm
  · obtain ⟨rfl, -⟩ := q
    simp only [nextS]
    rw [if_neg (by decide), if_neg (by decide), if_neg (by decide), if_neg (by decide), if_pos (by decide)]
    by_cases c : td = 3
    · subst c
      rw [if_pos rfl]
      exact next_4b k a hB (by omega) hw hm
    · rw [if_neg c]
      exact next_4a k a hw hm c
  · obtain ⟨rfl, -⟩ := q
    simp only [nextS]
    rw [if_neg (by decide), if_neg (by decide), if_neg (by decide), if_neg (by decide), if_neg (by decide), if_pos (by decide)]
    by_cases c : wv < rs.length
    · rw [if_pos c]
      exact next_5a k a hw hm c
    · rw [if_neg c]
      exact next_5b k a hw hm c
  · obtain ⟨rfl, -⟩ := q
    simp only [nextS]
    rw [if_neg (by decide), if_neg (by decide), if_neg (by decide), if_neg (by decide), if_neg (by decide), if_neg (by decide)]
    exact next_6 k

/-- the disk and its words -/
theorem WF.disk {B : Nat} {W : World} {S L D q w h n : Nat} {f : Nat → Bool} {p : Option Addr} {cap : Nat} {st : Int} {wv : Nat} {sp dd : Bool} {g : Nat → Int} {lf : Int} {td : Int} {up th : Bool} {ro : Option Nat} {rs : List (Option Nat)} {bad : Bool} (k : WF B W S L D q w h n f p cap ((st, wv, sp, dd, g, lf), td, up, th, ro, rs, bad)) : DB W D q 2 2 lf ∧ WR W q 2 g := by
  obtain ⟨rq, rn, rc, tq, tn, tc, xs, k, m, r1, r2, r3, r4, r5⟩ := k
  exact ⟨m.2.1, m.2.2⟩
/-- another loom at the same disk -/
theorem WF.loom {B : Nat} {W : World} {S L D q w h n : Nat} {f : Nat → Bool} {p : Option Addr} {cap : Nat} {st : Int} {wv : Nat} {sp dd : Bool} {g : Nat → Int} {lf : Int} {td : Int} {up th : Bool} {ro : Option Nat} {rs : List (Option Nat)} {bad : Bool} (k : WF B W S L D q w h n f p cap ((st, wv, sp, dd, g, lf), td, up, th, ro, rs, bad)) (a : At4 B S L D q)
    {L2 : Nat} {p2 : Option Addr} {c2 : Nat} (hl : LB W L2 w h p2 n c2 D (fsS (g 1) (woN (g 0) h) h) (woN (g 0) h) false false) (ho : W.ownsRow B 4 1 (.slice p2 n c2) n (bitsV f n)) :
    WF B (W.setCell ⟨S, 0, none⟩ (.pointer (some ⟨L2, 0, none⟩))) S L2 D q w h n f p2 c2 (openS h g lf, td, up, th, ro, rs, bad) ∧ KB B W (W.setCell ⟨S, 0, none⟩ (.pointer (some ⟨L2, 0, none⟩))) := by
  obtain ⟨rq, rn, rc, tq, tn, tc, xs, k, m, r1, r2, r3, r4, r5⟩ := k
  dsimp only at k m r1 r2 r3 r4
  have e : Kept (fun i => i = S ∨ i = L ∨ i = D ∨ i = q) W (W.setCell ⟨S, 0, none⟩ (.pointer (some ⟨L2, 0, none⟩))) := (kset W S 0 _).more (fun i hi => .inl (.inl hi))
  obtain ⟨t1, t3, t4, t5⟩ := wf_rest k m a e r1 r3 r4 r5
  have c := k.apart m
  have kb := four_kb k m a e
  exact ⟨⟨rq, rn, rc, tq, tn, tc, xs, k.loom L2, ⟨hl.kept (kset W S 0 _) (hl.1.2.ne k.1.2 (by decide)), m.2.1.far c.2.1 _ _, m.2.2.far c.2.2 _ _⟩, t1, r2, t3, t4, kb.own4 ho⟩, kb⟩
end Go.Proofs.Ytndfecdhmncdaaa
