/-
  The disk's methods, and the small questions of package dobby.
-/
import Derived.Test.YtndfecdhmncdaaaCb
import Derived.WalkMore
import Derived.ScopeJumps
namespace Go.Proofs.Ytndfecdhmncdaaa
open Go.RowKit

/-- all that lay in w0 lies as it lay, but for the blocks of S -/
def Kept (S : Nat → Prop) (w0 W : World) : Prop := W.os = w0.os ∧ W.tape = w0.tape ∧ W.output = w0.output ∧ w0.heap.size ≤ W.heap.size ∧ ∀ k, k < w0.heap.size → ¬ S k → W.heap[k]? = w0.heap[k]?
theorem Kept.refl (S : Nat → Prop) (w : World) : Kept S w w := ⟨rfl, rfl, rfl, Nat.le_refl _, fun _ _ _ => rfl⟩
theorem Kept.trans {S : Nat → Prop} {a b c : World} (h : Kept S a b) (k : Kept S b c) : Kept S a c :=
  ⟨k.1.trans h.1, k.2.1.trans h.2.1, k.2.2.1.trans h.2.2.1, Nat.le_trans h.2.2.2.1 k.2.2.2.1, fun i hi hS => (k.2.2.2.2 i (Nat.lt_of_lt_of_le hi h.2.2.2.1) hS).trans (h.2.2.2.2 i hi hS)⟩
theorem Kept.more {S T : Nat → Prop} {a b : World} (h : Kept S a b) (k : ∀ i, S i → T i ∨ a.heap.size ≤ i) : Kept T a b :=
  ⟨h.1, h.2.1, h.2.2.1, h.2.2.2.1, fun i hi hT => h.2.2.2.2 i hi (fun q => by rcases k i q with r | r; exact hT r; omega)⟩
theorem Kept.below {S : Nat → Prop} {w0 W V : World} (h : Kept S w0 W) (hb : Below W.heap.size W V) : Kept S w0 V :=
  h.trans ⟨hb.os, hb.tape, hb.output, hb.size, fun k hk _ => hb.block k hk⟩
theorem Kept.of {S : Nat → Prop} {W V : World} (hb : Below W.heap.size W V) : Kept S W V := (Kept.refl S W).below hb
theorem Kept.set {S : Nat → Prop} {w0 W : World} (h : Kept S w0 W) {b : Nat} (o : Nat) (v : Value) (hb : S b ∨ w0.heap.size ≤ b) : Kept S w0 (W.setCell ⟨b, o, none⟩ v) :=
  ⟨h.1, h.2.1, h.2.2.1, by simpa using h.2.2.2.1, fun k hk hS => by
    have e : ¬ b = k := fun e => by subst e; rcases hb with q | q; exact hS q; omega
    rw [← h.2.2.2.2 k hk hS]
    simp [World.setCell, Array.getElem?_modify, e]⟩
theorem Kept.al {S : Nat → Prop} {w0 W : World} (h : Kept S w0 W) (o : Obj) : Kept S w0 (W.alloc o) := h.below (bal (Below.refl _ _))
theorem Kept.dr {S : Nat → Prop} {w0 W : World} (h : Kept S w0 W) (n : Nat) : Kept S w0 (W.drewN n) := h.below (Joins.below_draws _ _ _)
theorem Kept.size {S : Nat → Prop} {w0 W : World} (h : Kept S w0 W) : w0.heap.size ≤ W.heap.size := h.2.2.2.1
theorem Kept.cell {S : Nat → Prop} {w0 W : World} (h : Kept S w0 W) {b o : Nat} {v : Value} (hl : b < w0.heap.size) (hS : ¬ S b) (hc : w0.cell? ⟨b, o, none⟩ = some v) : W.cell? ⟨b, o, none⟩ = some v := by
  rw [World.cell?_of_block (a := ⟨b, o, none⟩) (h.2.2.2.2 b hl hS)]; exact hc
theorem Kept.froz {S : Nat → Prop} {w0 W : World} (h : Kept S w0 W) {b o : Nat} (hl : b < w0.heap.size) (hS : ¬ S b) (hc : w0.frozen? ⟨b, o, none⟩ = false) : W.frozen? ⟨b, o, none⟩ = false := by
  rw [World.frozen?_of_block (a := ⟨b, o, none⟩) (h.2.2.2.2 b hl hS)]; exact hc
theorem Kept.back {S : Nat → Prop} {B : Nat} {W w0 V : World} (hb : Below B W w0) (h : Kept S w0 V) (hB : B ≤ w0.heap.size) (hS : ∀ q, S q → B ≤ q) : Below B W V :=
  hb.trans ⟨h.1, h.2.1, h.2.2.1, h.2.2.2.1, fun k hk => h.2.2.2.2 k (by omega) (fun q => by have := hS k q; omega)⟩

/-- a block of this type -/
def Tg (W : World) (b : Nat) (t : TypeId) : Prop := ∃ cur fr, W.heap[b]? = some (.cells cur t fr)
theorem Tg.kept {S : Nat → Prop} {W V : World} {b : Nat} {t : TypeId} (k : Tg W b t) (h : Kept S W V) (hl : b < W.heap.size) (hS : ¬ S b) : Tg V b t := by
  obtain ⟨cur, fr, e⟩ := k
  exact ⟨cur, fr, by rw [h.2.2.2.2 b hl hS]; exact e⟩
theorem Tg.set {W : World} {b : Nat} {t : TypeId} (k : Tg W b t) (a : Addr) (v : Value) : Tg (W.setCell a v) b t := by
  obtain ⟨cur, fr, e⟩ := k
  by_cases h : a.block = b
  · subst h
    simp [Tg, World.setCell, Array.getElem?_modify, e]
  · exact ⟨cur, fr, by simp [World.setCell, Array.getElem?_modify, h, e]⟩
theorem Tg.new (W : World) (cs : Array Value) (t : TypeId) : Tg (W.alloc (.cells cs t)) W.heap.size t := ⟨cs, _, heap_alloc_new W _⟩
theorem Tg.ne {W : World} {b c : Nat} {t u : TypeId} (k : Tg W b t) (l : Tg W c u) (h : t ≠ u) : b ≠ c := by
  rintro rfl
  obtain ⟨cur, fr, e⟩ := k
  obtain ⟨cur2, fr2, e2⟩ := l
  rw [e] at e2
  simp at e2
  exact h e2.2.1
/-- a disk in its box: its words lie in the block q; its power -/
def DB (W : World) (d q n cap : Nat) (lf : Int) : Prop := d < W.heap.size ∧ W.cell? ⟨d, 0, none⟩ = some (.slice (some ⟨q, 0, none⟩) n cap) ∧ W.cell? ⟨d, 1, none⟩ = some (.int .i64 lf) ∧ W.cell? ⟨d, 2, none⟩ = some (.bool false) ∧ W.frozen? ⟨d, 1, none⟩ = false ∧ Tg W d 48
/-- the words -/
def WR (W : World) (q n : Nat) (g : Nat → Int) : Prop := (q < W.heap.size ∧ Tg W q 2) ∧ ∀ j, j < n → W.cell? ⟨q, j, none⟩ = some (.int .i64 (g j)) ∧ W.frozen? ⟨q, j, none⟩ = false
theorem DB.kept {S : Nat → Prop} {W V : World} {d q n cap : Nat} {lf : Int} (k : DB W d q n cap lf) (h : Kept S W V) (hS : ¬ S d) : DB V d q n cap lf :=
  ⟨Nat.lt_of_lt_of_le k.1 h.size, h.cell k.1 hS k.2.1, h.cell k.1 hS k.2.2.1, h.cell k.1 hS k.2.2.2.1, h.froz k.1 hS k.2.2.2.2.1, k.2.2.2.2.2.kept h k.1 hS⟩
theorem WR.kept {S : Nat → Prop} {W V : World} {q n : Nat} {g : Nat → Int} (k : WR W q n g) (h : Kept S W V) (hS : ¬ S q) : WR V q n g :=
  ⟨⟨Nat.lt_of_lt_of_le k.1.1 h.size, k.1.2.kept h k.1.1 hS⟩, fun j hj => ⟨h.cell k.1.1 hS (k.2 j hj).1, h.froz k.1.1 hS (k.2 j hj).2⟩⟩
theorem DB.keep {W V : World} {d q n cap : Nat} {lf : Int} (k : DB W d q n cap lf) (h : Below W.heap.size W V) : DB V d q n cap lf := k.kept (Kept.of (S := fun _ => False) h) id
theorem WR.keep {W V : World} {q n : Nat} {g : Nat → Int} (k : WR W q n g) (h : Below W.heap.size W V) : WR V q n g := k.kept (Kept.of (S := fun _ => False) h) id
theorem kset (W : World) (b o : Nat) (v : Value) : Kept (fun i => i = b) W (W.setCell ⟨b, o, none⟩ v) := (Kept.refl _ W).set o v (.inl rfl)
theorem DB.far {W : World} {d q n cap : Nat} {lf : Int} (k : DB W d q n cap lf) {b : Nat} (hb : d ≠ b) (o : Nat) (v : Value) : DB (W.setCell ⟨b, o, none⟩ v) d q n cap lf := k.kept (kset W b o v) hb
theorem WR.far {W : World} {q n : Nat} {g : Nat → Int} (k : WR W q n g) {b : Nat} (hb : q ≠ b) (o : Nat) (v : Value) : WR (W.setCell ⟨b, o, none⟩ v) q n g := k.kept (kset W b o v) hb
theorem DB.put {W : World} {d q n cap : Nat} {lf : Int} (k : DB W d q n cap lf) (l2 : Int) : DB (W.setCell ⟨d, 1, none⟩ (.int .i64 l2)) d q n cap l2 := by
  refine ⟨by simpa using k.1, ?_, ?_, ?_, by rw [World.frozen?_setCell]; exact k.2.2.2.2.1, k.2.2.2.2.2.set _ _⟩
  · rw [World.cell?_setCell_other _ _ _ _ (by intro e; cases e)]; exact k.2.1
  · rw [World.cell?_setCell_same' _ _ _ (by rw [k.2.2.1]; rfl)]
  · rw [World.cell?_setCell_other _ _ _ _ (by intro e; cases e)]; exact k.2.2.2.1
theorem WR.put {W : World} {q n : Nat} {g : Nat → Int} (k : WR W q n g) (i : Nat) (v : Int) : WR (W.setCell ⟨q, i, none⟩ (.int .i64 v)) q n (fun j => if j = i then v else g j) := by
  refine ⟨⟨by simpa using k.1.1, k.1.2.set _ _⟩, fun j hj => ?_⟩
  obtain ⟨h1, h2⟩ := k.2 j hj
  refine ⟨?_, by rw [World.frozen?_setCell]; exact h2⟩
  by_cases e : j = i
  · subst e
    rw [World.cell?_setCell_same' _ _ _ (by rw [h1]; rfl)]; simp
  · simp [go_sem, e, h1]

set_option maxHeartbeats 1000000 in
theorem size_any {W : World} {d q n cap : Nat} {lf : Int} (k : DB W d q n cap lf) : Calls Try.prog 53 #[.pointer (some ⟨d, 0, none⟩)] W fun e w' => e = .returned (.int .i64 n) ∧ w' = W := by
  obtain ⟨-, c0, c1, c2, c3, -⟩ := k
  go_enter Try.func53, Try.ntmps53
  go_wp2
  go_ret
  exact ⟨rfl, rfl⟩

set_option maxHeartbeats 1000000 in
theorem get_any {W : World} {d q n cap i : Nat} {lf : Int} {g : Nat → Int} (k : DB W d q n cap lf) (r : WR W q n g) (hi : i < n) (h2 : i < 2) : Calls Try.prog 51 #[.pointer (some ⟨d, 0, none⟩), .int .i64 i] W fun e w' => e = .returned (.int .i64 (g i)) ∧ w' = W := by
  obtain ⟨-, c0, c1, c2, c3, -⟩ := k
  obtain ⟨c4, c5⟩ := r.2 i hi
  have q1 : ¬ ((i : Int) < 0) := by omega
  have q2 : decide ((i : Int) < 0) = false := by simp
  have q3 : ¬ ((n : Int) ≤ (i : Int)) := by omega
  have q4 : decide ((n : Int) ≤ (i : Int)) = false := by simpa using q3
  go_enter Try.func51, Try.ntmps51
  go_wp2
  go_ret
  exact ⟨rfl, rfl⟩

set_option maxHeartbeats 1000000 in
theorem put_no {W : World} {d q n cap i : Nat} {lf : Int} (v : Int) (k : DB W d q n cap lf) (hi : i < n) (h2 : i < 2) (hl : lf = 0) : Calls Try.prog 52 #[.pointer (some ⟨d, 0, none⟩), .int .i64 i, .int .i64 v] W fun e w' => e = .returned (.bool false) ∧ w' = W := by
  subst hl
  obtain ⟨-, c0, c1, c2, c3, -⟩ := k
  have q1 : ¬ ((i : Int) < 0) := by omega
  have q2 : decide ((i : Int) < 0) = false := by simp
  have q3 : ¬ ((n : Int) ≤ (i : Int)) := by omega
  have q4 : decide ((n : Int) ≤ (i : Int)) = false := by simpa using q3
  go_enter Try.func52, Try.ntmps52
  go_wp2
  go_ret
  exact ⟨rfl, rfl⟩

/-- what the power is behind a word -/
def lfN (lf : Int) : Int := if 0 < lf then lf - 1 else lf
/-- a word more is put -/
abbrev ptW (g : Nat → Int) (i : Nat) (v : Int) : Nat → Int := fun j => if j = i then v else g j

set_option maxHeartbeats 1000000 in
theorem put_yes {W : World} {d q n cap i : Nat} {lf : Int} {g : Nat → Int} (v : Int) (k : DB W d q n cap lf) (r : WR W q n g) (hi : i < n) (h2 : i < 2) (hl : lf ≠ 0) (hm : lf ≤ 9223372036854775807) :
    Calls Try.prog 52 #[.pointer (some ⟨d, 0, none⟩), .int .i64 i, .int .i64 v] W fun e w' => e = .returned (.bool true) ∧ DB w' d q n cap (lfN lf) ∧ WR w' q n (ptW g i v) ∧ Kept (fun j => j = d ∨ j = q) W w' := by
  have K := hide k
  have R := hide r
  have hdq : d ≠ q := k.2.2.2.2.2.ne r.1.2 (by decide)
  obtain ⟨-, c0, c1, c2, c3, -⟩ := k
  obtain ⟨c4, c5⟩ := r.2 i hi
  have q1 : ¬ ((i : Int) < 0) := by omega
  have q2 : decide ((i : Int) < 0) = false := by simp
  have q3 : ¬ ((n : Int) ≤ (i : Int)) := by omega
  have q4 : decide ((n : Int) ≤ (i : Int)) = false := by simpa using q3
  have q5 : (lf == 0) = false := by simpa using hl
  by_cases h : 0 < lf
  · have e2 : wrap64 (lf - 1) = lf - 1 := by unfold wrap64; omega
    have Hl := hide (show lfN lf = lf - 1 by simp [lfN, h])
    go_enter Try.func52, Try.ntmps52
    go_wp2
    go_ret
    refine ⟨rfl, ?_, ?_, ?_⟩
    · rw [unhide Hl]
      exact ((unhide K).put _).far hdq _ _
    · exact ((unhide R).far (Ne.symm hdq) _ _).put _ _
    · exact ((Kept.refl _ W).set _ _ (.inl (.inl rfl))).set _ _ (.inl (.inr rfl))
  · have h' : decide (0 < lf) = false := by simpa using h
    have Hl := hide (show lfN lf = lf by simp [lfN, h])
    go_enter Try.func52, Try.ntmps52
    go_wp2
    go_ret
    refine ⟨rfl, ?_, ?_, ?_⟩
    · rw [unhide Hl]
      exact (unhide K).far hdq _ _
    · exact (unhide R).put _ _
    · exact (Kept.refl _ W).set _ _ (.inl (.inr rfl))
end Go.Proofs.Ytndfecdhmncdaaa
