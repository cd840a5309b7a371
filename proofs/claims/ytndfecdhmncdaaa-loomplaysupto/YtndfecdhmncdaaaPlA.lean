/-
  Steps, and what is seen behind them, in memory.
-/
import Derived.Test.YtndfecdhmncdaaaPlM
import Derived.Test.YtndfecdhmncdaaaWkE
import Derived.Deep.DeepCutAuto
namespace Go.Proofs.Ytndfecdhmncdaaa
open Go.RowKit

/-- what is seen, in its box -/
def YB (W : World) (bx : Nat) (d0 : Int) (st : Int) (wv : Int) (rq : Option Addr) (rn : Nat) (rc : Nat) (oe : Int) (er : Int) : Prop :=
  (bx < W.heap.size ∧ Tg W bx 34) ∧ (W.cell? ⟨bx, 0, none⟩ = some (.int .i64 d0) ∧ W.cell? ⟨bx, 1, none⟩ = some (.int .i64 st) ∧ W.cell? ⟨bx, 2, none⟩ = some (.int .i64 wv) ∧ W.cell? ⟨bx, 3, none⟩ = some (.slice rq rn rc) ∧ W.cell? ⟨bx, 4, none⟩ = some (.int .i64 oe) ∧ W.cell? ⟨bx, 5, none⟩ = some (.int .i64 er)) ∧
  (W.frozen? ⟨bx, 0, none⟩ = false ∧ W.frozen? ⟨bx, 1, none⟩ = false ∧ W.frozen? ⟨bx, 2, none⟩ = false ∧ W.frozen? ⟨bx, 3, none⟩ = false ∧ W.frozen? ⟨bx, 4, none⟩ = false ∧ W.frozen? ⟨bx, 5, none⟩ = false)
theorem YB.kept {Z : Nat → Prop} {W V : World} {bx : Nat} {d0 : Int} {st : Int} {wv : Int} {rq : Option Addr} {rn : Nat} {rc : Nat} {oe : Int} {er : Int} (k : YB W bx d0 st wv rq rn rc oe er) (e : Kept Z W V) (hS : ¬ Z bx) : YB V bx d0 st wv rq rn rc oe er := by
  obtain ⟨⟨l, t⟩, ⟨a0, a1, a2, a3, a4, a5⟩, b0, b1, b2, b3, b4, b5⟩ := k
  exact ⟨⟨Nat.lt_of_lt_of_le l e.size, t.kept e l hS⟩, ⟨e.cell l hS a0, e.cell l hS a1, e.cell l hS a2, e.cell l hS a3, e.cell l hS a4, e.cell l hS a5⟩, e.froz l hS b0, e.froz l hS b1, e.froz l hS b2, e.froz l hS b3, e.froz l hS b4, e.froz l hS b5⟩
theorem YB.keep {W V : World} {bx : Nat} {d0 : Int} {st : Int} {wv : Int} {rq : Option Addr} {rn : Nat} {rc : Nat} {oe : Int} {er : Int} (k : YB W bx d0 st wv rq rn rc oe er) (e : Below W.heap.size W V) : YB V bx d0 st wv rq rn rc oe er := k.kept (Kept.of (S := fun _ => False) e) id
theorem YB.far {W : World} {bx : Nat} {d0 : Int} {st : Int} {wv : Int} {rq : Option Addr} {rn : Nat} {rc : Nat} {oe : Int} {er : Int} (k : YB W bx d0 st wv rq rn rc oe er) {b : Nat} (h1 : bx ≠ b) (o : Nat) (v : Value) : YB (W.setCell ⟨b, o, none⟩ v) bx d0 st wv rq rn rc oe er := k.kept (kset W b o v) h1
theorem YB.new (W : World) (d0 : Int) (st : Int) (wv : Int) (rq : Option Addr) (rn : Nat) (rc : Nat) (oe : Int) (er : Int) : YB (W.alloc (.cells #[.int .i64 d0, .int .i64 st, .int .i64 wv, .slice rq rn rc, .int .i64 oe, .int .i64 er] 34)) W.heap.size d0 st wv rq rn rc oe er :=
  ⟨⟨by simp, Tg.new _ _ _⟩, ⟨by simp [go_sem], by simp [go_sem], by simp [go_sem], by simp [go_sem], by simp [go_sem], by simp [go_sem]⟩, by simp [go_sem], by simp [go_sem], by simp [go_sem], by simp [go_sem], by simp [go_sem], by simp [go_sem]⟩
theorem YB.do {W : World} {bx : Nat} {d0 : Int} {st : Int} {wv : Int} {rq : Option Addr} {rn : Nat} {rc : Nat} {oe : Int} {er : Int} (k : YB W bx d0 st wv rq rn rc oe er) (x : Int) : YB (W.setCell ⟨bx, 0, none⟩ (.int .i64 x)) bx x st wv rq rn rc oe er := by
  obtain ⟨⟨l, t⟩, ⟨a0, a1, a2, a3, a4, a5⟩, b0, b1, b2, b3, b4, b5⟩ := k
  exact ⟨⟨by simpa using l, t.set _ _⟩, ⟨csame a0, cset a1 (by decide), cset a2 (by decide), cset a3 (by decide), cset a4 (by decide), cset a5 (by decide)⟩, fset b0, fset b1, fset b2, fset b3, fset b4, fset b5⟩
theorem YB.state {W : World} {bx : Nat} {d0 : Int} {st : Int} {wv : Int} {rq : Option Addr} {rn : Nat} {rc : Nat} {oe : Int} {er : Int} (k : YB W bx d0 st wv rq rn rc oe er) (x : Int) : YB (W.setCell ⟨bx, 1, none⟩ (.int .i64 x)) bx d0 x wv rq rn rc oe er := by
  obtain ⟨⟨l, t⟩, ⟨a0, a1, a2, a3, a4, a5⟩, b0, b1, b2, b3, b4, b5⟩ := k
  exact ⟨⟨by simpa using l, t.set _ _⟩, ⟨cset a0 (by decide), csame a1, cset a2 (by decide), cset a3 (by decide), cset a4 (by decide), cset a5 (by decide)⟩, fset b0, fset b1, fset b2, fset b3, fset b4, fset b5⟩
theorem YB.woven {W : World} {bx : Nat} {d0 : Int} {st : Int} {wv : Int} {rq : Option Addr} {rn : Nat} {rc : Nat} {oe : Int} {er : Int} (k : YB W bx d0 st wv rq rn rc oe er) (x : Int) : YB (W.setCell ⟨bx, 2, none⟩ (.int .i64 x)) bx d0 st x rq rn rc oe er := by
  obtain ⟨⟨l, t⟩, ⟨a0, a1, a2, a3, a4, a5⟩, b0, b1, b2, b3, b4, b5⟩ := k
  exact ⟨⟨by simpa using l, t.set _ _⟩, ⟨cset a0 (by decide), cset a1 (by decide), csame a2, cset a3 (by decide), cset a4 (by decide), cset a5 (by decide)⟩, fset b0, fset b1, fset b2, fset b3, fset b4, fset b5⟩
theorem YB.row {W : World} {bx : Nat} {d0 : Int} {st : Int} {wv : Int} {rq : Option Addr} {rn : Nat} {rc : Nat} {oe : Int} {er : Int} (k : YB W bx d0 st wv rq rn rc oe er) (q2 : Option Addr) (n2 c2 : Nat) : YB (W.setCell ⟨bx, 3, none⟩ (.slice q2 n2 c2)) bx d0 st wv q2 n2 c2 oe er := by
  obtain ⟨⟨l, t⟩, ⟨a0, a1, a2, a3, a4, a5⟩, b0, b1, b2, b3, b4, b5⟩ := k
  exact ⟨⟨by simpa using l, t.set _ _⟩, ⟨cset a0 (by decide), cset a1 (by decide), cset a2 (by decide), csame a3, cset a4 (by decide), cset a5 (by decide)⟩, fset b0, fset b1, fset b2, fset b3, fset b4, fset b5⟩
theorem YB.err {W : World} {bx : Nat} {d0 : Int} {st : Int} {wv : Int} {rq : Option Addr} {rn : Nat} {rc : Nat} {oe : Int} {er : Int} (k : YB W bx d0 st wv rq rn rc oe er) (x : Int) : YB (W.setCell ⟨bx, 5, none⟩ (.int .i64 x)) bx d0 st wv rq rn rc oe x := by
  obtain ⟨⟨l, t⟩, ⟨a0, a1, a2, a3, a4, a5⟩, b0, b1, b2, b3, b4, b5⟩ := k
  exact ⟨⟨by simpa using l, t.set _ _⟩, ⟨cset a0 (by decide), cset a1 (by decide), cset a2 (by decide), cset a3 (by decide), cset a4 (by decide), csame a5⟩, fset b0, fset b1, fset b2, fset b3, fset b4, fset b5⟩
/-- a step, in its box -/
def XB (W : World) (bx : Nat) (P : Int) (O : Bool) (E : Int) : Prop :=
  (bx < W.heap.size ∧ Tg W bx 53) ∧ (W.cell? ⟨bx, 0, none⟩ = some (.int .i64 P) ∧ W.cell? ⟨bx, 1, none⟩ = some (.bool O) ∧ W.cell? ⟨bx, 2, none⟩ = some (.int .i64 E)) ∧
  (W.frozen? ⟨bx, 0, none⟩ = false ∧ W.frozen? ⟨bx, 1, none⟩ = false ∧ W.frozen? ⟨bx, 2, none⟩ = false)
theorem XB.kept {Z : Nat → Prop} {W V : World} {bx : Nat} {P : Int} {O : Bool} {E : Int} (k : XB W bx P O E) (e : Kept Z W V) (hS : ¬ Z bx) : XB V bx P O E := by
  obtain ⟨⟨l, t⟩, ⟨a0, a1, a2⟩, b0, b1, b2⟩ := k
  exact ⟨⟨Nat.lt_of_lt_of_le l e.size, t.kept e l hS⟩, ⟨e.cell l hS a0, e.cell l hS a1, e.cell l hS a2⟩, e.froz l hS b0, e.froz l hS b1, e.froz l hS b2⟩
theorem XB.keep {W V : World} {bx : Nat} {P : Int} {O : Bool} {E : Int} (k : XB W bx P O E) (e : Below W.heap.size W V) : XB V bx P O E := k.kept (Kept.of (S := fun _ => False) e) id
theorem XB.far {W : World} {bx : Nat} {P : Int} {O : Bool} {E : Int} (k : XB W bx P O E) {b : Nat} (h1 : bx ≠ b) (o : Nat) (v : Value) : XB (W.setCell ⟨b, o, none⟩ v) bx P O E := k.kept (kset W b o v) h1
theorem XB.new (W : World) (P : Int) (O : Bool) (E : Int) : XB (W.alloc (.cells #[.int .i64 P, .bool O, .int .i64 E] 53)) W.heap.size P O E :=
  ⟨⟨by simp, Tg.new _ _ _⟩, ⟨by simp [go_sem], by simp [go_sem], by simp [go_sem]⟩, by simp [go_sem], by simp [go_sem], by simp [go_sem]⟩
/-- steps that lie in a slice -/
def Sc (W : World) (q : Option Addr) (m : Nat) (P : Nat → Int) (O : Nat → Bool) (E : Nat → Int) : Prop := m = 0 ∨ ∃ b o, q = some ⟨b, o, none⟩ ∧ b < W.heap.size ∧ ∀ k, k < m → W.cell? ⟨b, o + k * 3, none⟩ = some (.int .i64 (P k)) ∧ W.cell? ⟨b, o + k * 3 + 1, none⟩ = some (.bool (O k)) ∧ W.cell? ⟨b, o + k * 3 + 2, none⟩ = some (.int .i64 (E k))
theorem Sc.keep {W V : World} {q : Option Addr} {m : Nat} {P : Nat → Int} {O : Nat → Bool} {E : Nat → Int} (h : Sc W q m P O E) (hb : Below W.heap.size W V) : Sc V q m P O E := by
  rcases h with h | ⟨b, o, e, hl, hk⟩
  · exact .inl h
  · exact .inr ⟨b, o, e, Nat.lt_of_lt_of_le hl hb.size, fun k hkn => ⟨keepC hb hl (hk k hkn).1, keepC hb hl (hk k hkn).2.1, keepC hb hl (hk k hkn).2.2⟩⟩
theorem Sc.at {W : World} {q : Option Addr} {m k : Nat} {P : Nat → Int} {O : Nat → Bool} {E : Nat → Int} (h : Sc W q m P O E) (hk : k < m) : ∃ b o, q = some ⟨b, o, none⟩ ∧ W.cell? ⟨b, o + k * 3, none⟩ = some (.int .i64 (P k)) ∧ W.cell? ⟨b, o + k * 3 + 1, none⟩ = some (.bool (O k)) ∧ W.cell? ⟨b, o + k * 3 + 2, none⟩ = some (.int .i64 (E k)) := by
  rcases h with h | ⟨b, o, e, hl, hc⟩
  · omega
  · exact ⟨b, o, e, hc k hk⟩

/-- the cells of what is seen, the row by its value -/
def snC (e : Sn × Value) : List Value := [.int .i64 e.1.1, .int .i64 e.1.2.1, .int .i64 (e.1.2.2.1 : Nat), e.2, .int .i64 e.1.2.2.2.2.1, .int .i64 e.1.2.2.2.2.2]
def snsV (l : List (Sn × Value)) : List Value := (l.map snC).flatten
theorem snsV_snoc (l : List (Sn × Value)) (e : Sn × Value) : snsV (l ++ [e]) = snsV l ++ snC e := by simp [snsV]
theorem snsV_len (l : List (Sn × Value)) : (snsV l).length = l.length * 6 := by
  induction l with
  | nil => rfl
  | cons e l ih =>
    simp only [snsV, List.map_cons, List.flatten_cons, List.length_append, List.length_cons] at ih ⊢
    rw [ih]
    simp [snC]
    omega
theorem snsV_get (l : List (Sn × Value)) : ∀ (k : Nat) (e : Sn × Value), l[k]? = some e → ∀ o, o < 6 → (snsV l)[k * 6 + o]? = (snC e)[o]? := by
  induction l with
  | nil => intro k e h; simp at h
  | cons x l ih =>
    intro k e h o ho
    have hx : (snC x).length = 6 := rfl
    rw [show snsV (x :: l) = snC x ++ snsV l by simp [snsV]]
    cases k with
    | zero =>
      simp at h
      subst h
      rw [Nat.zero_mul, Nat.zero_add, List.getElem?_append_left (by rw [hx]; exact ho)]
    | succ k =>
      simp at h
      rw [List.getElem?_append_right (by rw [hx]; omega), hx, show (k + 1) * 6 + o - 6 = k * 6 + o by omega]
      exact ih k e h o ho
/-- the rows of what is seen -/
def OL (B : Nat) (W : World) (f : Nat → Bool) (w : Nat) (l : List (Sn × Value)) : Prop := ∀ e, e ∈ l → W.ownsRow B 4 1 e.2 (lnO w e.1.2.2.2.1) (biO f w e.1.2.2.2.1)
theorem OL.kept {B : Nat} {Z : Nat → Prop} {W V : World} {f : Nat → Bool} {w : Nat} {l : List (Sn × Value)} (h : OL B W f w l) (k : Kept Z W V) (hZ : ∀ i, Z i → ¬ Tg W i 4) : OL B V f w l := fun e he => own_kept (h e he) k hZ
theorem OL.keep {B : Nat} {W V : World} {f : Nat → Bool} {w : Nat} {l : List (Sn × Value)} (h : OL B W f w l) (k : Below W.heap.size W V) : OL B V f w l := fun e he => own_keep (h e he) k
theorem OL.snoc {B : Nat} {W : World} {f : Nat → Bool} {w : Nat} {l : List (Sn × Value)} (h : OL B W f w l) {e : Sn × Value} (k : W.ownsRow B 4 1 e.2 (lnO w e.1.2.2.2.1) (biO f w e.1.2.2.2.1)) : OL B W f w (l ++ [e]) := by
  intro x hx
  rcases List.mem_append.1 hx with c | c
  · exact h x c
  · rw [List.mem_singleton.1 c]; exact k
theorem info34 : (Try.prog.info? 34).map (fun i => (i.zero, i.size, i.bytes)) = some (some (.agg #[.int .i64 0, .int .i64 0, .int .i64 0, .slice none 0 0, .int .i64 0, .int .i64 0]), 6, 64) := by kernel_rfl
theorem cell_six_new (w : World) (e : Sn × Value) (t : TypeId) : ∀ (j : Nat) (u : Value), (snC e)[j]? = some u → (w.alloc (.cells #[.int .i64 e.1.1, .int .i64 e.1.2.1, .int .i64 (e.1.2.2.1 : Nat), e.2, .int .i64 e.1.2.2.2.2.1, .int .i64 e.1.2.2.2.2.2] t)).cell? ((⟨w.heap.size, 0, none⟩ : Addr).add j) = some u := by
  intro j u hj
  match j, hj with
  | 0, hj => simp [snC] at hj; subst hj; simp [Addr.add, go_sem]
  | 1, hj => simp [snC] at hj; subst hj; simp [Addr.add, go_sem]
  | 2, hj => simp [snC] at hj; subst hj; simp [Addr.add, go_sem]
  | 3, hj => simp [snC] at hj; subst hj; simp [Addr.add, go_sem]
  | 4, hj => simp [snC] at hj; subst hj; simp [Addr.add, go_sem]
  | 5, hj => simp [snC] at hj; subst hj; simp [Addr.add, go_sem]
  | j + 6, hj => simp [snC] at hj

/-- Row, in any state -/
theorem row_of {W : World} {L w h : Nat} {p : Option Addr} {n cap D : Nat} {st : Int} {wv : Nat} {sp dd : Bool} {f : Nat → Bool} (g : Nat → Int) (lf : Int) (k : LB W L w h p n cap D st wv sp dd) (hB : Bs W p n cap f) (hn : n = w * h) (hw : w ≤ 64) (hh : h ≤ 64) (hw0 : 0 < w) (hP : Pi h (st, wv, sp, dd, g, lf)) :
    Calls Try.prog 16 #[.pointer (some ⟨L, 0, none⟩)] W fun e w' => ∃ q rn c er, e = .returned (.tuple #[.slice q rn c, .int .i64 er]) ∧ w'.ownsRow W.heap.size 4 1 (.slice q rn c) (lnO w (roS (st, wv, sp, dd, g, lf))) (biO f w (roS (st, wv, sp, dd, g, lf))) ∧ Below W.heap.size W w' := by
  cases ha : amid st with
  | false =>
    have e : roS (st, wv, sp, dd, g, lf) = none := by simp [roS, ha]
    rw [e]
    exact (row_no k ha).mono fun e' w' q => ⟨none, 0, 0, 9, q.1, World.ownsRow_nil _ _ _ _, by rw [q.2]; exact Below.refl _ _⟩
  | true =>
    have e : roS (st, wv, sp, dd, g, lf) = some wv := by simp [roS, ha]
    rw [e]
    have := (amid_iff st).1 ha
    refine (row_ok k hB hn hw hh hw0 (hP.2.1 (by omega)) ha).mono fun e' w' q => ?_
    obtain ⟨q, c, e1, e2, e3⟩ := q
    exact ⟨q, w, c, 0, e1, e2, e3⟩
end Go.Proofs.Ytndfecdhmncdaaa
