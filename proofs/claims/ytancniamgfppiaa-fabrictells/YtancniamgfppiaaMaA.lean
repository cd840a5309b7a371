/-
  A machine in memory.
-/
import Derived.Test.YtancniamgfppiaaKM
namespace Go.Proofs.Ytancniamgfppiaa
open Go.RowKit

/-- a place in its box -/
def PB (W : World) (b : Nat) (x y : Int) : Prop := (b < W.heap.size ∧ Tg W b 75) ∧ W.cell? ⟨b, 0, none⟩ = some (.int .i64 x) ∧ W.cell? ⟨b, 1, none⟩ = some (.int .i64 y)
theorem PB.kept {S : Nat → Prop} {W V : World} {b : Nat} {x y : Int} (k : PB W b x y) (e : Kept S W V) (hS : ¬ S b) : PB V b x y :=
  ⟨⟨Nat.lt_of_lt_of_le k.1.1 e.size, k.1.2.kept e k.1.1 hS⟩, e.cell k.1.1 hS k.2.1, e.cell k.1.1 hS k.2.2⟩
theorem PB.keep {W V : World} {b : Nat} {x y : Int} (k : PB W b x y) (e : Below W.heap.size W V) : PB V b x y := k.kept (Kept.of (S := fun _ => False) e) id
theorem PB.new (W : World) (x y : Int) : PB (W.alloc (.cells #[.int .i64 x, .int .i64 y] 75)) W.heap.size x y := ⟨⟨by simp, Tg.new _ _ _⟩, by simp [go_sem], by simp [go_sem]⟩
/-- a stitch, as a value; in its box -/
abbrev sxV (x : Sx) : Value := .agg #[.int .i64 x.dk, .int .i64 x.bed, .int .i64 x.ndl, .int .i64 x.car, .int .i64 x.tt]
def XB (W : World) (b : Nat) (x : Sx) : Prop := (b < W.heap.size ∧ Tg W b 24) ∧ W.cell? ⟨b, 0, none⟩ = some (.int .i64 x.dk) ∧ W.cell? ⟨b, 1, none⟩ = some (.int .i64 x.bed) ∧ W.cell? ⟨b, 2, none⟩ = some (.int .i64 x.ndl) ∧ W.cell? ⟨b, 3, none⟩ = some (.int .i64 x.car) ∧ W.cell? ⟨b, 4, none⟩ = some (.int .i64 x.tt)
theorem XB.kept {S : Nat → Prop} {W V : World} {b : Nat} {x : Sx} (k : XB W b x) (e : Kept S W V) (hS : ¬ S b) : XB V b x := by
  obtain ⟨⟨l, t⟩, a0, a1, a2, a3, a4⟩ := k
  exact ⟨⟨Nat.lt_of_lt_of_le l e.size, t.kept e l hS⟩, e.cell l hS a0, e.cell l hS a1, e.cell l hS a2, e.cell l hS a3, e.cell l hS a4⟩
theorem XB.keep {W V : World} {b : Nat} {x : Sx} (k : XB W b x) (e : Below W.heap.size W V) : XB V b x := k.kept (Kept.of (S := fun _ => False) e) id
theorem XB.new (W : World) (x : Sx) : XB (W.alloc (.cells #[.int .i64 x.dk, .int .i64 x.bed, .int .i64 x.ndl, .int .i64 x.car, .int .i64 x.tt] 24)) W.heap.size x := ⟨⟨by simp, Tg.new _ _ _⟩, by simp [go_sem], by simp [go_sem], by simp [go_sem], by simp [go_sem], by simp [go_sem]⟩

/-- a bed: a row of what its needles hold -/
def BR (W : World) (b k : Nat) (h : Nat → Value) : Prop := (b < W.heap.size ∧ Tg W b 27) ∧ ∀ j, j < k → W.cell? ⟨b, j, none⟩ = some (h j) ∧ W.frozen? ⟨b, j, none⟩ = false
theorem BR.kept {S : Nat → Prop} {W V : World} {b k : Nat} {h : Nat → Value} (r : BR W b k h) (e : Kept S W V) (hS : ¬ S b) : BR V b k h :=
  ⟨⟨Nat.lt_of_lt_of_le r.1.1 e.size, r.1.2.kept e r.1.1 hS⟩, fun j hj => ⟨e.cell r.1.1 hS (r.2 j hj).1, e.froz r.1.1 hS (r.2 j hj).2⟩⟩
def putV (h : Nat → Value) (n : Nat) (v : Value) : Nat → Value := fun j => if j = n then v else h j
theorem BR.put {W : World} {b k : Nat} {h : Nat → Value} (r : BR W b k h) (n : Nat) (v : Value) : BR (W.setCell ⟨b, n, none⟩ v) b k (putV h n v) := by
  refine ⟨⟨by simpa using r.1.1, r.1.2.set _ _⟩, fun j hj => ⟨?_, fset (r.2 j hj).2⟩⟩
  unfold putV
  by_cases e : j = n
  · subst e
    rw [if_pos rfl]
    exact csame (r.2 j hj).1
  · rw [if_neg e]
    exact cset (r.2 j hj).1 e

/-- a loop's cells, and what they mean -/
def lpC (l : List (Int × Value × List Nat)) : List Value := (l.map fun e => [Value.int .i64 e.1, e.2.1]).flatten
abbrev lpA (e : Int × Value × List Nat) : Int × List Nat := (e.1, e.2.2)
theorem lpC_len (l : List (Int × Value × List Nat)) : (lpC l).length = l.length * 2 := by
  induction l with
  | nil => rfl
  | cons e l ih =>
    simp only [lpC, List.map_cons, List.flatten_cons, List.length_append, List.length_cons] at ih ⊢
    rw [ih]
    simp
    omega
theorem lpC_app (l m : List (Int × Value × List Nat)) : lpC (l ++ m) = lpC l ++ lpC m := by simp [lpC]
theorem lpC_one {l : List (Int × Value × List Nat)} (h : ∀ e ∈ l, e.2.1.oneCell' = true) : ∀ u ∈ lpC l, u.oneCell' = true := by
  intro u hu
  obtain ⟨c, hc, hu⟩ := List.mem_flatten.1 hu
  obtain ⟨e, he, rfl⟩ := List.mem_map.1 hc
  simp at hu
  rcases hu with rfl | rfl
  · rfl
  · exact h e he
theorem lpC_get (l : List (Int × Value × List Nat)) : ∀ (k : Nat) (e : Int × Value × List Nat), l[k]? = some e → (lpC l)[k * 2]? = some (.int .i64 e.1) ∧ (lpC l)[k * 2 + 1]? = some e.2.1 := by
  induction l with
  | nil => intro k e h; simp at h
  | cons x l ih =>
    intro k e h
    rw [show lpC (x :: l) = [Value.int .i64 x.1, x.2.1] ++ lpC l by simp [lpC]]
    cases k with
    | zero =>
      simp at h
      subst h
      simp
    | succ k =>
      simp at h
      have := ih k e h
      rw [List.getElem?_append_right (by simp; omega), List.getElem?_append_right (by simp; omega)]
      simp only [List.length_cons, List.length_nil]
      rw [show (k + 1) * 2 - (0 + 1 + 1) = k * 2 by omega, show (k + 1) * 2 + 1 - (0 + 1 + 1) = k * 2 + 1 by omega]
      exact this
theorem NR.one {W : World} {B : Nat} {v : Value} {xs : List Nat} (h : NR W B v xs) : v.oneCell' = true := by
  obtain ⟨q, c, rfl⟩ := h.form
  rfl

/-- where a machine's parts lie, and whose a block is -/
structure Mg where
  bb : Nat → Nat
  h : Nat → Nat → Value
  lv : Value
  ls : List (Int × Value × List Nat)
  sv : Value
  ow : Nat → Nat × Nat
/-- the machine's box -/
def MX (W : World) (m N : Nat) (g : Mg) (rk : Int) (dn : Nat) : Prop :=
  (m < W.heap.size ∧ Tg W m 73) ∧ (W.cell? ⟨m, 0, none⟩ = some (.slice (some ⟨g.bb 0, 0, none⟩) N N) ∧ W.cell? ⟨m, 1, none⟩ = some (.slice (some ⟨g.bb 1, 0, none⟩) N N) ∧ W.cell? ⟨m, 2, none⟩ = some (.int .i64 rk) ∧ W.cell? ⟨m, 3, none⟩ = some g.lv ∧ W.cell? ⟨m, 4, none⟩ = some g.sv ∧ W.cell? ⟨m, 5, none⟩ = some (.int .i64 (dn : Int))) ∧
  (W.frozen? ⟨m, 2, none⟩ = false ∧ W.frozen? ⟨m, 3, none⟩ = false ∧ W.frozen? ⟨m, 4, none⟩ = false ∧ W.frozen? ⟨m, 5, none⟩ = false)
theorem MX.kept {S : Nat → Prop} {W V : World} {m N : Nat} {g : Mg} {rk : Int} {dn : Nat} (k : MX W m N g rk dn) (e : Kept S W V) (hS : ¬ S m) : MX V m N g rk dn := by
  obtain ⟨⟨l, t⟩, ⟨a0, a1, a2, a3, a4, a5⟩, b2, b3, b4, b5⟩ := k
  exact ⟨⟨Nat.lt_of_lt_of_le l e.size, t.kept e l hS⟩, ⟨e.cell l hS a0, e.cell l hS a1, e.cell l hS a2, e.cell l hS a3, e.cell l hS a4, e.cell l hS a5⟩, e.froz l hS b2, e.froz l hS b3, e.froz l hS b4, e.froz l hS b5⟩
/-- the cells name what the ghost names -/
theorem MX.ghost {W : World} {m N : Nat} {g g' : Mg} {rk : Int} {dn : Nat} (k : MX W m N g rk dn) (h1 : g'.bb = g.bb) (h2 : g'.lv = g.lv) (h3 : g'.sv = g.sv) : MX W m N g' rk dn := by
  unfold MX
  rw [h1, h2, h3]
  exact k
theorem MX.rack {W : World} {m N : Nat} {g : Mg} {rk : Int} {dn : Nat} (k : MX W m N g rk dn) (r2 : Int) : MX (W.setCell ⟨m, 2, none⟩ (.int .i64 r2)) m N g r2 dn := by
  obtain ⟨⟨l, t⟩, ⟨a0, a1, a2, a3, a4, a5⟩, b2, b3, b4, b5⟩ := k
  exact ⟨⟨by simpa using l, t.set _ _⟩, ⟨cset a0 (by decide), cset a1 (by decide), csame a2, cset a3 (by decide), cset a4 (by decide), cset a5 (by decide)⟩, fset b2, fset b3, fset b4, fset b5⟩
theorem MX.loops {W : World} {m N : Nat} {g : Mg} {rk : Int} {dn : Nat} (k : MX W m N g rk dn) (v : Value) (ls : List (Int × Value × List Nat)) : MX (W.setCell ⟨m, 3, none⟩ v) m N { g with lv := v, ls := ls } rk dn := by
  obtain ⟨⟨l, t⟩, ⟨a0, a1, a2, a3, a4, a5⟩, b2, b3, b4, b5⟩ := k
  exact ⟨⟨by simpa using l, t.set _ _⟩, ⟨cset a0 (by decide), cset a1 (by decide), cset a2 (by decide), csame a3, cset a4 (by decide), cset a5 (by decide)⟩, fset b2, fset b3, fset b4, fset b5⟩
theorem MX.loose {W : World} {m N : Nat} {g : Mg} {rk : Int} {dn : Nat} (k : MX W m N g rk dn) (v : Value) (ow : Nat → Nat × Nat) : MX (W.setCell ⟨m, 4, none⟩ v) m N { g with sv := v, ow := ow } rk dn := by
  obtain ⟨⟨l, t⟩, ⟨a0, a1, a2, a3, a4, a5⟩, b2, b3, b4, b5⟩ := k
  exact ⟨⟨by simpa using l, t.set _ _⟩, ⟨cset a0 (by decide), cset a1 (by decide), cset a2 (by decide), cset a3 (by decide), csame a4, cset a5 (by decide)⟩, fset b2, fset b3, fset b4, fset b5⟩
theorem MX.count {W : World} {m N : Nat} {g : Mg} {rk : Int} {dn : Nat} (k : MX W m N g rk dn) (d2 : Nat) : MX (W.setCell ⟨m, 5, none⟩ (.int .i64 (d2 : Int))) m N g rk d2 := by
  obtain ⟨⟨l, t⟩, ⟨a0, a1, a2, a3, a4, a5⟩, b2, b3, b4, b5⟩ := k
  exact ⟨⟨by simpa using l, t.set _ _⟩, ⟨cset a0 (by decide), cset a1 (by decide), cset a2 (by decide), cset a3 (by decide), cset a4 (by decide), csame a5⟩, fset b2, fset b3, fset b4, fset b5⟩

/-- whose row it is -/
def Ow (g : Mg) (v : Value) (o : Nat × Nat) : Prop := ∀ k, v.ownBlock = some k → g.ow k = o
/-- a machine in memory: box, beds, the needles' rows, loops, what is loose -/
structure MB (B : Nat) (W : World) (m N : Nat) (s : St) (g : Mg) : Prop where
  box : MX W m N g s.rack s.done
  bed : ∀ b, b < 2 → BR W (g.bb b) N (g.h b) ∧ B ≤ g.bb b
  two : g.bb 0 ≠ g.bb 1
  ndl : ∀ b n, b < 2 → n < N → NR W B (g.h b n) (s.on b n) ∧ Ow g (g.h b n) (b, n)
  lps : W.ownsRow B 43 2 g.lv g.ls.length (lpC g.ls) ∧ g.ls.map lpA = s.loops
  thr : ∀ e, e ∈ g.ls → NR W B e.2.1 e.2.2 ∧ Ow g e.2.1 (3, 0)
  lse : NR W B g.sv s.loose ∧ Ow g g.sv (2, 0)
  low : B ≤ m
/-- blocks of a machine's types -/
def mt (W : World) (i : Nat) : Prop := Tg W i 73 ∨ Tg W i 27 ∨ Tg W i 3 ∨ Tg W i 43
/-- all is as it was but for machines -/
def Kt (B : Nat) (W V : World) : Prop := Kept (fun i => B ≤ i ∧ mt W i) W V
theorem Kt.refl (B : Nat) (W : World) : Kt B W W := Kept.refl _ _
theorem Kt.keep {B : Nat} {W V : World} (h : Below W.heap.size W V) : Kt B W V := Kept.of h
theorem Kt.of {B : Nat} {S : Nat → Prop} {W V : World} (h : Kept S W V) (k : ∀ i, S i → B ≤ i ∧ mt W i) : Kt B W V := h.more (fun i q => .inl (k i q))
theorem Kt.trans {B : Nat} {W V U : World} (h : Kt B W V) (k : Kt B V U) : Kt B W U :=
  ⟨k.1.trans h.1, k.2.1.trans h.2.1, k.2.2.1.trans h.2.2.1, Nat.le_trans h.size k.size, fun i hi hn => by
    have e := h.2.2.2.2 i hi hn
    rw [← e]
    exact k.2.2.2.2 i (Nat.lt_of_lt_of_le hi h.size) (fun q => hn ⟨q.1, by
      have := q.2
      unfold mt at this ⊢
      simpa only [tg_block e] using this⟩)⟩
theorem mt_not {W : World} {i : Nat} {t : TypeId} (h : Tg W i t) (h1 : t ≠ 73) (h2 : t ≠ 27) (h3 : t ≠ 3) (h4 : t ≠ 43) : ¬ mt W i := by
  rintro (q | q | q | q)
  · exact tg_not h h1 q
  · exact tg_not h h2 q
  · exact tg_not h h3 q
  · exact tg_not h h4 q
theorem Kt.back {B : Nat} {W0 W V : World} (h : Below B W0 W) (k : Kt B W V) (hB : B ≤ W.heap.size) : Below B W0 V := Kept.back h k hB (fun _ q => q.1)
theorem Kt.pb {B : Nat} {W V : World} {b : Nat} {x y : Int} (k : Kt B W V) (h : PB W b x y) : PB V b x y := h.kept k (fun q => mt_not h.1.2 (by decide) (by decide) (by decide) (by decide) q.2)
theorem Kt.xb {B : Nat} {W V : World} {b : Nat} {x : Sx} (k : Kt B W V) (h : XB W b x) : XB V b x := h.kept k (fun q => mt_not h.1.2 (by decide) (by decide) (by decide) (by decide) q.2)
theorem Kt.own {B C : Nat} {W V : World} {e : TypeId} {z : Nat} {v : Value} {n : Nat} {xs : List Value} (k : Kt B W V) (h : W.ownsRow C e z v n xs) (h1 : e ≠ 73) (h2 : e ≠ 27) (h3 : e ≠ 3) (h4 : e ≠ 43) : V.ownsRow C e z v n xs :=
  own_kept h k (fun _ q t => mt_not t h1 h2 h3 h4 q.2)

/-- a machine stays where its blocks do -/
theorem MB.kept {B : Nat} {S : Nat → Prop} {W V : World} {m N : Nat} {s : St} {g : Mg} (k : MB B W m N s g) (e : Kept S W V) (hS : ∀ i, S i → ¬ mt W i) : MB B V m N s g where
  box := k.box.kept e (fun q => hS _ q (.inl k.box.1.2))
  bed b hb := ⟨(k.bed b hb).1.kept e (fun q => hS _ q (.inr (.inl (k.bed b hb).1.1.2))), (k.bed b hb).2⟩
  two := k.two
  ndl b n hb hn := ⟨(k.ndl b n hb hn).1.kept e (fun i q t => hS i q (.inr (.inr (.inl t)))), (k.ndl b n hb hn).2⟩
  lps := ⟨own_kept k.lps.1 e (fun i q t => hS i q (.inr (.inr (.inr t)))), k.lps.2⟩
  thr x hx := ⟨(k.thr x hx).1.kept e (fun i q t => hS i q (.inr (.inr (.inl t)))), (k.thr x hx).2⟩
  lse := ⟨k.lse.1.kept e (fun i q t => hS i q (.inr (.inr (.inl t)))), k.lse.2⟩
  low := k.low
theorem MB.keep {B : Nat} {W V : World} {m N : Nat} {s : St} {g : Mg} (k : MB B W m N s g) (e : Below W.heap.size W V) : MB B V m N s g := k.kept (Kept.of (S := fun _ => False) e) (fun _ q => q.elim)

/-- the bed's slice in the machine's box -/
theorem MB.slot {B : Nat} {W : World} {m N : Nat} {s : St} {g : Mg} (k : MB B W m N s g) {b : Nat} (hb : b < 2) : W.cell? ⟨m, b, none⟩ = some (.slice (some ⟨g.bb b, 0, none⟩) N N) := by
  match b, hb with
  | 0, _ => exact k.box.2.1.1
  | 1, _ => exact k.box.2.1.2.1
theorem MB.cell {B : Nat} {W : World} {m N : Nat} {s : St} {g : Mg} (k : MB B W m N s g) {b n : Nat} (hb : b < 2) (hn : n < N) : W.cell? ⟨g.bb b, n, none⟩ = some (g.h b n) := ((k.bed b hb).1.2 n hn).1
theorem MB.lt {B : Nat} {W : World} {m N : Nat} {s : St} {g : Mg} (k : MB B W m N s g) : m < W.heap.size := k.box.1.1

/-- a needle's loops are taken: its row is nobody's -/
def takeG (g : Mg) (b n : Nat) : Mg := { g with h := fun b' => if b' = b then putV (g.h b') n (.slice none 0 0) else g.h b', ow := fun k => if (g.h b n).ownBlock = some k then (3, 0) else g.ow k }
theorem MB.take {B : Nat} {W : World} {m N : Nat} {s : St} {g : Mg} (k : MB B W m N s g) {b n : Nat} (hb : b < 2) (hn : n < N) :
    MB B (W.setCell ⟨g.bb b, n, none⟩ (.slice none 0 0)) m N { s with on := upd s.on b n [] } (takeG g b n) ∧ NR (W.setCell ⟨g.bb b, n, none⟩ (.slice none 0 0)) B (g.h b n) (s.on b n) ∧ Ow (takeG g b n) (g.h b n) (3, 0) := by
  have e := kset W (g.bb b) n (.slice none 0 0)
  have t25 := (k.bed b hb).1.1.2
  have hne : ∀ i, i = g.bb b → ¬ Tg W i 3 := fun i q t => tg_not (show Tg W i 27 from q ▸ t25) (by decide) t
  have hown : ∀ v o, Ow g v o → o ≠ (b, n) → Ow (takeG g b n) v o := by
    intro v o h ho k' hk
    show (if (g.h b n).ownBlock = some k' then (3, 0) else g.ow k') = o
    by_cases c : (g.h b n).ownBlock = some k'
    · exact absurd ((h k' hk).symm.trans ((k.ndl b n hb hn).2 k' c)) ho
    · rw [if_neg c]; exact h k' hk
  refine ⟨⟨(k.box.kept e (fun q => absurd q (k.box.1.2.ne t25 (by decide)))).ghost rfl rfl rfl, fun b' hb' => ⟨?_, (k.bed b' hb').2⟩, k.two, fun b' n' hb' hn' => ?_, ⟨own_kept k.lps.1 e (fun i q t => tg_not (show Tg W i 27 from q ▸ t25) (by decide) t), k.lps.2⟩, fun x hx => ⟨(k.thr x hx).1.kept e hne, ?_⟩, ⟨k.lse.1.kept e hne, hown _ _ k.lse.2 (by intro q; cases q; omega)⟩, k.low⟩, (k.ndl b n hb hn).1.kept e hne, ?_⟩
  · show BR _ (g.bb b') N (if b' = b then putV (g.h b') n (.slice none 0 0) else g.h b')
    by_cases c : b' = b
    · subst c
      rw [if_pos rfl]
      exact (k.bed b' hb).1.put n _
    · rw [if_neg c]
      refine (k.bed b' hb').1.kept e (fun q => ?_)
      have h2 := k.two
      match b, b', hb, hb', c, q with
      | 0, 1, _, _, _, q => exact h2 q.symm
      | 1, 0, _, _, _, q => exact h2 q
      | 0, 0, _, _, c, _ => exact c rfl
      | 1, 1, _, _, c, _ => exact c rfl
  · show NR _ B ((if b' = b then putV (g.h b') n (.slice none 0 0) else g.h b') n') (upd s.on b n [] b' n') ∧ Ow _ ((if b' = b then putV (g.h b') n (.slice none 0 0) else g.h b') n') (b', n')
    by_cases c : b' = b
    · subst c
      rw [if_pos rfl]
      unfold putV
      by_cases d : n' = n
      · subst d
        rw [if_pos rfl, upd_same]
        exact ⟨NR.nil _ _, fun k' hk => by cases hk⟩
      · rw [if_neg d, upd_other _ _ (fun q => d q.2)]
        exact ⟨(k.ndl b' n' hb' hn').1.kept e hne, hown _ _ (k.ndl b' n' hb' hn').2 (fun q => d (Prod.mk.inj q).2)⟩
    · rw [if_neg c, upd_other _ _ (fun q => c q.1)]
      exact ⟨(k.ndl b' n' hb' hn').1.kept e hne, hown _ _ (k.ndl b' n' hb' hn').2 (fun q => c (Prod.mk.inj q).1)⟩
  · intro k' hk
    show (if (g.h b n).ownBlock = some k' then (3, 0) else g.ow k') = (3, 0)
    by_cases c : (g.h b n).ownBlock = some k'
    · rw [if_pos c]
    · rw [if_neg c]; exact (k.thr x hx).2 k' hk
  · intro k' hk
    show (if (g.h b n).ownBlock = some k' then (3, 0) else g.ow k') = (3, 0)
    rw [if_pos hk]

/-- a needle's row has grown: all else is as it was, and the new row lies in the old one's block or in a new one -/
def hangG (g : Mg) (b n z : Nat) (v : Value) : Mg := { g with h := fun b' => if b' = b then putV (g.h b') n v else g.h b', ow := fun k => if k < z then g.ow k else (b, n) }
theorem MB.hang {B : Nat} {W V : World} {m N : Nat} {s : St} {g : Mg} (k : MB B W m N s g) {b n : Nat} (hb : b < 2) (hn : n < N) {v : Value} {ys : List Nat} (hg : W.grownBy V (g.h b n).ownBlock) (hv : NR V B v (s.on b n ++ ys)) (hat : v.ownBlock = (g.h b n).ownBlock ∨ v.ownBlock = some W.heap.size) :
    MB B (V.setCell ⟨g.bb b, n, none⟩ v) m N { s with on := upd s.on b n (s.on b n ++ ys) } (hangG g b n W.heap.size v) := by
  have t25 := (k.bed b hb).1.1.2
  have K1 : Kept (fun i => (g.h b n).ownBlock = some i) W V := grown_kept hg (fun r q => .inl q)
  have t3 : ∀ i, (g.h b n).ownBlock = some i → Tg W i 3 := fun i q => own_tg (k.ndl b n hb hn).1 q
  have lo3 : ∀ i, (g.h b n).ownBlock = some i → i < W.heap.size := fun i q => (World.ownsRow.lt (k.ndl b n hb hn).1 i q).2
  have K2 : Kept (fun i => i = g.bb b ∨ (g.h b n).ownBlock = some i) W (V.setCell ⟨g.bb b, n, none⟩ v) := (K1.more (fun i q => .inl (.inr q))).set n v (.inl (.inl rfl))
  have n60 : ∀ {t : TypeId}, t ≠ 27 → t ≠ 3 → ∀ i, (i = g.bb b ∨ (g.h b n).ownBlock = some i) → ¬ Tg W i t := by
    intro t h1 h2 i q u
    rcases q with q | q
    · exact tg_not (show Tg W i 27 from q ▸ t25) (Ne.symm h1) u
    · exact tg_not (t3 i q) (Ne.symm h2) u
  have hold : ∀ v' o xs, NR W B v' xs → Ow g v' o → o ≠ (b, n) → NR (V.setCell ⟨g.bb b, n, none⟩ v) B v' xs ∧ Ow (hangG g b n W.heap.size v) v' o := by
    intro v' o xs h1 h2 h3
    refine ⟨h1.but K2 (fun i hi q => ?_), fun k' hk => ?_⟩
    · rcases q with q | q
      · exact tg_not (show Tg W i 27 from q ▸ t25) (by decide) (own_tg h1 hi)
      · exact h3 ((h2 i hi).symm.trans ((k.ndl b n hb hn).2 i q))
    · show (if k' < W.heap.size then g.ow k' else (b, n)) = o
      rw [if_pos (World.ownsRow.lt h1 k' hk).2]
      exact h2 k' hk
  refine ⟨(k.box.kept K2 (fun q => n60 (by decide) (by decide) m q k.box.1.2)).ghost rfl rfl rfl, fun b' hb' => ⟨?_, (k.bed b' hb').2⟩, k.two, fun b' n' hb' hn' => ?_, ⟨own_kept k.lps.1 K2 (n60 (by decide) (by decide)), k.lps.2⟩, fun x hx => hold _ _ _ (k.thr x hx).1 (k.thr x hx).2 (by intro q; cases q; omega), hold _ _ _ k.lse.1 k.lse.2 (by intro q; cases q; omega), k.low⟩
  · show BR _ (g.bb b') N (if b' = b then putV (g.h b') n v else g.h b')
    have K3 := (k.bed b' hb').1.kept K1 (fun q => absurd rfl ((k.bed b' hb').1.1.2.ne (t3 _ q) (by decide)))
    by_cases c : b' = b
    · subst c
      rw [if_pos rfl]
      exact K3.put n _
    · rw [if_neg c]
      refine K3.kept (kset V (g.bb b) n v) (fun q => ?_)
      have h2 := k.two
      match b, b', hb, hb', c, q with
      | 0, 1, _, _, _, q => exact h2 q.symm
      | 1, 0, _, _, _, q => exact h2 q
      | 0, 0, _, _, c, _ => exact c rfl
      | 1, 1, _, _, c, _ => exact c rfl
  · show NR _ B ((if b' = b then putV (g.h b') n v else g.h b') n') (upd s.on b n (s.on b n ++ ys) b' n') ∧ Ow _ ((if b' = b then putV (g.h b') n v else g.h b') n') (b', n')
    by_cases c : b' = b
    · subst c
      rw [if_pos rfl]
      unfold putV
      by_cases d : n' = n
      · subst d
        rw [if_pos rfl, upd_same]
        refine ⟨hv.kept (kset V (g.bb b') n' v) (fun i q t => ?_), fun k' hk => ?_⟩
        · have := (k.bed b' hb).1.kept K1 (fun q => absurd rfl ((k.bed b' hb).1.1.2.ne (t3 _ q) (by decide)))
          exact tg_not (show Tg V i 27 from q ▸ this.1.2) (by decide) t
        · show (if k' < W.heap.size then g.ow k' else (b', n')) = (b', n')
          rcases hat with q | q
          · rw [if_pos (lo3 k' (q ▸ hk))]
            exact (k.ndl b' n' hb hn).2 k' (q ▸ hk)
          · rw [q] at hk
            cases hk
            rw [if_neg (Nat.lt_irrefl _)]
      · rw [if_neg d, upd_other _ _ (fun q => d q.2)]
        exact hold _ _ _ (k.ndl b' n' hb' hn').1 (k.ndl b' n' hb' hn').2 (fun q => d (Prod.mk.inj q).2)
    · rw [if_neg c, upd_other _ _ (fun q => c q.1)]
      exact hold _ _ _ (k.ndl b' n' hb' hn').1 (k.ndl b' n' hb' hn').2 (fun q => c (Prod.mk.inj q).1)
end Go.Proofs.Ytancniamgfppiaa
