/-
  Of memory: what is kept, blocks told apart by their types, rows that are owned, and append of rows.
-/
import Derived.Test.YtbnjjkanokmakaaDoorRows
import Derived.WalkKit
import Derived.WalkSpells
import Derived.WalkLawsBesides
import Derived.WalkMore
import Derived.BigQuiet
import Derived.Deep.RegionHeld3
import Derived.Lib.SmallJoins
import Derived.Deep.QuietTactic
import Derived.Maps.AppendAt
import Derived.Laws.AppendOwnNone
import Derived.Deep.CutRange
namespace Go.Proofs.YtbnjjkanokmakaaDoor
open Go.RowKit

theorem hide {p : Prop} (h : p) : Hid p := h
theorem unhide {p : Prop} (h : Hid p) : p := h
theorem ret_bool {a b : Bool} (h : a = b) : Ending.returned (.bool a) = .returned (.bool b) := by rw [h]
theorem ret_int {a b : Int} (h : a = b) : Ending.returned (.int .i64 a) = .returned (.int .i64 b) := by rw [h]
theorem bal {W w1 : World} {o : Obj} (h : Below W.heap.size W w1) : Below W.heap.size W (w1.alloc o) := h.alloc h.size o
theorem bset {W w1 : World} {p : Addr} {u : Value} (h : Below W.heap.size W w1) (hp : W.heap.size ≤ p.block) : Below W.heap.size W (w1.setCell p u) := h.setCell hp u
theorem btrans {W w1 w2 : World} (h : Below W.heap.size W w1) (k : Below w1.heap.size w1 w2) : Below W.heap.size W w2 := h.trans (k.mono h.size)
theorem bdrew (w : World) : Below w.heap.size w w.drew := ⟨rfl, rfl, rfl, Nat.le_refl _, fun _ _ => rfl⟩
theorem bnew (w : World) (o : Obj) : Below w.heap.size w (w.alloc o) := bal (Below.refl _ _)
theorem keepC {W w1 : World} {b o : Nat} {v : Value} (hb : Below W.heap.size W w1) (h : b < W.heap.size) (hc : W.cell? ⟨b, o, none⟩ = some v) : w1.cell? ⟨b, o, none⟩ = some v := by
  rw [hb.cell (p := ⟨b, o, none⟩) h]; exact hc
theorem keepF {W w1 : World} {b o : Nat} (hb : Below W.heap.size W w1) (h : b < W.heap.size) (hc : W.frozen? ⟨b, o, none⟩ = false) : w1.frozen? ⟨b, o, none⟩ = false := by
  rw [hb.frozen (p := ⟨b, o, none⟩) h]; exact hc
theorem cset {W : World} {b o j : Nat} {u v : Value} (h : W.cell? ⟨b, j, none⟩ = some v) (hj : j ≠ o) : (W.setCell ⟨b, o, none⟩ u).cell? ⟨b, j, none⟩ = some v := by
  rw [World.cell?_setCell_other _ _ _ _ (by intro e; cases e; exact hj rfl)]; exact h
theorem csame {W : World} {b o : Nat} {u v : Value} (h : W.cell? ⟨b, o, none⟩ = some v) : (W.setCell ⟨b, o, none⟩ u).cell? ⟨b, o, none⟩ = some u :=
  World.cell?_setCell_same' _ _ _ (by rw [h]; rfl)
theorem fset {W : World} {b o : Nat} {a : Addr} {u : Value} (h : W.frozen? ⟨b, o, none⟩ = false) : (W.setCell a u).frozen? ⟨b, o, none⟩ = false := by rw [World.frozen?_setCell]; exact h

/-- all that lay in w0 lies as it lay, but for the blocks of S -/
def Kept (S : Nat → Prop) (w0 W : World) : Prop := W.os = w0.os ∧ W.tape = w0.tape ∧ W.output = w0.output ∧ w0.heap.size ≤ W.heap.size ∧ ∀ k, k < w0.heap.size → ¬ S k → W.heap[k]? = w0.heap[k]?
theorem Kept.refl (S : Nat → Prop) (w : World) : Kept S w w := ⟨rfl, rfl, rfl, Nat.le_refl _, fun _ _ _ => rfl⟩
theorem Kept.trans {S : Nat → Prop} {a b c : World} (h : Kept S a b) (k : Kept S b c) : Kept S a c :=
  ⟨k.1.trans h.1, k.2.1.trans h.2.1, k.2.2.1.trans h.2.2.1, Nat.le_trans h.2.2.2.1 k.2.2.2.1, fun i hi hS => (k.2.2.2.2 i (Nat.lt_of_lt_of_le hi h.2.2.2.1) hS).trans (h.2.2.2.2 i hi hS)⟩
theorem Kept.more {S T : Nat → Prop} {a b : World} (h : Kept S a b) (k : ∀ i, S i → T i ∨ a.heap.size ≤ i) : Kept T a b :=
  ⟨h.1, h.2.1, h.2.2.1, h.2.2.2.1, fun i hi hT => h.2.2.2.2 i hi (fun q => by rcases k i q with r | r; exact hT r; omega)⟩
theorem Kept.below {S : Nat → Prop} {w0 W V : World} (h : Kept S w0 W) (hb : Below W.heap.size W V) : Kept S w0 V :=
  h.trans ⟨hb.os, hb.tape, hb.output, hb.size, fun k hk _ => hb.block k hk⟩
theorem Kept.of {S : Nat → Prop} {W V : World} (hb : Below W.heap.size W V) : Kept S W V := (Kept.refl S W).below hb
theorem Kept.set {S : Nat → Prop} {w0 W : World} (h : Kept S w0 W) {b : Nat} (o : Nat) (v : Value) (hb : S b ∨ w0.heap.size ≤ b) : Kept S w0 (W.setCell ⟨b, o, none⟩ v) :=
  ⟨h.1, h.2.1, h.2.2.1, by simpa using h.2.2.2.1, fun k hk hS => by
    have e : ¬ b = k := fun e => by subst e; rcases hb with q | q; exact hS q; omega
    rw [← h.2.2.2.2 k hk hS]
    simp [World.setCell, Array.getElem?_modify, e]⟩
theorem Kept.al {S : Nat → Prop} {w0 W : World} (h : Kept S w0 W) (o : Obj) : Kept S w0 (W.alloc o) := h.below (bal (Below.refl _ _))
theorem Kept.dr {S : Nat → Prop} {w0 W : World} (h : Kept S w0 W) : Kept S w0 W.drew := h.below (bdrew _)
theorem Kept.size {S : Nat → Prop} {w0 W : World} (h : Kept S w0 W) : w0.heap.size ≤ W.heap.size := h.2.2.2.1
theorem Kept.cell {S : Nat → Prop} {w0 W : World} (h : Kept S w0 W) {b o : Nat} {v : Value} (hl : b < w0.heap.size) (hS : ¬ S b) (hc : w0.cell? ⟨b, o, none⟩ = some v) : W.cell? ⟨b, o, none⟩ = some v := by
  rw [World.cell?_of_block (a := ⟨b, o, none⟩) (h.2.2.2.2 b hl hS)]; exact hc
theorem Kept.froz {S : Nat → Prop} {w0 W : World} (h : Kept S w0 W) {b o : Nat} (hl : b < w0.heap.size) (hS : ¬ S b) (hc : w0.frozen? ⟨b, o, none⟩ = false) : W.frozen? ⟨b, o, none⟩ = false := by
  rw [World.frozen?_of_block (a := ⟨b, o, none⟩) (h.2.2.2.2 b hl hS)]; exact hc
theorem Kept.back {S : Nat → Prop} {B : Nat} {W w0 V : World} (hb : Below B W w0) (h : Kept S w0 V) (hB : B ≤ w0.heap.size) (hS : ∀ q, S q → B ≤ q) : Below B W V :=
  hb.trans ⟨h.1, h.2.1, h.2.2.1, h.2.2.2.1, fun k hk => h.2.2.2.2 k (by omega) (fun q => by have := hS k q; omega)⟩
theorem kset (W : World) (b o : Nat) (v : Value) : Kept (fun i => i = b) W (W.setCell ⟨b, o, none⟩ v) := (Kept.refl _ W).set o v (.inl rfl)
theorem grown_kept {S : Nat → Prop} {W V : World} {row : Option Nat} (h : W.grownBy V row) (k : ∀ r, row = some r → S r ∨ W.heap.size ≤ r) : Kept S W V :=
  ⟨h.os, h.tape, h.output, h.size, fun i hi hS => h.block i hi (fun e => by rcases k i e.symm with q | q; exact hS q; omega)⟩

/-- a block of this type -/
def Tg (W : World) (b : Nat) (t : TypeId) : Prop := ∃ cur fr, W.heap[b]? = some (.cells cur t fr)
theorem Tg.kept {S : Nat → Prop} {W V : World} {b : Nat} {t : TypeId} (k : Tg W b t) (h : Kept S W V) (hl : b < W.heap.size) (hS : ¬ S b) : Tg V b t := by
  obtain ⟨cur, fr, e⟩ := k
  exact ⟨cur, fr, by rw [h.2.2.2.2 b hl hS]; exact e⟩
theorem Tg.set {W : World} {b : Nat} {t : TypeId} (k : Tg W b t) (a : Addr) (v : Value) : Tg (W.setCell a v) b t := by
  obtain ⟨cur, fr, e⟩ := k
  by_cases h : a.block = b
  · subst h
    simp [Tg, World.setCell, Array.getElem?_modify, e]
  · exact ⟨cur, fr, by simp [World.setCell, Array.getElem?_modify, h, e]⟩
theorem Tg.new (W : World) (cs : Array Value) (t : TypeId) : Tg (W.alloc (.cells cs t)) W.heap.size t := ⟨cs, _, heap_alloc_new W _⟩
theorem Tg.ne {W : World} {b c : Nat} {t u : TypeId} (k : Tg W b t) (l : Tg W c u) (h : t ≠ u) : b ≠ c := by
  rintro rfl
  obtain ⟨cur, fr, e⟩ := k
  obtain ⟨cur2, fr2, e2⟩ := l
  rw [e] at e2
  simp at e2
  exact h e2.2.1
theorem tg_block {W V : World} {i : Nat} {t : TypeId} (e : V.heap[i]? = W.heap[i]?) : Tg V i t ↔ Tg W i t := by unfold Tg; rw [e]
theorem tg_not {W : World} {i : Nat} {t u : TypeId} (h : Tg W i t) (hn : t ≠ u) : ¬ Tg W i u := fun k => absurd rfl (h.ne k hn)
theorem Tg.lt {W : World} {b : Nat} {t : TypeId} (k : Tg W b t) : b < W.heap.size := by
  obtain ⟨cur, fr, e⟩ := k
  rcases Nat.lt_or_ge b W.heap.size with h | h
  · exact h
  · rw [Array.getElem?_eq_none h] at e; cases e

theorem own_form {B : Nat} {e : TypeId} {n z : Nat} {xs : List Value} {v : Value} {w : World} (h : w.ownsRow B e z v n xs) : ∃ q cap, v = .slice q n cap :=
  h.2.elim (fun k => ⟨none, 0, by rw [k.1, k.2]⟩) (fun ⟨g, c, _, k⟩ => ⟨some ⟨g, 0, none⟩, c, k.1⟩)
theorem own_slice {B : Nat} {e : TypeId} {n z : Nat} {xs : List Value} {v : Value} {w : World} (h : w.ownsRow B e z v n xs) (hm : 1 ≤ n) : ∃ g cap, v = .slice (some ⟨g, 0, none⟩) n cap := by
  rcases h.2 with ⟨hv, h0⟩ | ⟨g, cap, cur, hv, _⟩
  · omega
  · exact ⟨_, _, hv⟩
theorem own_tg {W : World} {B : Nat} {e : TypeId} {z : Nat} {v : Value} {n : Nat} {xs : List Value} (h : W.ownsRow B e z v n xs) {g : Nat} (hg : v.ownBlock = some g) : Tg W g e := by
  rcases h.2 with ⟨h0, -⟩ | ⟨g', cap, cur, e1, e2, e3, -⟩
  · rw [h0] at hg; cases hg
  · rw [e1] at hg
    obtain rfl : g' = g := by simpa [Value.ownBlock] using hg
    exact ⟨_, _, e3⟩
/-- a row that is owned stays where its own block does -/
theorem own_but {S : Nat → Prop} {W V : World} {B : Nat} {e : TypeId} {z : Nat} {v : Value} {n : Nat} {xs : List Value} (h : W.ownsRow B e z v n xs) (k : Kept S W V) (hS : ∀ i, v.ownBlock = some i → ¬ S i) : V.ownsRow B e z v n xs := by
  refine ⟨h.1, ?_⟩
  rcases h.2 with h0 | ⟨g, cap, cur, e1, e2, e3, e4⟩
  · exact .inl h0
  · refine .inr ⟨g, cap, cur, e1, e2, ?_, e4⟩
    have hg : g < W.heap.size := (h.lt g (by rw [e1]; rfl)).2
    rw [k.2.2.2.2 g hg (hS g (by rw [e1]; rfl))]
    exact e3
theorem own_kept {S : Nat → Prop} {W V : World} {B : Nat} {e : TypeId} {z : Nat} {v : Value} {n : Nat} {xs : List Value} (h : W.ownsRow B e z v n xs) (k : Kept S W V) (hS : ∀ i, S i → ¬ Tg W i e) : V.ownsRow B e z v n xs :=
  own_but h k (fun i hi q => hS i q (own_tg h hi))
theorem own_keep {w w1 : World} {B : Nat} {e : TypeId} {size : Nat} {v : Value} {n : Nat} {xs : List Value} (h : w.ownsRow B e size v n xs) (hb : Below w.heap.size w w1) : w1.ownsRow B e size v n xs :=
  own_kept h (Kept.of (S := fun _ => False) hb) (fun _ q => q.elim)
theorem own_le {W : World} {B C : Nat} {e : TypeId} {z : Nat} {v : Value} {n : Nat} {xs : List Value} (h : W.ownsRow B e z v n xs) (hc : C ≤ B) : W.ownsRow C e z v n xs := by
  refine ⟨h.1, ?_⟩
  rcases h.2 with h0 | ⟨g, cap, cur, e1, e2, e3⟩
  · exact .inl h0
  · exact .inr ⟨g, cap, cur, e1, Nat.le_trans hc e2, e3⟩
/-- a row that has just been laid -/
theorem own_lit {B : Nat} {e : TypeId} {z k : Nat} (W : World) (cs : Array Value) (hB : B ≤ W.heap.size) (hk : k ≤ maxLen) (hs : cs.size = k * z) : (W.alloc (.cells cs e)).ownsRow B e z (.slice (some ⟨W.heap.size, 0, none⟩) k k) k cs.toList :=
  ⟨by simpa using hs, .inr ⟨W.heap.size, k, cs, rfl, hB, heap_alloc_new W _, Nat.le_refl _, hk, hs, by rw [← hs]; exact List.take_length⟩⟩

/-- append of a row onto another one: what comes of it, and where it lies -/
theorem app_any {t e ty : TypeId} {zero : Value} {z byt : Nat} (ht : Tryd.prog.underlying t = some (.slice e)) (hinf : (Tryd.prog.info? e).map (fun i => (i.zero, i.size, i.bytes)) = some (some zero, z, byt)) (hzs : zero.cells.size = z) (hz : 0 < z)
    {W : World} {B C n m : Nat} {v y : Value} {xs ys : List Value} (hv : W.ownsRow B e z v n xs) (hy : W.ownsRow C e z y m ys) (h1 : ∀ u ∈ ys, u.oneCell' = true) (hml : n + m ≤ maxLen) (hb : (n + m) * byt ≤ 140737488355328) (hB : B ≤ W.heap.size) :
    ∃ v' w', (Builtin.append_ #[t, t] ty #[v, y]).run Tryd.prog W = .ok v' w' ∧ w'.ownsRow B e z v' (n + m) (xs ++ ys) ∧ W.grownBy w' v.ownBlock ∧ (v'.ownBlock = v.ownBlock ∨ v'.ownBlock = some W.heap.size) := by
  obtain ⟨i, hi, hz0, hz1, hz2⟩ := info_parts hinf
  have hY := hy
  rcases hy.2 with ⟨rfl, rfl⟩ | ⟨g, cap, cur, rfl, -⟩
  · obtain rfl : ys = [] := List.eq_nil_of_length_eq_zero (by simpa using hy.1)
    exact ⟨v, W, run_append_owned_none (P := Tryd.prog) (w := W) B t ty e i z ht hi v n xs hv, by simpa using hv, World.grownBy.refl _ _, .inl rfl⟩
  · obtain ⟨v', w', h2, h3, h4, -, h5⟩ := run_append_own_at (P := Tryd.prog) W B t ty e i zero z byt ht hi hz0 hz1 hz2 hzs hz v n xs hv ⟨g, 0, none⟩ m cap ys hY.1 (hY.cells rfl) h1 hml hb hB
    exact ⟨v', w', h2, h3, h4, h5⟩
/-- append inside a region whose order is drawn -/
theorem wp_app {t e : TypeId} {zero : Value} {z byt : Nat} {o : Oper} {a : Act} {K : Act → World → Prop} {Q : Exit → Act → World → Prop} {W : World} {s x : Operand} (ho : o.op = .call { callee := .builtin .append, args := #[s, x], argTypes := #[t, t] })
    (ht : Tryd.prog.underlying t = some (.slice e)) (hinf : (Tryd.prog.info? e).map (fun i => (i.zero, i.size, i.bytes)) = some (some zero, z, byt)) (hzs : zero.cells.size = z) (hz : 0 < z)
    {B C n m : Nat} {v y : Value} {xs ys : List Value} (hs : a.eval s = v) (hx : a.eval x = y) (hv : W.ownsRow B e z v n xs) (hy : W.ownsRow C e z y m ys) (h1 : ∀ u ∈ ys, u.oneCell' = true) (hml : n + m ≤ maxLen) (hb : (n + m) * byt ≤ 140737488355328) (hB : B ≤ W.heap.size)
    (h : ∀ v' w', w'.ownsRow B e z v' (n + m) (xs ++ ys) → W.grownBy w' v.ownBlock → (v'.ownBlock = v.ownBlock ∨ v'.ownBlock = some W.heap.size) → K (a.put o.dst v') w') : o.wp Tryd.prog a W K Q := by
  obtain ⟨v', w', hr, h2, h3, h4⟩ := app_any (ty := o.type) ht hinf hzs hz hv hy h1 hml hb hB
  have hn := h v' w' h2 h3 h4
  unfold Oper.wp
  simp [execOp, builtin, invoke, resolve, Result.andThen, hr, hx, hs, ho]
  exact hn
/-- append in a walk -/
theorem wl_app {t e : TypeId} {zero : Value} {z byt : Nat} {ops : Array Oper} {rest : List Oper} {o : Oper} {a : Act} {Q : Exit → Act → World → Prop} {W : World} {s x : Operand} (hgd : o.guard = none) (ho : o.op = .call { callee := .builtin .append, args := #[s, x], argTypes := #[t, t] })
    (ht : Tryd.prog.underlying t = some (.slice e)) (hinf : (Tryd.prog.info? e).map (fun i => (i.zero, i.size, i.bytes)) = some (some zero, z, byt)) (hzs : zero.cells.size = z) (hz : 0 < z)
    {B C n m : Nat} {v y : Value} {xs ys : List Value} (hs : a.eval s = v) (hx : a.eval x = y) (hv : W.ownsRow B e z v n xs) (hy : W.ownsRow C e z y m ys) (h1 : ∀ u ∈ ys, u.oneCell' = true) (hml : n + m ≤ maxLen) (hb : (n + m) * byt ≤ 140737488355328) (hB : B ≤ W.heap.size)
    (h : ∀ v' w', w'.ownsRow B e z v' (n + m) (xs ++ ys) → W.grownBy w' v.ownBlock → (v'.ownBlock = v.ownBlock ∨ v'.ownBlock = some W.heap.size) → wpList Tryd.prog ops Q rest (a.put o.dst v') w') : wpList Tryd.prog ops Q (o :: rest) a W := by
  refine wpList_plain hgd fun K hK => ?_
  exact wp_app ho ht hinf hzs hz hs hx hv hy h1 hml hb hB (fun v' w' h2 h3 h4 => hK _ _ (h v' w' h2 h3 h4))

theorem info3 : (Tryd.prog.info? 3).map (fun i => (i.zero, i.size, i.bytes)) = some (some (.int .i64 0), 1, 8) := by kernel_rfl

/-- numbers, as a row has them -/
def numsV (xs : List Nat) : List Value := xs.map fun x : Nat => Value.int .i64 (x : Int)
theorem numsV_len (xs : List Nat) : (numsV xs).length = xs.length := by simp [numsV]
theorem numsV_app (xs ys : List Nat) : numsV (xs ++ ys) = numsV xs ++ numsV ys := by simp [numsV]
theorem numsV_one {xs : List Nat} : ∀ u ∈ numsV xs, u.oneCell' = true := by
  intro u hu
  obtain ⟨j, -, rfl⟩ := List.mem_map.1 hu
  rfl
/-- numbers in a row of one's own -/
def NR (W : World) (B : Nat) (v : Value) (xs : List Nat) : Prop := W.ownsRow B 3 1 v xs.length (numsV xs)
theorem NR.keep {W V : World} {B : Nat} {v : Value} {xs : List Nat} (h : NR W B v xs) (hb : Below W.heap.size W V) : NR V B v xs := own_keep h hb
theorem NR.but {S : Nat → Prop} {W V : World} {B : Nat} {v : Value} {xs : List Nat} (h : NR W B v xs) (k : Kept S W V) (hS : ∀ i, v.ownBlock = some i → ¬ S i) : NR V B v xs := own_but h k hS
theorem NR.kept {S : Nat → Prop} {W V : World} {B : Nat} {v : Value} {xs : List Nat} (h : NR W B v xs) (k : Kept S W V) (hS : ∀ i, S i → ¬ Tg W i 3) : NR V B v xs := own_kept h k hS
theorem NR.le {W : World} {B C : Nat} {v : Value} {xs : List Nat} (h : NR W B v xs) (hc : C ≤ B) : NR W C v xs := own_le h hc
theorem NR.nil (W : World) (B : Nat) : NR W B (.slice none 0 0) [] := World.ownsRow_nil _ _ _ _
theorem NR.form {W : World} {B : Nat} {v : Value} {xs : List Nat} (h : NR W B v xs) : ∃ q cap, v = .slice q xs.length cap := own_form h
theorem NR.lit (W : World) (B x : Nat) (hB : B ≤ W.heap.size) : NR (W.alloc (.cells #[.int .i64 (x : Int)] 3)) B (.slice (some ⟨W.heap.size, 0, none⟩) 1 1) [x] :=
  own_lit (e := 3) (z := 1) (k := 1) W #[.int .i64 (x : Int)] hB (by unfold maxLen; omega) rfl
theorem NR.at {W : World} {B j : Nat} {v : Value} {xs : List Nat} (h : NR W B v xs) (hj : j < xs.length) : ∃ g cap, v = .slice (some ⟨g, 0, none⟩) xs.length cap ∧ W.cell? ⟨g, j, none⟩ = some (.int .i64 ((xs[j] : Nat) : Int)) := by
  obtain ⟨g, cap, rfl⟩ := own_slice h (by omega)
  refine ⟨g, cap, rfl, ?_⟩
  rw [World.ownsRow.cellAt h j (by simpa using hj)]
  simp [numsV, hj]
end Go.Proofs.YtbnjjkanokmakaaDoor
