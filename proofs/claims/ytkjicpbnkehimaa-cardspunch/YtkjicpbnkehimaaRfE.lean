/-
  What the document's Unpack answers.
-/
import Derived.Test.YtkjicpbnkehimaaRfD
namespace Go.Proofs.Ytkjicpbnkehimaa
open Go.RowKit

/-- the number in a box -/
def abN (A : Nat) (W : World) : Nat := match W.cell? ⟨A, 0, none⟩ with
  | some (.int _ v) => v.toNat
  | _ => 0
theorem Ab.num {W : World} {A : Nat} {v : Int} (k : Ab W A v) : abN A W = v.toNat := by unfold abN; rw [k.2.1]
/-- what a walk of Unpack holds: the two results' boxes, where it is -/
def Uq (W V : World) (a : Int) : Prop := Below W.heap.size W V ∧ Bx2 V W.heap.size ∧ Ab V (W.heap.size + 1 + 1) a
theorem Uq.keep {W V V' : World} {a : Int} (k : Uq W V a) (hb : Below V.heap.size V V') : Uq W V' a := ⟨btrans k.1 hb, k.2.1.grown (gbelow none hb) (by simp) (by simp), k.2.2.keep hb⟩
theorem Uq.put {W V : World} {a : Int} (k : Uq W V a) (b : Int) : Uq W (V.setCell ⟨W.heap.size + 1 + 1, 0, none⟩ (.int .i64 b)) b := by
  refine ⟨bset k.1 (by show W.heap.size ≤ W.heap.size + 1 + 1; omega), k.2.1.grown (gset (World.grownBy.refl _ _) 0 _) ?_ ?_, k.2.2.put b⟩
  · intro h; have := Option.some.inj h; omega
  · intro h; have := Option.some.inj h; omega
/-- so far the head is right -/
def HdU (W : World) (s : ByteArray) (i : Nat) (V : World) : Prop := Uq W V i ∧ i ≤ s.size ∧ ∀ j, j < i → okc s.data.toList j = true
theorem HdU.no {W V : World} {s : ByteArray} {i : Nat} (h : HdU W s i V) (h5 : i < 5) (ho : okc s.data.toList i = false) : unp s.data.toList = .inl i := by
  unfold unp; rw [hd_some _ i h5 ho h.2.2]
theorem HdU.next {W V0 V : World} {s : ByteArray} {i : Nat} (h : HdU W s i V0) (k : Uq W V i) (ho : okc s.data.toList i = true) (hs : i + 1 ≤ s.size) : HdU W s (i + 1) (V.setCell ⟨W.heap.size + 1 + 1, 0, none⟩ (.int .i64 ((i + 1 : Nat) : Int))) :=
  ⟨k.put _, hs, fun j hj => by
    by_cases e : j = i
    · subst e; exact ho
    · exact h.2.2 j (by omega)⟩

theorem g22_0 {a0 a1 a2 a3 a4 a5 a6 a7 a8 a9 a10 a11 a12 a13 a14 a15 a16 a17 a18 a19 a20 a21 : Oper} : (#[a0, a1, a2, a3, a4, a5, a6, a7, a8, a9, a10, a11, a12, a13, a14, a15, a16, a17, a18, a19, a20, a21] : Array Oper)[0]? = some a0 := rfl
theorem g22_1 {a0 a1 a2 a3 a4 a5 a6 a7 a8 a9 a10 a11 a12 a13 a14 a15 a16 a17 a18 a19 a20 a21 : Oper} : (#[a0, a1, a2, a3, a4, a5, a6, a7, a8, a9, a10, a11, a12, a13, a14, a15, a16, a17, a18, a19, a20, a21] : Array Oper)[1]? = some a1 := rfl
theorem g22_2 {a0 a1 a2 a3 a4 a5 a6 a7 a8 a9 a10 a11 a12 a13 a14 a15 a16 a17 a18 a19 a20 a21 : Oper} : (#[a0, a1, a2, a3, a4, a5, a6, a7, a8, a9, a10, a11, a12, a13, a14, a15, a16, a17, a18, a19, a20, a21] : Array Oper)[2]? = some a2 := rfl
theorem g22_3 {a0 a1 a2 a3 a4 a5 a6 a7 a8 a9 a10 a11 a12 a13 a14 a15 a16 a17 a18 a19 a20 a21 : Oper} : (#[a0, a1, a2, a3, a4, a5, a6, a7, a8, a9, a10, a11, a12, a13, a14, a15, a16, a17, a18, a19, a20, a21] : Array Oper)[3]? = some a3 := rfl
theorem g22_4 {a0 a1 a2 a3 a4 a5 a6 a7 a8 a9 a10 a11 a12 a13 a14 a15 a16 a17 a18 a19 a20 a21 : Oper} : (#[a0, a1, a2, a3, a4, a5, a6, a7, a8, a9, a10, a11, a12, a13, a14, a15, a16, a17, a18, a19, a20, a21] : Array Oper)[4]? = some a4 := rfl
theorem g22_5 {a0 a1 a2 a3 a4 a5 a6 a7 a8 a9 a10 a11 a12 a13 a14 a15 a16 a17 a18 a19 a20 a21 : Oper} : (#[a0, a1, a2, a3, a4, a5, a6, a7, a8, a9, a10, a11, a12, a13, a14, a15, a16, a17, a18, a19, a20, a21] : Array Oper)[5]? = some a5 := rfl
theorem g22_6 {a0 a1 a2 a3 a4 a5 a6 a7 a8 a9 a10 a11 a12 a13 a14 a15 a16 a17 a18 a19 a20 a21 : Oper} : (#[a0, a1, a2, a3, a4, a5, a6, a7, a8, a9, a10, a11, a12, a13, a14, a15, a16, a17, a18, a19, a20, a21] : Array Oper)[6]? = some a6 := rfl
theorem g22_7 {a0 a1 a2 a3 a4 a5 a6 a7 a8 a9 a10 a11 a12 a13 a14 a15 a16 a17 a18 a19 a20 a21 : Oper} : (#[a0, a1, a2, a3, a4, a5, a6, a7, a8, a9, a10, a11, a12, a13, a14, a15, a16, a17, a18, a19, a20, a21] : Array Oper)[7]? = some a7 := rfl
theorem g22_8 {a0 a1 a2 a3 a4 a5 a6 a7 a8 a9 a10 a11 a12 a13 a14 a15 a16 a17 a18 a19 a20 a21 : Oper} : (#[a0, a1, a2, a3, a4, a5, a6, a7, a8, a9, a10, a11, a12, a13, a14, a15, a16, a17, a18, a19, a20, a21] : Array Oper)[8]? = some a8 := rfl
theorem g22_9 {a0 a1 a2 a3 a4 a5 a6 a7 a8 a9 a10 a11 a12 a13 a14 a15 a16 a17 a18 a19 a20 a21 : Oper} : (#[a0, a1, a2, a3, a4, a5, a6, a7, a8, a9, a10, a11, a12, a13, a14, a15, a16, a17, a18, a19, a20, a21] : Array Oper)[9]? = some a9 := rfl
theorem g22_10 {a0 a1 a2 a3 a4 a5 a6 a7 a8 a9 a10 a11 a12 a13 a14 a15 a16 a17 a18 a19 a20 a21 : Oper} : (#[a0, a1, a2, a3, a4, a5, a6, a7, a8, a9, a10, a11, a12, a13, a14, a15, a16, a17, a18, a19, a20, a21] : Array Oper)[10]? = some a10 := rfl
theorem g22_11 {a0 a1 a2 a3 a4 a5 a6 a7 a8 a9 a10 a11 a12 a13 a14 a15 a16 a17 a18 a19 a20 a21 : Oper} : (#[a0, a1, a2, a3, a4, a5, a6, a7, a8, a9, a10, a11, a12, a13, a14, a15, a16, a17, a18, a19, a20, a21] : Array Oper)[11]? = some a11 := rfl
theorem g22_12 {a0 a1 a2 a3 a4 a5 a6 a7 a8 a9 a10 a11 a12 a13 a14 a15 a16 a17 a18 a19 a20 a21 : Oper} : (#[a0, a1, a2, a3, a4, a5, a6, a7, a8, a9, a10, a11, a12, a13, a14, a15, a16, a17, a18, a19, a20, a21] : Array Oper)[12]? = some a12 := rfl
theorem g22_13 {a0 a1 a2 a3 a4 a5 a6 a7 a8 a9 a10 a11 a12 a13 a14 a15 a16 a17 a18 a19 a20 a21 : Oper} : (#[a0, a1, a2, a3, a4, a5, a6, a7, a8, a9, a10, a11, a12, a13, a14, a15, a16, a17, a18, a19, a20, a21] : Array Oper)[13]? = some a13 := rfl
theorem g22_14 {a0 a1 a2 a3 a4 a5 a6 a7 a8 a9 a10 a11 a12 a13 a14 a15 a16 a17 a18 a19 a20 a21 : Oper} : (#[a0, a1, a2, a3, a4, a5, a6, a7, a8, a9, a10, a11, a12, a13, a14, a15, a16, a17, a18, a19, a20, a21] : Array Oper)[14]? = some a14 := rfl
theorem g22_15 {a0 a1 a2 a3 a4 a5 a6 a7 a8 a9 a10 a11 a12 a13 a14 a15 a16 a17 a18 a19 a20 a21 : Oper} : (#[a0, a1, a2, a3, a4, a5, a6, a7, a8, a9, a10, a11, a12, a13, a14, a15, a16, a17, a18, a19, a20, a21] : Array Oper)[15]? = some a15 := rfl
theorem g22_16 {a0 a1 a2 a3 a4 a5 a6 a7 a8 a9 a10 a11 a12 a13 a14 a15 a16 a17 a18 a19 a20 a21 : Oper} : (#[a0, a1, a2, a3, a4, a5, a6, a7, a8, a9, a10, a11, a12, a13, a14, a15, a16, a17, a18, a19, a20, a21] : Array Oper)[16]? = some a16 := rfl
theorem g22_17 {a0 a1 a2 a3 a4 a5 a6 a7 a8 a9 a10 a11 a12 a13 a14 a15 a16 a17 a18 a19 a20 a21 : Oper} : (#[a0, a1, a2, a3, a4, a5, a6, a7, a8, a9, a10, a11, a12, a13, a14, a15, a16, a17, a18, a19, a20, a21] : Array Oper)[17]? = some a17 := rfl
theorem g22_18 {a0 a1 a2 a3 a4 a5 a6 a7 a8 a9 a10 a11 a12 a13 a14 a15 a16 a17 a18 a19 a20 a21 : Oper} : (#[a0, a1, a2, a3, a4, a5, a6, a7, a8, a9, a10, a11, a12, a13, a14, a15, a16, a17, a18, a19, a20, a21] : Array Oper)[18]? = some a18 := rfl
theorem g22_19 {a0 a1 a2 a3 a4 a5 a6 a7 a8 a9 a10 a11 a12 a13 a14 a15 a16 a17 a18 a19 a20 a21 : Oper} : (#[a0, a1, a2, a3, a4, a5, a6, a7, a8, a9, a10, a11, a12, a13, a14, a15, a16, a17, a18, a19, a20, a21] : Array Oper)[19]? = some a19 := rfl
theorem g22_20 {a0 a1 a2 a3 a4 a5 a6 a7 a8 a9 a10 a11 a12 a13 a14 a15 a16 a17 a18 a19 a20 a21 : Oper} : (#[a0, a1, a2, a3, a4, a5, a6, a7, a8, a9, a10, a11, a12, a13, a14, a15, a16, a17, a18, a19, a20, a21] : Array Oper)[20]? = some a20 := rfl
theorem g22_21 {a0 a1 a2 a3 a4 a5 a6 a7 a8 a9 a10 a11 a12 a13 a14 a15 a16 a17 a18 a19 a20 a21 : Oper} : (#[a0, a1, a2, a3, a4, a5, a6, a7, a8, a9, a10, a11, a12, a13, a14, a15, a16, a17, a18, a19, a20, a21] : Array Oper)[21]? = some a21 := rfl
/-- what a walk of Unpack's cards holds: also the cloth in its box, and its bits so far -/
def Mq (W V : World) (M0 w h : Nat) (q : Option Addr) (n k : Nat) (g : Nat → Bool) (a : Int) : Prop := Uq W V a ∧ W.heap.size + 1 + 1 < M0 ∧ OwnM V M0 w h q n k ∧ V.frozen? ⟨M0, 2, none⟩ = false ∧ V.ownsRow (M0 + 1) 4 1 (.slice q n k) n (bsV g n)
theorem Mq.keep {W V V' : World} {M0 w h : Nat} {q : Option Addr} {n k : Nat} {g : Nat → Bool} {a : Int} (m : Mq W V M0 w h q n k g a) (hb : Below V.heap.size V V') : Mq W V' M0 w h q n k g a :=
  ⟨m.1.keep hb, m.2.1, m.2.2.1.keep hb, keepF hb m.2.2.1.1 m.2.2.2.1, own_keepD m.2.2.2.2 hb⟩
theorem Mq.at {W V : World} {M0 w h : Nat} {q : Option Addr} {n k : Nat} {g : Nat → Bool} {a : Int} (m : Mq W V M0 w h q n k g a) (b : Int) : Mq W (V.setCell ⟨W.heap.size + 1 + 1, 0, none⟩ (.int .i64 b)) M0 w h q n k g b := by
  have h1 := m.2.1
  have hg := gset (World.grownBy.refl V (some (W.heap.size + 1 + 1))) 0 (.int .i64 b)
  have hne : some M0 ≠ some (W.heap.size + 1 + 1) := fun e => by have := Option.some.inj e; omega
  exact ⟨m.1.put b, h1, m.2.2.1.grown hg hne, gfroz hg m.2.2.1.1 hne m.2.2.2.1, m.2.2.2.2.kept hg (by
    cases e : (Value.slice q n k).ownBlock with
    | none => exact .inl rfl
    | some x => exact .inr (fun e2 => by have h2 := (m.2.2.2.2.lt x e).1; have h3 : x = W.heap.size + 1 + 1 := Option.some.inj e2; omega))⟩
theorem Mq.congr {W V : World} {M0 w h : Nat} {q : Option Addr} {n k : Nat} {g g' : Nat → Bool} {a : Int} (m : Mq W V M0 w h q n k g a) (e : ∀ j, j < n → g j = g' j) : Mq W V M0 w h q n k g' a :=
  ⟨m.1, m.2.1, m.2.2.1, m.2.2.2.1, by rw [← bsV_congr g g' n e]; exact m.2.2.2.2⟩
/-- one bit more -/
theorem Mq.more {W V V' : World} {M0 w h : Nat} {q q' : Option Addr} {n k k' : Nat} {g : Nat → Bool} {a : Int} {v : Bool} (m : Mq W V M0 w h q n k g a) (hv : g n = v) (hg : V.grownBy V' (Value.slice q n k).ownBlock) (ho : V'.ownsRow (M0 + 1) 4 1 (.slice q' (n + 1) k') (n + 1) (bsV g n ++ [.bool v])) :
    (V'.cell? ⟨M0, 2, none⟩ = some (.slice q n k) ∧ V'.frozen? ⟨M0, 2, none⟩ = false) ∧ Mq W (V'.setCell ⟨M0, 2, none⟩ (.slice q' (n + 1) k')) M0 w h q' (n + 1) k' g a := by
  have hlt : ∀ x, (Value.slice q n k).ownBlock = some x → M0 + 1 ≤ x := fun x e => (m.2.2.2.2.lt x e).1
  have hne : ∀ x, x ≤ M0 → some x ≠ (Value.slice q n k).ownBlock := fun x hx e => by have := hlt x e.symm; omega
  have h1 := m.2.1
  have hW : Below W.heap.size W V' := m.1.1.grown hg m.1.1.size (fun x e => by have := hlt x e; omega)
  have hX : Bx2 V' W.heap.size := m.1.2.1.grown hg (hne _ (by omega)) (hne _ (by omega))
  have hA := m.1.2.2
  have hA' : Ab V' (W.heap.size + 1 + 1) a := ⟨Nat.lt_of_lt_of_le hA.1 hg.size, gcell hg hA.1 (hne (W.heap.size + 1 + 1) (by omega)) hA.2.1, gfroz hg hA.1 (hne (W.heap.size + 1 + 1) (by omega)) hA.2.2⟩
  have hO := m.2.2.1.grown hg (hne M0 (Nat.le_refl _))
  have hF := gfroz hg m.2.2.1.1 (hne M0 (Nat.le_refl _)) m.2.2.2.1
  have hs := gset (World.grownBy.refl V' (some M0)) 2 (.slice q' (n + 1) k')
  have nA : some (W.heap.size + 1 + 1) ≠ some M0 := fun e => by have := Option.some.inj e; omega
  refine ⟨⟨hO.2.2.2, hF⟩, ⟨bset hW (by show W.heap.size ≤ M0; omega), hX.grown hs (fun e => by have := Option.some.inj e; omega) (fun e => by have := Option.some.inj e; omega), Nat.lt_of_lt_of_le hA'.1 hs.size, gcell hs hA'.1 nA hA'.2.1, gfroz hs hA'.1 nA hA'.2.2⟩, h1, ?_, ?_, ?_⟩
  · refine ⟨by simpa using hO.1, ?_, ?_, ?_⟩
    · rw [World.cell?_setCell_other _ _ _ _ (by intro e; cases e)]; exact hO.2.1
    · rw [World.cell?_setCell_other _ _ _ _ (by intro e; cases e)]; exact hO.2.2.1
    · exact World.cell?_setCell_same' _ _ _ (by rw [hO.2.2.2]; rfl)
  · rw [World.frozen?_setCell]; exact hF
  · have e : bsV g n ++ [.bool v] = bsV g (n + 1) := by simp [bsV, List.range_succ, hv]
    rw [e] at ho
    exact ho.kept hs (by
      cases e : (Value.slice q' (n + 1) k').ownBlock with
      | none => exact .inl rfl
      | some x => exact .inr (fun e2 => by have h2 := (ho.lt x e).1; have h3 : x = M0 := Option.some.inj e2; omega))
theorem Mq.off {W V : World} {M0 w h : Nat} {q : Option Addr} {n k : Nat} {g : Nat → Bool} {a : Int} (m : Mq W V M0 w h q n k g a) {x : Nat} (hx : x ≤ W.heap.size + 1 + 1) : Off q n x := by
  rcases m.2.2.2.2.2 with ⟨e, e2⟩ | ⟨b, cap, cur, e, hb, -⟩
  · exact .inl e2
  · cases e
    exact .inr (fun e he => by cases he; have := m.2.1; show b ≠ x; omega)
theorem own_form4 {w : World} {B n : Nat} {v : Value} {xs : List Value} (h : w.ownsRow B 4 1 v n xs) : ∃ q k, v = .slice q n k := by
  exact h.2.elim (fun k => ⟨none, 0, by rw [k.1, k.2]⟩) (fun ⟨g, c, _, k⟩ => ⟨some ⟨g, 0, none⟩, c, k.1⟩)
/-- its bits, to be read -/
theorem Mq.bs {W V : World} {M0 w h : Nat} {q : Option Addr} {n k : Nat} {g : Nat → Bool} {a : Int} (m : Mq W V M0 w h q n k g a) : Bs V q n k g := by
  rcases m.2.2.2.2.2 with ⟨e, e2⟩ | ⟨b, cap, cur, e, -, -, hnc, -⟩
  · cases e; exact ⟨Nat.le_refl _, .inl rfl⟩
  · cases e
    obtain ⟨h1, h2⟩ := own_bs m.2.2.2.2
    exact ⟨hnc, .inr ⟨b, 0, rfl, h1, fun j hj => by rw [Nat.zero_add]; exact h2 j hj⟩⟩

set_option maxRecDepth 100000 in
set_option maxHeartbeats 8000000 in
theorem runpack_head (s : ByteArray) (hm : s.size ≤ maxLen) (W : World) (hx : ¬ hd s.data.toList = none) : Calls Try.prog 9 #[.string s] W (UnpPost W s) := by
  have H0 := hide (show HdU W s 0 (((W.alloc (.cells #[.int .i64 0, .int .i64 0, .slice none 0 0] 24)).alloc (.cells #[.int .i64 0, .int .i64 0] 29)).alloc (.cells #[.int .i64 0] 3)) from ⟨⟨bal (bal (bal (Below.refl _ _))), ⟨by simp, by simp [go_sem], by simp [go_sem], by simp [go_sem], by simp [go_sem], by simp [go_sem], by simp [go_sem], by simp [go_sem], by simp [go_sem], by simp [go_sem], by simp [go_sem]⟩, by simp, by simp [go_sem], by simp [go_sem]⟩, Nat.zero_le _, fun j hj => by omega⟩)
  obtain ⟨i4, hi4, inf0, inf1, inf2⟩ := info_parts info4
  have Hm := hide hm
  have Hhd := hide hx
  clear hx
  unfold maxLen at hm
  go_enter Try.func9, Try.ntmps9
  go_wp2
  generalize ((W.alloc (.cells #[.int .i64 0, .int .i64 0, .slice none 0 0] 24)).alloc (.cells #[.int .i64 0, .int .i64 0] 29)).alloc (.cells #[.int .i64 0] 3) = w0 at *
  go_loopw [16] (fun _ wr => HdU W s 0 wr ∨ HdU W s 1 wr ∨ HdU W s 2 wr ∨ HdU W s 3 wr) (fun _ wr => 3 - abN (W.heap.size + 1 + 1) wr)
  case atStart => exact .inl (unhide H0)
  case round =>
    clear H0
    rcases hrel with h | h | h | h
    · have HU := hide h.1
      have Hh := hide h
      have Hm0 := hide (show abN (W.heap.size + 1 + 1) wr = 0 from h.1.2.2.num)
      clear h
      obtain ⟨-, o1, o2⟩ := (unhide HU).2.2
      by_cases c1 : s.size ≤ 0
      · have e1 : (s.size : Int) ≤ 0 := by omega
        have hs0 : s.size = 0 := by omega
        have Ht := hide ((unhide Hh).no (by omega) (okc_short _ _ (by rw [str_len]; exact c1)))
        clear Hh
        go_wp2_with fail
        go_quiet (fail)
        have HU1 := hide ((unhide HU).keep (Joins.below_draws _ _ nq))
        clear o1 o2 HU
        generalize wr.drewN nq = wq at *
        have HB := hide (bad_any (unhide HU1).2.2)
        go_wp2_with fail
        refine (unhide HB).mono ?_
        rintro e wf ⟨rfl, hbf⟩
        have HUf := hide ((unhide HU1).keep hbf)
        clear hbf HB
        obtain ⟨-, k1, k2, k3, k4, k5, k6, k7, k8, k9, k10⟩ := (unhide HUf).2.1
        go_wp2
        exact bodyPost_ret (v := wrongV 0) (by simp [results, Try.results9, go_sem, k1, k2, k3, k7, k8]) rfl ⟨put5 (unhide HUf).1 (Nat.le_refl _) _ _ _ _ _, .inl ⟨_, unhide Ht, by simp⟩⟩
      · have e1 : ¬ ((s.size : Int) ≤ 0) := by omega
        have e11 : decide ((s.size : Int) ≤ 0) = false := by simpa using e1
        have hs0 : ¬ s.size = 0 := by omega
        have hs01 : decide (s.size = 0) = false := by simpa using hs0
        have hl : 0 < s.size := by omega
        have hby := bya_str s 0 hl
        have hc := s[0].toNat_lt
        by_cases c2 : s[0].toNat = 74
        · have e2 : ((s[0].toNat : Int) != (({ data := #[74, 81, 49] } : ByteArray)[0].toNat : Int)) = false := by rw [c2]; rfl
          have HUn := hide (fun V (hV : Uq W V 0) => (unhide Hh).next (V := V) hV (okc_lo _ _ (by omega) (by rw [str_len]; exact hl) (by rw [hby, c2]; rfl)))
          clear hby c2 Hh
          go_wp2_with fail
          go_quiet (fail)
          have HU1 := hide ((unhide HU).keep (Joins.below_draws _ _ nq))
          clear o1 o2 HU
          generalize wr.drewN nq = wq at *
          obtain ⟨-, o1, o2⟩ := (unhide HU1).2.2
          go_wp2
          have HUp := hide (unhide HUn _ (unhide HU1) (by show 0 + 1 ≤ s.size; omega))
          have Hms := hide (show abN (W.heap.size + 1 + 1) (wq.setCell ⟨W.heap.size + 1 + 1, 0, none⟩ (.int .i64 1)) = 1 from (unhide HUp).1.2.2.num)
          go_roundw
          case rel => exact .inr (.inl (unhide HUp))
          case measure => have h1 := unhide Hms; have h2 := unhide Hm0; simp only [h1, h2]; omega
        · have e2 : ((s[0].toNat : Int) != (({ data := #[74, 81, 49] } : ByteArray)[0].toNat : Int)) = true := by
            have hk : (({ data := #[74, 81, 49] } : ByteArray)[0].toNat : Int) = 74 := rfl
            rw [hk]; simp; omega
          have Ht := hide ((unhide Hh).no (by omega) (okc_lo_no _ _ (by omega) (by rw [hby]; exact c2)))
          clear hby c2 Hh
          go_wp2_with fail
          go_quiet (fail)
          have HU1 := hide ((unhide HU).keep (Joins.below_draws _ _ nq))
          clear o1 o2 HU
          generalize wr.drewN nq = wq at *
          have HB := hide (bad_any (unhide HU1).2.2)
          go_wp2_with fail
          refine (unhide HB).mono ?_
          rintro e wf ⟨rfl, hbf⟩
          have HUf := hide ((unhide HU1).keep hbf)
          clear hbf HB
          obtain ⟨-, k1, k2, k3, k4, k5, k6, k7, k8, k9, k10⟩ := (unhide HUf).2.1
          go_wp2
          exact bodyPost_ret (v := wrongV 0) (by simp [results, Try.results9, go_sem, k1, k2, k3, k7, k8]) rfl ⟨put5 (unhide HUf).1 (Nat.le_refl _) _ _ _ _ _, .inl ⟨_, unhide Ht, by simp⟩⟩
    · have HU := hide h.1
      have Hh := hide h
      have Hm0 := hide (show abN (W.heap.size + 1 + 1) wr = 1 from h.1.2.2.num)
      clear h
      obtain ⟨-, o1, o2⟩ := (unhide HU).2.2
      by_cases c1 : s.size ≤ 1
      · have e1 : (s.size : Int) ≤ 1 := by omega
        have Ht := hide ((unhide Hh).no (by omega) (okc_short _ _ (by rw [str_len]; exact c1)))
        clear Hh
        go_wp2_with fail
        go_quiet (fail)
        have HU1 := hide ((unhide HU).keep (Joins.below_draws _ _ nq))
        clear o1 o2 HU
        generalize wr.drewN nq = wq at *
        have HB := hide (bad_any (unhide HU1).2.2)
        go_wp2_with fail
        refine (unhide HB).mono ?_
        rintro e wf ⟨rfl, hbf⟩
        have HUf := hide ((unhide HU1).keep hbf)
        clear hbf HB
        obtain ⟨-, k1, k2, k3, k4, k5, k6, k7, k8, k9, k10⟩ := (unhide HUf).2.1
        go_wp2
        exact bodyPost_ret (v := wrongV 1) (by simp [results, Try.results9, go_sem, k1, k2, k3, k7, k8]) rfl ⟨put5 (unhide HUf).1 (Nat.le_refl _) _ _ _ _ _, .inl ⟨_, unhide Ht, by simp⟩⟩
      · have e1 : ¬ ((s.size : Int) ≤ 1) := by omega
        have e11 : decide ((s.size : Int) ≤ 1) = false := by simpa using e1
        have hl : 1 < s.size := by omega
        have hby := bya_str s 1 hl
        have hc := s[1].toNat_lt
        by_cases c2 : s[1].toNat = 81
        · have e2 : ((s[1].toNat : Int) != (({ data := #[74, 81, 49] } : ByteArray)[1].toNat : Int)) = false := by rw [c2]; rfl
          have HUn := hide (fun V (hV : Uq W V 1) => (unhide Hh).next (V := V) hV (okc_lo _ _ (by omega) (by rw [str_len]; exact hl) (by rw [hby, c2]; rfl)))
          clear hby c2 Hh
          go_wp2_with fail
          go_quiet (fail)
          have HU1 := hide ((unhide HU).keep (Joins.below_draws _ _ nq))
          clear o1 o2 HU
          generalize wr.drewN nq = wq at *
          obtain ⟨-, o1, o2⟩ := (unhide HU1).2.2
          go_wp2
          have HUp := hide (unhide HUn _ (unhide HU1) (by show 1 + 1 ≤ s.size; omega))
          have Hms := hide (show abN (W.heap.size + 1 + 1) (wq.setCell ⟨W.heap.size + 1 + 1, 0, none⟩ (.int .i64 2)) = 2 from (unhide HUp).1.2.2.num)
          go_roundw
          case rel => exact .inr (.inr (.inl (unhide HUp)))
          case measure => have h1 := unhide Hms; have h2 := unhide Hm0; simp only [h1, h2]; omega
        · have e2 : ((s[1].toNat : Int) != (({ data := #[74, 81, 49] } : ByteArray)[1].toNat : Int)) = true := by
            have hk : (({ data := #[74, 81, 49] } : ByteArray)[1].toNat : Int) = 81 := rfl
            rw [hk]; simp; omega
          have Ht := hide ((unhide Hh).no (by omega) (okc_lo_no _ _ (by omega) (by rw [hby]; exact c2)))
          clear hby c2 Hh
          go_wp2_with fail
          go_quiet (fail)
          have HU1 := hide ((unhide HU).keep (Joins.below_draws _ _ nq))
          clear o1 o2 HU
          generalize wr.drewN nq = wq at *
          have HB := hide (bad_any (unhide HU1).2.2)
          go_wp2_with fail
          refine (unhide HB).mono ?_
          rintro e wf ⟨rfl, hbf⟩
          have HUf := hide ((unhide HU1).keep hbf)
          clear hbf HB
          obtain ⟨-, k1, k2, k3, k4, k5, k6, k7, k8, k9, k10⟩ := (unhide HUf).2.1
          go_wp2
          exact bodyPost_ret (v := wrongV 1) (by simp [results, Try.results9, go_sem, k1, k2, k3, k7, k8]) rfl ⟨put5 (unhide HUf).1 (Nat.le_refl _) _ _ _ _ _, .inl ⟨_, unhide Ht, by simp⟩⟩
    · have HU := hide h.1
      have Hh := hide h
      have Hm0 := hide (show abN (W.heap.size + 1 + 1) wr = 2 from h.1.2.2.num)
      clear h
      obtain ⟨-, o1, o2⟩ := (unhide HU).2.2
      by_cases c1 : s.size ≤ 2
      · have e1 : (s.size : Int) ≤ 2 := by omega
        have Ht := hide ((unhide Hh).no (by omega) (okc_short _ _ (by rw [str_len]; exact c1)))
        clear Hh
        go_wp2_with fail
        go_quiet (fail)
        have HU1 := hide ((unhide HU).keep (Joins.below_draws _ _ nq))
        clear o1 o2 HU
        generalize wr.drewN nq = wq at *
        have HB := hide (bad_any (unhide HU1).2.2)
        go_wp2_with fail
        refine (unhide HB).mono ?_
        rintro e wf ⟨rfl, hbf⟩
        have HUf := hide ((unhide HU1).keep hbf)
        clear hbf HB
        obtain ⟨-, k1, k2, k3, k4, k5, k6, k7, k8, k9, k10⟩ := (unhide HUf).2.1
        go_wp2
        exact bodyPost_ret (v := wrongV 2) (by simp [results, Try.results9, go_sem, k1, k2, k3, k7, k8]) rfl ⟨put5 (unhide HUf).1 (Nat.le_refl _) _ _ _ _ _, .inl ⟨_, unhide Ht, by simp⟩⟩
      · have e1 : ¬ ((s.size : Int) ≤ 2) := by omega
        have e11 : decide ((s.size : Int) ≤ 2) = false := by simpa using e1
        have hl : 2 < s.size := by omega
        have hby := bya_str s 2 hl
        have hc := s[2].toNat_lt
        by_cases c2 : s[2].toNat = 49
        · have e2 : ((s[2].toNat : Int) != (({ data := #[74, 81, 49] } : ByteArray)[2].toNat : Int)) = false := by rw [c2]; rfl
          have HUn := hide (fun V (hV : Uq W V 2) => (unhide Hh).next (V := V) hV (okc_lo _ _ (by omega) (by rw [str_len]; exact hl) (by rw [hby, c2]; rfl)))
          clear hby c2 Hh
          go_wp2_with fail
          go_quiet (fail)
          have HU1 := hide ((unhide HU).keep (Joins.below_draws _ _ nq))
          clear o1 o2 HU
          generalize wr.drewN nq = wq at *
          obtain ⟨-, o1, o2⟩ := (unhide HU1).2.2
          go_wp2
          have HUp := hide (unhide HUn _ (unhide HU1) (by show 2 + 1 ≤ s.size; omega))
          have Hms := hide (show abN (W.heap.size + 1 + 1) (wq.setCell ⟨W.heap.size + 1 + 1, 0, none⟩ (.int .i64 3)) = 3 from (unhide HUp).1.2.2.num)
          go_roundw
          case rel => exact .inr (.inr (.inr (unhide HUp)))
          case measure => have h1 := unhide Hms; have h2 := unhide Hm0; simp only [h1, h2]; omega
        · have e2 : ((s[2].toNat : Int) != (({ data := #[74, 81, 49] } : ByteArray)[2].toNat : Int)) = true := by
            have hk : (({ data := #[74, 81, 49] } : ByteArray)[2].toNat : Int) = 49 := rfl
            rw [hk]; simp; omega
          have Ht := hide ((unhide Hh).no (by omega) (okc_lo_no _ _ (by omega) (by rw [hby]; exact c2)))
          clear hby c2 Hh
          go_wp2_with fail
          go_quiet (fail)
          have HU1 := hide ((unhide HU).keep (Joins.below_draws _ _ nq))
          clear o1 o2 HU
          generalize wr.drewN nq = wq at *
          have HB := hide (bad_any (unhide HU1).2.2)
          go_wp2_with fail
          refine (unhide HB).mono ?_
          rintro e wf ⟨rfl, hbf⟩
          have HUf := hide ((unhide HU1).keep hbf)
          clear hbf HB
          obtain ⟨-, k1, k2, k3, k4, k5, k6, k7, k8, k9, k10⟩ := (unhide HUf).2.1
          go_wp2
          exact bodyPost_ret (v := wrongV 2) (by simp [results, Try.results9, go_sem, k1, k2, k3, k7, k8]) rfl ⟨put5 (unhide HUf).1 (Nat.le_refl _) _ _ _ _ _, .inl ⟨_, unhide Ht, by simp⟩⟩
    · have H3 := hide h
      obtain ⟨-, o1, o2⟩ := h.1.2.2
      clear h
      go_wp2
      clear o1 o2
      go_loopw [36] (fun _ wr => HdU W s 3 wr ∨ HdU W s 4 wr ∨ HdU W s 5 wr) (fun _ wr => 5 - abN (W.heap.size + 1 + 1) wr)
      case atStart => exact .inl (unhide H3)
      case round =>
        clear H3
        rcases hrel with h | h | h
        · have HU := hide h.1
          have Hh := hide h
          have Hm0 := hide (show abN (W.heap.size + 1 + 1) wr = 3 from h.1.2.2.num)
          clear h
          obtain ⟨-, o1, o2⟩ := (unhide HU).2.2
          by_cases c1 : s.size ≤ 3
          · have e1 : (s.size : Int) ≤ 3 := by omega
            have Ht := hide ((unhide Hh).no (by omega) (okc_short _ _ (by rw [str_len]; exact c1)))
            clear Hh
            have HB := hide (bad_any (unhide HU).2.2)
            go_wp2_with fail
            refine (unhide HB).mono ?_
            rintro e wf ⟨rfl, hbf⟩
            have HUf := hide ((unhide HU).keep hbf)
            clear hbf HB
            obtain ⟨-, k1, k2, k3, k4, k5, k6, k7, k8, k9, k10⟩ := (unhide HUf).2.1
            go_wp2
            exact bodyPost_ret (v := wrongV 3) (by simp [results, Try.results9, go_sem, k1, k2, k3, k7, k8]) rfl ⟨put5 (unhide HUf).1 (Nat.le_refl _) _ _ _ _ _, .inl ⟨_, unhide Ht, by simp⟩⟩
          · have e1 : ¬ ((s.size : Int) ≤ 3) := by omega
            have e11 : decide ((s.size : Int) ≤ 3) = false := by simpa using e1
            have hl : 3 < s.size := by omega
            have hby := bya_str s 3 hl
            have hc := s[3].toNat_lt
            by_cases c2 : s[3].toNat ≤ 64
            · have e2 : ¬ ((64 : Int) < (s[3].toNat : Int)) := by omega
              have e21 : decide ((64 : Int) < (s[3].toNat : Int)) = false := by simpa using e2
              have HUn := hide (fun V (hV : Uq W V 3) => (unhide Hh).next (V := V) hV (okc_hi _ _ (by omega) (by rw [str_len]; exact hl) (by rw [hby]; exact c2)))
              clear hby c2 Hh
              go_wp2
              have HUp := hide (unhide HUn _ (unhide HU) (by show 3 + 1 ≤ s.size; omega))
              have Hms := hide (show abN (W.heap.size + 1 + 1) (wr.setCell ⟨W.heap.size + 1 + 1, 0, none⟩ (.int .i64 4)) = 4 from (unhide HUp).1.2.2.num)
              go_roundw
              case rel => exact .inr (.inl (unhide HUp))
              case measure => have h1 := unhide Hms; have h2 := unhide Hm0; simp only [h1, h2]; omega
            · have e2 : (64 : Int) < (s[3].toNat : Int) := by omega
              have Ht := hide ((unhide Hh).no (by omega) (okc_hi_no _ _ (by omega) (by rw [hby]; exact c2)))
              clear hby c2 Hh
              have HB := hide (bad_any (unhide HU).2.2)
              go_wp2_with fail
              refine (unhide HB).mono ?_
              rintro e wf ⟨rfl, hbf⟩
              have HUf := hide ((unhide HU).keep hbf)
              clear hbf HB
              obtain ⟨-, k1, k2, k3, k4, k5, k6, k7, k8, k9, k10⟩ := (unhide HUf).2.1
              go_wp2
              exact bodyPost_ret (v := wrongV 3) (by simp [results, Try.results9, go_sem, k1, k2, k3, k7, k8]) rfl ⟨put5 (unhide HUf).1 (Nat.le_refl _) _ _ _ _ _, .inl ⟨_, unhide Ht, by simp⟩⟩
        · have HU := hide h.1
          have Hh := hide h
          have Hm0 := hide (show abN (W.heap.size + 1 + 1) wr = 4 from h.1.2.2.num)
          clear h
          obtain ⟨-, o1, o2⟩ := (unhide HU).2.2
          by_cases c1 : s.size ≤ 4
          · have e1 : (s.size : Int) ≤ 4 := by omega
            have Ht := hide ((unhide Hh).no (by omega) (okc_short _ _ (by rw [str_len]; exact c1)))
            clear Hh
            have HB := hide (bad_any (unhide HU).2.2)
            go_wp2_with fail
            refine (unhide HB).mono ?_
            rintro e wf ⟨rfl, hbf⟩
            have HUf := hide ((unhide HU).keep hbf)
            clear hbf HB
            obtain ⟨-, k1, k2, k3, k4, k5, k6, k7, k8, k9, k10⟩ := (unhide HUf).2.1
            go_wp2
            exact bodyPost_ret (v := wrongV 4) (by simp [results, Try.results9, go_sem, k1, k2, k3, k7, k8]) rfl ⟨put5 (unhide HUf).1 (Nat.le_refl _) _ _ _ _ _, .inl ⟨_, unhide Ht, by simp⟩⟩
          · have e1 : ¬ ((s.size : Int) ≤ 4) := by omega
            have e11 : decide ((s.size : Int) ≤ 4) = false := by simpa using e1
            have hl : 4 < s.size := by omega
            have hby := bya_str s 4 hl
            have hc := s[4].toNat_lt
            by_cases c2 : s[4].toNat ≤ 64
            · have e2 : ¬ ((64 : Int) < (s[4].toNat : Int)) := by omega
              have e21 : decide ((64 : Int) < (s[4].toNat : Int)) = false := by simpa using e2
              have HUn := hide (fun V (hV : Uq W V 4) => (unhide Hh).next (V := V) hV (okc_hi _ _ (by omega) (by rw [str_len]; exact hl) (by rw [hby]; exact c2)))
              clear hby c2 Hh
              go_wp2
              have HUp := hide (unhide HUn _ (unhide HU) (by show 4 + 1 ≤ s.size; omega))
              have Hms := hide (show abN (W.heap.size + 1 + 1) (wr.setCell ⟨W.heap.size + 1 + 1, 0, none⟩ (.int .i64 5)) = 5 from (unhide HUp).1.2.2.num)
              go_roundw
              case rel => exact .inr (.inr (unhide HUp))
              case measure => have h1 := unhide Hms; have h2 := unhide Hm0; simp only [h1, h2]; omega
            · have e2 : (64 : Int) < (s[4].toNat : Int) := by omega
              have Ht := hide ((unhide Hh).no (by omega) (okc_hi_no _ _ (by omega) (by rw [hby]; exact c2)))
              clear hby c2 Hh
              have HB := hide (bad_any (unhide HU).2.2)
              go_wp2_with fail
              refine (unhide HB).mono ?_
              rintro e wf ⟨rfl, hbf⟩
              have HUf := hide ((unhide HU).keep hbf)
              clear hbf HB
              obtain ⟨-, k1, k2, k3, k4, k5, k6, k7, k8, k9, k10⟩ := (unhide HUf).2.1
              go_wp2
              exact bodyPost_ret (v := wrongV 4) (by simp [results, Try.results9, go_sem, k1, k2, k3, k7, k8]) rfl ⟨put5 (unhide HUf).1 (Nat.le_refl _) _ _ _ _ _, .inl ⟨_, unhide Ht, by simp⟩⟩
        · exact absurd ((hd_none _).2 h.2.2) (unhide Hhd)
end Go.Proofs.Ytkjicpbnkehimaa
