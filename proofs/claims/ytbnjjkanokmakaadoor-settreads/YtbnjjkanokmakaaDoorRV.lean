/-
  The reader: sett.
-/
import Derived.Test.YtbnjjkanokmakaaDoorRZ
import Derived.Test.YtbnjjkanokmakaaDoorSB
namespace Go.Proofs.YtbnjjkanokmakaaDoor
open Go.RowKit

theorem g19_0 {a0 a1 a2 a3 a4 a5 a6 a7 a8 a9 a10 a11 a12 a13 a14 a15 a16 a17 a18 : Oper} : (#[a0, a1, a2, a3, a4, a5, a6, a7, a8, a9, a10, a11, a12, a13, a14, a15, a16, a17, a18] : Array Oper)[0]? = some a0 := rfl
theorem g19_1 {a0 a1 a2 a3 a4 a5 a6 a7 a8 a9 a10 a11 a12 a13 a14 a15 a16 a17 a18 : Oper} : (#[a0, a1, a2, a3, a4, a5, a6, a7, a8, a9, a10, a11, a12, a13, a14, a15, a16, a17, a18] : Array Oper)[1]? = some a1 := rfl
theorem g19_2 {a0 a1 a2 a3 a4 a5 a6 a7 a8 a9 a10 a11 a12 a13 a14 a15 a16 a17 a18 : Oper} : (#[a0, a1, a2, a3, a4, a5, a6, a7, a8, a9, a10, a11, a12, a13, a14, a15, a16, a17, a18] : Array Oper)[2]? = some a2 := rfl
theorem g19_3 {a0 a1 a2 a3 a4 a5 a6 a7 a8 a9 a10 a11 a12 a13 a14 a15 a16 a17 a18 : Oper} : (#[a0, a1, a2, a3, a4, a5, a6, a7, a8, a9, a10, a11, a12, a13, a14, a15, a16, a17, a18] : Array Oper)[3]? = some a3 := rfl
theorem g19_4 {a0 a1 a2 a3 a4 a5 a6 a7 a8 a9 a10 a11 a12 a13 a14 a15 a16 a17 a18 : Oper} : (#[a0, a1, a2, a3, a4, a5, a6, a7, a8, a9, a10, a11, a12, a13, a14, a15, a16, a17, a18] : Array Oper)[4]? = some a4 := rfl
theorem g19_5 {a0 a1 a2 a3 a4 a5 a6 a7 a8 a9 a10 a11 a12 a13 a14 a15 a16 a17 a18 : Oper} : (#[a0, a1, a2, a3, a4, a5, a6, a7, a8, a9, a10, a11, a12, a13, a14, a15, a16, a17, a18] : Array Oper)[5]? = some a5 := rfl
theorem g19_6 {a0 a1 a2 a3 a4 a5 a6 a7 a8 a9 a10 a11 a12 a13 a14 a15 a16 a17 a18 : Oper} : (#[a0, a1, a2, a3, a4, a5, a6, a7, a8, a9, a10, a11, a12, a13, a14, a15, a16, a17, a18] : Array Oper)[6]? = some a6 := rfl
theorem g19_7 {a0 a1 a2 a3 a4 a5 a6 a7 a8 a9 a10 a11 a12 a13 a14 a15 a16 a17 a18 : Oper} : (#[a0, a1, a2, a3, a4, a5, a6, a7, a8, a9, a10, a11, a12, a13, a14, a15, a16, a17, a18] : Array Oper)[7]? = some a7 := rfl
theorem g19_8 {a0 a1 a2 a3 a4 a5 a6 a7 a8 a9 a10 a11 a12 a13 a14 a15 a16 a17 a18 : Oper} : (#[a0, a1, a2, a3, a4, a5, a6, a7, a8, a9, a10, a11, a12, a13, a14, a15, a16, a17, a18] : Array Oper)[8]? = some a8 := rfl
theorem g19_9 {a0 a1 a2 a3 a4 a5 a6 a7 a8 a9 a10 a11 a12 a13 a14 a15 a16 a17 a18 : Oper} : (#[a0, a1, a2, a3, a4, a5, a6, a7, a8, a9, a10, a11, a12, a13, a14, a15, a16, a17, a18] : Array Oper)[9]? = some a9 := rfl
theorem g19_10 {a0 a1 a2 a3 a4 a5 a6 a7 a8 a9 a10 a11 a12 a13 a14 a15 a16 a17 a18 : Oper} : (#[a0, a1, a2, a3, a4, a5, a6, a7, a8, a9, a10, a11, a12, a13, a14, a15, a16, a17, a18] : Array Oper)[10]? = some a10 := rfl
theorem g19_11 {a0 a1 a2 a3 a4 a5 a6 a7 a8 a9 a10 a11 a12 a13 a14 a15 a16 a17 a18 : Oper} : (#[a0, a1, a2, a3, a4, a5, a6, a7, a8, a9, a10, a11, a12, a13, a14, a15, a16, a17, a18] : Array Oper)[11]? = some a11 := rfl
theorem g19_12 {a0 a1 a2 a3 a4 a5 a6 a7 a8 a9 a10 a11 a12 a13 a14 a15 a16 a17 a18 : Oper} : (#[a0, a1, a2, a3, a4, a5, a6, a7, a8, a9, a10, a11, a12, a13, a14, a15, a16, a17, a18] : Array Oper)[12]? = some a12 := rfl
theorem g19_13 {a0 a1 a2 a3 a4 a5 a6 a7 a8 a9 a10 a11 a12 a13 a14 a15 a16 a17 a18 : Oper} : (#[a0, a1, a2, a3, a4, a5, a6, a7, a8, a9, a10, a11, a12, a13, a14, a15, a16, a17, a18] : Array Oper)[13]? = some a13 := rfl
theorem g19_14 {a0 a1 a2 a3 a4 a5 a6 a7 a8 a9 a10 a11 a12 a13 a14 a15 a16 a17 a18 : Oper} : (#[a0, a1, a2, a3, a4, a5, a6, a7, a8, a9, a10, a11, a12, a13, a14, a15, a16, a17, a18] : Array Oper)[14]? = some a14 := rfl
theorem g19_15 {a0 a1 a2 a3 a4 a5 a6 a7 a8 a9 a10 a11 a12 a13 a14 a15 a16 a17 a18 : Oper} : (#[a0, a1, a2, a3, a4, a5, a6, a7, a8, a9, a10, a11, a12, a13, a14, a15, a16, a17, a18] : Array Oper)[15]? = some a15 := rfl
theorem g19_16 {a0 a1 a2 a3 a4 a5 a6 a7 a8 a9 a10 a11 a12 a13 a14 a15 a16 a17 a18 : Oper} : (#[a0, a1, a2, a3, a4, a5, a6, a7, a8, a9, a10, a11, a12, a13, a14, a15, a16, a17, a18] : Array Oper)[16]? = some a16 := rfl
theorem g19_17 {a0 a1 a2 a3 a4 a5 a6 a7 a8 a9 a10 a11 a12 a13 a14 a15 a16 a17 a18 : Oper} : (#[a0, a1, a2, a3, a4, a5, a6, a7, a8, a9, a10, a11, a12, a13, a14, a15, a16, a17, a18] : Array Oper)[17]? = some a17 := rfl
theorem g19_18 {a0 a1 a2 a3 a4 a5 a6 a7 a8 a9 a10 a11 a12 a13 a14 a15 a16 a17 a18 : Oper} : (#[a0, a1, a2, a3, a4, a5, a6, a7, a8, a9, a10, a11, a12, a13, a14, a15, a16, a17, a18] : Array Oper)[18]? = some a18 := rfl
theorem g4_0 {a0 a1 a2 a3 : Oper} : (#[a0, a1, a2, a3] : Array Oper)[0]? = some a0 := rfl
theorem g4_1 {a0 a1 a2 a3 : Oper} : (#[a0, a1, a2, a3] : Array Oper)[1]? = some a1 := rfl
theorem g4_2 {a0 a1 a2 a3 : Oper} : (#[a0, a1, a2, a3] : Array Oper)[2]? = some a2 := rfl
theorem g4_3 {a0 a1 a2 a3 : Oper} : (#[a0, a1, a2, a3] : Array Oper)[3]? = some a3 := rfl
theorem sp_good {s : ByteArray} {p : Nat} (h : (spE s p).1 = 0) : SpOf s p (spV s p).1.1 (spV s p).1.2 0 0 (spV s p).2 := by
  unfold spE at h
  unfold spV
  cases e : signAt s p with
  | none => rw [e] at h; cases h
  | some x =>
    obtain ⟨c, n⟩ := x
    rw [e] at h
    exact .inr (.inr ⟨c, n, e, h, rfl, rfl, rfl, rfl, rfl⟩)
theorem sp_bad {s : ByteArray} {p : Nat} (h : (spE s p).1 ≠ 0) : SpOf s p 0 0 (spE s p).1 ((spE s p).2 : Nat) (spE s p).2 := by
  unfold spE at h ⊢
  cases e : signAt s p with
  | none => exact .inl ⟨e, rfl, rfl, rfl, rfl, rfl⟩
  | some x =>
    obtain ⟨c, n⟩ := x
    rw [e] at h
    exact .inr (.inl ⟨c, n, e, h, rfl, rfl, rfl, rfl, rfl⟩)
/-- a sett in a box that may be set -/
def BSx (W : World) (b : Nat) (pv : Bool) (v : Value) : Prop := BS W b pv v ∧ ∀ j, W.frozen? ⟨b, j, none⟩ = false
theorem BSx.keep {W V : World} {b : Nat} {pv : Bool} {v : Value} (h : BSx W b pv v) (hb : Below W.heap.size W V) : BSx V b pv v := ⟨h.1.keep hb, fun j => keepF hb h.1.1 (h.2 j)⟩
theorem BSx.new (W : World) (pv : Bool) (v : Value) (t : TypeId) : BSx (W.alloc (.cells #[.bool pv, v] t)) W.heap.size pv v := ⟨BS.new W pv v t, fun j => by simp [go_sem]⟩
theorem BSx.but {W V : World} {b : Nat} {pv : Bool} {v : Value} {S : Nat → Prop} (h : BSx W b pv v) (k : Kept S W V) (hS : ¬ S b) : BSx V b pv v :=
  ⟨⟨Nat.lt_of_lt_of_le h.1.1 k.size, k.cell h.1.1 hS h.1.2.1, k.cell h.1.1 hS h.1.2.2⟩, fun j => k.froz h.1.1 hS (h.2 j)⟩
/-- what lies where -/
def Od (W0 W : World) (rb B b2 b3 b4 : Nat) : Prop := W0.heap.size ≤ W.heap.size ∧ rb < W.heap.size ∧ (W.heap.size ≤ b2 ∧ W.heap.size ≤ b3 ∧ W.heap.size ≤ b4) ∧ (b2 < B ∧ b3 < B ∧ b4 < B) ∧ b2 ≠ b3 ∧ b2 ≠ b4 ∧ b3 ≠ b4
/-- a sett, as it is read -/
def SeS (W0 W : World) (rb : Nat) (s : ByteArray) (B b2 b3 b4 : Nat) (pv : Bool) (p : Nat) (q : Option Addr) (cap : Nat) (acc : List St) (V : World) : Prop :=
  (Rdr W0 rb s p V ∧ Kept (fun i => i = rb) W V) ∧ (BSx V b2 false (.slice none 0 0) ∧ Bx V b3 0 0 ∧ BSx V b4 pv (.slice q acc.length cap)) ∧ SR V B (.slice q acc.length cap) acc ∧ B ≤ V.heap.size
theorem SeS.keep {W0 W V U : World} {rb B b2 b3 b4 p cap : Nat} {s : ByteArray} {pv : Bool} {q : Option Addr} {acc : List St} (h : SeS W0 W rb s B b2 b3 b4 pv p q cap acc V) (hb : Below V.heap.size V U) : SeS W0 W rb s B b2 b3 b4 pv p q cap acc U :=
  ⟨⟨h.1.1.keep hb, h.1.2.below hb⟩, ⟨h.2.1.1.keep hb, h.2.1.2.1.keep hb, h.2.1.2.2.keep hb⟩, h.2.2.1.keep hb, Nat.le_trans h.2.2.2 hb.size⟩
theorem SeS.but {W0 W V U : World} {rb B b2 b3 b4 p p2 cap : Nat} {s : ByteArray} {pv : Bool} {q : Option Addr} {acc : List St} (h : SeS W0 W rb s B b2 b3 b4 pv p q cap acc V) (o : Od W0 W rb B b2 b3 b4) (k : Kept (fun i => i = rb) V U) (hr : Rdr W0 rb s p2 U) : SeS W0 W rb s B b2 b3 b4 pv p2 q cap acc U := by
  obtain ⟨o1, o2, ⟨o3, o4, o5⟩, ⟨o6, o7, o8⟩, -⟩ := o
  refine ⟨⟨hr, h.1.2.trans k⟩, ⟨h.2.1.1.but k (by omega), h.2.1.2.1.but k (by omega), h.2.1.2.2.but k (by omega)⟩, own_but h.2.2.1 k (fun i hi e => ?_), Nat.le_trans h.2.2.2 k.size⟩
  have := (World.ownsRow.lt h.2.2.1 i hi).1
  omega
theorem Kept.grow {S : Nat → Prop} {W V U : World} {B : Nat} (h : Kept S W V) (k : Kept (fun i => B ≤ i) V U) (hB : W.heap.size ≤ B) : Kept S W U :=
  ⟨k.1.trans h.1, k.2.1.trans h.2.1, k.2.2.1.trans h.2.2.1, Nat.le_trans h.size k.size, fun i hi hS => (k.2.2.2.2 i (Nat.lt_of_lt_of_le hi h.size) (by omega)).trans (h.2.2.2.2 i hi hS)⟩
/-- a stripe more -/
theorem SeS.step {W0 W V U : World} {rb B b2 b3 b4 p cap cap' : Nat} {s : ByteArray} {pv : Bool} {q q' : Option Addr} {acc acc' : List St} (h : SeS W0 W rb s B b2 b3 b4 pv p q cap acc V) (o : Od W0 W rb B b2 b3 b4) (ho : SR U B (.slice q' acc'.length cap') acc') (hg : V.grownBy U (Value.slice q acc.length cap).ownBlock) :
    SeS W0 W rb s B b2 b3 b4 pv p q' cap' acc' (U.setCell ⟨b4, 1, none⟩ (.slice q' acc'.length cap')) ∧ U.cell? ⟨b4, 1, none⟩ = some (.slice q acc.length cap) ∧ U.frozen? ⟨b4, 1, none⟩ = false := by
  have O := o
  obtain ⟨o1, o2, ⟨o3, o4, o5⟩, ⟨o6, o7, o8⟩, o9, o10, o11⟩ := o
  have k : Kept (fun i => B ≤ i) V U := grown_kept hg (fun r e => .inl (World.ownsRow.lt h.2.2.1 r e).1)
  obtain ⟨⟨h1, h2⟩, ⟨h3, h4, h5⟩, h6, h7⟩ := h
  have k4 := h5.but k (by omega)
  have e4 : Kept (fun i => i = b4) U (U.setCell ⟨b4, 1, none⟩ (.slice q' acc'.length cap')) := kset _ _ _ _
  have hr : Rdr W0 rb s p U := h1.but k (by omega) (h1.2.2.2.grown hg h1.2.2.2.size (fun i e => by have := (World.ownsRow.lt h6 i e).1; omega))
  refine ⟨⟨⟨hr.but e4 (by omega) (hr.2.2.2.setCell (p := ⟨b4, 1, none⟩) (Nat.le_trans o1 o5) _), (h2.grow k (by omega)).set 1 _ (.inr o5)⟩, ⟨(h3.but k (by omega)).but e4 (by omega), (h4.but k (by omega)).but e4 (by omega), ⟨⟨?_, ?_, ?_⟩, ?_⟩⟩, own_but ho e4 (fun i hi e => ?_), ?_⟩, k4.1.2.2, k4.2 1⟩
  · simpa using k4.1.1
  · exact cset k4.1.2.1 (by decide)
  · exact csame k4.1.2.2
  · exact fun j => fset (k4.2 j)
  · have := (World.ownsRow.lt ho i hi).1
    omega
  · have := k.size
    simp
    omega
theorem SeS.pos {W0 W V : World} {rb B b2 b3 b4 p cap : Nat} {s : ByteArray} {pv : Bool} {q : Option Addr} {acc : List St} (h : SeS W0 W rb s B b2 b3 b4 pv p q cap acc V) : V.cell? ⟨rb, 1, none⟩ = some (.int .i64 (p : Int)) := h.1.1.2.1.2
theorem SeS.row {W0 W V : World} {rb B b2 b3 b4 p cap : Nat} {s : ByteArray} {pv : Bool} {q : Option Addr} {acc : List St} (h : SeS W0 W rb s B b2 b3 b4 pv p q cap acc V) (o : Od W0 W rb B b2 b3 b4) : ∀ g o', q = some ⟨g, o', none⟩ → W.heap.size ≤ g := by
  obtain ⟨o1, o2, ⟨o3, o4, o5⟩, ⟨o6, o7, o8⟩, o9, o10, o11⟩ := o
  intro g o' e
  have := (World.ownsRow.lt h.2.2.1 g (by rw [e]; rfl)).1
  omega
/-- all boxes are set -/
theorem SeS.fill {W0 W V : World} {rb B b2 b3 b4 p cap : Nat} {s : ByteArray} {pv : Bool} {q : Option Addr} {acc : List St} (h : SeS W0 W rb s B b2 b3 b4 pv p q cap acc V) (o : Od W0 W rb B b2 b3 b4) (a : Bool) (v : Value) (c0 c1 : Int) :
    ∃ U, (((V.setCell ⟨b2, 0, none⟩ (.bool a)).setCell ⟨b2, 1, none⟩ v).setCell ⟨b3, 0, none⟩ (.int .i64 c0)).setCell ⟨b3, 1, none⟩ (.int .i64 c1) = U ∧ Rdr W0 rb s p U ∧ Kept (fun i => i = rb) W U ∧ U.cell? ⟨b2, 0, none⟩ = some (.bool a) ∧ U.cell? ⟨b2, 1, none⟩ = some v ∧ U.cell? ⟨b3, 0, none⟩ = some (.int .i64 c0) ∧ U.cell? ⟨b3, 1, none⟩ = some (.int .i64 c1) ∧ Sl U q acc := by
  have O := o
  obtain ⟨o1, o2, ⟨o3, o4, o5⟩, ⟨o6, o7, o8⟩, o9, o10, o11⟩ := o
  obtain ⟨⟨h1, h2⟩, ⟨⟨⟨x1, x2, x3⟩, -⟩, ⟨⟨y1, y2, y3⟩, -⟩, -⟩, h6, h7⟩ := h
  have k : Kept (fun i => i = b2 ∨ i = b3) V ((((V.setCell ⟨b2, 0, none⟩ (.bool a)).setCell ⟨b2, 1, none⟩ v).setCell ⟨b3, 0, none⟩ (.int .i64 c0)).setCell ⟨b3, 1, none⟩ (.int .i64 c1)) :=
    ((((Kept.refl _ V).set 0 _ (.inl (.inl rfl))).set 1 _ (.inl (.inl rfl))).set 0 _ (.inl (.inr rfl))).set 1 _ (.inl (.inr rfl))
  refine ⟨_, rfl, h1.but k (fun e => by rcases e with e | e <;> omega) ?_, ?_, ?_, ?_, ?_, ?_, ?_⟩
  · exact (((h1.2.2.2.setCell (p := ⟨b2, 0, none⟩) (Nat.le_trans o1 o3) _).setCell (p := ⟨b2, 1, none⟩) (Nat.le_trans o1 o3) _).setCell (p := ⟨b3, 0, none⟩) (Nat.le_trans o1 o4) _).setCell (p := ⟨b3, 1, none⟩) (Nat.le_trans o1 o4) _
  · exact (((h2.set 0 _ (.inr o3)).set 1 _ (.inr o3)).set 0 _ (.inr o4)).set 1 _ (.inr o4)
  · exact cnot (cnot (cset (csame x2) (by decide)) o9) o9
  · exact cnot (cnot (csame (cset x3 (by decide))) o9) o9
  · exact cset (csame (cnot (cnot y2 o9.symm) o9.symm)) (by decide)
  · exact csame (cset (cnot (cnot y3 o9.symm) o9.symm) (by decide))
  · exact (SR.sl (own_but h6 k (fun i hi e => by have := (World.ownsRow.lt h6 i hi).1; rcases e with e | e <;> omega))).2
/-- a row that is new -/
def NewRow (W : World) (q : Option Addr) : Prop := ∀ g o, q = some ⟨g, o, none⟩ → W.heap.size ≤ g
/-- a sett, or what is wrong, is told -/
def SeIs (W0 W : World) (rb : Nat) (s : ByteArray) (e : Ending) (V : World) : Prop := (∃ p, Rdr W0 rb s p V) ∧ Kept (fun i => i = rb) W V ∧
  (((rdE s).1 ≠ 0 ∧ e = .returned (.tuple #[sV false none 0 0, .agg #[.int .i64 (rdE s).1, .int .i64 ((rdE s).2 : Nat)]])) ∨ ((rdE s).1 = 0 ∧ ∃ q cap, e = .returned (.tuple #[sV (pvS s) q (rdS s).2.2.length cap, .agg #[.int .i64 0, .int .i64 0]]) ∧ Sl V q (rdS s).2.2 ∧ NewRow W q))
/-- what comes of what was read so far -/
def nx (s : ByteArray) (p : Nat) (acc : List St) : Int × Nat × List St := if acc = [] then rst s p [] else if by1 s p 32 = true then rst s (p + 1) acc else (0, p, acc)
theorem nx_put (s : ByteArray) (p : Nat) (acc : List St) (x : St) : nx s p (acc ++ [x]) = if by1 s p 32 = true then rst s (p + 1) (acc ++ [x]) else (0, p, acc ++ [x]) := by
  unfold nx
  rw [if_neg (by simp)]
theorem nx_step {s : ByteArray} {p : Nat} {acc : List St} (h : p ≤ s.size) (he : (spE s p).1 = 0) (hl : acc.length ≠ 256) : rst s p acc = nx s (spV s p).2 (acc ++ [(spV s p).1]) := by
  rw [nx_put]
  cases hb : by1 s (spV s p).2 32 with
  | true => rw [if_pos rfl]; exact rst_next h he hl hb
  | false => rw [if_neg (by decide)]; exact rst_end h he hl hb
theorem rdE_bad {s : ByteArray} {er : Int} {at' : Nat} {acc : List St} (h : rdS s = (er, at', acc)) (he : er ≠ 0) : rdE s = (er, at') := by
  unfold rdE
  rw [h, if_pos he]
theorem SeIs.bad {W0 W V : World} {rb p : Nat} {s : ByteArray} {er : Int} {at' : Nat} (h : rdE s = (er, at')) (he : er ≠ 0) (h1 : Rdr W0 rb s p V) (h2 : Kept (fun i => i = rb) W V) : SeIs W0 W rb s (.returned (.tuple #[sV false none 0 0, .agg #[.int .i64 er, .int .i64 (at' : Nat)]])) V := by
  refine ⟨⟨p, h1⟩, h2, .inl ?_⟩
  rw [h]
  exact ⟨he, rfl⟩
theorem SeIs.good {W0 W V : World} {rb p : Nat} {s : ByteArray} {q : Option Addr} {cap pp : Nat} {acc : List St} (hr : rdS s = (0, p, acc)) (h : rdE s = (0, 0)) (h1 : Rdr W0 rb s pp V) (h2 : Kept (fun i => i = rb) W V) (h3 : Sl V q acc) (h4 : NewRow W q) : SeIs W0 W rb s (.returned (.tuple #[sV (pvS s) q acc.length cap, .agg #[.int .i64 0, .int .i64 0]])) V := by
  refine ⟨⟨pp, h1⟩, h2, .inr ?_⟩
  rw [h, hr]
  exact ⟨rfl, q, cap, rfl, h3, h4⟩
def rdPos (rb : Nat) (W : World) : Nat := match W.cell? ⟨rb, 1, none⟩ with | some (.int _ p) => p.toNat | _ => 0
theorem rdPos_of {rb p : Nat} {W : World} (h : W.cell? ⟨rb, 1, none⟩ = some (.int .i64 (p : Int))) : rdPos rb W = p := by
  unfold rdPos
  rw [h]
  rfl
end Go.Proofs.YtbnjjkanokmakaaDoor
