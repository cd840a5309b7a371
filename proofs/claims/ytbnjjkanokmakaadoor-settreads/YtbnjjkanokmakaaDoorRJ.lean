/-
  The reference's Read: its mathematics, and what is known while it reads.
-/
import Derived.Test.YtbnjjkanokmakaaDoorRI
import Derived.Test.YtbnjjkanokmakaaDoorRS
import Derived.Test.YtbnjjkanokmakaaDoorRB
import Derived.Deep.LoopGhost
import Derived.Laws.RangeString
namespace Go.Proofs.YtbnjjkanokmakaaDoor
open Go.RowKit

/-- what digits say, counted up to where it is too much -/
def cpf (d : List UInt8) : Nat := d.foldl (fun a c => if a ≤ 4096 then 10 * a + (c.toNat - 48) else a) 0
theorem cpf_nil : cpf [] = 0 := rfl
theorem cpf_snoc (l : List UInt8) (c : UInt8) : cpf (l ++ [c]) = if cpf l ≤ 4096 then 10 * cpf l + (c.toNat - 48) else cpf l := by
  unfold cpf
  rw [List.foldl_append]
  rfl
theorem fold_both (d : List UInt8) : ∀ a b : Nat, ((a ≤ 4096 → b = a) ∧ (4096 < a → 4096 < b)) →
    ((d.foldl (fun a c => if a ≤ 4096 then 10 * a + (c.toNat - 48) else a) a ≤ 4096 → num b d = d.foldl (fun a c => if a ≤ 4096 then 10 * a + (c.toNat - 48) else a) a) ∧ (4096 < d.foldl (fun a c => if a ≤ 4096 then 10 * a + (c.toNat - 48) else a) a → 4096 < num b d)) := by
  induction d with
  | nil => intro a b h; rw [num_nil]; exact h
  | cons c r ih =>
    intro a b h
    rw [num_cons, List.foldl_cons]
    generalize c.toNat - 48 = y
    refine ih _ _ ?_
    split
    · rename_i h2
      have := h.1 h2
      subst this
      refine ⟨fun _ => by omega, fun _ => by omega⟩
    · rename_i h2
      have := h.2 (by omega)
      exact ⟨fun h3 => absurd h3 h2, fun _ => by omega⟩
theorem cpf_num (d : List UInt8) : (cpf d ≤ 4096 → num 0 d = cpf d) ∧ (4096 < cpf d → 4096 < num 0 d) := fold_both d 0 0 ⟨fun _ => rfl, fun h => by omega⟩
theorem isD_num {c : UInt8} (h : isD c = true) : 48 ≤ c.toNat ∧ c.toNat ≤ 57 := by
  unfold isD at h
  rw [Bool.and_eq_true, decide_eq_true_eq, decide_eq_true_eq] at h
  exact h
theorem not_isD {c : UInt8} (h : isD c = false) : c.toNat < 48 ∨ 57 < c.toNat := by
  unfold isD at h
  by_cases h1 : 48 ≤ c.toNat
  · by_cases h2 : c.toNat ≤ 57
    · simp [h1, h2] at h
    · omega
  · omega
theorem cpf_le (d : List UInt8) : ∀ k, k ≤ d.length → d.all isD = true → cpf (d.take k) ≤ 40969 := by
  intro k
  induction k with
  | zero => intro _ _; rw [List.take_zero, cpf_nil]; omega
  | succ k ih =>
    intro hk ha
    have h1 := ih (by omega) ha
    rw [List.take_add_one, List.getElem?_eq_getElem (by omega)]
    rw [show (some d[k]).toList = [d[k]] from rfl, cpf_snoc]
    have h2 := isD_num (List.all_eq_true.1 ha d[k] (List.getElem_mem _))
    split <;> omega
theorem cpf_next (d : List UInt8) (k : Nat) (hk : k < d.length) : cpf (d.take (k + 1)) = if cpf (d.take k) ≤ 4096 then 10 * cpf (d.take k) + (d[k].toNat - 48) else cpf (d.take k) := by
  rw [List.take_add_one, List.getElem?_eq_getElem hk]
  rw [show (some d[k]).toList = [d[k]] from rfl, cpf_snoc]
theorem take_at (l : List UInt8) : ∀ i, i < (l.takeWhile isD).length → ∃ h : i < l.length, (l.takeWhile isD)[i]? = some l[i] ∧ isD l[i] = true := by
  induction l with
  | nil => intro i hi; simp at hi
  | cons a r ih =>
    intro i hi
    rw [List.takeWhile_cons] at hi ⊢
    split at hi
    · rename_i ha
      cases i with
      | zero => exact ⟨by simp, by rw [if_pos ha]; rfl, by simpa using ha⟩
      | succ i =>
        obtain ⟨h1, h2, h3⟩ := ih i (by simpa using hi)
        exact ⟨by simpa using h1, by rw [if_pos ha]; simpa using h2, by simpa using h3⟩
    · simp at hi
theorem take_end (l : List UInt8) : ∀ h : (l.takeWhile isD).length < l.length, isD l[(l.takeWhile isD).length] = false := by
  induction l with
  | nil => intro h; simp at h
  | cons a r ih =>
    intro h
    by_cases ha : isD a = true
    · have e : ((a :: r).takeWhile isD).length = (r.takeWhile isD).length + 1 := by rw [List.takeWhile_cons, if_pos ha]; rfl
      have h2 : (r.takeWhile isD).length < r.length := by rw [e] at h; simpa using h
      have := ih h2
      simp only [e, List.getElem_cons_succ]
      exact this
    · have e : ((a :: r).takeWhile isD).length = 0 := by rw [List.takeWhile_cons, if_neg ha]; rfl
      simp only [e, List.getElem_cons_zero]
      simpa using ha
theorem byt_get {s : ByteArray} {p : Nat} (h : p < s.size) : (byt s)[p]? = some (s[p]'h) := by
  show s.data.toList[p]? = _
  rw [Array.getElem?_toList, Array.getElem?_eq_getElem (show p < s.data.size from h)]
  rfl
/-- a digit stands at a place -/
theorem dgs_at {s : ByteArray} {p i : Nat} (hi : i < (dgs s p).length) : ∃ h : p + i < s.size, (dgs s p)[i]? = some (s[p + i]'h) ∧ isD (s[p + i]'h) = true := by
  obtain ⟨h1, h2, h3⟩ := take_at ((byt s).drop p) i hi
  have h4 : p + i < s.size := by rw [List.length_drop, size_byt] at h1; omega
  have h5 : ((byt s).drop p)[i] = s[p + i]'h4 := by
    have := byt_get h4
    rw [List.getElem_drop]
    exact Option.some.inj ((List.getElem?_eq_getElem (by rw [size_byt]; exact h4)).symm.trans this)
  rw [h5] at h2 h3
  exact ⟨h4, h2, h3⟩
/-- none stands behind them -/
theorem dgs_stop {s : ByteArray} {p : Nat} (h : p + (dgs s p).length < s.size) : isD (s[p + (dgs s p).length]'h) = false := by
  have h1 : ((byt s).drop p |>.takeWhile isD).length < ((byt s).drop p).length := by rw [List.length_drop, size_byt]; unfold dgs at h; omega
  have h2 := take_end ((byt s).drop p) h1
  have h5 : ((byt s).drop p)[((byt s).drop p |>.takeWhile isD).length] = s[p + (dgs s p).length]'h := by
    have := byt_get h
    rw [List.getElem_drop]
    exact Option.some.inj ((List.getElem?_eq_getElem (by rw [size_byt]; exact h)).symm.trans this)
  rw [h5] at h2
  exact h2
/-- a text's part, byte by byte -/
theorem ex_get {s : ByteArray} {p k i : Nat} (hk : p + k ≤ s.size) (hi : i < k) : ∃ h : i < (s.extract p (p + k)).size, ∃ h2 : p + i < s.size, (s.extract p (p + k))[i]'h = s[p + i]'h2 := by
  have hs : (s.extract p (p + k)).size = k := by rw [ByteArray.size_extract]; omega
  refine ⟨by omega, by omega, ?_⟩
  rw [ByteArray.getElem_extract]
theorem ex_size {s : ByteArray} {p k : Nat} (hk : p + k ≤ s.size) : (s.extract p (p + k)).size = k := by rw [ByteArray.size_extract]; omega

/-- a number in a box that may be set -/
def Oz (V : World) (b : Nat) (x : Nat) : Prop := b < V.heap.size ∧ V.cell? ⟨b, 0, none⟩ = some (.int .i64 (x : Int)) ∧ ∀ j, V.frozen? ⟨b, j, none⟩ = false
theorem Oz.keep {W V : World} {b x : Nat} (h : Oz W b x) (hb : Below W.heap.size W V) : Oz V b x := ⟨Nat.lt_of_lt_of_le h.1 hb.size, keepC hb h.1 h.2.1, fun j => keepF hb h.1 (h.2.2 j)⟩
theorem Oz.but {S : Nat → Prop} {W V : World} {b x : Nat} (h : Oz W b x) (k : Kept S W V) (hS : ¬ S b) : Oz V b x := ⟨Nat.lt_of_lt_of_le h.1 k.size, k.cell h.1 hS h.2.1, fun j => k.froz h.1 hS (h.2.2 j)⟩
theorem Oz.set {W : World} {b x : Nat} (h : Oz W b x) (y : Nat) : Oz (W.setCell ⟨b, 0, none⟩ (.int .i64 (y : Int))) b y := ⟨by simpa using h.1, csame h.2.1, fun j => fset (h.2.2 j)⟩
theorem Oz.new (W : World) (x : Nat) (t : TypeId) : Oz (W.alloc (.cells #[.int .i64 (x : Int)] t)) W.heap.size x := ⟨by simp, by simp [go_sem], fun j => by simp [go_sem]⟩
/-- where the boxes lie -/
def QO (W : World) (n2 n3 n4 n6 B : Nat) : Prop := W.heap.size ≤ n2 ∧ n2 < n3 ∧ n3 < n4 ∧ n4 < n6 ∧ n6 < B
/-- a sett, as the reference reads it -/
def QS (W : World) (n2 n3 n4 n6 B : Nat) (pv : Bool) (p : Nat) (q : Option Addr) (cap : Nat) (acc : List St) (V : World) : Prop :=
  Below W.heap.size W V ∧ (BSx V n2 false (.slice none 0 0) ∧ Bx V n3 0 0 ∧ Oz V n4 p ∧ BSx V n6 pv (.slice q acc.length cap)) ∧ SR V B (.slice q acc.length cap) acc ∧ B ≤ V.heap.size
theorem QS.keep {W V U : World} {n2 n3 n4 n6 B p cap : Nat} {pv : Bool} {q : Option Addr} {acc : List St} (h : QS W n2 n3 n4 n6 B pv p q cap acc V) (hb : Below V.heap.size V U) : QS W n2 n3 n4 n6 B pv p q cap acc U :=
  ⟨h.1.trans (hb.mono h.1.size), ⟨h.2.1.1.keep hb, h.2.1.2.1.keep hb, h.2.1.2.2.1.keep hb, h.2.1.2.2.2.keep hb⟩, h.2.2.1.keep hb, Nat.le_trans h.2.2.2 hb.size⟩
theorem QS.put {W V : World} {n2 n3 n4 n6 B p cap : Nat} {pv : Bool} {q : Option Addr} {acc : List St} (h : QS W n2 n3 n4 n6 B pv p q cap acc V) (o : QO W n2 n3 n4 n6 B) (y : Nat) : QS W n2 n3 n4 n6 B pv y q cap acc (V.setCell ⟨n4, 0, none⟩ (.int .i64 (y : Int))) := by
  obtain ⟨o1, o2, o3, o4, o5⟩ := o
  have k : Kept (fun i => i = n4) V (V.setCell ⟨n4, 0, none⟩ (.int .i64 (y : Int))) := kset _ _ _ _
  refine ⟨h.1.setCell (p := ⟨n4, 0, none⟩) (show W.heap.size ≤ n4 by omega) _, ⟨h.2.1.1.but k (by omega), h.2.1.2.1.but k (by omega), h.2.1.2.2.1.set y, h.2.1.2.2.2.but k (by omega)⟩, own_but h.2.2.1 k (fun i hi e => ?_), by simpa using h.2.2.2⟩
  have := (World.ownsRow.lt h.2.2.1 i hi).1
  omega
/-- there and back -/
theorem QS.pivot {W V : World} {n2 n3 n4 n6 B p : Nat} {pv : Bool} (h : QS W n2 n3 n4 n6 B pv p none 0 [] V) (o : QO W n2 n3 n4 n6 B) : QS W n2 n3 n4 n6 B true p none 0 [] (V.setCell ⟨n6, 0, none⟩ (.bool true)) := by
  obtain ⟨o1, o2, o3, o4, o5⟩ := o
  have k : Kept (fun i => i = n6) V (V.setCell ⟨n6, 0, none⟩ (.bool true)) := kset _ _ _ _
  have h4 := h.2.1.2.2.2
  refine ⟨h.1.setCell (p := ⟨n6, 0, none⟩) (show W.heap.size ≤ n6 by omega) _, ⟨h.2.1.1.but k (by omega), h.2.1.2.1.but k (by omega), h.2.1.2.2.1.but k (by omega), ⟨⟨by simpa using h4.1.1, csame h4.1.2.1, cset h4.1.2.2 (by decide)⟩, fun j => fset (h4.2 j)⟩⟩, SR.nil _ _, by simpa using h.2.2.2⟩
/-- a stripe more -/
theorem QS.step {W V U : World} {n2 n3 n4 n6 B p cap cap' : Nat} {pv : Bool} {q q' : Option Addr} {acc acc' : List St} (h : QS W n2 n3 n4 n6 B pv p q cap acc V) (o : QO W n2 n3 n4 n6 B) (ho : SR U B (.slice q' acc'.length cap') acc') (hg : V.grownBy U (Value.slice q acc.length cap).ownBlock) :
    QS W n2 n3 n4 n6 B pv p q' cap' acc' (U.setCell ⟨n6, 1, none⟩ (.slice q' acc'.length cap')) ∧ U.cell? ⟨n6, 1, none⟩ = some (.slice q acc.length cap) ∧ U.frozen? ⟨n6, 1, none⟩ = false := by
  obtain ⟨o1, o2, o3, o4, o5⟩ := o
  obtain ⟨h1, ⟨h2, h3, h4, h5⟩, h6, h7⟩ := h
  have k : Kept (fun i => B ≤ i) V U := grown_kept hg (fun r e => .inl (World.ownsRow.lt h6 r e).1)
  have k6 := h5.but k (by omega)
  have e6 : Kept (fun i => i = n6) U (U.setCell ⟨n6, 1, none⟩ (.slice q' acc'.length cap')) := kset _ _ _ _
  have hb : Below W.heap.size W U := h1.grown hg h1.size (fun i e => by have := (World.ownsRow.lt h6 i e).1; omega)
  refine ⟨⟨hb.setCell (p := ⟨n6, 1, none⟩) (show W.heap.size ≤ n6 by omega) _, ⟨(h2.but k (by omega)).but e6 (by omega), (h3.but k (by omega)).but e6 (by omega), (h4.but k (by omega)).but e6 (by omega), ⟨⟨by simpa using k6.1.1, cset k6.1.2.1 (by decide), csame k6.1.2.2⟩, fun j => fset (k6.2 j)⟩⟩, own_but ho e6 (fun i hi e => ?_), by have := k.size; simp; omega⟩, k6.1.2.2, k6.2 1⟩
  have := (World.ownsRow.lt ho i hi).1
  omega
theorem QS.res {W V : World} {n2 n3 n4 n6 B p cap : Nat} {pv : Bool} {q : Option Addr} {acc : List St} (h : QS W n2 n3 n4 n6 B pv p q cap acc V) : ReS W n2 n3 V := ⟨h.1, h.2.1.1, h.2.1.2.1⟩
end Go.Proofs.YtbnjjkanokmakaaDoor
