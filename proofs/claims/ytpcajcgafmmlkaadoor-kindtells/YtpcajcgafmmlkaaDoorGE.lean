/-
  What images of package group answers: of each cell's point, where a mirror and a turn take it, on the torus.
-/
import Derived.Test.YtpcajcgafmmlkaaDoorGD
import Derived.Lib.OwnKind
namespace Go.Proofs.YtpcajcgafmmlkaaDoor
open Go.RowKit

theorem sz_small {g x y : Int} (hx : 0 ≤ x ∧ x ≤ 24) (hy : 0 ≤ y ∧ y ≤ 24) : Sz g 48 x y := by unfold Sz; omega
theorem sm2_of {x y : Int} (hx : -1048576 ≤ x ∧ x ≤ 1048576) (hy : -1048576 ≤ y ∧ y ≤ 1048576) : sm2 x y = true := (sm2_iff x y).2 (by omega)
theorem wE_of {g t x y : Int} (hg : g = 4 ∨ g = 6) (ht : 0 ≤ t ∧ t < g) (hs : sm2 x y = true) : wE g t x y = 0 := by
  have e : e1 g x y = 0 := by unfold e1; simp [okg, hg, hs]
  unfold wE; rw [if_pos e, if_pos ht]
theorem apply_small (g t : Int) (f : Bool) (bx b x y : Int) (hg : g = 4 ∨ g = 6) (ht : 0 ≤ t ∧ t < g) (hbx : 0 ≤ bx ∧ bx ≤ 24) (hb : 0 ≤ b ∧ b ≤ 24) (hx : 0 ≤ x ∧ x ≤ 24) (hy : 0 ≤ y ∧ y ≤ 24) : ApplyIs g t f bx b x y (mv g t.toNat f bx b x y).1 (mv g t.toNat f bx b x y).2 0 := by
  have h := apply_any g t f bx b x y
  have hz := Sz.mv (g := g) (sz_small hx hy) (sz_small hbx hb) t.toNat f
  have hw := wE_of hg ht (sm2_of (x := bx) (y := b) (by omega) (by omega))
  have hE : aE g t f bx b x y = 0 := by
    rw [aE_of g t f bx b x y hw (sm2_of (by omega) (by omega)), if_pos]
    exact sm2_of (by unfold Sz at hz; omega) (by unfold Sz at hz; omega)
  rw [hE, (aE_zero _ _ _ _ _ _ _ hE).2.2.2] at h
  exact h

/-- a row of points in a world -/
def PRow (W : World) (b k : Nat) (fx fy : Nat → Int) : Prop := b < W.heap.size ∧ ∀ j, j < k → W.cell? ⟨b, j * 2, none⟩ = some (.int .i64 (fx j)) ∧ W.cell? ⟨b, j * 2 + 1, none⟩ = some (.int .i64 (fy j))
theorem PRow.keep {W w1 : World} {b k : Nat} {fx fy : Nat → Int} (h : PRow W b k fx fy) (hb : Below W.heap.size W w1) : PRow w1 b k fx fy :=
  ⟨Nat.lt_of_lt_of_le h.1 hb.size, fun j hj => ⟨keepC hb h.1 (h.2 j hj).1, keepC hb h.1 (h.2 j hj).2⟩⟩
def PFree (W : World) (b k : Nat) : Prop := ∀ j, j < k → W.frozen? ⟨b, j * 2, none⟩ = false ∧ W.frozen? ⟨b, j * 2 + 1, none⟩ = false
theorem PFree.keep {W w1 : World} {b k : Nat} (h : PFree W b k) (hl : b < W.heap.size) (hb : Below W.heap.size W w1) : PFree w1 b k :=
  fun j hj => ⟨keepF hb hl (h j hj).1, keepF hb hl (h j hj).2⟩
/-- the first i are as they are to be -/
def upTo (i : Nat) (fx : Nat → Int) (j : Nat) : Int := if j < i then fx j else 0
theorem PRow.set {W : World} {b k i : Nat} {fx fy : Nat → Int} (h : PRow W b k (upTo i fx) (upTo i fy)) (hi : i < k) :
    PRow ((W.setCell ⟨b, i * 2, none⟩ (.int .i64 (fx i))).setCell ⟨b, i * 2 + 1, none⟩ (.int .i64 (fy i))) b k (upTo (i + 1) fx) (upTo (i + 1) fy) := by
  refine ⟨by simpa using h.1, fun j hj => ?_⟩
  obtain ⟨h1, h2⟩ := h.2 j hj
  by_cases e : j = i
  · subst e
    refine ⟨?_, ?_⟩
    · simp [go_sem, h1, upTo]
    · simp [go_sem, h2, upTo]
  · have n1 : ¬ j * 2 = i * 2 := by omega
    have n2 : ¬ j * 2 = i * 2 + 1 := by omega
    have n3 : ¬ j * 2 + 1 = i * 2 := by omega
    have n4 : ¬ j * 2 + 1 = i * 2 + 1 := by omega
    have e1 : upTo (i + 1) fx j = upTo i fx j := by unfold upTo; by_cases q : j < i <;> simp [q] <;> omega
    have e2 : upTo (i + 1) fy j = upTo i fy j := by unfold upTo; by_cases q : j < i <;> simp [q] <;> omega
    rw [e1, e2]
    exact ⟨by rw [World.cell?_setCell_other (h := fun q => n2 (Addr.mk.inj q).2.1.symm), World.cell?_setCell_other (h := fun q => n1 (Addr.mk.inj q).2.1.symm)]; exact h1, by rw [World.cell?_setCell_other (h := fun q => n4 (Addr.mk.inj q).2.1.symm), World.cell?_setCell_other (h := fun q => n3 (Addr.mk.inj q).2.1.symm)]; exact h2⟩
theorem PFree.set {W : World} {b k : Nat} {p : Addr} {v : Value} (h : PFree W b k) : PFree (W.setCell p v) b k :=
  fun j hj => ⟨by simp [go_sem, (h j hj).1], by simp [go_sem, (h j hj).2]⟩

/-- where the i-th cell's point comes to, on the torus -/
def imX (g : Int) (t : Nat) (f : Bool) (n : Nat) (i : Nat) : Int := (mv g t f 0 0 ((i : Int) % n) ((i : Int) / n)).1 % n
def imY (g : Int) (t : Nat) (f : Bool) (n : Nat) (i : Nat) : Int := (mv g t f 0 0 ((i : Int) % n) ((i : Int) / n)).2 % n

theorem cell_xy (i n : Nat) (hn : 1 ≤ n) (hi : i < n * n) : (0 ≤ (i : Int) % n ∧ (i : Int) % n < n) ∧ 0 ≤ (i : Int) / n ∧ (i : Int) / n < n := by
  have h1 := Nat.mod_lt i (show 0 < n by omega)
  have h2 : i / n < n := (Nat.div_lt_iff_lt_mul (by omega)).2 hi
  rw [← Int.natCast_emod, ← Int.natCast_ediv]
  exact ⟨⟨Int.natCast_nonneg _, by omega⟩, Int.natCast_nonneg _, by omega⟩
theorem made_two (z : Value) (m j : Nat) (hj : j < m) : (madeCells #[z, z] m).toList[j]? = some z := by
  have h : j % 2 = 0 ∨ j % 2 = 1 := by omega
  rcases h with h | h <;> simp [madeCells, hj, h]
theorem info33 : (Tryd.prog.info? 33).map (fun i => (i.zero, i.size, i.bytes)) = some (some (.agg #[.int .i64 0, .int .i64 0]), 2, 16) := by kernel_rfl
theorem prow_made {w : World} {B b k : Nat} {fx fy : Nat → Int} (h : w.ownsRow B 33 2 (.slice (some ⟨b, 0, none⟩) k k) k (madeCells #[.int .i64 0, .int .i64 0] (k * 2)).toList) : PRow w b k (upTo 0 fx) (upTo 0 fy) ∧ PFree w b k :=
  ⟨⟨(h.lt b rfl).2, fun j hj => ⟨by rw [h.cellAt _ (by omega), made_two _ _ _ (by omega)]; rfl, by rw [h.cellAt _ (by omega), made_two _ _ _ (by omega)]; rfl⟩⟩, fun j _ => ⟨h.frozenAt _, h.frozenAt _⟩⟩
theorem OwnT.below {W w1 : World} {B b : Nat} {g n : Int} {q : Option Addr} {k cap : Nat} (h : OwnT W b g n q k cap) (hb : Below B W w1) (hB : b < B) (hz : b < w1.heap.size) : OwnT w1 b g n q k cap :=
  ⟨hz, by rw [hb.cell (p := ⟨b, 0, none⟩) hB]; exact h.2.1, by rw [hb.cell (p := ⟨b, 1, none⟩) hB]; exact h.2.2.1, by rw [hb.cell (p := ⟨b, 2, none⟩) hB]; exact h.2.2.2⟩
abbrev CM (W : World) (b : Nat) (t : Int) (f : Bool) (x y : Int) : Prop := W.cell? ⟨b, 0, none⟩ = some (.int .i64 t) ∧ W.cell? ⟨b, 1, none⟩ = some (.bool f) ∧ W.cell? ⟨b, 2, none⟩ = some (.int .i64 x) ∧ W.cell? ⟨b, 3, none⟩ = some (.int .i64 y)
theorem CM.below {W w1 : World} {B b : Nat} {t : Int} {f : Bool} {x y : Int} (h : CM W b t f x y) (hb : Below B W w1) (hB : b < B) : CM w1 b t f x y :=
  ⟨by rw [hb.cell (p := ⟨b, 0, none⟩) hB]; exact h.1, by rw [hb.cell (p := ⟨b, 1, none⟩) hB]; exact h.2.1, by rw [hb.cell (p := ⟨b, 2, none⟩) hB]; exact h.2.2.1, by rw [hb.cell (p := ⟨b, 3, none⟩) hB]; exact h.2.2.2⟩
/-- a block of points -/
def PKind (W : World) (b : Nat) : Prop := ∃ c fz, W.heap[b]? = some (.cells c 33 fz)
theorem PKind.keep {W w1 : World} {b : Nat} (h : PKind W b) (hl : b < W.heap.size) (hb : Below W.heap.size W w1) : PKind w1 b := by
  obtain ⟨c, fz, e⟩ := h
  exact ⟨c, fz, by rw [hb.block b hl]; exact e⟩
theorem PKind.set {W : World} {b : Nat} {p : Addr} {v : Value} (h : PKind W b) : PKind (W.setCell p v) b := by
  obtain ⟨c, fz, e⟩ := h
  unfold PKind World.setCell
  by_cases hp : p.block = b
  · subst hp
    simp [Array.getElem?_modify, e]
  · simp [Array.getElem?_modify, hp, e]
end Go.Proofs.YtpcajcgafmmlkaaDoor
