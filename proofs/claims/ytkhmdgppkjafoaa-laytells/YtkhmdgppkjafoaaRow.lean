/-
  What the rows of this seat need of the program; how pieces and points are read out of a row.
-/
import Derived.Test.YtkhmdgppkjafoaaPA
import Derived.ProofKit
import Derived.OpenShut
import Derived.ChangeSlices
import Derived.Carry
import Derived.LaidMore
import Derived.Deep.DeepHandedRow
import Derived.Deep.Grids
import Derived.SizedLaws
import Derived.Deep.SlicePairs
namespace Go.Proofs.Ytkhmdgppkjafoaa
open Go.ChangeShapes Go.WideShapes Go.ChangeAt Go.RowKit Go.Joins Go.Deep

theorem own : ownKnob Try.prog.godebug = none := by kernel_rfl
theorem laidOut : laidOutB Try.prog = true := by kernel_rfl
theorem cells3 : Try.prog.cellsOf 3 = 1 := by kernel_rfl
theorem cells33 : Try.prog.cellsOf 33 = 2 := by kernel_rfl
theorem cells35 : Try.prog.cellsOf 35 = 2 := by kernel_rfl
theorem read22 : Try.prog.readableRec 22 = true := by kernel_rfl
theorem in22 : 22 < Try.prog.types.size := of_decide_eq_true (by kernel_rfl)
theorem read23 : Try.prog.readableRec 23 = true := by kernel_rfl
theorem in23 : 23 < Try.prog.types.size := of_decide_eq_true (by kernel_rfl)
theorem pieces_open {H : Type} {enc : TypeId × Value → H} {W : World} {base : Nat} {hd : Bool} {r : Reach} {b0 : Nat} {v : Value} {d : DataW H} {p : List MemPlace} (hv : Value.okWide Try.prog W r b0 22 v) (h : DataW.Trod enc Try.prog W base (fun _ => true) hd 22 v d p) :
    ∃ (q : Option Addr) (m c : Nat) (a b : Nat → Int), v = .slice q m c ∧ Ps W q m a b := by
  obtain ⟨a0, l0, k0, rfl⟩ := okWide_slice Try.underlying22 hv
  obtain ⟨fuel, hf⟩ := h
  rcases open_slice Try.underlying22 hf with ⟨e3, hd⟩ | ⟨a, len, cap, m, n, D, Pl, e3, hb, hl, hm, hmm, hx, hel⟩
  · simp [Value.cells] at e3
    obtain ⟨rfl, rfl, rfl⟩ := e3
    exact ⟨_, 0, 0, fun _ => 0, fun _ => 0, rfl, Or.inl rfl⟩
  · simp [Value.cells] at e3
    obtain ⟨rfl, rfl, rfl⟩ := e3
    rw [if_pos rfl] at hmm
    have each : ∀ i, i < m → ∃ q : Int × Int, W.cell? (a.add (i * 2)) = some (.int .i64 q.1) ∧ W.cell? (a.add (i * 2 + 1)) = some (.int .i64 q.2) := by
      intro i hi
      obtain ⟨cs', h1, h2⟩ := hel i hi
      rw [cells33] at h1
      obtain ⟨_, hlen, hcell⟩ := World.cells?_some h1
      obtain ⟨xs, k, -, -, -, hxl, hfs⟩ := DataW.trod_struct Try.underlying33 h2
      match cs', hlen, xs, hxl with
      | [v0, v1], _, [y0, y1], _ =>
        obtain ⟨x0, e0, _⟩ := DataW.trod_int Try.underlying3 (hfs 0 _ rfl)
        obtain ⟨x1, e1, _⟩ := DataW.trod_int Try.underlying3 (hfs 1 _ rfl)
        simp [cells3] at e0 e1
        subst e0 e1
        have f0 := hcell 0 (by omega)
        have f1 := hcell 1 (by omega)
        rw [add_add] at f0 f1
        exact ⟨(x0, x1), by simpa using f0, by simpa using f1⟩
    obtain ⟨q, hq⟩ := choose_lt each
    refine ⟨_, l0, k0, fun i => (q i).1, fun i => (q i).2, rfl, ?_⟩
    by_cases hz : l0 = 0
    · exact Or.inl hz
    · have hc0 := (hq 0 (by omega)).1
      have hsp := World.cell?_spot hc0
      obtain ⟨b, o, s⟩ := a
      simp [Addr.add] at hsp
      subst hsp
      refine Or.inr ⟨b, o, rfl, World.block_lt_of_cell? W _ hc0, fun k hk => ?_⟩
      obtain ⟨f0, f1⟩ := hq k (by omega)
      refine ⟨?_, ?_⟩
      · by_cases hk0 : k = 0
        · subst hk0
          simpa [Addr.add] using f0
        · have hk3 : ¬ k * 2 = 0 := by omega
          simpa [Addr.add, hk3] using f0
      · simpa [Addr.add, Nat.add_assoc] using f1
theorem points_open {H : Type} {enc : TypeId × Value → H} {W : World} {base : Nat} {hd : Bool} {r : Reach} {b0 : Nat} {v : Value} {d : DataW H} {p : List MemPlace} (hv : Value.okWide Try.prog W r b0 23 v) (h : DataW.Trod enc Try.prog W base (fun _ => true) hd 23 v d p) :
    ∃ (q : Option Addr) (m c : Nat) (a b : Nat → Int), v = .slice q m c ∧ Ps W q m a b := by
  obtain ⟨a0, l0, k0, rfl⟩ := okWide_slice Try.underlying23 hv
  obtain ⟨fuel, hf⟩ := h
  rcases open_slice Try.underlying23 hf with ⟨e3, hd⟩ | ⟨a, len, cap, m, n, D, Pl, e3, hb, hl, hm, hmm, hx, hel⟩
  · simp [Value.cells] at e3
    obtain ⟨rfl, rfl, rfl⟩ := e3
    exact ⟨_, 0, 0, fun _ => 0, fun _ => 0, rfl, Or.inl rfl⟩
  · simp [Value.cells] at e3
    obtain ⟨rfl, rfl, rfl⟩ := e3
    rw [if_pos rfl] at hmm
    have each : ∀ i, i < m → ∃ q : Int × Int, W.cell? (a.add (i * 2)) = some (.int .i64 q.1) ∧ W.cell? (a.add (i * 2 + 1)) = some (.int .i64 q.2) := by
      intro i hi
      obtain ⟨cs', h1, h2⟩ := hel i hi
      rw [cells35] at h1
      obtain ⟨_, hlen, hcell⟩ := World.cells?_some h1
      obtain ⟨xs, k, -, -, -, hxl, hfs⟩ := DataW.trod_struct Try.underlying35 h2
      match cs', hlen, xs, hxl with
      | [v0, v1], _, [y0, y1], _ =>
        obtain ⟨x0, e0, _⟩ := DataW.trod_int Try.underlying3 (hfs 0 _ rfl)
        obtain ⟨x1, e1, _⟩ := DataW.trod_int Try.underlying3 (hfs 1 _ rfl)
        simp [cells3] at e0 e1
        subst e0 e1
        have f0 := hcell 0 (by omega)
        have f1 := hcell 1 (by omega)
        rw [add_add] at f0 f1
        exact ⟨(x0, x1), by simpa using f0, by simpa using f1⟩
    obtain ⟨q, hq⟩ := choose_lt each
    refine ⟨_, l0, k0, fun i => (q i).1, fun i => (q i).2, rfl, ?_⟩
    by_cases hz : l0 = 0
    · exact Or.inl hz
    · have hc0 := (hq 0 (by omega)).1
      have hsp := World.cell?_spot hc0
      obtain ⟨b, o, s⟩ := a
      simp [Addr.add] at hsp
      subst hsp
      refine Or.inr ⟨b, o, rfl, World.block_lt_of_cell? W _ hc0, fun k hk => ?_⟩
      obtain ⟨f0, f1⟩ := hq k (by omega)
      refine ⟨?_, ?_⟩
      · by_cases hk0 : k = 0
        · subst hk0
          simpa [Addr.add] using f0
        · have hk3 : ¬ k * 2 = 0 := by omega
          simpa [Addr.add, hk3] using f0
      · simpa [Addr.add, Nat.add_assoc] using f1
theorem wf_le {n : Int} (h : (Lit.int .i64 n).wf = true) : -9223372036854775808 ≤ n ∧ n ≤ 9223372036854775807 := by
  simp [Lit.wf] at h
  rw [show IntKind.i64.min = -9223372036854775808 from rfl] at h
  exact h
end Go.Proofs.Ytkhmdgppkjafoaa
