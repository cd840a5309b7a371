/-
  How drops and dyes are read out of what a row gives.
-/
import Derived.Test.YtlilmchlddiacaaRow
import Derived.Test.YtlilmchlddiacaaFC
import Derived.Deep.SlicePairs
namespace Go.Proofs.Ytlilmchlddiacaa
open Go.ChangeShapes Go.WideShapes Go.ChangeAt Go.RowKit Go.Joins Go.Deep

theorem cells24 : Try.prog.cellsOf 24 = 1 := by kernel_rfl
theorem cells26 : Try.prog.cellsOf 26 = 3 := by kernel_rfl
theorem cells41 : Try.prog.cellsOf 41 = 4 := by kernel_rfl
theorem read22 : Try.prog.readableRec 22 = true := by kernel_rfl
theorem in22 : 22 < Try.prog.types.size := of_decide_eq_true (by kernel_rfl)
theorem read23 : Try.prog.readableRec 23 = true := by kernel_rfl
theorem in23 : 23 < Try.prog.types.size := of_decide_eq_true (by kernel_rfl)
theorem read26 : Try.prog.readableRec 26 = true := by kernel_rfl
theorem in26 : 26 < Try.prog.types.size := of_decide_eq_true (by kernel_rfl)
/-- a float as a row reads it -/
theorem flt_cell {H : Type} {enc : TypeId × Value → H} {W : World} {base : Nat} {sp : Nat → Bool} {hd : Bool} {fuel : Nat} {cs : List Value} {x : DataW H × List MemPlace} (h : DataW.trod enc Try.prog W base sp hd fuel 24 cs = some x) : ∃ b, cs = [.float .f64 b] := by
  rcases fuel with _ | m
  · simp [DataW.trod] at h
  · simp only [DataW.trod, Try.underlying24] at h
    split at h <;> simp_all
/-- a dye as a row reads it -/
theorem dye_cells {H : Type} {enc : TypeId × Value → H} {W : World} {base : Nat} {sp : Nat → Bool} {hd : Bool} {fuel : Nat} {cs : List Value} {x : DataW H × List MemPlace} (hl : cs.length = 3) (h : DataW.trod enc Try.prog W base sp hd fuel 26 cs = some x) : ∃ a b c, cs = [.float .f64 a, .float .f64 b, .float .f64 c] := by
  obtain ⟨xs, k, -, -, -, hxl, hfs⟩ := DataW.trod_struct Try.underlying26 h
  match cs, hl, xs, hxl with
  | [v0, v1, v2], _, [y0, y1, y2], _ =>
    obtain ⟨x0, e0⟩ := flt_cell (hfs 0 _ rfl)
    obtain ⟨x1, e1⟩ := flt_cell (hfs 1 _ rfl)
    obtain ⟨x2, e2⟩ := flt_cell (hfs 2 _ rfl)
    simp [cells24] at e0 e1 e2
    subst e0 e1 e2
    exact ⟨_, _, _, rfl⟩
/-- three words as parts -/
def prt (a b c : Nat) : Nat → Nat := fun j => if j = 0 then a else if j = 1 then b else c
set_option maxRecDepth 100000 in
theorem dye_top {H : Type} {enc : TypeId × Value → H} {W : World} {base : Nat} {hd : Bool} {r : Reach} {b0 : Nat} {v : Value} {d : DataW H} {p : List MemPlace} (hv : Value.okWide Try.prog W r b0 26 v) (h : DataW.Trod enc Try.prog W base (fun _ => true) hd 26 v d p) : ∃ x : Nat → Nat, v = pvV x := by
  obtain ⟨cs, rfl, hsz⟩ := okWide_struct Try.underlying26 hv
  rw [cells26] at hsz
  obtain ⟨fuel, hf⟩ := h
  obtain ⟨cs⟩ := cs
  obtain ⟨a, b, c, e⟩ := dye_cells (by simpa [Value.cells] using hsz) hf
  refine ⟨prt a b c, ?_⟩
  simp only [Value.cells] at e
  rw [e]
  rfl
theorem dyes_open {H : Type} {enc : TypeId × Value → H} {W : World} {base : Nat} {hd : Bool} {r : Reach} {b0 : Nat} {v : Value} {d : DataW H} {p : List MemPlace} (hv : Value.okWide Try.prog W r b0 23 v) (h : DataW.Trod enc Try.prog W base (fun _ => true) hd 23 v d p) :
    ∃ (q : Option Addr) (m c : Nat) (f : Nat → Nat → Nat), v = .slice q m c ∧ Dy W q m f := by
  obtain ⟨a0, l0, k0, rfl⟩ := okWide_slice Try.underlying23 hv
  obtain ⟨fuel, hf⟩ := h
  rcases open_slice Try.underlying23 hf with ⟨e3, hd⟩ | ⟨a, len, cap, m, n, D, Pl, e3, hb, hl, hm, hmm, hx, hel⟩
  · simp [Value.cells] at e3
    obtain ⟨rfl, rfl, rfl⟩ := e3
    exact ⟨_, 0, 0, fun _ _ => 0, rfl, Or.inl rfl⟩
  · simp [Value.cells] at e3
    obtain ⟨rfl, rfl, rfl⟩ := e3
    rw [if_pos rfl] at hmm
    have each : ∀ i, i < m → ∃ q : Nat × Nat × Nat, W.cell? (a.add (i * 3)) = some (.float .f64 q.1) ∧ W.cell? (a.add (i * 3 + 1)) = some (.float .f64 q.2.1) ∧ W.cell? (a.add (i * 3 + 2)) = some (.float .f64 q.2.2) := by
      intro i hi
      obtain ⟨cs', h1, h2⟩ := hel i hi
      rw [cells26] at h1
      obtain ⟨_, hlen, hcell⟩ := World.cells?_some h1
      obtain ⟨x0, x1, x2, rfl⟩ := dye_cells hlen h2
      have f0 := hcell 0 (by omega)
      have f1 := hcell 1 (by omega)
      have f2 := hcell 2 (by omega)
      rw [add_add] at f0 f1 f2
      exact ⟨(x0, x1, x2), by simpa using f0, by simpa using f1, by simpa using f2⟩
    obtain ⟨q, hq⟩ := choose_lt each
    refine ⟨_, l0, k0, fun i => prt (q i).1 (q i).2.1 (q i).2.2, rfl, ?_⟩
    by_cases hz : l0 = 0
    · exact Or.inl hz
    · have hc0 := (hq 0 (by omega)).1
      have hsp := World.cell?_spot hc0
      obtain ⟨b, o, s⟩ := a
      simp [Addr.add] at hsp
      subst hsp
      refine Or.inr ⟨b, o, rfl, World.block_lt_of_cell? W _ hc0, fun k hk => ?_⟩
      obtain ⟨f0, f1, f2⟩ := hq k (by omega)
      refine ⟨?_, ?_, ?_⟩
      · by_cases hk0 : k = 0
        · subst hk0
          simpa [Addr.add, prt] using f0
        · have hk3 : ¬ k * 3 = 0 := by omega
          simpa [Addr.add, hk3, prt] using f0
      · simpa [Addr.add, Nat.add_assoc, prt] using f1
      · simpa [Addr.add, Nat.add_assoc, prt] using f2
theorem drops_open {H : Type} {enc : TypeId × Value → H} {W : World} {base : Nat} {hd : Bool} {r : Reach} {b0 : Nat} {v : Value} {d : DataW H} {p : List MemPlace} (hv : Value.okWide Try.prog W r b0 22 v) (h : DataW.Trod enc Try.prog W base (fun _ => true) hd 22 v d p) :
    ∃ (q : Option Addr) (m c : Nat) (f : Nat → Nat → Nat) (s : Nat → Nat), v = .slice q m c ∧ Dp W q m f s := by
  obtain ⟨a0, l0, k0, rfl⟩ := okWide_slice Try.underlying22 hv
  obtain ⟨fuel, hf⟩ := h
  rcases open_slice Try.underlying22 hf with ⟨e3, hd⟩ | ⟨a, len, cap, m, n, D, Pl, e3, hb, hl, hm, hmm, hx, hel⟩
  · simp [Value.cells] at e3
    obtain ⟨rfl, rfl, rfl⟩ := e3
    exact ⟨_, 0, 0, fun _ _ => 0, fun _ => 0, rfl, Or.inl rfl⟩
  · simp [Value.cells] at e3
    obtain ⟨rfl, rfl, rfl⟩ := e3
    rw [if_pos rfl] at hmm
    have each : ∀ i, i < m → ∃ q : Nat × Nat × Nat × Nat, W.cell? (a.add (i * 4)) = some (.float .f64 q.1) ∧ W.cell? (a.add (i * 4 + 1)) = some (.float .f64 q.2.1) ∧ W.cell? (a.add (i * 4 + 2)) = some (.float .f64 q.2.2.1) ∧ W.cell? (a.add (i * 4 + 3)) = some (.float .f64 q.2.2.2) := by
      intro i hi
      obtain ⟨cs', h1, h2⟩ := hel i hi
      rw [cells41] at h1
      obtain ⟨_, hlen, hcell⟩ := World.cells?_some h1
      obtain ⟨xs, k, -, -, -, hxl, hfs⟩ := DataW.trod_struct Try.underlying41 h2
      match cs', hlen, xs, hxl with
      | [v0, v1, v2, v3], _, [y0, y1], _ =>
        obtain ⟨x0, x1, x2, e0⟩ := dye_cells (by simp [cells26]) (hfs 0 _ rfl)
        obtain ⟨x3, e3⟩ := flt_cell (hfs 1 _ rfl)
        simp [cells26, cells24] at e0 e3
        obtain ⟨rfl, rfl, rfl⟩ := e0
        subst e3
        have f0 := hcell 0 (by omega)
        have f1 := hcell 1 (by omega)
        have f2 := hcell 2 (by omega)
        have f3 := hcell 3 (by omega)
        rw [add_add] at f0 f1 f2 f3
        exact ⟨(x0, x1, x2, x3), by simpa using f0, by simpa using f1, by simpa using f2, by simpa using f3⟩
    obtain ⟨q, hq⟩ := choose_lt each
    refine ⟨_, l0, k0, fun i => prt (q i).1 (q i).2.1 (q i).2.2.1, fun i => (q i).2.2.2, rfl, ?_⟩
    by_cases hz : l0 = 0
    · exact Or.inl hz
    · have hc0 := (hq 0 (by omega)).1
      have hsp := World.cell?_spot hc0
      obtain ⟨b, o, s⟩ := a
      simp [Addr.add] at hsp
      subst hsp
      refine Or.inr ⟨b, o, rfl, World.block_lt_of_cell? W _ hc0, fun k hk => ?_⟩
      obtain ⟨f0, f1, f2, f3⟩ := hq k (by omega)
      refine ⟨?_, ?_, ?_, ?_⟩
      · by_cases hk0 : k = 0
        · subst hk0
          simpa [Addr.add, prt] using f0
        · have hk3 : ¬ k * 4 = 0 := by omega
          simpa [Addr.add, hk3, prt] using f0
      · simpa [Addr.add, Nat.add_assoc, prt] using f1
      · simpa [Addr.add, Nat.add_assoc, prt] using f2
      · simpa [Addr.add, Nat.add_assoc, prt] using f3
end Go.Proofs.Ytlilmchlddiacaa
