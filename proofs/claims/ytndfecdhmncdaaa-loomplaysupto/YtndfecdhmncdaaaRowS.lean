/-
  How steps in a slice are read out of what a row gives; what the bound on bulk gives.
-/
import Derived.Test.YtndfecdhmncdaaaRowI
import Derived.Test.YtndfecdhmncdaaaPlA
import Derived.Deep.SlicePairs
namespace Go.Proofs.Ytndfecdhmncdaaa
open Go.ChangeShapes Go.WideShapes Go.ChangeAt Go.RowKit Go.Joins Go.Deep

theorem cells53 : Try.prog.cellsOf 53 = 3 := by kernel_rfl
theorem steps_open {H : Type} {enc : TypeId × Value → H} {W : World} {base : Nat} {hd : Bool} {r : Reach} {b0 : Nat} {v : Value} {d : DataW H} {p : List MemPlace} (hv : Value.okWide Try.prog W r b0 26 v) (h : DataW.Trod enc Try.prog W base (fun _ => true) hd 26 v d p) :
    ∃ (q : Option Addr) (m c : Nat) (P : Nat → Int) (O : Nat → Bool) (E : Nat → Int), v = .slice q m c ∧ Sc W q m P O E ∧ (d = .nil ∧ m = 0 ∨ ∃ elems spare, d = .slice elems spare ∧ m = elems.length) := by
  obtain ⟨a0, l0, k0, rfl⟩ := okWide_slice Try.underlying26 hv
  obtain ⟨fuel, hf⟩ := h
  rcases open_slice Try.underlying26 hf with ⟨e3, hd⟩ | ⟨a, len, cap, m, n, D, Pl, e3, hb, hl, hm, hmm, hx, hel⟩
  · simp [Value.cells] at e3
    obtain ⟨rfl, rfl, rfl⟩ := e3
    exact ⟨_, 0, 0, fun _ => 0, fun _ => false, fun _ => 0, rfl, Or.inl rfl, .inl ⟨(Prod.mk.inj hd).1, rfl⟩⟩
  · simp [Value.cells] at e3
    obtain ⟨rfl, rfl, rfl⟩ := e3
    rw [if_pos rfl] at hmm
    have each : ∀ i, i < m → ∃ q : Int × Bool × Int, W.cell? (a.add (i * 3)) = some (.int .i64 q.1) ∧ W.cell? (a.add (i * 3 + 1)) = some (.bool q.2.1) ∧ W.cell? (a.add (i * 3 + 2)) = some (.int .i64 q.2.2) := by
      intro i hi
      obtain ⟨cs', h1, h2⟩ := hel i hi
      rw [cells53] at h1
      obtain ⟨_, hlen, hcell⟩ := World.cells?_some h1
      obtain ⟨y0, y1, y2, k, _, _, g0, g1, g2⟩ := trod_struct3 Try.underlying53 h2
      match cs', hlen with
      | [v0, v1, v2], _ =>
        simp only [cells3, cells4, List.drop, List.take] at g0 g1 g2
        obtain ⟨x0, e0, _⟩ := DataW.trod_int Try.underlying3 g0
        obtain ⟨x1, e1, _⟩ := DataW.trod_bool Try.underlying4 g1
        obtain ⟨x2, e2, _⟩ := DataW.trod_int Try.underlying3 g2
        simp at e0 e1 e2
        subst e0 e1 e2
        have f0 := hcell 0 (by omega)
        have f1 := hcell 1 (by omega)
        have f2 := hcell 2 (by omega)
        rw [add_add] at f0 f1 f2
        exact ⟨(x0, x1, x2), by simpa using f0, by simpa using f1, by simpa using f2⟩
    obtain ⟨q, hq⟩ := choose_lt each
    refine ⟨_, l0, k0, fun i => (q i).1, fun i => (q i).2.1, fun i => (q i).2.2, rfl, ?_, .inr ⟨_, _, (Prod.mk.inj hx).1, by simp⟩⟩
    by_cases hz : l0 = 0
    · exact Or.inl hz
    · have hc0 := (hq 0 (by omega)).1
      have hsp := World.cell?_spot hc0
      obtain ⟨b, o, s⟩ := a
      simp [Addr.add] at hsp
      subst hsp
      refine Or.inr ⟨b, o, rfl, World.block_lt_of_cell? W _ hc0, fun k hk => ?_⟩
      obtain ⟨f0, f1, f2⟩ := hq k (by omega)
      refine ⟨?_, ?_, ?_⟩
      · by_cases hk0 : k = 0
        · subst hk0
          simpa [Addr.add] using f0
        · have hk3 : ¬ k * 3 = 0 := by omega
          simpa [Addr.add, hk3] using f0
      · simpa [Addr.add, Nat.add_assoc] using f1
      · simpa [Addr.add, Nat.add_assoc] using f2
/-- whatever is read counts -/
theorem bulk_some {H : Type} (x : DataW H) : Rows.uptoBulk x ≠ 0 := by
  rcases x with l | _ | d | ⟨a, b⟩ | a | ⟨t, d⟩ | e | k
  · rcases l <;> simp [Rows.uptoBulk]
  all_goals simp [Rows.uptoBulk]
theorem bulk_many {H : Type} : ∀ (l : List (DataW H)) (b : Nat), Rows.uptoBulkAll l ≤ b → l.length ≤ b
  | [], _, _ => Nat.zero_le _
  | x :: r, b, h => by
    simp only [Rows.uptoBulkAll] at h
    have h1 := bulk_some x
    have h2 := bulk_many r (b - 1) (by omega)
    simp only [List.length_cons]
    omega
/-- what came in in a slice is not longer than its bulk -/
theorem slice_bulk {H : Type} {d : DataW H} {m : Nat} (h : d = .nil ∧ m = 0 ∨ ∃ elems spare, d = .slice elems spare ∧ m = elems.length) : m ≤ Rows.uptoBulk d := by
  rcases h with ⟨-, rfl⟩ | ⟨el, sp, rfl, rfl⟩
  · exact Nat.zero_le _
  · refine bulk_many el _ ?_
    simp only [Rows.uptoBulk]
    omega
end Go.Proofs.Ytndfecdhmncdaaa
