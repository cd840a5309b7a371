/-
  KnitSkips: what is refused changes nothing.
-/
import Derived.Test.YtancniamgfppiaaLwA
namespace Go.Proofs.Ytancniamgfppiaa
open Go.RowKit

/-- the law's answer -/
def LawIs (F : Nat) (args : Array Value) (W : World) : Prop := Calls Try.prog F args W fun e w' => e = .returned (.bool true) ∧ Below W.heap.size W w'
theorem two_boxes (W : World) (v0 v1 v2 v3 : Value) (r : Int) (x y : Int) : KB ((W.alloc (.cells #[v0, v1, v2, v3, .int .i64 r] 29)).alloc (.cells #[.int .i64 x, .int .i64 y] 32)) W.heap.size v0 v1 v2 v3 r ∧ FB ((W.alloc (.cells #[v0, v1, v2, v3, .int .i64 r] 29)).alloc (.cells #[.int .i64 x, .int .i64 y] 32)) (W.heap.size + 1) x y ∧ Below W.heap.size W ((W.alloc (.cells #[v0, v1, v2, v3, .int .i64 r] 29)).alloc (.cells #[.int .i64 x, .int .i64 y] 32)) :=
  ⟨(KB.new W v0 v1 v2 v3 r).keep (bnew _ _), by have := FB.new (W.alloc (.cells #[v0, v1, v2, v3, .int .i64 r] 29)) x y; simpa using this, btrans (bnew _ _) (bnew _ _)⟩
theorem err_at {W : World} {B N x n cap : Nat} {f : Nat → Sx} {q : Option Addr} (h : W.ownsRow B 30 1 (.slice q n cap) n (errV N f n)) (hx : x < n) : ∃ g, q = some ⟨g, 0, none⟩ ∧ W.cell? ⟨g, x, none⟩ = some (.int .i64 (erS N f x)) := by
  obtain ⟨g, c, e⟩ := own_slice h (by omega)
  simp only [Value.slice.injEq] at e
  obtain ⟨rfl, -, rfl⟩ := e
  exact ⟨g, rfl, by rw [h.cellAt x (by omega)]; simp [errV, hx]⟩
/-- the parts of what is told -/
theorem KR.parts {W : World} {B : Nat} {v : Value} {k : Kn} (h : KR W B v k) : ∃ a1 a2 a3 a4 a5 a6 a7 a8 a9 d1 d2 d3, v = .agg #[.slice a1 a2 a3, .slice a4 a5 a6, .slice a7 a8 a9, .slice d1 d3 d2, .int .i64 k.rack] := by
  obtain ⟨v1, v2, v3, v4, rfl, p1, p2, p3, p4⟩ := h
  obtain ⟨a1, a2, a3, rfl⟩ := p1.form
  obtain ⟨a4, a5, a6, rfl⟩ := p2.form
  obtain ⟨a7, a8, a9, rfl⟩ := p3.form
  obtain ⟨d1, d2, rfl⟩ := p4.form
  exact ⟨_, _, _, _, _, _, _, _, _, _, _, _, rfl⟩

end Go.Proofs.Ytancniamgfppiaa
