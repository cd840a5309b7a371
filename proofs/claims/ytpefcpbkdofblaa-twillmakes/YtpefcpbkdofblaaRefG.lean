/-
  The reference: Alike's walk.
-/
import Derived.Test.YtpefcpbkdofblaaRefF
namespace Go.Proofs.Ytpefcpbkdofblaa
open Go.RowKit Go.Shelf

/-- the numbers that a slice has -/
def Ns (W : World) (q : Option Addr) (n : Nat) (f : Nat → Nat) : Prop := n = 0 ∨ ∃ b, q = some ⟨b, 0, none⟩ ∧ b < W.heap.size ∧ ∀ j, j < n → W.cell? ⟨b, j, none⟩ = some (.int .i64 ((f j : Nat) : Int))
theorem Ns.keep {W V : World} {q : Option Addr} {n : Nat} {f : Nat → Nat} (h : Ns W q n f) (hb : Below W.heap.size W V) : Ns V q n f := by
  rcases h with h | ⟨b, e, hl, hc⟩
  · exact .inl h
  · exact .inr ⟨b, e, Nat.lt_of_lt_of_le hl hb.size, fun j hj => keepC hb hl (hc j hj)⟩
theorem own_ns {W : World} {B m cap : Nat} {q : Option Addr} {f : Nat → Nat} (h : W.ownsRow B 3 1 (.slice q m cap) m (numsV f m)) : Ns W q m f := by
  rcases h.2 with ⟨hv, h0⟩ | ⟨g, c, cur, hv, _⟩
  · exact .inl h0
  · cases hv
    refine .inr ⟨g, rfl, (h.lt g rfl).2, fun k hk => ?_⟩
    rw [h.cellAt k (by omega)]
    simp [numsV, hk]

end Go.Proofs.Ytpefcpbkdofblaa
