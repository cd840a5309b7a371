/-
  Domain of the reference, of a right chart.
-/
import Derived.Test.YtagiekbijmdmdaaFE
namespace Go.Proofs.Ytagiekbijmdmdaa
open Go.RowKit

theorem rdomain_ok (g w h : Int) (p : Option Addr) (n cap : Nat) (px : Nat → Int) (w' h' N b o : Nat) (W : World) (r : Right W g w h p n px w' h' N b o) :
    Calls Try.prog 19 #[Ch.ch g w h p n cap, .int .i64 N] W fun e V => ∃ v, e = .returned v ∧ V.ownsRow W.heap.size 33 2 v (domL (imgC g N) (movesL w' h' N px g) N (N * N)).length (zsV (domL (imgC g N) (movesL w' h' N px g) N (N * N))) ∧ Below W.heap.size W V := by
  have hN1 := r.hN1
  have hg := r.hg
  refine rdomain_plain g w h p n cap N (movesL w' h' N px g) (imgC g N) W hN1 (moves_len w' h' N px g hN1.2 hg) (fun V => Right V g w h p n px w' h' N b o) (fun V V' k hb => k.keep hb) (fun V k => rall_ok g w h p n cap px w' h' N b o V k) ?_ r
  rintro ⟨a, f, X, Y⟩ hm x y hx hy
  obtain ⟨ha, hX, hY, -⟩ := (mem_moves w' h' N px g a f X Y hN1.1).1 hm
  have hT := to_any g a f X Y x y hg ⟨by omega, by omega⟩ ((sz_small (by omega) (by omega)).mono (by decide)) ((sz_small (by omega) (by omega)).mono (by decide))
  rw [Int.toNat_natCast] at hT
  have e := xy_of N x y hx
  have hI : imgC g N (a, f, X, Y) (y * N + x) = cby N (mv g a f X Y x y).1 (mv g a f X Y x y).2 0 0 := by
    unfold imgC tgtR
    rw [e.1, e.2]
  have hc := cby_lt N (mv g a f X Y x y).1 (mv g a f X Y x y).2 0 0 hN1.1
  simp only [Int.add_zero] at hc
  have hNN : N * N ≤ 576 := Nat.mul_le_mul hN1.2 hN1.2
  refine ⟨_, _, hT, by rw [hI]; exact hc.2, ⟨Int.emod_nonneg _ (by omega), Int.emod_lt_of_pos _ (by omega)⟩, ⟨Int.emod_nonneg _ (by omega), Int.emod_lt_of_pos _ (by omega)⟩, by rw [hI]; omega⟩
end Go.Proofs.Ytagiekbijmdmdaa
