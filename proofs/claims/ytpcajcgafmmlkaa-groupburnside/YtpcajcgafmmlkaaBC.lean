/-
  GroupBurnside: it answers true, whatever the chart.
-/
import Derived.Test.YtpcajcgafmmlkaaBB
namespace Go.Proofs.Ytpcajcgafmmlkaa
open Go.RowKit

theorem burn_ok (g w h : Int) (p : Option Addr) (n cap : Nat) (px : Nat → Int) (w' h' N b o : Nat) (W : World) (r : Right W g w h p n px w' h' N b o) : BurnIs g w h p n cap W := by
  have hN1 := r.hN1
  have hg := r.hg
  have hA := acts2 w' h' N px g hg hN1.1
  have hB := burnside hA
  have dl : (domL (imgC g N) (movesL w' h' N px g) N (N * N)).length = ((List.range (N * N)).filter (domB (imgC g N) (movesL w' h' N px g))).length := by unfold domL; rw [List.length_map]
  have hD1 : 1 ≤ (domL (imgC g N) (movesL w' h' N px g) N (N * N)).length := by
    unfold domL
    rw [List.length_map]
    refine List.length_pos_of_mem (a := 0) (List.mem_filter.2 ⟨List.mem_range.2 (Nat.mul_pos hN1.1 hN1.1), ?_⟩)
    unfold domB
    rw [List.all_eq_true]
    intro m _
    simp
  have hD2 : (domL (imgC g N) (movesL w' h' N px g) N (N * N)).length ≤ 576 := by
    have := domL_len (imgC g N) (movesL w' h' N px g) N (N * N)
    have : N * N ≤ 576 := Nat.mul_le_mul hN1.2 hN1.2
    omega
  have dget : ∀ (i : Nat) (z : Int × Int), (domL (imgC g N) (movesL w' h' N px g) N (N * N))[i]? = some z → ∃ j : Nat, ((List.range (N * N)).filter (domB (imgC g N) (movesL w' h' N px g)))[i]? = some j ∧ j < N * N ∧ domB (imgC g N) (movesL w' h' N px g) j = true ∧ z = ((j : Int) % N, (j : Int) / N) := by
    intro i z hz
    unfold domL at hz
    rw [List.getElem?_map, Option.map_eq_some_iff] at hz
    obtain ⟨j, hj, rfl⟩ := hz
    have := List.mem_filter.1 (List.mem_of_getElem? hj)
    exact ⟨j, hj, List.mem_range.1 this.1, this.2, by rw [Int.natCast_emod, Int.natCast_ediv]⟩
  refine burn_plain g w h p n cap N (movesL w' h' N px g) (domL (imgC g N) (movesL w' h' N px g) N (N * N)) (fun m x y => (mv g m.1 m.2.1 m.2.2.1 m.2.2.2 x y).1 % N) (fun m x y => (mv g m.1 m.2.1 m.2.2.1 m.2.2.2 x y).2 % N) (fun m j => imgC g N m j == j)
    (fun V => Right V g w h p n px w' h' N b o) W hN1 (moves_len w' h' N px g hN1.2 hg) hD2 (fun V V' k hb => k.keep hb) ?_ ?_ ?_ (fun V k => ?_) (fun V k => ?_) (fun V k => ?_) ?_ ?_ r
  · intro m _ x y hx hy
    have e := imgC_xy g N m (y * N + x) hN1.1
    have q := xy_of N x y hx
    rw [q.1, q.2] at e
    rw [Bool.eq_iff_iff, beq_iff_eq, Bool.and_eq_true, decide_eq_true_eq, decide_eq_true_eq]
    constructor
    · intro k
      rw [k, q.1, q.2] at e
      exact ⟨e.1.symm, e.2.symm⟩
    · rintro ⟨k1, k2⟩
      rw [k1, k2] at e
      exact cell_eq (e.1.trans q.1.symm) (e.2.trans q.2.symm)
  · intro m hm i j hij a c ha hc k
    obtain ⟨i', hi', hi1, hi2, rfl⟩ := dget i a ha
    obtain ⟨j', hj', hj1, hj2, rfl⟩ := dget j c hc
    have e := imgC_xy g N m i' hN1.1
    have e1 : imgC g N m i' = j' := cell_eq (e.1.trans k.1) (e.2.trans k.2)
    have e2 := told_apart hA.a i' j' hi1 hi2 hj2 m hm e1
    subst e2
    have nd : ((List.range (N * N)).filter (domB (imgC g N) (movesL w' h' N px g))).Nodup := List.nodup_range.filter _
    exact hij ((List.getElem?_inj (List.getElem?_eq_some_iff.1 hi').1 nd).1 (hi'.trans hj'.symm))
  · rw [dl]; exact hB
  · have := torus_any g w h p n cap px V (Or.inr ⟨b, o, k.hp, k.row⟩)
    rw [k.hE, k.hN] at this
    exact this
  · refine (moves_ok g w h p n cap px w' h' N b o V k).mono ?_
    rintro e V' ⟨q, cp, rfl, hm, hb⟩
    exact ⟨q, cp, rfl, hm.1, hb⟩
  · refine (dom_ok g w h p n cap px w' h' N b o V k).mono ?_
    rintro e V' ⟨v, rfl, hown, hb⟩
    obtain ⟨q, cp, rfl⟩ := own_slice hown hD1
    exact ⟨q, cp, rfl, zrow_own hown, hb⟩
  · rintro ⟨a, f, X, Y⟩ hm x y hx hy
    obtain ⟨ha, hX, hY, -⟩ := (mem_moves w' h' N px g a f X Y hN1.1).1 hm
    have t := to_any g a f X Y x y hg ⟨by omega, by omega⟩ ((sz_small (by omega) (by omega)).mono (by decide)) ((sz_small (by omega) (by omega)).mono (by decide))
    rw [Int.toNat_natCast] at t
    exact ⟨_, _, t, rfl, rfl⟩
  · intro z hz
    obtain ⟨i, hi⟩ := List.mem_iff_getElem?.1 hz
    obtain ⟨j, -, hj, -, rfl⟩ := dget i z hi
    exact cell_xy j N hN1.1 hj

theorem burn_walk (g w h : Int) (p : Option Addr) (n cap : Nat) (px : Nat → Int) (W : World) (hc : Ch.Cells W p n px) : BurnIs g w h p n cap W := by
  by_cases he : toE g w h n px = 0
  · obtain ⟨w', h', N, b, o, r⟩ := right_of hc he
    exact burn_ok g w h p n cap px w' h' N b o W r
  · exact burn_err g w h p n cap px W hc _ rfl (toE_pos he)
end Go.Proofs.Ytpcajcgafmmlkaa
