/-
  Plain facts about a pattern that is moved: what stands where, what keeps it, and by how many moves. No Go in sight but for the definitions.
-/
import Derived.Test.YtpcajcgafmmlkaaDoorGT
import Derived.Test.YtpcajcgafmmlkaaDoorGN
namespace Go.Proofs.YtpcajcgafmmlkaaDoor
open Go.RowKit

/-- the second pattern is the first one, moved -/
def Mov (P Q : Int → Int → Int) (g : Int) (t : Nat) (f : Bool) (u v : Int) : Prop := ∀ x y : Int, Q (mv g t f u v x y).1 (mv g t f u v x y).2 = P x y

theorem movP_eq (w h N : Nat) (px : Nat → Int) (g : Int) (t : Nat) (f : Bool) (x y : Int) (hN : 1 ≤ N) : movP w h N px g t f x y = mcF (tgtR g t f x y N) (srcR (pat w h N px) N) (N * N) := by
  unfold movP
  refine (mcF_congr _ _ _ _ _ (fun i hi => ⟨?_, pat_cell w h N px i hN hi⟩)).symm
  unfold tgtR tgtF cby imX imY
  have e1 : ((mv g t f x y ((i : Int) % N) ((i : Int) / N)).2 + 0) % (N : Int) = ((mv g t f 0 0 ((i : Int) % N) ((i : Int) / N)).2 % N + y % N) % N := by
    simp only [mv_li, Int.add_zero]; rw [← Int.add_emod]
  have e2 : ((mv g t f x y ((i : Int) % N) ((i : Int) / N)).1 + 0) % (N : Int) = ((mv g t f 0 0 ((i : Int) % N) ((i : Int) / N)).1 % N + x % N) % N := by
    simp only [mv_li, Int.add_zero]; rw [← Int.add_emod]
  rw [e1, e2]
/-- what undoes a move, behind it, leaves each point where it is -/
theorem mv_fore (g t : Int) (f : Bool) (x y zx zy : Int) (hg : g = 4 ∨ g = 6) (ht : 0 ≤ t ∧ t < g) :
    mv g (bt g t f).toNat f (iP g t f x y).1 (iP g t f x y).2 (mv g t.toNat f x y zx zy).1 (mv g t.toNat f x y zx zy).2 = (zx, zy) := by
  have b1 : mv g (bt g t f).toNat f (iP g t f x y).1 (iP g t f x y).2 x y = (0, 0) := by
    rw [mv_li]; unfold iP; exact Prod.ext (by simp; omega) (by simp; omega)
  rw [← mv_comp g (bt g t f) f _ _ t f x y zx zy hg (bt_range g t f hg ht) ht, b1, (cT_back g t f hg ht).1, (cT_back g t f hg ht).2.2]
  exact mv_id g zx zy
theorem cby_mod (N : Nat) (x y : Int) (hN : 1 ≤ N) : ((cby N x y 0 0 : Nat) : Int) % N = x % N ∧ ((cby N x y 0 0 : Nat) : Int) / N = y % N := by
  have h := (cby_lt N x y 0 0 hN).2
  simp only [Int.add_zero] at h
  rw [← h]
  have b1 := Int.emod_nonneg x (show (N : Int) ≠ 0 by omega)
  have b2 := Int.emod_lt_of_pos x (show (0 : Int) < N by omega)
  constructor
  · rw [Int.add_comm, Int.add_mul_emod_self_right, Int.emod_emod_of_dvd _ (Int.dvd_refl _)]
  · rw [Int.add_comm, Int.add_mul_ediv_right _ _ (by omega), Int.ediv_eq_zero_of_lt b1 b2, Int.zero_add]
theorem cby_congr (N : Nat) {x y x' y' : Int} (hx : x % N = x' % N) (hy : y % N = y' % N) : cby N x y 0 0 = cby N x' y' 0 0 := by
  unfold cby; simp only [Int.add_zero]; rw [hx, hy]
theorem mod_mod (x : Int) (N : Nat) : x % N % N = x % N := Int.emod_emod_of_dvd _ (Int.dvd_refl _)
/-- on the torus a move takes no two points to one -/
theorem mv_inj (g : Int) (t : Nat) (f : Bool) (u v : Int) (N : Nat) (x y x' y' : Int) (hg : g = 4 ∨ g = 6) (ht : (t : Int) < g)
    (h1 : (mv g t f u v x y).1 % N = (mv g t f u v x' y').1 % N) (h2 : (mv g t f u v x y).2 % N = (mv g t f u v x' y').2 % N) : x % N = x' % N ∧ y % N = y' % N := by
  have a := mv_fore g t f u v x y hg ⟨by omega, ht⟩
  have b := mv_fore g t f u v x' y' hg ⟨by omega, ht⟩
  rw [Int.toNat_natCast] at a b
  have c := mv_cong g (bt g t f).toNat f N (iP g t f u v).1 (iP g t f u v).2 (iP g t f u v).1 (iP g t f u v).2 _ _ _ _ h1 h2 rfl rfl
  rw [a, b] at c
  exact c
theorem tgtR_inj (g : Int) (t : Nat) (f : Bool) (u v : Int) (N i j : Nat) (hg : g = 4 ∨ g = 6) (ht : (t : Int) < g) (hN : 1 ≤ N) (hi : i < N * N) (hj : j < N * N) (e : tgtR g t f u v N i = tgtR g t f u v N j) : i = j := by
  unfold tgtR at e
  have a := cby_mod N (mv g t f u v ((i : Int) % N) ((i : Int) / N)).1 (mv g t f u v ((i : Int) % N) ((i : Int) / N)).2 hN
  have b := cby_mod N (mv g t f u v ((j : Int) % N) ((j : Int) / N)).1 (mv g t f u v ((j : Int) % N) ((j : Int) / N)).2 hN
  rw [e] at a
  have c := mv_inj g t f u v N _ _ _ _ hg ht (a.1.symm.trans b.1) (a.2.symm.trans b.2)
  rw [mod_mod, mod_mod] at c
  have ci := cell_xy i N hN hi
  have cj := cell_xy j N hN hj
  rw [Int.emod_eq_of_lt ci.2.1 ci.2.2, Int.emod_eq_of_lt cj.2.1 cj.2.2] at c
  have k1 := Int.emod_add_mul_ediv (i : Int) N
  have k2 := Int.emod_add_mul_ediv (j : Int) N
  rw [c.1, c.2] at k1
  omega
theorem mcF_get (tgt : Nat → Nat) (src : Nat → Int) : ∀ k, (∀ i j, i < k → j < k → tgt i = tgt j → i = j) → ∀ i, i < k → mcF tgt src k (tgt i) = src i := by
  intro k
  induction k with
  | zero => intro _ i hi; omega
  | succ k ih =>
    intro inj i hi
    simp only [mcF, put]
    split
    · rename_i e
      rw [inj i k hi (by omega) e]
    · rename_i e
      have : i ≠ k := fun h => e (by rw [h])
      exact ih (fun a b ha hb => inj a b (by omega) (by omega)) i (by omega)
theorem pat_self (N : Nat) (m : Nat → Int) (x y : Int) (hN : 1 ≤ N) : pat N N N m x y = m (cby N x y 0 0) := by
  have h := cby_lt N x y 0 0 hN
  unfold pat tcx
  have e : (y % N * N + x % N).toNat = cby N x y 0 0 := by unfold cby; simp only [Int.add_zero]
  rw [e]
  generalize cby N x y 0 0 = i at *
  have h2 : i / N < N := (Nat.div_lt_iff_lt_mul (by omega)).2 h.1
  rw [Nat.mod_eq_of_lt h2, Nat.mod_mod, Nat.mul_comm, Nat.div_add_mod]
/-- the chart that Moved makes is the pattern, moved -/
theorem mov_movP (w h N : Nat) (px : Nat → Int) (g : Int) (t : Nat) (f : Bool) (u v : Int) (hg : g = 4 ∨ g = 6) (ht : (t : Int) < g) (hN : 1 ≤ N) : Mov (pat w h N px) (pat N N N (movP w h N px g t f u v)) g t f u v := by
  intro x y
  have hi := (cby_lt N x y 0 0 hN).1
  have hm := cby_mod N x y hN
  have ht' : tgtR g t f u v N (cby N x y 0 0) = cby N (mv g t f u v x y).1 (mv g t f u v x y).2 0 0 := by
    unfold tgtR
    rw [hm.1, hm.2]
    have := mv_cong g t f N u v u v (x % N) (y % N) x y (mod_mod x N) (mod_mod y N) rfl rfl
    exact cby_congr N this.1 this.2
  rw [pat_self N _ _ _ hN, movP_eq w h N px g t f u v hN, ← ht', mcF_get _ _ _ (fun i j hi hj e => tgtR_inj g t f u v N i j hg ht hN hi hj e) _ hi]
  unfold srcR
  rw [hm.1, hm.2, (pat_per w h N px).mod]
theorem Mov.back {P Q : Int → Int → Int} {g : Int} {t : Nat} {f : Bool} {u v : Int} (hg : g = 4 ∨ g = 6) (ht : (t : Int) < g) (h : Mov P Q g t f u v) : Mov Q P g (bt g t f).toNat f (iP g t f u v).1 (iP g t f u v).2 := by
  intro x y
  have a := mv_back g t f u v x y hg ⟨by omega, ht⟩
  rw [Int.toNat_natCast] at a
  rw [← h, a]
theorem Mov.again {P Q R : Int → Int → Int} {g : Int} {t : Nat} {f : Bool} {u v : Int} (hg : g = 4 ∨ g = 6) (ht : (t : Int) < g) (h : Mov P Q g t f u v) (k : Mov Q R g (bt g t f).toNat f (iP g t f u v).1 (iP g t f u v).2) (x y : Int) : R x y = P x y := by
  have a := mv_fore g t f u v x y hg ⟨by omega, ht⟩
  rw [Int.toNat_natCast] at a
  have b := k (mv g t f u v x y).1 (mv g t f u v x y).2
  rw [a] at b
  exact b.trans (h x y)

/-! ### what keeps a moved pattern -/
/-- a move behind what undoes another one, and that other one behind it -/
def cjT (g t : Int) (f : Bool) (t' : Int) (f' : Bool) : Int := cT g (cT g t f t') (cF f f') (bt g t f)
def cjF (f f' : Bool) : Bool := cF (cF f f') f
def cjP (g t : Int) (f : Bool) (u v : Int) (t' : Int) (f' : Bool) (u' v' : Int) : Int × Int := mv g (cT g t f t').toNat (cF f f') (mv g t.toNat f u v u' v').1 (mv g t.toNat f u v u' v').2 (iP g t f u v).1 (iP g t f u v).2
theorem Mov.keeps {P Q : Int → Int → Int} {g t : Int} {f : Bool} {u v t' : Int} {f' : Bool} {u' v' : Int} (hg : g = 4 ∨ g = 6) (ht : 0 ≤ t ∧ t < g) (ht' : 0 ≤ t' ∧ t' < g) (h : Mov P Q g t.toNat f u v) (k : Kp P g t'.toNat f' u' v') :
    Kp Q g (cjT g t f t' f').toNat (cjF f f') (cjP g t f u v t' f' u' v').1 (cjP g t f u v t' f' u' v').2 := by
  intro x y
  unfold cjT cjF cjP
  rw [mv_comp g (cT g t f t') (cF f f') _ _ (bt g t f) f _ _ x y hg (cT_range g t f t' hg) (bt_range g t f hg ht), mv_comp g t f u v t' f' u' v' _ _ hg ht ht', h, ← k, ← h, mv_back g t f u v x y hg ht]
theorem inj_len {α β : Type} [DecidableEq β] (φ : α → β) : ∀ (L : List α) (M : List β), L.Nodup → (∀ a ∈ L, φ a ∈ M) → (∀ a ∈ L, ∀ b ∈ L, φ a = φ b → a = b) → L.length ≤ M.length := by
  intro L
  induction L with
  | nil => intro M _ _ _; simp
  | cons a L ih =>
    intro M hd hm hi
    have hd' := List.nodup_cons.1 hd
    have ha := hm a (by simp)
    have := ih (M.erase (φ a)) hd'.2 (fun b hb => (List.mem_erase_of_ne (fun e => hd'.1 (by rw [← hi b (by simp [hb]) a (by simp) e]; exact hb))).2 (hm b (by simp [hb]))) (fun b hb c hc => hi b (by simp [hb]) c (by simp [hc]))
    rw [List.length_erase_of_mem ha] at this
    have := List.length_pos_of_mem ha
    simp
    omega
theorem moves_nodup (w h N : Nat) (px : Nat → Int) (g : Int) : (movesL w h N px g).Nodup := by
  unfold movesL allM turnsM rowM List.Nodup
  rw [List.pairwise_flatMap]
  have hr : ∀ n, (List.range n).Pairwise (· ≠ ·) := fun n => List.nodup_range
  refine ⟨fun a _ => ?_, ?_⟩
  · rw [List.pairwise_flatMap]
    refine ⟨fun t _ => ?_, ?_⟩
    · rw [List.pairwise_map]
      refine ((hr _).filter _).imp ?_
      intro i j hne e
      simp only [Prod.mk.injEq, true_and] at e
      apply hne
      rw [← Nat.div_add_mod i N, ← Nat.div_add_mod j N, e.1, e.2]
    · refine (hr _).imp ?_
      intro t t' hne x hx y hy e
      simp only [List.mem_map] at hx hy
      obtain ⟨i, _, rfl⟩ := hx
      obtain ⟨j, _, rfl⟩ := hy
      simp only [Prod.mk.injEq] at e
      exact hne e.1
  · have h2 : (List.range 2).Pairwise (fun a b => flipOf a ≠ flipOf b) := by decide
    refine h2.imp ?_
    intro a a' hne x hx y hy e
    simp only [List.mem_flatMap, List.mem_map] at hx hy
    obtain ⟨t, _, i, _, rfl⟩ := hx
    obtain ⟨t', _, j, _, rfl⟩ := hy
    simp only [Prod.mk.injEq] at e
    exact hne e.2.1
theorem cj_inj {g t : Int} {f : Bool} {t' : Int} {f' : Bool} {t'' : Int} {f'' : Bool} (hg : g = 4 ∨ g = 6) (ht' : 0 ≤ t' ∧ t' < g) (ht'' : 0 ≤ t'' ∧ t'' < g) (hF : cjF f f' = cjF f f'') (hT : cjT g t f t' f' = cjT g t f t'' f'') : t' = t'' ∧ f' = f'' := by
  have e : f' = f'' := by cases f <;> cases f' <;> cases f'' <;> simp_all [cjF, cF]
  subst e
  refine ⟨?_, rfl⟩
  unfold cjT at hT
  rcases hg with rfl | rfl <;> cases f <;> cases f' <;> simp only [cT, cF, bt, Bool.not_true, Bool.not_false] at hT <;> omega
/-- as many moves -/
theorem moves_le (w h N : Nat) (px : Nat → Int) (w' h' : Nat) (px' : Nat → Int) (g t : Int) (f : Bool) (u v : Int) (hg : g = 4 ∨ g = 6) (ht : 0 ≤ t ∧ t < g) (hN : 1 ≤ N) (hM : Mov (pat w h N px) (pat w' h' N px') g t.toNat f u v) : (movesL w h N px g).length ≤ (movesL w' h' N px' g).length := by
  refine inj_len (fun m : Mv => ((cjT g t f m.1 m.2.1).toNat, cjF f m.2.1, ((cjP g t f u v m.1 m.2.1 m.2.2.1 m.2.2.2).1 % N).toNat, ((cjP g t f u v m.1 m.2.1 m.2.2.1 m.2.2.2).2 % N).toNat)) _ _ (moves_nodup w h N px g) ?_ ?_
  · rintro ⟨a, b, X, Y⟩ hm
    obtain ⟨ha, hX, hY, hk⟩ := (mem_moves w h N px g a b X Y hN).1 hm
    have hr := cT_range g (cT g t f a) (cF f b) (bt g t f) hg
    have n1 := Int.emod_nonneg (cjP g t f u v a b X Y).1 (show (N : Int) ≠ 0 by omega)
    have n2 := Int.emod_nonneg (cjP g t f u v a b X Y).2 (show (N : Int) ≠ 0 by omega)
    have l1 := Int.emod_lt_of_pos (cjP g t f u v a b X Y).1 (show (0 : Int) < N by omega)
    have l2 := Int.emod_lt_of_pos (cjP g t f u v a b X Y).2 (show (0 : Int) < N by omega)
    dsimp only
    refine (mem_moves w' h' N px' g _ _ _ _ hN).2 ⟨by unfold cjT; omega, by omega, by omega, ?_⟩
    have k := hM.keeps hg ht (t' := a) (f' := b) (u' := X) (v' := Y) ⟨by omega, by omega⟩ (by rw [Int.toNat_natCast]; exact hk)
    rw [Int.toNat_of_nonneg n1, Int.toNat_of_nonneg n2]
    exact k.cong (pat_per w' h' N px') (mod_mod _ N).symm (mod_mod _ N).symm
  · rintro ⟨a, b, X, Y⟩ hm ⟨a', b', X', Y'⟩ hm' e
    obtain ⟨ha, hX, hY, -⟩ := (mem_moves w h N px g a b X Y hN).1 hm
    obtain ⟨ha', hX', hY', -⟩ := (mem_moves w h N px g a' b' X' Y' hN).1 hm'
    simp only [Prod.mk.injEq] at e
    obtain ⟨e1, e2, e3, e4⟩ := e
    have r1 := cT_range g (cT g t f a) (cF f b) (bt g t f) hg
    have r2 := cT_range g (cT g t f a') (cF f b') (bt g t f) hg
    obtain ⟨ea, rfl⟩ := cj_inj hg (t := t) (t' := a) (t'' := a') ⟨by omega, by omega⟩ ⟨by omega, by omega⟩ e2 (by unfold cjT at e1 ⊢; omega)
    obtain rfl : a = a' := by omega
    have n1 := Int.emod_nonneg (cjP g t f u v a b X Y).1 (show (N : Int) ≠ 0 by omega)
    have n2 := Int.emod_nonneg (cjP g t f u v a b X Y).2 (show (N : Int) ≠ 0 by omega)
    have n3 := Int.emod_nonneg (cjP g t f u v a b X' Y').1 (show (N : Int) ≠ 0 by omega)
    have n4 := Int.emod_nonneg (cjP g t f u v a b X' Y').2 (show (N : Int) ≠ 0 by omega)
    have m1 : (cjP g t f u v a b X Y).1 % N = (cjP g t f u v a b X' Y').1 % N := by omega
    have m2 : (cjP g t f u v a b X Y).2 % N = (cjP g t f u v a b X' Y').2 % N := by omega
    have key : ∀ A B C : Int, (A + B) % N = (A + C) % N → B % N = C % N := by
      intro A B C hh
      rw [Int.emod_eq_emod_iff_emod_sub_eq_zero] at hh ⊢
      rwa [show A + B - (A + C) = B - C by omega] at hh
    unfold cjP at m1 m2
    simp only [mv_li g (cT g t f a).toNat] at m1 m2
    have tt : t = (t.toNat : Int) := by omega
    have c := mv_inj g t.toNat f u v N X Y X' Y' hg (by omega) (key _ _ _ m1) (key _ _ _ m2)
    rw [Int.emod_eq_of_lt (by omega) (by omega), Int.emod_eq_of_lt (by omega) (by omega), Int.emod_eq_of_lt (by omega) (by omega), Int.emod_eq_of_lt (by omega) (by omega)] at c
    rw [show X = X' by omega, show Y = Y' by omega]
theorem moves_same (w h N : Nat) (px : Nat → Int) (w' h' : Nat) (px' : Nat → Int) (g : Int) (t : Nat) (f : Bool) (u v : Int) (hg : g = 4 ∨ g = 6) (ht : (t : Int) < g) (hN : 1 ≤ N) (hM : Mov (pat w h N px) (pat w' h' N px') g t f u v) : (movesL w h N px g).length = (movesL w' h' N px' g).length :=
  Nat.le_antisymm (moves_le w h N px w' h' px' g t f u v hg ⟨by omega, ht⟩ hN (by rw [Int.toNat_natCast]; exact hM))
    (moves_le w' h' N px' w h px g (bt g t f) f _ _ hg (bt_range g t f hg ⟨by omega, ht⟩) hN (hM.back hg ht))
end Go.Proofs.YtpcajcgafmmlkaaDoor
