/-
  GroupLattice: it answers true, whatever the chart and the point.
-/
import Derived.Test.YtagiekbijmdmdaaLC
namespace Go.Proofs.Ytagiekbijmdmdaa
open Go.RowKit

theorem least (p : Nat → Prop) (h : ∃ n, p n) : ∃ n, p n ∧ ∀ m, m < n → ¬ p m := by
  obtain ⟨n, hn⟩ := h
  induction n using Nat.strongRecOn with
  | ind n ih =>
    by_cases hh : ∃ m, m < n ∧ p m
    · obtain ⟨m, hm, pm⟩ := hh
      exact ih m hm pm
    · exact ⟨n, hn, fun m hm pm => hh ⟨m, hm, pm⟩⟩
theorem bfalse {b : Bool} (h : ¬ b = true) : b = false := by cases b <;> simp_all
theorem side_ex (K : Nat → Nat → Bool) (N : Nat) (hN : 1 ≤ N) : ∃ s, SideIs K N s := by
  obtain ⟨s, hs, hl⟩ := least (fun s => 1 ≤ s ∧ (s = N ∨ K s 0 = true)) ⟨N, hN, Or.inl rfl⟩
  have h2 : s ≤ N := by
    rcases Nat.lt_or_ge N s with h | h
    · exact absurd ⟨hN, Or.inl rfl⟩ (hl N h)
    · exact h
  exact ⟨s, ⟨hs.1, h2⟩, fun x hx hxs => bfalse (fun k => hl x hxs ⟨hx, Or.inr k⟩), hs.2⟩
theorem up_ex (K : Nat → Nat → Bool) (N s : Nat) (hN : 1 ≤ N) (hs : 1 ≤ s) : ∃ u v, UpIs K N s u v := by
  obtain ⟨v, hv, hl⟩ := least (fun v => 1 ≤ v ∧ (v = N ∨ ∃ x, x < s ∧ K x v = true)) ⟨N, hN, Or.inl rfl⟩
  have h2 : v ≤ N := by
    rcases Nat.lt_or_ge N v with h | h
    · exact absurd ⟨hN, Or.inl rfl⟩ (hl N h)
    · exact h
  have no : ∀ y, 1 ≤ y → y < v → ∀ x, x < s → K x y = false := fun y hy hyv x hx => bfalse (fun k => hl y hyv ⟨hy, Or.inr ⟨x, hx, k⟩⟩)
  by_cases hvN : v < N
  · obtain ⟨u, hu, hul⟩ := least (fun x => x < s ∧ K x v = true) (by
      rcases hv.2 with e | e
      · omega
      · exact e)
    exact ⟨u, v, ⟨hv.1, h2, hu.1⟩, no, fun _ x hx => bfalse (fun k => hul x hx ⟨by have := hu.1; omega, k⟩), Or.inl ⟨hvN, hu.2⟩⟩
  · exact ⟨0, v, ⟨hv.1, h2, hs⟩, no, fun h => absurd h hvN, Or.inr ⟨by omega, rfl⟩⟩
theorem side_one {K : Nat → Nat → Bool} {N s s' : Nat} (h : SideIs K N s) (k : SideIs K N s') : s = s' := by
  have key : ∀ {s s' : Nat}, SideIs K N s → SideIs K N s' → ¬ s < s' := by
    intro s s' h k hlt
    rcases h.2.2 with e | e
    · have := k.1.2; omega
    · rw [k.2.1 s h.1.1 hlt] at e; cases e
  have := key h k
  have := key k h
  omega
theorem up_one {K : Nat → Nat → Bool} {N s u v u' v' : Nat} (h : UpIs K N s u v) (k : UpIs K N s u' v') : u = u' ∧ v = v' := by
  have key : ∀ {u v u' v' : Nat}, UpIs K N s u v → UpIs K N s u' v' → ¬ v < v' := by
    intro u v u' v' h k hlt
    rcases h.2.2.2 with ⟨e, e2⟩ | ⟨e, -⟩
    · rw [k.2.1 v h.1.1 hlt u h.1.2.2] at e2; cases e2
    · have := k.1.2.1; omega
  have e1 := key h k
  have e2 := key k h
  have ev : v = v' := by omega
  subst ev
  refine ⟨?_, rfl⟩
  have key2 : ∀ {u u' : Nat}, UpIs K N s u v → UpIs K N s u' v → ¬ u < u' := by
    intro u u' h k hlt
    rcases h.2.2.2 with ⟨e, e2⟩ | ⟨e, e2⟩
    · rw [k.2.2.1 e u hlt] at e2; cases e2
    · rcases k.2.2.2 with ⟨e3, -⟩ | ⟨-, e3⟩ <;> omega
  have := key2 h k
  have := key2 k h
  omega

theorem lat_ok (g w h : Int) (p : Option Addr) (n cap : Nat) (px : Nat → Int) (w' h' N b o : Nat) (x y : Int) (W : World) (r : Right W g w h p n px w' h' N b o) : LatIs g w h p n cap x y W := by
  have hN1 := r.hN1
  have hg := r.hg
  have hP := pat_per w' h' N px
  obtain ⟨s, hs⟩ := side_ex (stepK w' h' N px g) N hN1.1
  obtain ⟨u, v, hu⟩ := up_ex (stepK w' h' N px g) N s hN1.1 hs.1.1
  have hf := fine_of w' h' N px g s u v hN1.1 hs hu
  obtain ⟨kb, ke, hk, hK⟩ : ∃ (kb : Bool) (ke : Int), (ke ≠ 0 ∨ ke = 0 ∧ (-1048576 ≤ x ∧ x ≤ 1048576) ∧ (-1048576 ≤ y ∧ y ≤ 1048576) ∧ kb = (decide (y % v = 0) && decide ((x - y / v * u) % s = 0))) ∧ ∀ V, Right V g w h p n px w' h' N b o → KeepsIs 20 g w h p n cap 0 false x y V kb ke := by
    by_cases hw : wE g 0 x y = 0
    · refine ⟨_, 0, Or.inr ⟨rfl, ?_, ?_, ?_⟩, fun V k => keeps_ok g w h p n cap px w' h' N b o 0 false x y V k hw⟩
      · have := (sm2_iff x y).1 (wE_zero g 0 x y hw).2.2; omega
      · have := (sm2_iff x y).1 (wE_zero g 0 x y hw).2.2; omega
      · rw [Bool.eq_iff_iff, kpV_iff w' h' N px g 0 false _ _ hN1.1, kp_step, St.mod hP, hf.all, Bool.and_eq_true, decide_eq_true_eq, decide_eq_true_eq]
    · refine ⟨false, wE g 0 x y, Or.inl hw, fun V k => keeps_err2 g w h p n cap px w' h' N b o 0 false x y V k _ rfl (wE_pos _ _ _ _ hw)⟩
  refine lat_plain g w h p n cap x y N s u v (movesL w' h' N px g) kb ke W hN1 (fun V => Right V g w h p n px w' h' N b o) (fun V V' k hb => k.keep hb)
    hf.hs hf.hv hf.hu (Nat.mod_eq_zero_of_dvd (hf.dvd hP).1) (lattice_count w' h' N px g s u v hg hN1.1 hf) (moves_len w' h' N px g hN1.2 hg) (fun V k => ?_) (fun V k => ?_) (fun V k => ?_) hK hk r
  · refine (finest_ok g w h p n cap px w' h' N b o V k).mono ?_
    rintro e V' ⟨s', u', v', rfl, ⟨hs', hu'⟩, hb⟩
    obtain rfl := side_one hs' hs
    obtain ⟨rfl, rfl⟩ := up_one hu' hu
    exact ⟨rfl, hb⟩
  · refine (moves_ok g w h p n cap px w' h' N b o V k).mono ?_
    rintro e V' ⟨q, cp, rfl, hm, hb⟩
    exact ⟨q, cp, rfl, hm.1, hb⟩
  · have := torus_any g w h p n cap px V (Or.inr ⟨b, o, k.hp, k.row⟩)
    rw [k.hE, k.hN] at this
    exact this

theorem lat_walk (g w h : Int) (p : Option Addr) (n cap : Nat) (px : Nat → Int) (x y : Int) (W : World) (hc : Ch.Cells W p n px) : LatIs g w h p n cap x y W := by
  by_cases he : toE g w h n px = 0
  · obtain ⟨w', h', N, b, o, r⟩ := right_of hc he
    exact lat_ok g w h p n cap px w' h' N b o x y W r
  · exact lat_err g w h p n cap px x y W hc _ rfl (toE_pos he)
end Go.Proofs.Ytagiekbijmdmdaa
