/-
  cmp.Compare, and the function by which Layers compares sheets.
-/
import Derived.Test.YtbbilogkblmniaaLyB
namespace Go.Proofs.Ytbbilogkblmniaa
open Go.RowKit

set_option maxHeartbeats 400000 in
theorem isnan_any (x : Nat) (V : World) : Calls Try.prog 37 #[.int .i64 x] V fun e V' => e = .returned (.bool false) ∧ V' = V := by
  have h : ((x : Int) != (x : Int)) = false := by simp
  go_enter Try.func37, Try.ntmps37
  go_wp2
  go_ret
  exact ⟨rfl, rfl⟩
set_option maxHeartbeats 1000000 in
theorem compare_any (x y : Nat) (V : World) : Calls Try.prog 25 #[.int .i64 x, .int .i64 y] V fun e V' => e = .returned (.int .i64 (cpI x y)) ∧ V' = V := by
  have HI := hide (fun x V => isnan_any x V)
  have Hc := hide (show cpI x y = if x < y then -1 else if y < x then 1 else 0 from rfl)
  by_cases h1 : x < y
  · have g1 : (x : Int) < (y : Int) := by omega
    have He := hide (show cpI x y = -1 by rw [unhide Hc, if_pos h1])
    go_enter Try.func25, Try.ntmps25
    go_wp2_with (go_at_call 37; refine (unhide HI _ _).mono ?_; rintro e w' ⟨rfl, rfl⟩)
    go_ret
    exact ⟨ret_int (unhide He).symm, rfl⟩
  · have g1 : ¬ ((x : Int) < (y : Int)) := by omega
    by_cases h2 : y < x
    · have g2 : (y : Int) < (x : Int) := by omega
      have He := hide (show cpI x y = 1 by rw [unhide Hc, if_neg h1, if_pos h2])
      go_enter Try.func25, Try.ntmps25
      go_wp2_with (go_at_call 37; refine (unhide HI _ _).mono ?_; rintro e w' ⟨rfl, rfl⟩)
      go_ret
      exact ⟨ret_int (unhide He).symm, rfl⟩
    · have g2 : ¬ ((y : Int) < (x : Int)) := by omega
      have He := hide (show cpI x y = 0 by rw [unhide Hc, if_neg h1, if_neg h2])
      go_enter Try.func25, Try.ntmps25
      go_wp2_with (go_at_call 37; refine (unhide HI _ _).mono ?_; rintro e w' ⟨rfl, rfl⟩)
      go_ret
      exact ⟨ret_int (unhide He).symm, rfl⟩

set_option maxRecDepth 100000 in
set_option maxHeartbeats 2000000 in
theorem cmp24_any {V : World} {B ob N cp : Nat} {f : Nat → Bool} {w h : Nat} (hbox : V.cell? ⟨B, 0, none⟩ = some (.slice (some ⟨ob, 0, none⟩) N cp)) (k : Ovs V ob N f w h) (x y g1 l1 c1 g2 l2 c2 : Nat) (hx : x < N) (hy : y < N) (d1 : V.cell? ⟨g1, 0, none⟩ = some (.int .i64 x)) (p1 : 0 < l1) (d2 : V.cell? ⟨g2, 0, none⟩ = some (.int .i64 y)) (p2 : 0 < l2) :
    Calls Try.prog 24 #[.slice (some ⟨g1, 0, none⟩) l1 c1, .slice (some ⟨g2, 0, none⟩) l2 c2, .pointer (some ⟨B, 0, none⟩)] V fun e V' => e = .returned (.int .i64 (cpI (kyN f w h x) (kyN f w h y))) ∧ ∃ k, V' = V.drewN k := by
  obtain ⟨qx, cx, r1, _⟩ := k.2 x hx
  obtain ⟨qy, cy, r2, _⟩ := k.2 y hy
  have HC := hide (fun a b V => compare_any a b V)
  have e1 : kyN f w h x = (ovL f w h x).length := rfl
  have e2 : kyN f w h y = (ovL f w h y).length := rfl
  rw [e1, e2]
  generalize (ovL f w h x).length = kx at *
  generalize (ovL f w h y).length = ky at *
  have g3 : (x : Int) < (N : Int) := by omega
  have g4 : (0 : Int) ≤ (x : Int) := by omega
  have g5 : (y : Int) < (N : Int) := by omega
  have g6 : (0 : Int) ≤ (y : Int) := by omega
  have g7 : (0 : Int) < (l1 : Int) := by omega
  have g8 : (0 : Int) < (l2 : Int) := by omega
  clear k e1 e2
  go_enter Try.func24, Try.ntmps24
  go_wp2_with fail
  go_quiet (first | (go_at_call 25; exact Calls.quiet_of_same (unhide HC _ _ _)))
  go_wp2
  go_ret
  exact ⟨rfl, _, rfl⟩

/-- Layers compares by how many strands are over a sheet's -/
theorem cmp_layers {We W0 : World} {B ob N cp b len c : Nat} {q : Option Addr} {f : Nat → Bool} {w h : Nat} {E : El} (hB : B < We.heap.size) (hbox : We.cell? ⟨B, 0, none⟩ = some (.slice (some ⟨ob, 0, none⟩) N cp)) (k : Ovs We ob N f w h) (hN : N = w + h) (hq : q = some ⟨b, 0, none⟩)
    (hown : W0.ownsRow We.heap.size 25 1 (.slice q len c) len ((fsL f w h).map fun s => E.v s)) (hsh : ∀ s, s ∈ fsL f w h → Sh W0 We.heap.size E f w h s) (hb : Below We.heap.size We W0) : CmpIs E (fun s => s ∈ fsL f w h) (kyN f w h) B W0 b := by
  intro V hV x y hx hy
  subst hq
  have hbb := (hown.lt b rfl).1
  have hbV : Below We.heap.size We V := hb.grown hV hb.size (fun j e => by cases e; exact hbb)
  have key : ∀ s, s ∈ fsL f w h → ∃ g l c, E.v s = .slice (some ⟨g, 0, none⟩) l c ∧ 0 < l ∧ V.cell? ⟨g, 0, none⟩ = some (.int .i64 s) := fun s hs => by
    obtain ⟨⟨g, e1⟩, e2, e3⟩ := (hsh s hs).grown hown hV
    obtain ⟨s1, s2⟩ := mem_fsL.1 hs
    have hp := shL_pos (f := f) s1
    refine ⟨g, E.l s, E.c s, by rw [El.v, e1], by omega, ?_⟩
    rw [El.v, e1] at e3
    have := (own_nr e3 e2).2 0 hp
    rw [show (shL f w h s).getD 0 0 = s from by simpa [fsB] using s2] at this
    exact this
  obtain ⟨g1, l1, c1, e1, p1, d1⟩ := key x hx
  obtain ⟨g2, l2, c2, e2, p2, d2⟩ := key y hy
  rw [e1, e2]
  exact cmp24_any (keepC hbV hB hbox) (k.keep hbV) x y g1 l1 c1 g2 l2 c2 (by rw [hN]; exact (mem_fsL.1 hx).1) (by rw [hN]; exact (mem_fsL.1 hy).1) d1 p1 d2 p2
end Go.Proofs.Ytbbilogkblmniaa
