/-
  Looms: Do.
-/
import Derived.Test.YtndfecdhmncdaaaLmE
namespace Go.Proofs.Ytndfecdhmncdaaa
open Go.RowKit

/-- a scope in which the run jumps ahead once, to a label behind which there is no other jump -/
theorem scope_ahead {P : Program} {a : Act} {w : World} {Q : Exit → Act → World → Prop} {c rest : Code} (l : Nat) (hf : findLabel c l = some rest)
    (first : c.wp P (Exit.jump l (fun a' w' => rest.wp P (Exit.noGoto Q) a' w') Q) a w) : (Code.scope c).wp P Q a w :=
  wp_scope_jumps l _ (fun _ _ => 0) hf first (fun _ _ h => wp_mono h (fun e _ _ q => by
    cases e with
    | goto => exact q.elim
    | _ => exact q))
/-- what Do leaves: its answers, the loom, the disk -/
def DoPost (W : World) (L w h : Nat) (p : Option Addr) (n cap D q nw cw : Nat) (st : Int) (wv : Nat) (sp dd : Bool) (g : Nat → Int) (lf ds er : Int) (e : Ending) (w' : World) : Prop :=
  e = .returned (.tuple #[.int .i64 ds, .int .i64 er]) ∧ LB w' L w h p n cap D st wv sp dd ∧ DB w' D q nw cw lf ∧ WR w' q nw g ∧ Kept (fun i => i = L ∨ i = D ∨ i = q) W w'

set_option maxRecDepth 100000 in
set_option maxHeartbeats 2000000 in
theorem do_kind {W : World} {L w h : Nat} {p : Option Addr} {n cap D q nw cw : Nat} {st : Int} {wv : Nat} {sp dd : Bool} {g : Nat → Int} {lf : Int} (ev : Int) (k : LB W L w h p n cap D st wv sp dd) (kd : DB W D q nw cw lf) (kr : WR W q nw g) (he : evB ev = false) :
    Calls Try.prog 13 #[.pointer (some ⟨L, 0, none⟩), .int .i64 ev] W fun e w' => DoPost W L w h p n cap D q nw cw st wv sp dd g lf 0 1 e w' := by
  have K := hide k
  have HE := hide (fun V => event_any ev V)
  rw [he] at HE
  unfold DoPost
  obtain ⟨-, ⟨a0, a1, a2, a3, a4, a5, a6, a7⟩, b4, b5, b6, b7⟩ := k
  go_enter Try.func13, Try.ntmps13
  go_wp2_with fail
  go_step3
  go_wp2_with fail
  refine (unhide HE _).mono ?_
  rintro e w1 ⟨rfl, rfl⟩
  go_wp2
  try rw [Exit.noGoto_ret]
  go_ret2
  exact ⟨rfl, unhide K, kd, kr, Kept.refl _ _⟩

set_option maxRecDepth 100000 in
set_option maxHeartbeats 2000000 in
theorem do_state {W : World} {L w h : Nat} {p : Option Addr} {n cap D q nw cw : Nat} {st : Int} {wv : Nat} {sp dd : Bool} {g : Nat → Int} {lf : Int} (ev : Int) (k : LB W L w h p n cap D st wv sp dd) (kd : DB W D q nw cw lf) (kr : WR W q nw g) (he : evB ev = true) (hd : (dd || !may ev st) = true) :
    Calls Try.prog 13 #[.pointer (some ⟨L, 0, none⟩), .int .i64 ev] W fun e w' => DoPost W L w h p n cap D q nw cw st wv sp dd g lf 0 9 e w' := by
  have K := hide k
  have HE := hide (fun V => event_any ev V)
  rw [he] at HE
  have HM := hide (fun V => may_any ev st V)
  unfold DoPost
  obtain ⟨-, ⟨a0, a1, a2, a3, a4, a5, a6, a7⟩, b4, b5, b6, b7⟩ := k
  cases dd with
  | true =>
    go_enter Try.func13, Try.ntmps13
    go_wp2_with fail
    refine scope_ahead 0 rfl ?_
    · go_wp2_with fail
      refine (unhide HE _).mono ?_
      rintro e w1 ⟨rfl, rfl⟩
      go_wp2
      go_step3
      refine ⟨rfl, ?_⟩
      go_wp2
      try rw [Exit.noGoto_ret]
      go_ret2
      exact ⟨rfl, unhide K, kd, kr, Kept.refl _ _⟩
  | false =>
    have hm : may ev st = false := by simpa using hd
    rw [hm] at HM
    clear hd hm
    go_enter Try.func13, Try.ntmps13
    go_wp2_with fail
    refine scope_ahead 0 rfl ?_
    · go_wp2_with fail
      refine (unhide HE _).mono ?_
      rintro e w1 ⟨rfl, rfl⟩
      go_wp2_with fail
      refine (unhide HM _).mono ?_
      rintro e w2 ⟨rfl, rfl⟩
      go_wp2
      go_step3
      refine ⟨rfl, ?_⟩
      go_wp2
      try rw [Exit.noGoto_ret]
      go_ret2
      exact ⟨rfl, unhide K, kd, kr, Kept.refl _ _⟩
end Go.Proofs.Ytndfecdhmncdaaa
