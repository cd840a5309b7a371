/-
  The document's own loom: what is wrong, where it begins, which bit.
-/
import Derived.Test.YtndfecdhmncdaaaPlB
import Derived.Laws.EntriesVeiled
namespace Go.Proofs.Ytndfecdhmncdaaa
open Go.RowKit

/-- where the document's loom is, in its box -/
def ZB (W : World) (bx : Nat) (wv : Int) (st : Int) (sp : Bool) (dd : Bool) : Prop :=
  (bx < W.heap.size ∧ Tg W bx 61) ∧ (W.cell? ⟨bx, 0, none⟩ = some (.int .i64 wv) ∧ W.cell? ⟨bx, 1, none⟩ = some (.int .i64 st) ∧ W.cell? ⟨bx, 2, none⟩ = some (.bool sp) ∧ W.cell? ⟨bx, 3, none⟩ = some (.bool dd)) ∧
  (W.frozen? ⟨bx, 0, none⟩ = false ∧ W.frozen? ⟨bx, 1, none⟩ = false ∧ W.frozen? ⟨bx, 2, none⟩ = false ∧ W.frozen? ⟨bx, 3, none⟩ = false)
theorem ZB.kept {Z : Nat → Prop} {W V : World} {bx : Nat} {wv : Int} {st : Int} {sp : Bool} {dd : Bool} (k : ZB W bx wv st sp dd) (e : Kept Z W V) (hS : ¬ Z bx) : ZB V bx wv st sp dd := by
  obtain ⟨⟨l, t⟩, ⟨a0, a1, a2, a3⟩, b0, b1, b2, b3⟩ := k
  exact ⟨⟨Nat.lt_of_lt_of_le l e.size, t.kept e l hS⟩, ⟨e.cell l hS a0, e.cell l hS a1, e.cell l hS a2, e.cell l hS a3⟩, e.froz l hS b0, e.froz l hS b1, e.froz l hS b2, e.froz l hS b3⟩
theorem ZB.keep {W V : World} {bx : Nat} {wv : Int} {st : Int} {sp : Bool} {dd : Bool} (k : ZB W bx wv st sp dd) (e : Below W.heap.size W V) : ZB V bx wv st sp dd := k.kept (Kept.of (S := fun _ => False) e) id
theorem ZB.far {W : World} {bx : Nat} {wv : Int} {st : Int} {sp : Bool} {dd : Bool} (k : ZB W bx wv st sp dd) {b : Nat} (h1 : bx ≠ b) (o : Nat) (v : Value) : ZB (W.setCell ⟨b, o, none⟩ v) bx wv st sp dd := k.kept (kset W b o v) h1
theorem ZB.new (W : World) (wv : Int) (st : Int) (sp : Bool) (dd : Bool) : ZB (W.alloc (.cells #[.int .i64 wv, .int .i64 st, .bool sp, .bool dd] 61)) W.heap.size wv st sp dd :=
  ⟨⟨by simp, Tg.new _ _ _⟩, ⟨by simp [go_sem], by simp [go_sem], by simp [go_sem], by simp [go_sem]⟩, by simp [go_sem], by simp [go_sem], by simp [go_sem], by simp [go_sem]⟩
theorem ZB.woven {W : World} {bx : Nat} {wv : Int} {st : Int} {sp : Bool} {dd : Bool} (k : ZB W bx wv st sp dd) (x : Int) : ZB (W.setCell ⟨bx, 0, none⟩ (.int .i64 x)) bx x st sp dd := by
  obtain ⟨⟨l, t⟩, ⟨a0, a1, a2, a3⟩, b0, b1, b2, b3⟩ := k
  exact ⟨⟨by simpa using l, t.set _ _⟩, ⟨csame a0, cset a1 (by decide), cset a2 (by decide), cset a3 (by decide)⟩, fset b0, fset b1, fset b2, fset b3⟩
theorem ZB.state {W : World} {bx : Nat} {wv : Int} {st : Int} {sp : Bool} {dd : Bool} (k : ZB W bx wv st sp dd) (x : Int) : ZB (W.setCell ⟨bx, 1, none⟩ (.int .i64 x)) bx wv x sp dd := by
  obtain ⟨⟨l, t⟩, ⟨a0, a1, a2, a3⟩, b0, b1, b2, b3⟩ := k
  exact ⟨⟨by simpa using l, t.set _ _⟩, ⟨cset a0 (by decide), csame a1, cset a2 (by decide), cset a3 (by decide)⟩, fset b0, fset b1, fset b2, fset b3⟩
theorem ZB.stop {W : World} {bx : Nat} {wv : Int} {st : Int} {sp : Bool} {dd : Bool} (k : ZB W bx wv st sp dd) (x : Bool) : ZB (W.setCell ⟨bx, 2, none⟩ (.bool x)) bx wv st x dd := by
  obtain ⟨⟨l, t⟩, ⟨a0, a1, a2, a3⟩, b0, b1, b2, b3⟩ := k
  exact ⟨⟨by simpa using l, t.set _ _⟩, ⟨cset a0 (by decide), cset a1 (by decide), csame a2, cset a3 (by decide)⟩, fset b0, fset b1, fset b2, fset b3⟩
theorem ZB.dead {W : World} {bx : Nat} {wv : Int} {st : Int} {sp : Bool} {dd : Bool} (k : ZB W bx wv st sp dd) (x : Bool) : ZB (W.setCell ⟨bx, 3, none⟩ (.bool x)) bx wv st sp x := by
  obtain ⟨⟨l, t⟩, ⟨a0, a1, a2, a3⟩, b0, b1, b2, b3⟩ := k
  exact ⟨⟨by simpa using l, t.set _ _⟩, ⟨cset a0 (by decide), cset a1 (by decide), cset a2 (by decide), csame a3⟩, fset b0, fset b1, fset b2, fset b3⟩
theorem ZB.put {W : World} {b : Nat} {wv st : Int} {sp dd : Bool} (k : ZB W b wv st sp dd) (a c : Int) (e f : Bool) : ∃ x, (((W.setCell ⟨b, 0, none⟩ (.int .i64 a)).setCell ⟨b, 1, none⟩ (.int .i64 c)).setCell ⟨b, 2, none⟩ (.bool e)).setCell ⟨b, 3, none⟩ (.bool f) = x ∧ ZB x b a c e f ∧ Kept (fun i => i = b) W x :=
  ⟨_, rfl, (((k.woven a).state c).stop e).dead f, ((((Kept.refl (fun i => i = b) W).set (b := b) 0 (.int .i64 a) (.inl rfl)).set (b := b) 1 (.int .i64 c) (.inl rfl)).set (b := b) 2 (.bool e) (.inl rfl)).set (b := b) 3 (.bool f) (.inl rfl)⟩

set_option maxRecDepth 100000 in
set_option maxHeartbeats 2000000 in
theorem rwrong_of {W : World} (w h : Int) (p : Option Addr) (n cap nw : Nat) : Calls Try.prog 17 #[tr w h p n cap, .int .i64 nw] W fun e w' => e = .returned (.int .i64 (opE w h n nw)) ∧ Below W.heap.size W w' := by
  have HWr := hide (fun V => rwrong_any w h p n cap V)
  unfold WrongIs at HWr
  have HO := hide (OwnM.new W w h p n cap 24)
  have B0 := hide (bal (o := .cells #[.int .i64 w, .int .i64 h, .slice p n cap] 24) (Below.refl W.heap.size W))
  unfold opE
  generalize wE w h n = x at *
  rcases Classical.em (x = 0) with h1 | h1
  · subst h1
    simp only [ne_eq, not_true_eq_false, if_false]
    rcases Classical.em (n = 0) with h2 | h2
    · have Hv := hide (show (if n = 0 then (5 : Int) else if nw < 2 then 4 else 0) = 5 from if_pos h2)
      rw [unhide Hv]
      have h2' : ((n : Int) == 0) = true := by simp [h2]
      clear h2
      go_enter Try.func17, Try.ntmps17
      go_wp2_with fail
      generalize W.alloc (.cells #[.int .i64 w, .int .i64 h, .slice p n cap] 24) = w0 at *
      refine (unhide HWr _).mono ?_
      rintro e w1 ⟨rfl, hb1⟩
      obtain ⟨-, k2, k3, k4⟩ := (unhide HO).keep hb1
      have S1 := hide (btrans (unhide B0) hb1)
      clear hb1
      go_wp2
      go_ret
      exact ⟨rfl, unhide S1⟩
    · have h2' : ((n : Int) == 0) = false := by simpa using h2
      rcases Classical.em (nw < 2) with h3 | h3
      · have Hv := hide (show (if n = 0 then (5 : Int) else if nw < 2 then 4 else 0) = 4 by rw [if_neg h2, if_pos h3])
        rw [unhide Hv]
        have h3' : (nw : Int) < 2 := by omega
        clear h2 h3
        go_enter Try.func17, Try.ntmps17
        go_wp2_with fail
        generalize W.alloc (.cells #[.int .i64 w, .int .i64 h, .slice p n cap] 24) = w0 at *
        refine (unhide HWr _).mono ?_
        rintro e w1 ⟨rfl, hb1⟩
        obtain ⟨-, k2, k3, k4⟩ := (unhide HO).keep hb1
        have S1 := hide (btrans (unhide B0) hb1)
        clear hb1
        go_wp2
        go_ret
        exact ⟨rfl, unhide S1⟩
      · have Hv := hide (show (if n = 0 then (5 : Int) else if nw < 2 then 4 else 0) = 0 by rw [if_neg h2, if_neg h3])
        rw [unhide Hv]
        have h3' : ¬ ((nw : Int) < 2) := by omega
        clear h2 h3
        go_enter Try.func17, Try.ntmps17
        go_wp2_with fail
        generalize W.alloc (.cells #[.int .i64 w, .int .i64 h, .slice p n cap] 24) = w0 at *
        refine (unhide HWr _).mono ?_
        rintro e w1 ⟨rfl, hb1⟩
        obtain ⟨-, k2, k3, k4⟩ := (unhide HO).keep hb1
        have S1 := hide (btrans (unhide B0) hb1)
        clear hb1
        go_wp2
        go_ret
        exact ⟨rfl, unhide S1⟩
  · rw [if_pos h1]
    have h1' : (x != 0) = true := by simpa using h1
    clear h1
    go_enter Try.func17, Try.ntmps17
    go_wp2_with fail
    refine (unhide HWr _).mono ?_
    rintro e w1 ⟨rfl, hb1⟩
    have S1 := hide (btrans (unhide B0) hb1)
    clear hb1
    go_wp2
    go_ret
    exact ⟨rfl, unhide S1⟩

set_option maxRecDepth 100000 in
set_option maxHeartbeats 1000000 in
theorem bit_any {W : World} {w h y x : Nat} {p : Option Addr} {n cap : Nat} {f : Nat → Bool} (hm : Rt W w h p n cap f) (hy : y < h) (hx : x < w) : Calls Try.prog 21 #[tr w h p n cap, .int .i64 y, .int .i64 x] W fun e w' => e = .returned (.bool (f (y * w + x))) ∧ Below W.heap.size W w' := by
  obtain ⟨hw6, hh6, hnn, hBs⟩ := hm
  have hl : y * w + x < n := by
    have := Nat.mul_le_mul_right w (show y + 1 ≤ h by omega)
    rw [mul_step, Nat.mul_comm h w] at this
    omega
  have hl4 : y * w ≤ 4096 := Nat.mul_le_mul (show y ≤ 64 by omega) hw6
  obtain ⟨b, o, rfl, hb, hc⟩ := bs_at (hBs.keep (bal (o := .cells #[.int .i64 w, .int .i64 h, .slice p n cap] 24) (Below.refl W.heap.size W))) hl
  generalize f (y * w + x) = v at *
  obtain ⟨l, hl'⟩ : ∃ l, l = y * w := ⟨_, rfl⟩
  have He1 := hide (show wrap64 ((y : Int) * (w : Int)) = (l : Int) by
    rw [hl', ← Int.natCast_mul]
    exact Go.IntWalk.wrap64_in _ (by omega))
  rw [← hl'] at hl hl4 hc
  obtain ⟨j, hj⟩ : ∃ j, j = l + x := ⟨_, rfl⟩
  rw [← hj] at hl hc
  have e2 : (l : Int) + (x : Int) = (j : Int) := by omega
  have q1 : (0 : Int) ≤ (j : Int) := by omega
  have q2 : (j : Int) < (n : Int) := by omega
  have q3 : (j : Int) ≤ 4160 := by omega
  have B0 := hide (bal (o := .cells #[.int .i64 w, .int .i64 h, .slice (some ⟨b, o, none⟩) n cap] 24) (Below.refl W.heap.size W))
  clear hBs hnn hl' hj hy hh6
  have e1 := unhide He1
  go_enter Try.func21, Try.ntmps21
  go_wp2
  go_ret
  exact ⟨rfl, unhide B0⟩

end Go.Proofs.Ytndfecdhmncdaaa
