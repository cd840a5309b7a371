/-
  Looms in their boxes; Open.
-/
import Derived.Test.YtndfecdhmncdaaaLmB
namespace Go.Proofs.Ytndfecdhmncdaaa
open Go.RowKit

/-- a loom in its box -/
def LB (W : World) (L w h : Nat) (p : Option Addr) (n cap D : Nat) (st : Int) (wv : Nat) (sp dd : Bool) : Prop :=
  (L < W.heap.size ∧ Tg W L 76) ∧ (W.cell? ⟨L, 0, none⟩ = some (.int .i64 w) ∧ W.cell? ⟨L, 1, none⟩ = some (.int .i64 h) ∧ W.cell? ⟨L, 2, none⟩ = some (.slice p n cap) ∧ W.cell? ⟨L, 3, none⟩ = some (.iface 46 (.pointer (some ⟨D, 0, none⟩))) ∧ W.cell? ⟨L, 4, none⟩ = some (.int .i64 st) ∧ W.cell? ⟨L, 5, none⟩ = some (.int .i64 wv) ∧ W.cell? ⟨L, 6, none⟩ = some (.bool sp) ∧ W.cell? ⟨L, 7, none⟩ = some (.bool dd)) ∧
  (W.frozen? ⟨L, 4, none⟩ = false ∧ W.frozen? ⟨L, 5, none⟩ = false ∧ W.frozen? ⟨L, 6, none⟩ = false ∧ W.frozen? ⟨L, 7, none⟩ = false)
theorem LB.kept {S : Nat → Prop} {W V : World} {L w h : Nat} {p : Option Addr} {n cap D : Nat} {st : Int} {wv : Nat} {sp dd : Bool} (k : LB W L w h p n cap D st wv sp dd) (e : Kept S W V) (hS : ¬ S L) : LB V L w h p n cap D st wv sp dd := by
  obtain ⟨⟨l, t⟩, ⟨a0, a1, a2, a3, a4, a5, a6, a7⟩, b4, b5, b6, b7⟩ := k
  exact ⟨⟨Nat.lt_of_lt_of_le l e.size, t.kept e l hS⟩, ⟨e.cell l hS a0, e.cell l hS a1, e.cell l hS a2, e.cell l hS a3, e.cell l hS a4, e.cell l hS a5, e.cell l hS a6, e.cell l hS a7⟩, e.froz l hS b4, e.froz l hS b5, e.froz l hS b6, e.froz l hS b7⟩
theorem LB.keep {W V : World} {L w h : Nat} {p : Option Addr} {n cap D : Nat} {st : Int} {wv : Nat} {sp dd : Bool} (k : LB W L w h p n cap D st wv sp dd) (e : Below W.heap.size W V) : LB V L w h p n cap D st wv sp dd := k.kept (Kept.of (S := fun _ => False) e) id
theorem LB.new (W : World) (w h : Nat) (p : Option Addr) (n cap D : Nat) (st : Int) (wv : Nat) (sp dd : Bool) :
    LB (W.alloc (.cells #[.int .i64 w, .int .i64 h, .slice p n cap, .iface 46 (.pointer (some ⟨D, 0, none⟩)), .int .i64 st, .int .i64 wv, .bool sp, .bool dd] 76)) W.heap.size w h p n cap D st wv sp dd :=
  ⟨⟨by simp, Tg.new _ _ _⟩, ⟨by simp [go_sem], by simp [go_sem], by simp [go_sem], by simp [go_sem], by simp [go_sem], by simp [go_sem], by simp [go_sem], by simp [go_sem]⟩, by simp [go_sem], by simp [go_sem], by simp [go_sem], by simp [go_sem]⟩
theorem cset {W : World} {b o j : Nat} {u v : Value} (h : W.cell? ⟨b, j, none⟩ = some v) (hj : j ≠ o) : (W.setCell ⟨b, o, none⟩ u).cell? ⟨b, j, none⟩ = some v := by
  rw [World.cell?_setCell_other _ _ _ _ (by intro e; cases e; exact hj rfl)]; exact h
theorem csame {W : World} {b o : Nat} {u v : Value} (h : W.cell? ⟨b, o, none⟩ = some v) : (W.setCell ⟨b, o, none⟩ u).cell? ⟨b, o, none⟩ = some u :=
  World.cell?_setCell_same' _ _ _ (by rw [h]; rfl)
theorem fset {W : World} {b o : Nat} {a : Addr} {u : Value} (h : W.frozen? ⟨b, o, none⟩ = false) : (W.setCell a u).frozen? ⟨b, o, none⟩ = false := by rw [World.frozen?_setCell]; exact h
theorem LB.state {W : World} {L w h : Nat} {p : Option Addr} {n cap D : Nat} {st : Int} {wv : Nat} {sp dd : Bool} (k : LB W L w h p n cap D st wv sp dd) (s2 : Int) : LB (W.setCell ⟨L, 4, none⟩ (.int .i64 s2)) L w h p n cap D s2 wv sp dd := by
  obtain ⟨⟨l, t⟩, ⟨a0, a1, a2, a3, a4, a5, a6, a7⟩, b4, b5, b6, b7⟩ := k
  exact ⟨⟨by simpa using l, t.set _ _⟩, ⟨cset a0 (by decide), cset a1 (by decide), cset a2 (by decide), cset a3 (by decide), csame a4, cset a5 (by decide), cset a6 (by decide), cset a7 (by decide)⟩, fset b4, fset b5, fset b6, fset b7⟩
theorem LB.woven {W : World} {L w h : Nat} {p : Option Addr} {n cap D : Nat} {st : Int} {wv : Nat} {sp dd : Bool} (k : LB W L w h p n cap D st wv sp dd) (s2 : Nat) : LB (W.setCell ⟨L, 5, none⟩ (.int .i64 (s2 : Nat))) L w h p n cap D st s2 sp dd := by
  obtain ⟨⟨l, t⟩, ⟨a0, a1, a2, a3, a4, a5, a6, a7⟩, b4, b5, b6, b7⟩ := k
  exact ⟨⟨by simpa using l, t.set _ _⟩, ⟨cset a0 (by decide), cset a1 (by decide), cset a2 (by decide), cset a3 (by decide), cset a4 (by decide), csame a5, cset a6 (by decide), cset a7 (by decide)⟩, fset b4, fset b5, fset b6, fset b7⟩
theorem LB.stop {W : World} {L w h : Nat} {p : Option Addr} {n cap D : Nat} {st : Int} {wv : Nat} {sp dd : Bool} (k : LB W L w h p n cap D st wv sp dd) (s2 : Bool) : LB (W.setCell ⟨L, 6, none⟩ (.bool s2)) L w h p n cap D st wv s2 dd := by
  obtain ⟨⟨l, t⟩, ⟨a0, a1, a2, a3, a4, a5, a6, a7⟩, b4, b5, b6, b7⟩ := k
  exact ⟨⟨by simpa using l, t.set _ _⟩, ⟨cset a0 (by decide), cset a1 (by decide), cset a2 (by decide), cset a3 (by decide), cset a4 (by decide), cset a5 (by decide), csame a6, cset a7 (by decide)⟩, fset b4, fset b5, fset b6, fset b7⟩
theorem LB.dead {W : World} {L w h : Nat} {p : Option Addr} {n cap D : Nat} {st : Int} {wv : Nat} {sp dd : Bool} (k : LB W L w h p n cap D st wv sp dd) (s2 : Bool) : LB (W.setCell ⟨L, 7, none⟩ (.bool s2)) L w h p n cap D st wv sp s2 := by
  obtain ⟨⟨l, t⟩, ⟨a0, a1, a2, a3, a4, a5, a6, a7⟩, b4, b5, b6, b7⟩ := k
  exact ⟨⟨by simpa using l, t.set _ _⟩, ⟨cset a0 (by decide), cset a1 (by decide), cset a2 (by decide), cset a3 (by decide), cset a4 (by decide), cset a5 (by decide), cset a6 (by decide), csame a7⟩, fset b4, fset b5, fset b6, fset b7⟩

theorem own_le {W : World} {B C : Nat} {e : TypeId} {z : Nat} {v : Value} {n : Nat} {xs : List Value} (h : W.ownsRow B e z v n xs) (hc : C ≤ B) : W.ownsRow C e z v n xs := by
  refine ⟨h.1, ?_⟩
  rcases h.2 with h0 | ⟨g, cap, cur, e1, e2, e3⟩
  · exact .inl h0
  · exact .inr ⟨g, cap, cur, e1, Nat.le_trans hc e2, e3⟩
theorem bdrew (w : World) : Below w.heap.size w w.drew := ⟨rfl, rfl, rfl, Nat.le_refl _, fun _ _ => rfl⟩
/-- truths in a box whose bits may be written -/
def OwnW (W : World) (b : Nat) (w h : Int) (p : Option Addr) (n cap : Nat) : Prop := OwnM W b w h p n cap ∧ W.frozen? ⟨b, 2, none⟩ = false
theorem OwnW.keep {W w1 : World} {b : Nat} {w h : Int} {p : Option Addr} {n cap : Nat} (k : OwnW W b w h p n cap) (hb : Below W.heap.size W w1) : OwnW w1 b w h p n cap := ⟨k.1.keep hb, keepF hb k.1.1 k.2⟩
theorem OwnW.new (W : World) (w h : Int) (p : Option Addr) (n cap : Nat) : OwnW (W.alloc (.cells #[.int .i64 w, .int .i64 h, .slice p n cap] 24)) W.heap.size w h p n cap := ⟨OwnM.new W w h p n cap 24, by simp [go_sem]⟩
theorem OwnW.set {W : World} {b : Nat} {w h : Int} {p : Option Addr} {n cap : Nat} (k : OwnW W b w h p n cap) (p' : Option Addr) (n' cap' : Nat) : OwnW (W.setCell ⟨b, 2, none⟩ (.slice p' n' cap')) b w h p' n' cap' := by
  obtain ⟨⟨k0, k1, k2, k3⟩, k4⟩ := k
  exact ⟨⟨by simpa using k0, cset k1 (by decide), cset k2 (by decide), csame k3⟩, fset k4⟩

theorem iface_nil (x : Value) (w : World) : (binOp .eql 71 (.iface 46 x) .nilIface).run Try.prog w = .ok (.bool false) w := by rfl

/-- what is wrong at Open -/
def opE (w h : Int) (n nw : Nat) : Int := if wE w h n ≠ 0 then wE w h n else if n = 0 then 5 else if nw < 2 then 4 else 0

set_option maxRecDepth 100000 in
set_option maxHeartbeats 1000000 in
theorem open_err {W : World} {D q nw cw : Nat} {lf : Int} (w h : Int) (p : Option Addr) (n cap : Nat) (k : DB W D q nw cw lf) (er : Int) (he : opE w h n nw = er) (h0 : er ≠ 0) :
    Calls Try.prog 12 #[tr w h p n cap, .iface 46 (.pointer (some ⟨D, 0, none⟩))] W fun e w' => e = .returned (.tuple #[.pointer none, .int .i64 er]) ∧ Below W.heap.size W w' := by
  have HWr := hide (fun V => wrong_any w h p n cap V)
  unfold WrongIs at HWr
  have HO := hide (OwnM.new W w h p n cap 24)
  have B0 := hide (bal (o := .cells #[.int .i64 w, .int .i64 h, .slice p n cap] 24) (Below.refl W.heap.size W))
  have HD := hide (k.keep (unhide B0))
  clear k
  unfold opE at he
  generalize wE w h n = x at *
  rcases Classical.em (x = 0) with h1 | h1
  · subst h1
    simp only [ne_eq, not_true_eq_false, if_false] at he
    rcases Classical.em (n = 0) with h2 | h2
    · rw [if_pos h2] at he
      subst he
      have h2' : ((n : Int) == 0) = true := by simp [h2]
      clear h2 h0 HD
      go_enter Try.func12, Try.ntmps12
      go_wp2_with fail
      generalize W.alloc (.cells #[.int .i64 w, .int .i64 h, .slice p n cap] 24) = w0 at *
      refine (unhide HWr _).mono ?_
      rintro e w1 ⟨rfl, hb1⟩
      obtain ⟨k1, k2, k3, k4⟩ := (unhide HO).keep hb1
      have S1 := hide (btrans (unhide B0) hb1)
      clear hb1
      go_wp2
      go_ret2
      exact ⟨rfl, unhide S1⟩
    · rw [if_neg h2] at he
      rcases Classical.em (nw < 2) with h3 | h3
      · rw [if_pos h3] at he
        subst he
        have h2' : ((n : Int) == 0) = false := by simpa using h2
        have h3' : (nw : Int) < 2 := by omega
        clear h2 h0 h3
        have m1 := meth_size
        have m2 := iface_nil
        go_enter Try.func12, Try.ntmps12
        go_wp2_with fail
        generalize W.alloc (.cells #[.int .i64 w, .int .i64 h, .slice p n cap] 24) = w0 at *
        refine (unhide HWr _).mono ?_
        rintro e w1 ⟨rfl, hb1⟩
        obtain ⟨k1, k2, k3, k4⟩ := (unhide HO).keep hb1
        have S1 := hide (btrans (unhide B0) hb1)
        have HZ := hide (size_any ((unhide HD).keep hb1))
        clear hb1
        go_wp2_with fail
        refine (unhide HZ).mono ?_
        rintro e w2 ⟨rfl, rfl⟩
        go_wp2
        go_ret2
        exact ⟨rfl, unhide S1⟩
      · rw [if_neg h3] at he
        exact absurd he.symm h0
  · rw [if_pos h1] at he
    subst he
    have h1' : (x != 0) = true := by simpa using h1
    clear h1 h0 HD
    go_enter Try.func12, Try.ntmps12
    go_wp2_with fail
    refine (unhide HWr _).mono ?_
    rintro e w1 ⟨rfl, hb1⟩
    have S1 := hide (btrans (unhide B0) hb1)
    clear hb1
    go_wp2
    go_ret2
    exact ⟨rfl, unhide S1⟩

/-- a loom that Open has given -/
def OpenOk (W : World) (D w h n : Nat) (f : Nat → Bool) (g : Nat → Int) (e : Ending) (w' : World) : Prop :=
  ∃ L q c, e = .returned (.tuple #[.pointer (some ⟨L, 0, none⟩), .int .i64 0]) ∧ LB w' L w h q n c D (fsS (g 1) (woN (g 0) h) h) (woN (g 0) h) false false ∧ w'.ownsRow W.heap.size 4 1 (.slice q n c) n (bitsV f n) ∧ W.heap.size ≤ L ∧ Below W.heap.size W w'

set_option maxRecDepth 100000 in
set_option maxHeartbeats 2000000 in
theorem open_ok {W : World} {D q nw cw : Nat} {lf : Int} {g : Nat → Int} {w h : Nat} {p : Option Addr} {n cap : Nat} {f : Nat → Bool} (k : DB W D q nw cw lf) (r : WR W q nw g) (hm : Rt W w h p n cap f) (h2 : 2 ≤ nw) (hn : 0 < n) :
    Calls Try.prog 12 #[tr w h p n cap, .iface 46 (.pointer (some ⟨D, 0, none⟩))] W fun e w' => OpenOk W D w h n f g e w' := by
  obtain ⟨hw, hh, hnn, hB⟩ := hm
  have hn6 : n ≤ 4096 := by rw [hnn]; exact Nat.mul_le_mul hw hh
  have HWr := hide (fun V => wrong_any w h p n cap V)
  unfold WrongIs at HWr
  have hz : wE w h n = 0 := by
    unfold wE
    rw [(sd_iff w).2 (by omega), (sd_iff h).2 (by omega)]
    simp [hnn]
  rw [hz] at HWr
  have HO := hide (OwnW.new W w h p n cap)
  have B0 := hide (bal (o := .cells #[.int .i64 w, .int .i64 h, .slice p n cap] 24) (Below.refl W.heap.size W))
  have HD := hide (k.keep (unhide B0))
  have HR := hide (r.keep (unhide B0))
  have hDb : D < W.heap.size := k.1
  have hqb : q < W.heap.size := r.1.1
  obtain ⟨pb, po, hp, -, -⟩ := bs_at hB hn
  subst hp
  have HB := hide (hB.keep (unhide B0))
  have hwo := woN_le (g 0) h
  have hwo2 : woN (g 0) h ≤ 64 := by omega
  have c1 : ((n : Int) == 0) = false := by simp; omega
  have c2 : ¬ ((nw : Int) < 2) := by omega
  have c3 : decide ((nw : Int) < 2) = false := by simpa using c2
  have m1 := meth_size
  have m2 := iface_nil
  unfold OpenOk
  have Hbn := hide (show W.heap.size < (W.alloc (.cells #[.int .i64 w, .int .i64 h, .slice (some ⟨pb, po, none⟩) n cap] 24)).heap.size by simp)
  clear k r hB hnn hz hwo
  generalize hb0 : W.heap.size = bx at *
  go_enter Try.func12, Try.ntmps12
  go_wp2_with fail
  clear hb0
  generalize W.alloc (.cells #[.int .i64 w, .int .i64 h, .slice (some ⟨pb, po, none⟩) n cap] 24) = w0 at *
  refine (unhide HWr _).mono ?_
  rintro e w1 ⟨rfl, hb1⟩
  have HO1 := hide ((unhide HO).keep hb1)
  have HD1 := hide ((unhide HD).keep hb1)
  have HR1 := hide ((unhide HR).keep hb1)
  have HB1 := hide ((unhide HB).keep hb1)
  have S1 := hide ((unhide B0).trans (hb1.mono (Nat.le_of_lt (unhide Hbn))))
  have HZ := hide (size_any (unhide HD1))
  have HC := hide (clone_any (unhide HB1) hn6)
  have hbx1 : bx < w1.heap.size := Nat.lt_of_lt_of_le (unhide Hbn) hb1.size
  obtain ⟨⟨k1, k2, k3, k4⟩, k5⟩ := unhide HO1
  clear hb1 HO HD HR HB B0 HWr Hbn
  go_wp2_with fail
  refine (unhide HZ).mono ?_
  rintro e w2 ⟨rfl, rfl⟩
  go_wp2_with fail
  refine (unhide HC).mono ?_
  rintro e w3 ⟨q3, c3', rfl, hO3, hb3⟩
  have HO3 := hide ((unhide HO1).keep hb3)
  have HD3 := hide ((unhide HD1).keep hb3)
  have HR3 := hide ((unhide HR1).keep hb3)
  have HX3 := hide hO3
  have S3 := hide ((unhide S1).trans (hb3.mono (Nat.le_of_lt hbx1)))
  clear hb3 hO3 HO1 HD1 HR1 HB1 S1 HZ HC k1 k2 k3 k4 k5
  have HO4 := hide ((unhide HO3).set q3 n c3')
  have HD4 := hide ((unhide HD3).far (Nat.ne_of_lt hDb) 2 (.slice q3 n c3'))
  have HR4 := hide ((unhide HR3).far (Nat.ne_of_lt hqb) 2 (.slice q3 n c3'))
  have HX4 := hide (ownsRow_setCell_below (unhide HX3) (a := ⟨bx, 2, none⟩) hbx1 (.slice q3 n c3'))
  have S4 := hide ((unhide S3).setCell (p := ⟨bx, 2, none⟩) (Nat.le_refl _) (.slice q3 n c3'))
  obtain ⟨⟨k1, k2, k3, k4⟩, k5⟩ := unhide HO3
  clear HO3 HD3 HR3 HX3 S3
  go_upto_region 9 with fail
  generalize w3.setCell ⟨bx, 2, none⟩ (.slice q3 n c3') = w4 at *
  clear k1 k2 k3 k4 k5
  have HW4 := hide (wovenOn_any (unhide HD4) (unhide HR4) h2 h)
  have HF4 := hide (fun V (hV : Below w4.heap.size w4 V) => first_any ((unhide HD4).keep hV) ((unhide HR4).keep hV) h2 (woN (g 0) h) h hwo2)
  obtain ⟨⟨k1, k2, k3, k4⟩, k5⟩ := unhide HO4
  obtain ⟨wv, hwv⟩ : ∃ x, x = woN (g 0) h := ⟨_, rfl⟩
  obtain ⟨st, hst⟩ : ∃ x, x = fsS (g 1) (woN (g 0) h) h := ⟨_, rfl⟩
  rw [← hst] at HF4
  rw [← hwv] at HW4 HF4
  have Hwv := hide hwv
  have Hst := hide hst
  clear hwv hst
  go_wp2_with fail
  refine (unhide HW4).mono ?_
  rintro e w5 ⟨rfl, hw5⟩
  subst hw5
  go_wp2_with fail
  go_region_with (go_at_call 28; refine (unhide HF4 _ (bdrew _)).mono ?_; rintro e w6 ⟨rfl, rfl⟩)
  all_goals go_wp2
  all_goals go_ret2
  all_goals exact ⟨_, q3, c3', rfl, by
      rw [← unhide Hst, ← unhide Hwv]
      exact (LB.new _ w h q3 n c3' D st wv false false).keep (bdrew _),
    own_keep (own_keep (own_le (unhide HX4) (Nat.le_of_lt hbx1)) (bal (Below.refl _ _))) (bdrew _),
    Nat.le_of_lt (unhide HO4).1.1,
    ((unhide S4).alloc (Nat.le_of_lt (unhide HO4).1.1) _).trans ((bdrew _).mono (by have := (unhide HO4).1.1; simp; omega))⟩
end Go.Proofs.Ytndfecdhmncdaaa
