/-
  The workshop: what changes one of its cells; next.
-/
import Derived.Test.YtndfecdhmncdaaaWkC
namespace Go.Proofs.Ytndfecdhmncdaaa
open Go.RowKit

theorem RL.kept4 {B : Nat} {Z : Nat → Prop} {W V : World} {f : Nat → Bool} {w : Nat} {rs : List (Option Nat)} {xs : List Value} (h : RL B W f w rs xs) (k : Kept Z W V) (hZ : ∀ i, Z i → ¬ Tg W i 4) : RL B V f w rs xs :=
  ⟨h.1, fun j o hj => by obtain ⟨v, hv, ho⟩ := h.2 j o hj; exact ⟨v, hv, own_kept ho k hZ⟩⟩
theorem WF.keep {B : Nat} {W V : World} {S L D q w h n : Nat} {f : Nat → Bool} {p : Option Addr} {cap : Nat} {x : WSt} (k : WF B W S L D q w h n f p cap x) (e : Below W.heap.size W V) : WF B V S L D q w h n f p cap x := by
  obtain ⟨rq, rn, rc, tq, tn, tc, xs, k, m, r1, r2, r3, r4, r5⟩ := k
  exact ⟨rq, rn, rc, tq, tn, tc, xs, k.keep e, m.keep e, own_keep r1 e, r2, own_keep r3 e, r4.kept4 (Kept.of (S := fun _ => False) e) (fun _ q => q.elim), own_keep r5 e⟩
theorem WF.loomB {B : Nat} {W : World} {S L D q w h n : Nat} {f : Nat → Bool} {p : Option Addr} {cap : Nat} {s : LS} {td : Int} {up th : Bool} {ro : Option Nat} {rs : List (Option Nat)} {bad : Bool} (k : WF B W S L D q w h n f p cap (s, td, up, th, ro, rs, bad)) : ∃ sp dd, LB W L w h p n cap D s.1 s.2.1 sp dd ∧ Bs W p n cap f := by
  obtain ⟨rq, rn, rc, tq, tn, tc, xs, k, m, r1, r2, r3, r4, r5⟩ := k
  exact ⟨_, _, m.1, own_bs r5⟩
theorem WF.cells {B : Nat} {W : World} {S L D q w h n : Nat} {f : Nat → Bool} {p : Option Addr} {cap : Nat} {s : LS} {td : Int} {up th : Bool} {ro : Option Nat} {rs : List (Option Nat)} {bad : Bool} (k : WF B W S L D q w h n f p cap (s, td, up, th, ro, rs, bad)) : ∃ rq rn rc tq tn tc, tn = rs.length ∧ SB W S L td up th rq rn rc tq tn tc bad := by
  obtain ⟨rq, rn, rc, tq, tn, tc, xs, k, m, r1, r2, r3, r4, r5⟩ := k
  exact ⟨_, _, _, _, _, _, r2, k⟩
theorem WF.lt {B : Nat} {W : World} {S L D q w h n : Nat} {f : Nat → Bool} {p : Option Addr} {cap : Nat} {s : LS} {td : Int} {up th : Bool} {ro : Option Nat} {rs : List (Option Nat)} {bad : Bool} (k : WF B W S L D q w h n f p cap (s, td, up, th, ro, rs, bad)) : S < W.heap.size ∧ Tg W S 68 := by
  obtain ⟨rq, rn, rc, tq, tn, tc, xs, k, m, r1, r2, r3, r4, r5⟩ := k
  exact k.1
theorem WF.todo {B : Nat} {W : World} {S L D q w h n : Nat} {f : Nat → Bool} {p : Option Addr} {cap : Nat} {s : LS} {td : Int} {up th : Bool} {ro : Option Nat} {rs : List (Option Nat)} {bad : Bool} (k : WF B W S L D q w h n f p cap (s, td, up, th, ro, rs, bad)) (a : At4 B S L D q) (b : Int) : WF B (W.setCell ⟨S, 1, none⟩ (.int .i64 b)) S L D q w h n f p cap (s, b, up, th, ro, rs, bad) ∧ KB B W (W.setCell ⟨S, 1, none⟩ (.int .i64 b)) := by
  obtain ⟨rq, rn, rc, tq, tn, tc, xs, k, m, r1, r2, r3, r4, r5⟩ := k
  dsimp only at k m r1 r2 r3 r4
  have e : Kept (fun i => i = S ∨ i = L ∨ i = D ∨ i = q) W (W.setCell ⟨S, 1, none⟩ (.int .i64 b)) := (kset W S 1 _).more (fun i hi => .inl (.inl hi))
  obtain ⟨t1, t3, t4, t5⟩ := wf_rest k m a e r1 r3 r4 r5
  have c := k.apart m
  exact ⟨⟨rq, rn, rc, tq, tn, tc, xs, k.todo b, m.far c.1 c.2.1 c.2.2 _ _, t1, r2, t3, t4, t5⟩, four_kb k m a e⟩
theorem WF.up {B : Nat} {W : World} {S L D q w h n : Nat} {f : Nat → Bool} {p : Option Addr} {cap : Nat} {s : LS} {td : Int} {up th : Bool} {ro : Option Nat} {rs : List (Option Nat)} {bad : Bool} (k : WF B W S L D q w h n f p cap (s, td, up, th, ro, rs, bad)) (a : At4 B S L D q) (b : Bool) : WF B (W.setCell ⟨S, 2, none⟩ (.bool b)) S L D q w h n f p cap (s, td, b, th, ro, rs, bad) ∧ KB B W (W.setCell ⟨S, 2, none⟩ (.bool b)) := by
  obtain ⟨rq, rn, rc, tq, tn, tc, xs, k, m, r1, r2, r3, r4, r5⟩ := k
  dsimp only at k m r1 r2 r3 r4
  have e : Kept (fun i => i = S ∨ i = L ∨ i = D ∨ i = q) W (W.setCell ⟨S, 2, none⟩ (.bool b)) := (kset W S 2 _).more (fun i hi => .inl (.inl hi))
  obtain ⟨t1, t3, t4, t5⟩ := wf_rest k m a e r1 r3 r4 r5
  have c := k.apart m
  exact ⟨⟨rq, rn, rc, tq, tn, tc, xs, k.up b, m.far c.1 c.2.1 c.2.2 _ _, t1, r2, t3, t4, t5⟩, four_kb k m a e⟩
theorem WF.thr {B : Nat} {W : World} {S L D q w h n : Nat} {f : Nat → Bool} {p : Option Addr} {cap : Nat} {s : LS} {td : Int} {up th : Bool} {ro : Option Nat} {rs : List (Option Nat)} {bad : Bool} (k : WF B W S L D q w h n f p cap (s, td, up, th, ro, rs, bad)) (a : At4 B S L D q) (b : Bool) : WF B (W.setCell ⟨S, 3, none⟩ (.bool b)) S L D q w h n f p cap (s, td, up, b, ro, rs, bad) ∧ KB B W (W.setCell ⟨S, 3, none⟩ (.bool b)) := by
  obtain ⟨rq, rn, rc, tq, tn, tc, xs, k, m, r1, r2, r3, r4, r5⟩ := k
  dsimp only at k m r1 r2 r3 r4
  have e : Kept (fun i => i = S ∨ i = L ∨ i = D ∨ i = q) W (W.setCell ⟨S, 3, none⟩ (.bool b)) := (kset W S 3 _).more (fun i hi => .inl (.inl hi))
  obtain ⟨t1, t3, t4, t5⟩ := wf_rest k m a e r1 r3 r4 r5
  have c := k.apart m
  exact ⟨⟨rq, rn, rc, tq, tn, tc, xs, k.thr b, m.far c.1 c.2.1 c.2.2 _ _, t1, r2, t3, t4, t5⟩, four_kb k m a e⟩
theorem WF.row {B : Nat} {W : World} {S L D q w h n : Nat} {f : Nat → Bool} {p : Option Addr} {cap : Nat} {s : LS} {td : Int} {up th : Bool} {ro : Option Nat} {rs : List (Option Nat)} {bad : Bool} (k : WF B W S L D q w h n f p cap (s, td, up, th, ro, rs, bad)) (a : At4 B S L D q) (y : Nat) (q2 : Option Addr) (c2 : Nat) (ho : W.ownsRow B 4 1 (.slice q2 w c2) w (bitsV (fun x => f (y * w + x)) w)) : WF B (W.setCell ⟨S, 4, none⟩ (.slice q2 w c2)) S L D q w h n f p cap (s, td, up, th, some y, rs, bad) ∧ KB B W (W.setCell ⟨S, 4, none⟩ (.slice q2 w c2)) := by
  obtain ⟨rq, rn, rc, tq, tn, tc, xs, k, m, r1, r2, r3, r4, r5⟩ := k
  dsimp only at k m r1 r2 r3 r4
  have e : Kept (fun i => i = S ∨ i = L ∨ i = D ∨ i = q) W (W.setCell ⟨S, 4, none⟩ (.slice q2 w c2)) := (kset W S 4 _).more (fun i hi => .inl (.inl hi))
  obtain ⟨t1, t3, t4, t5⟩ := wf_rest k m a e r1 r3 r4 r5
  have c := k.apart m
  have kb := four_kb k m a e
  exact ⟨⟨q2, w, c2, tq, tn, tc, xs, k.row q2 w c2, m.far c.1 c.2.1 c.2.2 _ _, kb.own4 ho, r2, t3, t4, t5⟩, kb⟩
theorem WF.power {B : Nat} {W : World} {S L D q w h n : Nat} {f : Nat → Bool} {p : Option Addr} {cap : Nat} {st : Int} {wv : Nat} {sp dd : Bool} {g : Nat → Int} {lf : Int} {td : Int} {up th : Bool} {ro : Option Nat} {rs : List (Option Nat)} {bad : Bool} (k : WF B W S L D q w h n f p cap ((st, wv, sp, dd, g, lf), td, up, th, ro, rs, bad)) (a : At4 B S L D q) (b : Int) : WF B (W.setCell ⟨D, 1, none⟩ (.int .i64 b)) S L D q w h n f p cap ((st, wv, sp, dd, g, b), td, up, th, ro, rs, bad) ∧ KB B W (W.setCell ⟨D, 1, none⟩ (.int .i64 b)) := by
  obtain ⟨rq, rn, rc, tq, tn, tc, xs, k, m, r1, r2, r3, r4, r5⟩ := k
  dsimp only at k m r1 r2 r3 r4
  have e : Kept (fun i => i = S ∨ i = L ∨ i = D ∨ i = q) W (W.setCell ⟨D, 1, none⟩ (.int .i64 b)) := (kset W D 1 _).more (fun i hi => .inl (.inr (.inr (.inl hi))))
  obtain ⟨t1, t3, t4, t5⟩ := wf_rest k m a e r1 r3 r4 r5
  have c := k.apart m
  have c1 : L ≠ D := m.1.1.2.ne m.2.1.2.2.2.2.2 (by decide)
  have c2 : q ≠ D := m.2.2.1.2.ne m.2.1.2.2.2.2.2 (by decide)
  exact ⟨⟨rq, rn, rc, tq, tn, tc, xs, k.far (Ne.symm c.2.1) _ _, ⟨m.1.kept (kset W D 1 _) c1, m.2.1.put b, m.2.2.far c2 _ _⟩, t1, r2, t3, t4, t5⟩, four_kb k m a e⟩

def BeatIs (B : Nat) (W : World) (S L D q w h n : Nat) (f : Nat → Bool) (p : Option Addr) (cap : Nat) (x : WSt) : Prop :=
  Calls Try.prog 22 #[.pointer (some ⟨S, 0, none⟩)] W fun e w' => e = .returned (.tuple #[]) ∧ WF B w' S L D q w h n f p cap x ∧ KB B W w'
theorem beat_wf {B : Nat} {W : World} {S L D q w h n : Nat} {f : Nat → Bool} {p : Option Addr} {cap : Nat} {s : LS} {td : Int} {up th : Bool} {ro : Option Nat} {rs : List (Option Nat)} {bad : Bool} (k : WF B W S L D q w h n f p cap (s, td, up, th, ro, rs, bad)) (a : At4 B S L D q) (hB : B ≤ W.heap.size) (hr : rs.length ≤ 65) : BeatIs B W S L D q w h n f p cap (s, td, up, th, ro, rs ++ [ro], bad) := by
  obtain ⟨rq, rn, rc, tq, tn, tc, xs, k, m, r1, r2, r3, r4, r5⟩ := k
  dsimp only at k m r1 r2 r3 r4
  refine (beat_any k hB r3 (by omega)).mono ?_
  rintro e w' ⟨e1, tq', tc', b1, b2, b3⟩
  have nl : ¬ bk S B W L := by rintro (c | c); exact (k.apart m).1 c; exact tg_not m.1.1.2 (by decide) c.2
  have nd : ¬ bk S B W D := by rintro (c | c); exact (k.apart m).2.1 c; exact tg_not m.2.1.2.2.2.2.2 (by decide) c.2
  have nq : ¬ bk S B W q := by rintro (c | c); exact (k.apart m).2.2 c; exact tg_not m.2.2.1.2 (by decide) c.2
  have n4 : ∀ i, bk S B W i → ¬ Tg W i 4 := by rintro i (c | c) t; subst c; exact tg_not k.1.2 (by decide) t; exact tg_not c.2 (by decide) t
  have kb : KB B W w' := KB.of b3 (fun i hi => by rcases hi with c | c; subst c; exact ⟨a.1, .inl k.1.2⟩; exact ⟨c.1, .inr (.inr (.inr (.inr c.2)))⟩)
  refine ⟨e1, ⟨rq, rn, rc, tq', tn + 1, tc', xs ++ [.slice rq rn rc], b1, m.kept b3 nl nd nq, own_kept r1 b3 n4, by simp [r2], b2, ⟨by simp [r4.1], fun j o hj => ?_⟩, own_kept r5 b3 n4⟩, kb⟩
  rcases Nat.lt_or_ge j rs.length with c | c
  · rw [List.getElem?_append_left c] at hj
    obtain ⟨v, hv, ho⟩ := r4.2 j o hj
    exact ⟨v, by rw [List.getElem?_append_left (by rw [r4.1]; exact c)]; exact hv, own_kept ho b3 n4⟩
  · have hj0 : j = rs.length := by
      have := (List.getElem?_eq_some_iff.1 hj).1
      simp at this
      omega
    subst hj0
    rw [List.getElem?_append_right (Nat.le_refl _)] at hj
    simp at hj
    subst hj
    exact ⟨.slice rq rn rc, by rw [List.getElem?_append_right (by rw [r4.1]; exact Nat.le_refl _), r4.1]; simp, own_kept r1 b3 n4⟩

def NextIs (B : Nat) (W : World) (S L D q w h n : Nat) (f : Nat → Bool) (p : Option Addr) (cap : Nat) (x : WSt) : Prop :=
  Calls Try.prog 24 #[.pointer (some ⟨S, 0, none⟩)] W fun e w' => e = .returned (.tuple #[]) ∧ WF B w' S L D q w h n f p cap x ∧ KB B W w'

set_option maxRecDepth 100000 in
set_option maxHeartbeats 2000000 in
theorem next_0 {B : Nat} {W : World} {S L D q w h n : Nat} {f : Nat → Bool} {p : Option Addr} {cap : Nat} {wv : Nat} {sp dd : Bool} {g : Nat → Int} {lf : Int} {td : Int} {up th : Bool} {ro : Option Nat} {rs : List (Option Nat)} {bad : Bool} (k : WF B W S L D q w h n f p cap ((0, wv, sp, dd, g, lf), td, up, th, ro, rs, bad)) (a : At4 B S L D q) (hw : wv ≤ 64) (hm : lf ≤ 9223372036854775807) : NextIs B W S L D q w h n f p cap (tellS h 1 ((0, wv, sp, dd, g, lf), td, up, th, ro, rs, bad)) := by
  unfold NextIs
  have HT := hide (tell_any 1 k a hw hm)
  unfold TellIs at HT
  obtain ⟨sp0, dd0, kL, kBs⟩ := k.loomB
  have HSt := hide (state_any kL)
  dsimp only at HSt
  clear kL kBs
  obtain ⟨rq, rn, rc, tq, tn, tc, htn, kS⟩ := k.cells
  obtain ⟨-, ⟨a0, a1, a2, a3, a4, a5, a6⟩, b0, b1, b2, b3, b4, b5, b6⟩ := kS
  clear htn k
  go_enter Try.func24, Try.ntmps24
  go_wp2_with fail
  refine (unhide HSt).mono ?_
  rintro e w1 ⟨rfl, hw1⟩
  subst hw1
  go_wp2_with fail
  refine (unhide HT).mono ?_
  rintro e w2 ⟨rfl, hW2, hK2⟩
  have HW2 := hide hW2
  have HK2 := hide hK2
  clear hW2 hK2
  go_wp2
  go_end0
  exact ⟨rfl, unhide HW2, unhide HK2⟩

set_option maxRecDepth 100000 in
set_option maxHeartbeats 2000000 in
theorem next_3 {B : Nat} {W : World} {S L D q w h n : Nat} {f : Nat → Bool} {p : Option Addr} {cap : Nat} {wv : Nat} {sp dd : Bool} {g : Nat → Int} {lf : Int} {td : Int} {up th : Bool} {ro : Option Nat} {rs : List (Option Nat)} {bad : Bool} (k : WF B W S L D q w h n f p cap ((3, wv, sp, dd, g, lf), td, up, th, ro, rs, bad)) (a : At4 B S L D q) (hw : wv ≤ 64) (hm : lf ≤ 9223372036854775807) : NextIs B W S L D q w h n f p cap (tellS h 5 ((3, wv, sp, dd, g, lf), td, up, th, ro, rs, bad)) := by
  unfold NextIs
  have HT := hide (tell_any 5 k a hw hm)
  unfold TellIs at HT
  obtain ⟨sp0, dd0, kL, kBs⟩ := k.loomB
  have HSt := hide (state_any kL)
  dsimp only at HSt
  clear kL kBs
  obtain ⟨rq, rn, rc, tq, tn, tc, htn, kS⟩ := k.cells
  obtain ⟨-, ⟨a0, a1, a2, a3, a4, a5, a6⟩, b0, b1, b2, b3, b4, b5, b6⟩ := kS
  clear htn k
  go_enter Try.func24, Try.ntmps24
  go_wp2_with fail
  refine (unhide HSt).mono ?_
  rintro e w1 ⟨rfl, hw1⟩
  subst hw1
  go_wp2_with fail
  refine (unhide HT).mono ?_
  rintro e w2 ⟨rfl, hW2, hK2⟩
  have HW2 := hide hW2
  have HK2 := hide hK2
  clear hW2 hK2
  go_wp2
  go_end0
  exact ⟨rfl, unhide HW2, unhide HK2⟩

set_option maxRecDepth 100000 in
set_option maxHeartbeats 2000000 in
theorem next_6 {B : Nat} {W : World} {S L D q w h n : Nat} {f : Nat → Bool} {p : Option Addr} {cap : Nat} {wv : Nat} {sp dd : Bool} {g : Nat → Int} {lf : Int} {td : Int} {up th : Bool} {ro : Option Nat} {rs : List (Option Nat)} {bad : Bool} (k : WF B W S L D q w h n f p cap ((6, wv, sp, dd, g, lf), td, up, th, ro, rs, bad)) : NextIs B W S L D q w h n f p cap ((6, wv, sp, dd, g, lf), td, up, th, ro, rs, bad) := by
  unfold NextIs
  have K := hide k
  obtain ⟨sp0, dd0, kL, kBs⟩ := k.loomB
  have HSt := hide (state_any kL)
  dsimp only at HSt
  clear kL kBs
  obtain ⟨rq, rn, rc, tq, tn, tc, htn, kS⟩ := k.cells
  obtain ⟨-, ⟨a0, a1, a2, a3, a4, a5, a6⟩, b0, b1, b2, b3, b4, b5, b6⟩ := kS
  clear htn k
  go_enter Try.func24, Try.ntmps24
  go_wp2_with fail
  refine (unhide HSt).mono ?_
  rintro e w1 ⟨rfl, hw1⟩
  subst hw1
  go_wp2
  go_end0
  exact ⟨rfl, unhide K, KB.refl _ _⟩

set_option maxRecDepth 100000 in
set_option maxHeartbeats 2000000 in
theorem next_2 {B : Nat} {W : World} {S L D q w h n : Nat} {f : Nat → Bool} {p : Option Addr} {cap : Nat} {wv : Nat} {sp dd : Bool} {g : Nat → Int} {lf : Int} {td : Int} {up th : Bool} {ro : Option Nat} {rs : List (Option Nat)} {bad : Bool} (k : WF B W S L D q w h n f p cap ((2, wv, sp, dd, g, lf), td, up, th, ro, rs, bad)) (a : At4 B S L D q) (hw : wv ≤ 64) (hm : lf ≤ 9223372036854775807) : NextIs B W S L D q w h n f p cap (tellS h 3 ((2, wv, sp, dd, g, lf), td, up, true, ro, rs, bad)) := by
  unfold NextIs
  obtain ⟨k2, kb2⟩ := k.thr a true
  have HT := hide (tell_any 3 k2 a hw hm)
  have HK0 := hide kb2
  unfold TellIs at HT
  obtain ⟨sp0, dd0, kL, kBs⟩ := k.loomB
  have HSt := hide (state_any kL)
  dsimp only at HSt
  clear kL kBs
  obtain ⟨rq, rn, rc, tq, tn, tc, htn, kS⟩ := k.cells
  obtain ⟨-, ⟨a0, a1, a2, a3, a4, a5, a6⟩, b0, b1, b2, b3, b4, b5, b6⟩ := kS
  clear htn k k2 kb2
  go_enter Try.func24, Try.ntmps24
  go_wp2_with fail
  refine (unhide HSt).mono ?_
  rintro e w1 ⟨rfl, hw1⟩
  subst hw1
  go_wp2_with fail
  refine (unhide HT).mono ?_
  rintro e w2 ⟨rfl, hW2, hK2⟩
  have HW2 := hide hW2
  have HK2 := hide ((unhide HK0).trans hK2)
  clear hW2 hK2
  go_wp2
  go_end0
  exact ⟨rfl, unhide HW2, unhide HK2⟩

set_option maxRecDepth 100000 in
set_option maxHeartbeats 2000000 in
theorem next_1 {B : Nat} {W : World} {S L D q w h n : Nat} {f : Nat → Bool} {p : Option Addr} {cap : Nat} {wv : Nat} {sp dd : Bool} {g : Nat → Int} {lf : Int} {td : Int} {up th : Bool} {ro : Option Nat} {rs : List (Option Nat)} {bad : Bool} (k : WF B W S L D q w h n f p cap ((1, wv, sp, dd, g, lf), td, up, th, ro, rs, bad)) (a : At4 B S L D q) (hB : B ≤ W.heap.size) (hn : n = w * h) (hw6 : w ≤ 64) (hh6 : h ≤ 64) (hw0 : 0 < w) (hwv : wv < h) (hm : lf ≤ 9223372036854775807) : NextIs B W S L D q w h n f p cap (tellS h 2 ((1, wv, sp, dd, g, lf), td, true, th, (some wv), rs, bad)) := by
  unfold NextIs
  have K := hide k
  obtain ⟨sp0, dd0, kL, kBs⟩ := k.loomB
  have HSt := hide (state_any kL)
  dsimp only at HSt
  have HR := hide (row_ok kL kBs hn hw6 hh6 hw0 hwv rfl)
  dsimp only at HR
  have ha := hide a
  clear kL kBs
  obtain ⟨rq, rn, rc, tq, tn, tc, htn, kS⟩ := k.cells
  obtain ⟨-, ⟨a0, a1, a2, a3, a4, a5, a6⟩, b0, b1, b2, b3, b4, b5, b6⟩ := kS
  clear htn k
  go_enter Try.func24, Try.ntmps24
  go_wp2_with fail
  refine (unhide HSt).mono ?_
  rintro e w1 ⟨rfl, hw1⟩
  subst hw1
  go_wp2_with fail
  refine (unhide HR).mono ?_
  rintro e w2 ⟨q2, c2, rfl, hO2, hb2⟩
  have K2 := hide ((unhide K).keep hb2)
  have K3 := hide ((unhide K2).row a wv q2 c2 (own_le hO2 hB))
  have K4 := hide ((unhide K3).1.up a true)
  have HT := hide (tell_any 2 (unhide K4).1 a (by dsimp only; omega) hm)
  unfold TellIs at HT
  have HK0 := hide (((KB.keep hb2).trans (unhide K3).2).trans (unhide K4).2)
  clear a0 a1 a2 a3 a4 a5 a6 b0 b1 b2 b3 b4 b5 b6 hO2
  obtain ⟨rq, rn, rc, tq, tn, tc, htn, kS⟩ := (unhide K2).cells
  obtain ⟨-, ⟨a0, a1, a2, a3, a4, a5, a6⟩, b0, b1, b2, b3, b4, b5, b6⟩ := kS
  clear htn hb2 a
  go_wp2_with fail
  refine (unhide HT).mono ?_
  rintro e w5 ⟨rfl, hW5, hK5⟩
  have HW5 := hide hW5
  have HK5 := hide ((unhide HK0).trans hK5)
  clear hW5 hK5
  go_wp2
  go_end0
  exact ⟨rfl, unhide HW5, unhide HK5⟩

set_option maxRecDepth 100000 in
set_option maxHeartbeats 2000000 in
theorem next_4a {B : Nat} {W : World} {S L D q w h n : Nat} {f : Nat → Bool} {p : Option Addr} {cap : Nat} {wv : Nat} {sp dd : Bool} {g : Nat → Int} {lf : Int} {td : Int} {up th : Bool} {ro : Option Nat} {rs : List (Option Nat)} {bad : Bool} (k : WF B W S L D q w h n f p cap ((4, wv, sp, dd, g, lf), td, up, th, ro, rs, bad)) (a : At4 B S L D q) (hw : wv ≤ 64) (hm : lf ≤ 9223372036854775807) (htd : td ≠ 3) : NextIs B W S L D q w h n f p cap (tellS h 6 ((4, wv, sp, dd, g, lf), td, up, th, ro, rs, bad)) := by
  unfold NextIs
  have HT := hide (tell_any 6 k a hw hm)
  unfold TellIs at HT
  obtain ⟨sp0, dd0, kL, kBs⟩ := k.loomB
  have HSt := hide (state_any kL)
  dsimp only at HSt
  clear kL kBs
  have htd' : (td == 3) = false := by simpa using htd
  obtain ⟨rq, rn, rc, tq, tn, tc, htn, kS⟩ := k.cells
  obtain ⟨-, ⟨a0, a1, a2, a3, a4, a5, a6⟩, b0, b1, b2, b3, b4, b5, b6⟩ := kS
  clear htn k htd
  go_enter Try.func24, Try.ntmps24
  go_wp2_with fail
  refine (unhide HSt).mono ?_
  rintro e w1 ⟨rfl, hw1⟩
  subst hw1
  go_wp2_with fail
  refine (unhide HT).mono ?_
  rintro e w2 ⟨rfl, hW2, hK2⟩
  have HW2 := hide hW2
  have HK2 := hide hK2
  clear hW2 hK2
  go_wp2
  go_end0
  exact ⟨rfl, unhide HW2, unhide HK2⟩

set_option maxRecDepth 100000 in
set_option maxHeartbeats 2000000 in
theorem next_4b {B : Nat} {W : World} {S L D q w h n : Nat} {f : Nat → Bool} {p : Option Addr} {cap : Nat} {wv : Nat} {sp dd : Bool} {g : Nat → Int} {lf : Int} {up th : Bool} {ro : Option Nat} {rs : List (Option Nat)} {bad : Bool} (k : WF B W S L D q w h n f p cap ((4, wv, sp, dd, g, lf), 3, up, th, ro, rs, bad)) (a : At4 B S L D q) (hB : B ≤ W.heap.size) (hr : rs.length ≤ 65) (hw : wv ≤ 64) (hm : lf ≤ 9223372036854775807) : NextIs B W S L D q w h n f p cap (tellS h 6 ((4, wv, sp, dd, g, lf), 0, up, th, ro, rs ++ [ro], bad)) := by
  unfold NextIs
  have HBt := hide (beat_wf k a hB hr)
  unfold BeatIs at HBt
  obtain ⟨sp0, dd0, kL, kBs⟩ := k.loomB
  have HSt := hide (state_any kL)
  dsimp only at HSt
  clear kL kBs
  obtain ⟨rq, rn, rc, tq, tn, tc, htn, kS⟩ := k.cells
  obtain ⟨-, ⟨a0, a1, a2, a3, a4, a5, a6⟩, b0, b1, b2, b3, b4, b5, b6⟩ := kS
  clear htn k
  go_enter Try.func24, Try.ntmps24
  go_wp2_with fail
  refine (unhide HSt).mono ?_
  rintro e w1 ⟨rfl, hw1⟩
  subst hw1
  go_wp2_with fail
  refine (unhide HBt).mono ?_
  rintro e w2 ⟨rfl, hW2, hK2⟩
  have K3 := hide (hW2.todo a 0)
  have HT := hide (tell_any 6 (unhide K3).1 a hw hm)
  unfold TellIs at HT
  have HK0 := hide (hK2.trans (unhide K3).2)
  clear a0 a1 a2 a3 a4 a5 a6 b0 b1 b2 b3 b4 b5 b6
  obtain ⟨rq, rn, rc, tq, tn, tc, htn, kS⟩ := hW2.cells
  obtain ⟨-, ⟨a0, a1, a2, a3, a4, a5, a6⟩, b0, b1, b2, b3, b4, b5, b6⟩ := kS
  clear htn hW2 hK2 a
  go_wp2_with fail
  refine (unhide HT).mono ?_
  rintro e w5 ⟨rfl, hW5, hK5⟩
  have HW5 := hide hW5
  have HK5 := hide ((unhide HK0).trans hK5)
  clear hW5 hK5
  go_wp2
  go_end0
  exact ⟨rfl, unhide HW5, unhide HK5⟩

set_option maxRecDepth 100000 in
set_option maxHeartbeats 2000000 in
theorem next_5a {B : Nat} {W : World} {S L D q w h n : Nat} {f : Nat → Bool} {p : Option Addr} {cap : Nat} {wv : Nat} {sp dd : Bool} {g : Nat → Int} {lf : Int} {td : Int} {up th : Bool} {ro : Option Nat} {rs : List (Option Nat)} {bad : Bool} (k : WF B W S L D q w h n f p cap ((5, wv, sp, dd, g, lf), td, up, th, ro, rs, bad)) (a : At4 B S L D q) (hw : wv ≤ 64) (hm : lf ≤ 9223372036854775807) (hc : wv < rs.length) : NextIs B W S L D q w h n f p cap (tellS h 8 ((5, wv, sp, dd, g, lf), td, up, th, ro, rs, bad)) := by
  unfold NextIs
  have HT := hide (fun V (hV : Below W.heap.size W V) => tell_any 8 (k.keep hV) a hw hm)
  unfold TellIs at HT
  obtain ⟨sp0, dd0, kL, kBs⟩ := k.loomB
  have HSt := hide (state_any kL)
  dsimp only at HSt
  have HWo := hide (fun V (hV : Below W.heap.size W V) => woven_any (kL.keep hV))
  dsimp only at HWo
  clear kL kBs
  have hc' : (wv : Int) < (rs.length : Int) := by omega
  obtain ⟨rq, rn, rc, tq, tn, tc, htn, kS⟩ := k.cells
  obtain ⟨-, ⟨a0, a1, a2, a3, a4, a5, a6⟩, b0, b1, b2, b3, b4, b5, b6⟩ := kS
  subst htn
  clear k hc
  generalize rs.length = rl at *
  go_enter Try.func24, Try.ntmps24
  go_wp2_with fail
  refine (unhide HSt).mono ?_
  rintro e w1 ⟨rfl, hw1⟩
  subst hw1
  go_wp2_with fail
  go_region_with (go_at_call 15; refine (unhide HWo _ (bdrew _)).mono ?_; rintro e w3 ⟨rfl, hw3⟩)
  all_goals
    subst hw3
    go_wp2_with fail
    refine (unhide HT _ (bdrew _)).mono ?_
    rintro e w2 ⟨rfl, hW2, hK2⟩
    have HW2 := hide hW2
    have HK2 := hide ((KB.keep (bdrew _)).trans hK2)
    clear hW2 hK2
    go_wp2
    go_end0
    exact ⟨rfl, unhide HW2, unhide HK2⟩

set_option maxRecDepth 100000 in
set_option maxHeartbeats 2000000 in
theorem next_5b {B : Nat} {W : World} {S L D q w h n : Nat} {f : Nat → Bool} {p : Option Addr} {cap : Nat} {wv : Nat} {sp dd : Bool} {g : Nat → Int} {lf : Int} {td : Int} {up th : Bool} {ro : Option Nat} {rs : List (Option Nat)} {bad : Bool} (k : WF B W S L D q w h n f p cap ((5, wv, sp, dd, g, lf), td, up, th, ro, rs, bad)) (a : At4 B S L D q) (hw : wv ≤ 64) (hm : lf ≤ 9223372036854775807) (hc : ¬ wv < rs.length) : NextIs B W S L D q w h n f p cap (tellS h 9 ((5, wv, sp, dd, g, lf), td, up, th, ro, rs, bad)) := by
  unfold NextIs
  have HT := hide (fun V (hV : Below W.heap.size W V) => tell_any 9 (k.keep hV) a hw hm)
  unfold TellIs at HT
  obtain ⟨sp0, dd0, kL, kBs⟩ := k.loomB
  have HSt := hide (state_any kL)
  dsimp only at HSt
  have HWo := hide (fun V (hV : Below W.heap.size W V) => woven_any (kL.keep hV))
  dsimp only at HWo
  clear kL kBs
  have hc' : ¬ ((wv : Int) < (rs.length : Int)) := by omega
  have hc2 : decide ((wv : Int) < (rs.length : Int)) = false := by simpa using hc'
  obtain ⟨rq, rn, rc, tq, tn, tc, htn, kS⟩ := k.cells
  obtain ⟨-, ⟨a0, a1, a2, a3, a4, a5, a6⟩, b0, b1, b2, b3, b4, b5, b6⟩ := kS
  subst htn
  clear k hc
  generalize rs.length = rl at *
  go_enter Try.func24, Try.ntmps24
  go_wp2_with fail
  refine (unhide HSt).mono ?_
  rintro e w1 ⟨rfl, hw1⟩
  subst hw1
  go_wp2_with fail
  go_region_with (go_at_call 15; refine (unhide HWo _ (bdrew _)).mono ?_; rintro e w3 ⟨rfl, hw3⟩)
  all_goals
    subst hw3
    go_wp2_with fail
    refine (unhide HT _ (bdrew _)).mono ?_
    rintro e w2 ⟨rfl, hW2, hK2⟩
    have HW2 := hide hW2
    have HK2 := hide ((KB.keep (bdrew _)).trans hK2)
    clear hW2 hK2
    go_wp2
    go_end0
    exact ⟨rfl, unhide HW2, unhide HK2⟩
end Go.Proofs.Ytndfecdhmncdaaa
