/-
  TruthTells: what both sides answer, and the law's walk.
-/
import Derived.Test.YtfbggbalnfbbgaaRefG
namespace Go.Proofs.Ytfbggbalnfbbgaa
open Go.RowKit Go.Shelf

/-- a call that answers truths and an error -/
def AnsT (F : Nat) (args : Array Value) (V : World) (pw ph : Int) (pn : Nat) (pf : Nat → Bool) (pe : Int) : Prop :=
  Calls Try.prog F args V fun e V' => ∃ q cp, e = .returned (.tuple #[tr pw ph q pn cp, .int .i64 pe]) ∧ Bs V' q pn cp pf ∧ Below V.heap.size V V'
theorem bs_zero (W : World) (q : Option Addr) (cp : Nat) (f : Nat → Bool) : Bs W q 0 cp f := ⟨Nat.zero_le _, .inl rfl⟩
theorem prod_pair (w h : Int) (n : Nat) (f : Nat → Bool) (w2 h2 : Int) (n2 : Nat) (g : Nat → Bool) : ∃ (pw ph : Int) (pn : Nat) (pf : Nat → Bool) (pe : Int), pn ≤ 4096 ∧
    (∀ V p cap p2 cap2, Bs V p n cap f → Bs V p2 n2 cap2 g → AnsT 17 #[tr w h p n cap, tr w2 h2 p2 n2 cap2] V pw ph pn pf pe) ∧
    (∀ V p cap p2 cap2, Bs V p n cap f → Bs V p2 n2 cap2 g → AnsT 26 #[tr w h p n cap, tr w2 h2 p2 n2 cap2] V pw ph pn pf pe) := by
  by_cases e : pE w h n w2 h2 n2 = 0
  · obtain ⟨e1, e2, e3⟩ := pE_zero e
    obtain ⟨wa, ha, rfl, rfl, h1, h2, h3⟩ := wE_zero _ _ _ e1
    obtain ⟨wb, hb, rfl, rfl, k1, k2, k3⟩ := wE_zero _ _ _ e2
    obtain rfl : wa = hb := by omega
    refine ⟨wb, ha, wb * ha, prF f g wa wb, 0, Nat.mul_le_mul k1 h2, fun V p cap p2 cap2 ha' hb' => ?_, fun V p cap p2 cap2 ha' hb' => ?_⟩
    · refine (prod_ok (W := V) (p := p) (ca := cap) (p2 := p2) (cb := cap2) ⟨h1, h2, h3, ha'⟩ ⟨k1, k2, k3, hb'⟩ (wb * ha) rfl).mono ?_
      rintro e V' ⟨q, rfl, hr, hb⟩
      exact ⟨_, _, rfl, hr.2.2.2, hb⟩
    · refine (rprod_ok (W := V) (p := p) (ca := cap) (p2 := p2) (cb := cap2) ⟨h1, h2, h3, ha'⟩ ⟨k1, k2, k3, hb'⟩ (wb * ha) rfl).mono ?_
      rintro e V' ⟨q, cp, rfl, hr, hb⟩
      exact ⟨_, _, rfl, hr.2.2.2, hb⟩
  · refine ⟨0, 0, 0, fun _ => false, pE w h n w2 h2 n2, Nat.zero_le _, fun V p cap p2 cap2 _ _ => ?_, fun V p cap p2 cap2 _ _ => ?_⟩
    · refine (prod_err w h p n cap w2 h2 p2 n2 cap2 V e).mono ?_
      rintro e V' ⟨rfl, hb⟩
      exact ⟨_, _, rfl, bs_zero _ _ _ _, hb⟩
    · refine (rprod_err w h p n cap w2 h2 p2 n2 cap2 V e).mono ?_
      rintro e V' ⟨rfl, hb⟩
      exact ⟨_, _, rfl, bs_zero _ _ _ _, hb⟩
/-- .. whose bits lie in memory of their own -/
def AnsO (F : Nat) (args : Array Value) (V : World) (pw ph : Int) (pn : Nat) (pf : Nat → Bool) (pe : Int) : Prop :=
  Calls Try.prog F args V fun e V' => ∃ q cp, e = .returned (.tuple #[tr pw ph q pn cp, .int .i64 pe]) ∧ (Bs V' q pn cp pf ∧ ∀ j, j < V.heap.size → Off q pn j) ∧ Below V.heap.size V V'
theorem turned_pair (w h : Int) (n : Nat) (f : Nat → Bool) : ∃ (pw ph : Int) (pn : Nat) (pf : Nat → Bool) (pe : Int), pn ≤ 4096 ∧
    (∀ V p cap, Bs V p n cap f → AnsO 27 #[tr w h p n cap] V pw ph pn pf pe) ∧ (∀ V p cap, Bs V p n cap f → AnsO 31 #[tr w h p n cap] V pw ph pn pf pe) := by
  by_cases e : wE w h n = 0
  · obtain ⟨wa, ha, rfl, rfl, h1, h2, h3⟩ := wE_zero _ _ _ e
    refine ⟨ha, wa, n, tuF f wa ha, 0, by rw [h3]; exact Nat.mul_le_mul h1 h2, fun V p cap hf => ?_, fun V p cap hf => ?_⟩
    · refine (turned_new (W := V) (p := p) (cap := cap) ⟨h1, h2, h3, hf⟩).mono ?_
      rintro e V' ⟨q, cp, rfl, hr, hb⟩
      exact ⟨_, _, rfl, ⟨hr.1.2.2.2, hr.2⟩, hb⟩
    · refine (rturned_new (W := V) (p := p) (cap := cap) ⟨h1, h2, h3, hf⟩).mono ?_
      rintro e V' ⟨q, cp, rfl, hr, hb⟩
      exact ⟨_, _, rfl, ⟨hr.1.2.2.2, hr.2⟩, hb⟩
  · refine ⟨0, 0, 0, fun _ => false, wE w h n, Nat.zero_le _, fun V p cap _ => ?_, fun V p cap _ => ?_⟩
    · refine (turned_err w h p n cap V _ rfl (wE_pos _ _ _ e)).mono ?_
      rintro e V' ⟨rfl, hb⟩
      exact ⟨_, _, rfl, ⟨bs_zero _ _ _ _, fun _ _ => .inl rfl⟩, hb⟩
    · refine (rturned_err w h p n cap V _ rfl (wE_pos _ _ _ e)).mono ?_
      rintro e V' ⟨rfl, hb⟩
      exact ⟨_, _, rfl, ⟨bs_zero _ _ _ _, fun _ _ => .inl rfl⟩, hb⟩
/-- a call that answers numbers and an error -/
def AnsN (F : Nat) (args : Array Value) (V : World) (pn : Nat) (pf : Nat → Nat) (pe : Int) : Prop :=
  Calls Try.prog F args V fun e V' => ∃ q cp, e = .returned (.tuple #[.slice q pn cp, .int .i64 pe]) ∧ Ns V' q pn pf ∧ Below V.heap.size V V'
theorem alike_pair (w h : Int) (n : Nat) (f : Nat → Bool) : ∃ (pn : Nat) (pf : Nat → Nat) (pe : Int), pn ≤ 64 ∧
    (∀ V p cap, Bs V p n cap f → AnsN 28 #[tr w h p n cap] V pn pf pe) ∧ (∀ V p cap, Bs V p n cap f → AnsN 32 #[tr w h p n cap] V pn pf pe) := by
  by_cases e : wE w h n = 0
  · obtain ⟨wa, ha, rfl, rfl, h1, h2, h3⟩ := wE_zero _ _ _ e
    refine ⟨ha, nuN f wa, 0, h2, fun V p cap hf => ?_, fun V p cap hf => ?_⟩
    · refine (alike_ok (W := V) (p := p) (cap := cap) ⟨h1, h2, h3, hf⟩).mono ?_
      rintro e V' ⟨q, rfl, hr, hb⟩
      exact ⟨_, _, rfl, .inr ⟨q, rfl, hr.1, fun j hj => by rw [← al_num f wa ha j hj]; exact (hr.2 j hj).1⟩, hb⟩
    · refine (ralike_ok (W := V) (p := p) (cap := cap) ⟨h1, h2, h3, hf⟩).mono ?_
      rintro e V' ⟨q, cp, rfl, hr, hb⟩
      exact ⟨_, _, rfl, hr, hb⟩
  · refine ⟨0, fun _ => 0, wE w h n, Nat.zero_le _, fun V p cap _ => ?_, fun V p cap _ => ?_⟩
    · refine (alike_err w h p n cap V _ rfl (wE_pos _ _ _ e)).mono ?_
      rintro e V' ⟨rfl, hb⟩
      exact ⟨_, _, rfl, .inl rfl, hb⟩
    · refine (ralike_err w h p n cap V _ rfl (wE_pos _ _ _ e)).mono ?_
      rintro e V' ⟨rfl, hb⟩
      exact ⟨_, _, rfl, .inl rfl, hb⟩
theorem same_nums {W : World} {q1 q2 : Option Addr} {n c1 c2 : Nat} {f : Nat → Nat} (hn : n ≤ 64) (h1 : Ns W q1 n f) (h2 : Ns W q2 n f) : Calls Try.prog 34 #[.slice q1 n c1, .slice q2 n c2] W fun e w' => e = .returned (.bool true) ∧ Below W.heap.size W w' := by
  rcases h1 with rfl | ⟨b1, rfl, l1, k1⟩
  · exact same_numbers_none q1 q2 c1 c2 W
  · rcases h2 with rfl | ⟨b2, rfl, l2, k2⟩
    · exact same_numbers_none _ q2 c1 c2 W
    · exact same_numbers_any b1 b2 n c1 c2 f W hn (.inr k1) (.inr k2) l1 l2

/-- a box of truths that may be written -/
def OwnY (W : World) (b : Nat) (w h : Int) (p : Option Addr) (n cap : Nat) : Prop := OwnM W b w h p n cap ∧ W.frozen? ⟨b, 0, none⟩ = false ∧ W.frozen? ⟨b, 1, none⟩ = false ∧ W.frozen? ⟨b, 2, none⟩ = false
theorem OwnY.new (W : World) (w h : Int) (p : Option Addr) (n cap : Nat) : OwnY (W.alloc (.cells #[.int .i64 w, .int .i64 h, .slice p n cap] 25)) W.heap.size w h p n cap := ⟨OwnM.new W w h p n cap 25, by simp [go_sem], by simp [go_sem], by simp [go_sem]⟩
theorem OwnY.grown {a c : World} {row : Option Nat} {b : Nat} {w h : Int} {p : Option Addr} {n cap : Nat} (k : OwnY a b w h p n cap) (hg : a.grownBy c row) (hne : some b ≠ row) : OwnY c b w h p n cap := ⟨k.1.grown hg hne, gfroz hg k.1.1 hne k.2.1, gfroz hg k.1.1 hne k.2.2.1, gfroz hg k.1.1 hne k.2.2.2⟩
theorem OwnY.keep {W w1 : World} {b : Nat} {w h : Int} {p : Option Addr} {n cap : Nat} (k : OwnY W b w h p n cap) (hb : Below W.heap.size W w1) : OwnY w1 b w h p n cap := k.grown (gbelow none hb) (by simp)
theorem OwnY.put {W : World} {b : Nat} {w h : Int} {p : Option Addr} {n cap : Nat} (k : OwnY W b w h p n cap) (w' h' : Int) (p' : Option Addr) (n' cap' : Nat) : OwnY (put3 W b (.int .i64 w') (.int .i64 h') (.slice p' n' cap')) b w' h' p' n' cap' := by
  obtain ⟨⟨h0, h1, h2, h3⟩, f0, f1, f2⟩ := k
  refine ⟨⟨by simpa using h0, by simp [go_sem, h1], by simp [go_sem, h2], by simp [go_sem, h3]⟩, ?_, ?_, ?_⟩
  · rw [World.frozen?_setCell, World.frozen?_setCell, World.frozen?_setCell]; exact f0
  · rw [World.frozen?_setCell, World.frozen?_setCell, World.frozen?_setCell]; exact f1
  · rw [World.frozen?_setCell, World.frozen?_setCell, World.frozen?_setCell]; exact f2
theorem gput {W : World} (b : Nat) (v0 v1 v2 : Value) : W.grownBy (put3 W b v0 v1 v2) (some b) := gset (gset (gset (World.grownBy.refl _ _) 0 v0) 1 v1) 2 v2

end Go.Proofs.Ytfbggbalnfbbgaa
