/-
  TruthTells: what both sides answer, and the law's walk.
-/
import Derived.Test.YtpefcpbkdofblaaRefG
namespace Go.Proofs.Ytpefcpbkdofblaa
open Go.RowKit Go.Shelf

/-- a call that answers truths and an error -/
def AnsT (F : Nat) (args : Array Value) (V : World) (pw ph : Int) (pn : Nat) (pf : Nat → Bool) (pe : Int) : Prop :=
  Calls Try.prog F args V fun e V' => ∃ q cp, e = .returned (.tuple #[tr pw ph q pn cp, .int .i64 pe]) ∧ Bs V' q pn cp pf ∧ Below V.heap.size V V'
theorem bs_zero (W : World) (q : Option Addr) (cp : Nat) (f : Nat → Bool) : Bs W q 0 cp f := ⟨Nat.zero_le _, .inl rfl⟩
/-- .. whose bits lie in memory of their own -/
def AnsO (F : Nat) (args : Array Value) (V : World) (pw ph : Int) (pn : Nat) (pf : Nat → Bool) (pe : Int) : Prop :=
  Calls Try.prog F args V fun e V' => ∃ q cp, e = .returned (.tuple #[tr pw ph q pn cp, .int .i64 pe]) ∧ (Bs V' q pn cp pf ∧ ∀ j, j < V.heap.size → Off q pn j) ∧ Below V.heap.size V V'
/-- a call that answers numbers and an error -/
def AnsN (F : Nat) (args : Array Value) (V : World) (pn : Nat) (pf : Nat → Nat) (pe : Int) : Prop :=
  Calls Try.prog F args V fun e V' => ∃ q cp, e = .returned (.tuple #[.slice q pn cp, .int .i64 pe]) ∧ Ns V' q pn pf ∧ Below V.heap.size V V'
theorem same_nums {W : World} {q1 q2 : Option Addr} {n c1 c2 : Nat} {f : Nat → Nat} (hn : n ≤ 64) (h1 : Ns W q1 n f) (h2 : Ns W q2 n f) : Calls Try.prog 11 #[.slice q1 n c1, .slice q2 n c2] W fun e w' => e = .returned (.bool true) ∧ Below W.heap.size W w' := by
  rcases h1 with rfl | ⟨b1, rfl, l1, k1⟩
  · exact same_numbers_none q1 q2 c1 c2 W
  · rcases h2 with rfl | ⟨b2, rfl, l2, k2⟩
    · exact same_numbers_none _ q2 c1 c2 W
    · exact same_numbers_any b1 b2 n c1 c2 f W hn (.inr k1) (.inr k2) l1 l2

/-- a box of truths that may be written -/
def OwnY (W : World) (b : Nat) (w h : Int) (p : Option Addr) (n cap : Nat) : Prop := OwnM W b w h p n cap ∧ W.frozen? ⟨b, 0, none⟩ = false ∧ W.frozen? ⟨b, 1, none⟩ = false ∧ W.frozen? ⟨b, 2, none⟩ = false
theorem OwnY.new (W : World) (w h : Int) (p : Option Addr) (n cap : Nat) : OwnY (W.alloc (.cells #[.int .i64 w, .int .i64 h, .slice p n cap] 25)) W.heap.size w h p n cap := ⟨OwnM.new W w h p n cap 25, by simp [go_sem], by simp [go_sem], by simp [go_sem]⟩
theorem OwnY.grown {a c : World} {row : Option Nat} {b : Nat} {w h : Int} {p : Option Addr} {n cap : Nat} (k : OwnY a b w h p n cap) (hg : a.grownBy c row) (hne : some b ≠ row) : OwnY c b w h p n cap := ⟨k.1.grown hg hne, gfroz hg k.1.1 hne k.2.1, gfroz hg k.1.1 hne k.2.2.1, gfroz hg k.1.1 hne k.2.2.2⟩
theorem OwnY.keep {W w1 : World} {b : Nat} {w h : Int} {p : Option Addr} {n cap : Nat} (k : OwnY W b w h p n cap) (hb : Below W.heap.size W w1) : OwnY w1 b w h p n cap := k.grown (gbelow none hb) (by simp)
theorem OwnY.put {W : World} {b : Nat} {w h : Int} {p : Option Addr} {n cap : Nat} (k : OwnY W b w h p n cap) (w' h' : Int) (p' : Option Addr) (n' cap' : Nat) : OwnY (put3 W b (.int .i64 w') (.int .i64 h') (.slice p' n' cap')) b w' h' p' n' cap' := by
  obtain ⟨⟨h0, h1, h2, h3⟩, f0, f1, f2⟩ := k
  refine ⟨⟨by simpa using h0, by simp [go_sem, h1], by simp [go_sem, h2], by simp [go_sem, h3]⟩, ?_, ?_, ?_⟩
  · rw [World.frozen?_setCell, World.frozen?_setCell, World.frozen?_setCell]; exact f0
  · rw [World.frozen?_setCell, World.frozen?_setCell, World.frozen?_setCell]; exact f1
  · rw [World.frozen?_setCell, World.frozen?_setCell, World.frozen?_setCell]; exact f2
theorem gput {W : World} (b : Nat) (v0 v1 v2 : Value) : W.grownBy (put3 W b v0 v1 v2) (some b) := gset (gset (gset (World.grownBy.refl _ _) 0 v0) 1 v1) 2 v2

end Go.Proofs.Ytpefcpbkdofblaa
