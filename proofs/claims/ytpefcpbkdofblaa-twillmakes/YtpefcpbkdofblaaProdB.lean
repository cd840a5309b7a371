/-
  Product of package truth: what is wrong.
-/
import Derived.Test.YtpefcpbkdofblaaProd
namespace Go.Proofs.Ytpefcpbkdofblaa
open Go.RowKit Go.Shelf

def ProdErr (F : Nat) (w h : Int) (p : Option Addr) (n cap : Nat) (w2 h2 : Int) (p2 : Option Addr) (n2 cap2 : Nat) (W : World) (er : Int) : Prop := Calls Try.prog F #[tr w h p n cap, tr w2 h2 p2 n2 cap2] W fun e w' => e = .returned (.tuple #[tr 0 0 none 0 0, .int .i64 er]) ∧ Below W.heap.size W w'
/-- what is wrong with a product -/
def pE (w h : Int) (n : Nat) (w2 h2 : Int) (n2 : Nat) : Int := if wE w h n = 0 then (if wE w2 h2 n2 = 0 then (if w = h2 then 0 else 8) else wE w2 h2 n2) else wE w h n
theorem wE_pos (w h : Int) (n : Nat) (he : wE w h n ≠ 0) : 1 ≤ wE w h n := by
  unfold wE at *
  repeat' split
  all_goals simp_all

/-- an empty box of an answer -/
def OwnZ (W : World) (b : Nat) : Prop := OwnM W b 0 0 none 0 0 ∧ W.frozen? ⟨b, 0, none⟩ = false ∧ W.frozen? ⟨b, 1, none⟩ = false ∧ W.frozen? ⟨b, 2, none⟩ = false
theorem OwnZ.new (W : World) : OwnZ (W.alloc (.cells #[.int .i64 0, .int .i64 0, .slice none 0 0] 25)) W.heap.size := ⟨OwnM.new W 0 0 none 0 0 25, by simp [go_sem], by simp [go_sem], by simp [go_sem]⟩
theorem OwnZ.keep {W w1 : World} {b : Nat} (h : OwnZ W b) (hb : Below W.heap.size W w1) : OwnZ w1 b := ⟨h.1.keep hb, keepF hb h.1.1 h.2.1, keepF hb h.1.1 h.2.2.1, keepF hb h.1.1 h.2.2.2⟩
theorem OwnZ.grown {a c : World} {row : Option Nat} {b : Nat} (h : OwnZ a b) (hg : a.grownBy c row) (hne : some b ≠ row) : OwnZ c b := ⟨h.1.grown hg hne, gfroz hg h.1.1 hne h.2.1, gfroz hg h.1.1 hne h.2.2.1, gfroz hg h.1.1 hne h.2.2.2⟩
theorem p3_facts (W : World) (w h : Int) (p : Option Addr) (n cap : Nat) (w2 h2 : Int) (p2 : Option Addr) (n2 cap2 : Nat) :
    ∃ w0, ((W.alloc (.cells #[.int .i64 w, .int .i64 h, .slice p n cap] 25)).alloc (.cells #[.int .i64 w2, .int .i64 h2, .slice p2 n2 cap2] 25)).alloc (.cells #[.int .i64 0, .int .i64 0, .slice none 0 0] 25) = w0 ∧ OwnM w0 W.heap.size w h p n cap ∧ OwnM w0 (W.heap.size + 1) w2 h2 p2 n2 cap2 ∧ OwnZ w0 (W.heap.size + 1 + 1) ∧ Below W.heap.size W w0 := by
  have a := OwnM.new W w h p n cap 25
  have b := OwnM.new (W.alloc (.cells #[.int .i64 w, .int .i64 h, .slice p n cap] 25)) w2 h2 p2 n2 cap2 25
  have c := OwnZ.new ((W.alloc (.cells #[.int .i64 w, .int .i64 h, .slice p n cap] 25)).alloc (.cells #[.int .i64 w2, .int .i64 h2, .slice p2 n2 cap2] 25))
  rw [World.size_alloc] at b c
  rw [World.size_alloc] at c
  exact ⟨_, rfl, (a.alloc _).alloc _, b.alloc _, c, bal (bal (bal (Below.refl _ _)))⟩

end Go.Proofs.Ytpefcpbkdofblaa
