/-
  Alike of package truth.
-/
import Derived.Test.YtpefcpbkdofblaaAlikeB
namespace Go.Proofs.Ytpefcpbkdofblaa
open Go.RowKit Go.Shelf

attribute [local go_sem] Oper.semAt_some

def AlikeErr (F : Nat) (w h : Int) (p : Option Addr) (n cap : Nat) (W : World) (er : Int) : Prop := Calls Try.prog F #[tr w h p n cap] W fun e w' => e = .returned (.tuple #[.slice none 0 0, .int .i64 er]) ∧ Below W.heap.size W w'
theorem own_keep {w w1 : World} {B : Nat} {e : TypeId} {size : Nat} {v : Value} {n : Nat} {xs : List Value} (h : w.ownsRow B e size v n xs) (hb : Below w.heap.size w w1) : w1.ownsRow B e size v n xs :=
  h.kept (row := none) ⟨hb.os, hb.tape, hb.output, hb.size, fun k hk _ => hb.block k hk⟩ (by cases v.ownBlock <;> simp)
/-- the row of a round lies in a box; the rest is told by A -/
def AxB (w0 : World) (h : Nat) (E : Nat → Value) (A : Fin h → Nat → Act) (y : Fin h) (a' : Act) (V : World) : Prop := ∃ Bx, w0.heap.size ≤ Bx ∧ Boxed V Bx 23 (E y.1) ∧ a' = A y Bx
theorem axB_own (w0 : World) (h : Nat) (E : Nat → Value) (A : Fin h → Nat → Act) : ∀ x a', OwnFrom w0.heap.size (fun (_ : Unit) V => AxB w0 h E A x a' V) := fun x a' _ X Y row hs hg hr => by
  obtain ⟨Bx, h1, h2, h3⟩ := hs
  exact ⟨Bx, h1, boxed_own Bx 23 (fun (_ : Unit) => E x.1) () X Y row h2 hg (fun r e => (hr r e).2), h3⟩

end Go.Proofs.Ytpefcpbkdofblaa
