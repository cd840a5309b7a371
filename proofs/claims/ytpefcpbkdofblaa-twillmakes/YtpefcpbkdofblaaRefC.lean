/-
  The reference: Turned.
-/
import Derived.Test.YtpefcpbkdofblaaRefB
import Derived.Test.YtpefcpbkdofblaaLFloat
namespace Go.Proofs.Ytpefcpbkdofblaa
open Go.RowKit Go.Shelf

theorem g10_0 {a0 a1 a2 a3 a4 a5 a6 a7 a8 a9 : Oper} : (#[a0, a1, a2, a3, a4, a5, a6, a7, a8, a9] : Array Oper)[0]? = some a0 := rfl
theorem g10_1 {a0 a1 a2 a3 a4 a5 a6 a7 a8 a9 : Oper} : (#[a0, a1, a2, a3, a4, a5, a6, a7, a8, a9] : Array Oper)[1]? = some a1 := rfl
theorem g10_2 {a0 a1 a2 a3 a4 a5 a6 a7 a8 a9 : Oper} : (#[a0, a1, a2, a3, a4, a5, a6, a7, a8, a9] : Array Oper)[2]? = some a2 := rfl
theorem g10_3 {a0 a1 a2 a3 a4 a5 a6 a7 a8 a9 : Oper} : (#[a0, a1, a2, a3, a4, a5, a6, a7, a8, a9] : Array Oper)[3]? = some a3 := rfl
theorem g10_4 {a0 a1 a2 a3 a4 a5 a6 a7 a8 a9 : Oper} : (#[a0, a1, a2, a3, a4, a5, a6, a7, a8, a9] : Array Oper)[4]? = some a4 := rfl
theorem g10_5 {a0 a1 a2 a3 a4 a5 a6 a7 a8 a9 : Oper} : (#[a0, a1, a2, a3, a4, a5, a6, a7, a8, a9] : Array Oper)[5]? = some a5 := rfl
theorem g10_6 {a0 a1 a2 a3 a4 a5 a6 a7 a8 a9 : Oper} : (#[a0, a1, a2, a3, a4, a5, a6, a7, a8, a9] : Array Oper)[6]? = some a6 := rfl
theorem g10_7 {a0 a1 a2 a3 a4 a5 a6 a7 a8 a9 : Oper} : (#[a0, a1, a2, a3, a4, a5, a6, a7, a8, a9] : Array Oper)[7]? = some a7 := rfl
theorem g10_8 {a0 a1 a2 a3 a4 a5 a6 a7 a8 a9 : Oper} : (#[a0, a1, a2, a3, a4, a5, a6, a7, a8, a9] : Array Oper)[8]? = some a8 := rfl
theorem g10_9 {a0 a1 a2 a3 a4 a5 a6 a7 a8 a9 : Oper} : (#[a0, a1, a2, a3, a4, a5, a6, a7, a8, a9] : Array Oper)[9]? = some a9 := rfl

theorem OwnZ.kept {S : Nat → Prop} {w0 W : World} {b : Nat} (h : OwnZ w0 b) (k : Kept S w0 W) (hS : ¬ S b) : OwnZ W b := by
  have hb := k.2.2.2.2 b h.1.1 hS
  exact ⟨k.own h.1 hS, (World.frozen?_of_block hb).trans h.2.1, (World.frozen?_of_block hb).trans h.2.2.1, (World.frozen?_of_block hb).trans h.2.2.2⟩

theorem turned_new {W : World} {w h : Nat} {p : Option Addr} {n cap : Nat} {f : Nat → Bool} (r : Rt W w h p n cap f) :
    Calls Try.prog 30 #[tr w h p n cap] W fun e V => ∃ q cp, e = .returned (.tuple #[tr h w q n cp, .int .i64 0]) ∧ (Rt V h w q n cp (tuF f w h) ∧ ∀ j, j < W.heap.size → Off q n j) ∧ Below W.heap.size W V := by
  refine ((callsIn_wide (n := 9)).1 (turned_in w h p n cap f W r.1 r.2.1 r.2.2.1 r.2.2.2)).mono ?_
  rintro e V ⟨q, rfl, hq, hR, hb⟩
  exact ⟨_, _, rfl, ⟨⟨r.2.1, r.1, by rw [r.2.2.1, Nat.mul_comm], hR.bs⟩, fun j hj => .inr fun a ea => by cases ea; dsimp only; omega⟩, hb⟩
end Go.Proofs.Ytpefcpbkdofblaa
