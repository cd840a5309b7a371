/-
  longest of package truth.
-/
import Derived.Test.YtfbggbalnfbbgaaFloatA
namespace Go.Proofs.Ytfbggbalnfbbgaa
open Go.RowKit Go.Shelf

attribute [local go_sem] Oper.semAt_some

/-- the longest run of what is v in the rows of truths -/
def lgM (f : Nat → Bool) (v : Bool) (w h : Nat) : Nat := mxN (fun y => lgI (soF (fun x => f (y * w + x)) v) w) h
def mxL (G : Nat → Nat) (l : List Nat) : Nat := l.foldl (fun m y => max m (G y)) 0
theorem mxL_snoc (G : Nat → Nat) (l : List Nat) (y : Nat) : mxL G (l ++ [y]) = max (mxL G l) (G y) := by simp [mxL]
theorem mxL_range (G : Nat → Nat) (k : Nat) : mxL G (List.range k) = mxN G k := by
  induction k with
  | zero => rfl
  | succ k ih => rw [List.range_succ, mxL_snoc, ih]; rfl

def LgI (w0 : World) (Bm h : Nat) (G : Nat → Nat) (l : List (Fin h)) (V : World) : Prop := Boxed V Bm 3 (.int .i64 (mxL G (l.map (·.1)) : Nat)) ∧ Kept (fun k => k = Bm) w0 V
theorem lgI_own (w0 : World) (Bm h : Nat) (G : Nat → Nat) : OwnFrom w0.heap.size (LgI w0 Bm h G) :=
  OwnFrom.and (Own.from (boxed_own Bm 3 (fun l : List (Fin h) => .int .i64 (mxL G (l.map (·.1)) : Nat))) _) (fun _ _ _ _ hs hg hr => hs.grown hg (fun r e => .inl (hr r e).1))

end Go.Proofs.Ytfbggbalnfbbgaa
