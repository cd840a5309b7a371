/-
  What the reference's Then answers (walk over the translated code, out of To and Fitting).
-/
import Derived.Test.YtpcajcgafmmlkaaDoorRefA
import Derived.Test.YtpcajcgafmmlkaaDoorComposed
namespace Go.Proofs.YtpcajcgafmmlkaaDoor
open Go.RowKit

def FitIs (g ox oy ax ay bx b T : Int) (F : Bool) (u v : Int) : Prop := ∀ W : World, Calls Tryd.prog 68 #[.int .i64 g, .agg #[.int .i64 ox, .int .i64 oy], .agg #[.int .i64 ax, .int .i64 ay], .agg #[.int .i64 bx, .int .i64 b]] W fun e w' => e = .returned (.agg #[.int .i64 T, .bool F, .int .i64 u, .int .i64 v]) ∧ Below W.heap.size W w'
def ThenIs (g t : Int) (f : Bool) (x y t' : Int) (f' : Bool) (x' y' T : Int) (F : Bool) (u v : Int) : Prop := ∀ W : World, Calls Tryd.prog 49 #[.int .i64 g, .agg #[.int .i64 t, .bool f, .int .i64 x, .int .i64 y], .agg #[.int .i64 t', .bool f', .int .i64 x', .int .i64 y']] W fun e w' => e = .returned (.agg #[.int .i64 T, .bool F, .int .i64 u, .int .i64 v]) ∧ Below W.heap.size W w'

set_option maxRecDepth 100000 in
set_option maxHeartbeats 8000000 in
theorem then_is (g t : Int) (f : Bool) (x y t' : Int) (f' : Bool) (x' y' : Int) (u0 v0 u1 v1 u2 v2 a0 b0 a1 b1 a2 b2 T : Int) (F : Bool) (u v : Int)
    (H0 : ToIs g t' f' x' y' 0 0 u0 v0) (H1 : ToIs g t' f' x' y' 1 0 u1 v1) (H2 : ToIs g t' f' x' y' 0 1 u2 v2)
    (F0 : ToIs g t f x y u0 v0 a0 b0) (F1 : ToIs g t f x y u1 v1 a1 b1) (F2 : ToIs g t f x y u2 v2 a2 b2) (Q : FitIs g a0 b0 a1 b1 a2 b2 T F u v) :
    ThenIs g t f x y t' f' x' y' T F u v := by
  intro w
  go_enter Tryd.func49, Tryd.ntmps49
  go_wp2_with fail
  go_region_held3 (fun W => SC w t f x y t' f' x' y' W)
    (first | exact SC.init w t f x y t' f' x' y' | (refine SC.keep (by assumption) hb) | (refine SC.set (by assumption) _ _ _ _))
    (first
      | (go_at_call_of 34 (Value.agg #[Value.int IntKind.i64 0, Value.int IntKind.i64 0]); refine (H0 _).mono ?_; rintro e w1 ⟨rfl, hb⟩)
      | (go_at_call_of 34 (Value.agg #[Value.int IntKind.i64 1, Value.int IntKind.i64 0]); refine (H1 _).mono ?_; rintro e w1 ⟨rfl, hb⟩)
      | (go_at_call_of 34 (Value.agg #[Value.int IntKind.i64 0, Value.int IntKind.i64 1]); refine (H2 _).mono ?_; rintro e w1 ⟨rfl, hb⟩)
      | (go_at_call_of 34 (Value.agg #[Value.int IntKind.i64 u0, Value.int IntKind.i64 v0]); refine (F0 _).mono ?_; rintro e w1 ⟨rfl, hb⟩)
      | (go_at_call_of 34 (Value.agg #[Value.int IntKind.i64 u1, Value.int IntKind.i64 v1]); refine (F1 _).mono ?_; rintro e w1 ⟨rfl, hb⟩)
      | (go_at_call_of 34 (Value.agg #[Value.int IntKind.i64 u2, Value.int IntKind.i64 v2]); refine (F2 _).mono ?_; rintro e w1 ⟨rfl, hb⟩)
      | (go_at_call 68; refine (Q _).mono ?_; rintro e w1 ⟨rfl, hb⟩; have hS7 := SC.keep (by assumption) hb))
  obtain ⟨⟨h1, h2⟩, _, _, ⟨c0, c1, c2, c3⟩, _⟩ := hS7
  go_wp2
  exact bodyPost_ret (v := .agg #[.int .i64 T, .bool F, .int .i64 u, .int .i64 v]) (by simp [results, Tryd.results49, go_sem, c0, c1, c2, c3]) rfl ⟨rfl, bset (bset (bset (bset h1 (by dsimp only; omega)) (by dsimp only; omega)) (by dsimp only; omega)) (by dsimp only; omega)⟩

end Go.Proofs.YtpcajcgafmmlkaaDoor
