/-
  What composed of package plane answers, at every grid and every two moves whose turns are the grid's.
-/
import Derived.Test.YtpcajcgafmmlkaaDoorMoves
namespace Go.Proofs.YtpcajcgafmmlkaaDoor
open Go.RowKit

/-! ### composed -/
def MovedIs (g t : Int) (f : Bool) (bx b x y u v : Int) : Prop := ∀ W : World, Calls Tryd.prog 77 #[.int .i64 g, .agg #[.int .i64 t, .bool f, .int .i64 bx, .int .i64 b], .agg #[.int .i64 x, .int .i64 y]] W fun e w' => e = .returned (.agg #[.int .i64 u, .int .i64 v]) ∧ Below W.heap.size W w'

def cT (g t : Int) (f : Bool) (t' : Int) : Int := match f with
  | true => (t + (g - t')) % g
  | false => (t + t') % g

/-- what a cell holds, whatever it is -/
def hat (W : World) (b o : Nat) : Value := (W.cell? ⟨b, o, none⟩).getD undef
theorem hat_of {W : World} {b o : Nat} {v : Value} (h : W.cell? ⟨b, o, none⟩ = some v) : W.cell? ⟨b, o, none⟩ = some (hat W b o) := by
  unfold hat; rw [h]; rfl
abbrev C4 (W : World) (b : Nat) (v0 v1 v2 v3 : Value) : Prop := W.cell? ⟨b, 0, none⟩ = some v0 ∧ W.cell? ⟨b, 1, none⟩ = some v1 ∧ W.cell? ⟨b, 2, none⟩ = some v2 ∧ W.cell? ⟨b, 3, none⟩ = some v3
abbrev F4 (W : World) (b : Nat) : Prop := W.frozen? ⟨b, 0, none⟩ = false ∧ W.frozen? ⟨b, 1, none⟩ = false ∧ W.frozen? ⟨b, 2, none⟩ = false ∧ W.frozen? ⟨b, 3, none⟩ = false
abbrev SC (w : World) (t : Int) (f : Bool) (x y : Int) (t' : Int) (f' : Bool) (x' y' : Int) (W : World) : Prop :=
  (Below w.heap.size w W ∧ w.heap.size + 1 + 1 < W.heap.size) ∧ C4 W w.heap.size (.int .i64 t) (.bool f) (.int .i64 x) (.int .i64 y) ∧ C4 W (w.heap.size + 1) (.int .i64 t') (.bool f') (.int .i64 x') (.int .i64 y') ∧
    C4 W (w.heap.size + 1 + 1) (hat W (w.heap.size + 1 + 1) 0) (hat W (w.heap.size + 1 + 1) 1) (hat W (w.heap.size + 1 + 1) 2) (hat W (w.heap.size + 1 + 1) 3) ∧ F4 W (w.heap.size + 1 + 1)
theorem C4.keep {W w1 : World} {b : Nat} {v0 v1 v2 v3 : Value} (h : C4 W b v0 v1 v2 v3) (hb : Below W.heap.size W w1) (hl : b < W.heap.size) : C4 w1 b v0 v1 v2 v3 :=
  ⟨keepC hb hl h.1, keepC hb hl h.2.1, keepC hb hl h.2.2.1, keepC hb hl h.2.2.2⟩
theorem F4.keep {W w1 : World} {b : Nat} (h : F4 W b) (hb : Below W.heap.size W w1) (hl : b < W.heap.size) : F4 w1 b :=
  ⟨keepF hb hl h.1, keepF hb hl h.2.1, keepF hb hl h.2.2.1, keepF hb hl h.2.2.2⟩
theorem C4.hat {W : World} {b : Nat} {v0 v1 v2 v3 : Value} (h : C4 W b v0 v1 v2 v3) : C4 W b (hat W b 0) (hat W b 1) (hat W b 2) (hat W b 3) :=
  ⟨hat_of h.1, hat_of h.2.1, hat_of h.2.2.1, hat_of h.2.2.2⟩
theorem SC.keep {w W w1 : World} {t : Int} {f : Bool} {x y t' : Int} {f' : Bool} {x' y' : Int} (h : SC w t f x y t' f' x' y' W) (hb : Below W.heap.size W w1) : SC w t f x y t' f' x' y' w1 := by
  obtain ⟨⟨h1, h2⟩, h3, h4, h5, h6⟩ := h
  exact ⟨⟨btrans h1 hb, Nat.lt_of_lt_of_le h2 hb.size⟩, h3.keep hb (by omega), h4.keep hb (by omega), (h5.keep hb h2).hat, h6.keep hb h2⟩
theorem SC.init (w : World) (t : Int) (f : Bool) (x y t' : Int) (f' : Bool) (x' y' : Int) :
    SC w t f x y t' f' x' y' (((w.alloc (.cells #[.int .i64 t, .bool f, .int .i64 x, .int .i64 y] 41)).alloc (.cells #[.int .i64 t', .bool f', .int .i64 x', .int .i64 y'] 41)).alloc (.cells #[.int .i64 0, .bool false, .int .i64 0, .int .i64 0] 41)).drew := by
  have M := ((OwnM.new w t f x y 41).alloc (.cells #[.int .i64 t', .bool f', .int .i64 x', .int .i64 y'] 41)).alloc (.cells #[.int .i64 0, .bool false, .int .i64 0, .int .i64 0] 41)
  have N := (OwnM.new (w.alloc (.cells #[.int .i64 t, .bool f, .int .i64 x, .int .i64 y] 41)) t' f' x' y' 41).alloc (.cells #[.int .i64 0, .bool false, .int .i64 0, .int .i64 0] 41)
  have R := (OwnM.new ((w.alloc (.cells #[.int .i64 t, .bool f, .int .i64 x, .int .i64 y] 41)).alloc (.cells #[.int .i64 t', .bool f', .int .i64 x', .int .i64 y'] 41)) 0 false 0 0 41)
  simp only [World.size_alloc] at N R
  exact ⟨⟨Below.drew (bal (bal (bal (Below.refl _ _)))), R.1⟩, M.2.1, N.2.1, C4.hat R.2.1, R.2.2⟩
theorem SC.set {w W : World} {t : Int} {f : Bool} {x y t' : Int} {f' : Bool} {x' y' : Int} (h : SC w t f x y t' f' x' y' W) (v0 v1 v2 v3 : Value) :
    SC w t f x y t' f' x' y' ((((W.setCell ⟨w.heap.size + 1 + 1, 0, none⟩ v0).setCell ⟨w.heap.size + 1 + 1, 1, none⟩ v1).setCell ⟨w.heap.size + 1 + 1, 2, none⟩ v2).setCell ⟨w.heap.size + 1 + 1, 3, none⟩ v3) := by
  obtain ⟨⟨h1, h2⟩, ⟨a0, a1, a2, a3⟩, ⟨b0, b1, b2, b3⟩, ⟨c0, c1, c2, c3⟩, d0, d1, d2, d3⟩ := h
  refine ⟨⟨bset (bset (bset (bset h1 (by dsimp only; omega)) (by dsimp only; omega)) (by dsimp only; omega)) (by dsimp only; omega), by simpa using h2⟩, ⟨?_, ?_, ?_, ?_⟩, ⟨?_, ?_, ?_, ?_⟩, C4.hat (v0 := v0) (v1 := v1) (v2 := v2) (v3 := v3) ⟨?_, ?_, ?_, ?_⟩, ?_, ?_, ?_, ?_⟩
  all_goals simp [go_sem, a0, a1, a2, a3, b0, b1, b2, b3, c0, c1, c2, c3, d0, d1, d2, d3]


theorem wrap_tmod (n g : Int) (h0 : 0 ≤ n) (h1 : n ≤ 1000) (_hg : 0 < g) : (IntKind.i64.wrap n).tmod g = n % g := by
  have : IntKind.i64.wrap n = n := IntWalk.i64_in n ⟨by omega, by omega⟩
  rw [this, Int.tmod_eq_emod_of_nonneg h0]

set_option maxHeartbeats 1000000 in
theorem composed_plain (g t : Int) (x y : Int) (t' : Int) (f' : Bool) (x' y' u v : Int) (w : World) (hg : g = 4 ∨ g = 6) (ht : 0 ≤ t ∧ t < 6) (ht' : 0 ≤ t' ∧ t' < g) (M : MovedIs g t false x y x' y' u v) :
    Calls Tryd.prog 82 #[.int .i64 g, .agg #[.int .i64 t, .bool false, .int .i64 x, .int .i64 y], .agg #[.int .i64 t', .bool f', .int .i64 x', .int .i64 y']] w fun e w' => e = .returned (.agg #[.int .i64 ((t + t') % g), .bool f', .int .i64 u, .int .i64 v]) ∧ Below w.heap.size w w' := by
  rcases hg with rfl | rfl
  · have et := hide (wrap_tmod (t + t') 4 (by omega) (by omega) (by decide))
    go_enter Tryd.func82, Tryd.ntmps82
    go_wp2_with fail
    go_region_held3 (fun W => SC w t false x y t' f' x' y' W)
      (first | exact SC.init w t false x y t' f' x' y' | (refine SC.keep (by assumption) hb) | (refine SC.set (by assumption) _ _ _ _))
      (first
        | (go_at_call 77; refine (M _).mono ?_; rintro e w1 ⟨rfl, hb⟩))
    obtain ⟨⟨h1, h2⟩, _, _, ⟨c0, c1, c2, c3⟩, _⟩ := (SC.init w t false x y t' f' x' y').keep hb
    go_wp2
    exact bodyPost_ret (v := .agg #[.int .i64 ((IntKind.i64.wrap (t + t')).tmod 4), .bool f', .int .i64 u, .int .i64 v]) (by simp [results, Tryd.results82, go_sem, c0, c1, c2, c3]) rfl
      ⟨by rw [unhide et], bset (bset (bset (bset h1 (by dsimp only; omega)) (by dsimp only; omega)) (by dsimp only; omega)) (by dsimp only; omega)⟩
  · have et := hide (wrap_tmod (t + t') 6 (by omega) (by omega) (by decide))
    go_enter Tryd.func82, Tryd.ntmps82
    go_wp2_with fail
    go_region_held3 (fun W => SC w t false x y t' f' x' y' W)
      (first | exact SC.init w t false x y t' f' x' y' | (refine SC.keep (by assumption) hb) | (refine SC.set (by assumption) _ _ _ _))
      (first
        | (go_at_call 77; refine (M _).mono ?_; rintro e w1 ⟨rfl, hb⟩))
    obtain ⟨⟨h1, h2⟩, _, _, ⟨c0, c1, c2, c3⟩, _⟩ := (SC.init w t false x y t' f' x' y').keep hb
    go_wp2
    exact bodyPost_ret (v := .agg #[.int .i64 ((IntKind.i64.wrap (t + t')).tmod 6), .bool f', .int .i64 u, .int .i64 v]) (by simp [results, Tryd.results82, go_sem, c0, c1, c2, c3]) rfl
      ⟨by rw [unhide et], bset (bset (bset (bset h1 (by dsimp only; omega)) (by dsimp only; omega)) (by dsimp only; omega)) (by dsimp only; omega)⟩

set_option maxHeartbeats 1000000 in
theorem composed_flip (g t : Int) (x y : Int) (t' : Int) (f' : Bool) (x' y' u v : Int) (w : World) (hg : g = 4 ∨ g = 6) (ht : 0 ≤ t ∧ t < 6) (ht' : 0 ≤ t' ∧ t' < g) (M : MovedIs g t true x y x' y' u v) :
    Calls Tryd.prog 82 #[.int .i64 g, .agg #[.int .i64 t, .bool true, .int .i64 x, .int .i64 y], .agg #[.int .i64 t', .bool f', .int .i64 x', .int .i64 y']] w fun e w' => e = .returned (.agg #[.int .i64 ((t + (g - t')) % g), .bool (!f'), .int .i64 u, .int .i64 v]) ∧ Below w.heap.size w w' := by
  rcases hg with rfl | rfl
  · have et := hide (wrap_tmod (t + (4 - t')) 4 (by omega) (by omega) (by decide))
    go_enter Tryd.func82, Tryd.ntmps82
    go_wp2_with fail
    go_region_held3 (fun W => SC w t true x y t' f' x' y' W)
      (first | exact SC.init w t true x y t' f' x' y' | (refine SC.keep (by assumption) hb) | (refine SC.set (by assumption) _ _ _ _))
      (first
        | (go_at_call 77; refine (M _).mono ?_; rintro e w1 ⟨rfl, hb⟩))
    obtain ⟨⟨h1, h2⟩, _, _, ⟨c0, c1, c2, c3⟩, _⟩ := (SC.init w t true x y t' f' x' y').keep hb
    go_wp2
    exact bodyPost_ret (v := .agg #[.int .i64 ((IntKind.i64.wrap (t + (4 - t'))).tmod 4), .bool (!f'), .int .i64 u, .int .i64 v]) (by simp [results, Tryd.results82, go_sem, c0, c1, c2, c3]) rfl
      ⟨by rw [unhide et], bset (bset (bset (bset h1 (by dsimp only; omega)) (by dsimp only; omega)) (by dsimp only; omega)) (by dsimp only; omega)⟩
  · have et := hide (wrap_tmod (t + (6 - t')) 6 (by omega) (by omega) (by decide))
    go_enter Tryd.func82, Tryd.ntmps82
    go_wp2_with fail
    go_region_held3 (fun W => SC w t true x y t' f' x' y' W)
      (first | exact SC.init w t true x y t' f' x' y' | (refine SC.keep (by assumption) hb) | (refine SC.set (by assumption) _ _ _ _))
      (first
        | (go_at_call 77; refine (M _).mono ?_; rintro e w1 ⟨rfl, hb⟩))
    obtain ⟨⟨h1, h2⟩, _, _, ⟨c0, c1, c2, c3⟩, _⟩ := (SC.init w t true x y t' f' x' y').keep hb
    go_wp2
    exact bodyPost_ret (v := .agg #[.int .i64 ((IntKind.i64.wrap (t + (6 - t'))).tmod 6), .bool (!f'), .int .i64 u, .int .i64 v]) (by simp [results, Tryd.results82, go_sem, c0, c1, c2, c3]) rfl
      ⟨by rw [unhide et], bset (bset (bset (bset h1 (by dsimp only; omega)) (by dsimp only; omega)) (by dsimp only; omega)) (by dsimp only; omega)⟩

def ComposedIs (g t : Int) (f : Bool) (x y t' : Int) (f' : Bool) (x' y' T : Int) (F : Bool) (u v : Int) : Prop := ∀ W : World, Calls Tryd.prog 82 #[.int .i64 g, .agg #[.int .i64 t, .bool f, .int .i64 x, .int .i64 y], .agg #[.int .i64 t', .bool f', .int .i64 x', .int .i64 y']] W fun e w' => e = .returned (.agg #[.int .i64 T, .bool F, .int .i64 u, .int .i64 v]) ∧ Below W.heap.size W w'

theorem movedIs (g t : Int) (f : Bool) (bx b x y : Int) (hg : g = 4 ∨ g = 6) (ht : 0 ≤ t ∧ t < g) (h : Sz g 268435456 x y) (k : Sz g 268435456 bx b) : MovedIs g t f bx b x y (mv g t.toNat f bx b x y).1 (mv g t.toNat f bx b x y).2 := by
  obtain ⟨n, rfl⟩ := Int.eq_ofNat_of_zero_le ht.1
  intro W
  exact moved_any g n f bx b x y W hg (by omega) h k

/-- the flip of two moves, one behind the other -/
def cF (f f' : Bool) : Bool := match f with
  | true => !f'
  | false => f'

theorem composedIs (g t : Int) (f : Bool) (x y t' : Int) (f' : Bool) (x' y' : Int) (hg : g = 4 ∨ g = 6) (ht : 0 ≤ t ∧ t < g) (ht' : 0 ≤ t' ∧ t' < g) (h : Sz g 268435456 x y) (h' : Sz g 268435456 x' y') :
    ComposedIs g t f x y t' f' x' y' (cT g t f t') (cF f f') (mv g t.toNat f x y x' y').1 (mv g t.toNat f x y x' y').2 := by
  have M := movedIs g t f x y x' y' hg ht h' h
  intro W
  cases f with
  | false => exact composed_plain g t x y t' f' x' y' _ _ W hg (by omega) ht' M
  | true => exact composed_flip g t x y t' f' x' y' _ _ W hg (by omega) ht' M

end Go.Proofs.YtpcajcgafmmlkaaDoor
