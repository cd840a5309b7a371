/-
  What Wrong, Apply, Compose and Inverse of package plane answer, at every input (walks over the translated code).
-/
import Derived.Test.YtpcajcgafmmlkaaDoorTurn
import Derived.Deep.RegionHeld3
namespace Go.Proofs.YtpcajcgafmmlkaaDoor
open Go.RowKit

def wE (g t x y : Int) : Int := if e1 g x y = 0 then (if 0 ≤ t ∧ t < g then 0 else 3) else e1 g x y
def WrongIs (g t : Int) (f : Bool) (x y er : Int) : Prop := ∀ W : World, Calls Tryd.prog 76 #[.int .i64 g, .agg #[.int .i64 t, .bool f, .int .i64 x, .int .i64 y]] W fun e w' => e = .returned (.int .i64 er) ∧ Below W.heap.size W w'

set_option maxHeartbeats 1000000 in
theorem wrong_err (g t : Int) (f : Bool) (x y er : Int) (he : Hid (e1 g x y = er)) (hp : 1 ≤ er) : WrongIs g t f x y er := by
  intro w
  go_enter Tryd.func76, Tryd.ntmps76
  go_wp2_with fail
  refine (wrongPoints1 g x y _ _ _ ?_ ?_ ?_).mono ?_
  · simp
  · simp [go_sem]
  · simp [go_sem]
  rw [unhide he]
  rintro e w1 ⟨rfl, hb⟩
  go_wp2
  go_ret
  exact ⟨rfl, btrans (bal (bal (Below.refl _ _))) hb⟩

set_option maxHeartbeats 1000000 in
theorem wrong_low (g t : Int) (f : Bool) (x y : Int) (he : Hid (e1 g x y = 0)) (ht : t < 0) : WrongIs g t f x y 3 := by
  intro w
  go_enter Tryd.func76, Tryd.ntmps76
  go_wp2_with fail
  refine (wrongPoints1 g x y _ _ _ ?_ ?_ ?_).mono ?_
  · simp
  · simp [go_sem]
  · simp [go_sem]
  rw [unhide he]
  rintro e w1 ⟨rfl, hb⟩
  have M := ((OwnM.new w t f x y 41).alloc (.cells #[.int .i64 x, .int .i64 y] 33)).keep hb
  have q1 := M.2.1
  go_wp2
  go_ret
  exact ⟨rfl, btrans (bal (bal (Below.refl _ _))) hb⟩

set_option maxHeartbeats 1000000 in
theorem wrong_high (g t : Int) (f : Bool) (x y : Int) (he : Hid (e1 g x y = 0)) (h0 : 0 ≤ t) (ht : g ≤ t) : WrongIs g t f x y 3 := by
  intro w
  go_enter Tryd.func76, Tryd.ntmps76
  go_wp2_with fail
  refine (wrongPoints1 g x y _ _ _ ?_ ?_ ?_).mono ?_
  · simp
  · simp [go_sem]
  · simp [go_sem]
  rw [unhide he]
  rintro e w1 ⟨rfl, hb⟩
  have M := ((OwnM.new w t f x y 41).alloc (.cells #[.int .i64 x, .int .i64 y] 33)).keep hb
  have q1 := M.2.1
  go_wp2
  go_ret
  exact ⟨rfl, btrans (bal (bal (Below.refl _ _))) hb⟩

set_option maxHeartbeats 1000000 in
theorem wrong_ok (g t : Int) (f : Bool) (x y : Int) (he : Hid (e1 g x y = 0)) (h0 : 0 ≤ t) (ht : t < g) : WrongIs g t f x y 0 := by
  intro w
  go_enter Tryd.func76, Tryd.ntmps76
  go_wp2_with fail
  refine (wrongPoints1 g x y _ _ _ ?_ ?_ ?_).mono ?_
  · simp
  · simp [go_sem]
  · simp [go_sem]
  rw [unhide he]
  rintro e w1 ⟨rfl, hb⟩
  have M := ((OwnM.new w t f x y 41).alloc (.cells #[.int .i64 x, .int .i64 y] 33)).keep hb
  have q1 := M.2.1
  go_wp2
  go_ret
  exact ⟨rfl, btrans (bal (bal (Below.refl _ _))) hb⟩

theorem wrong_any (g t : Int) (f : Bool) (x y : Int) : WrongIs g t f x y (wE g t x y) := by
  unfold wE
  by_cases h : e1 g x y = 0
  · rw [if_pos h]
    by_cases h0 : 0 ≤ t
    · by_cases ht : t < g
      · rw [if_pos ⟨h0, ht⟩]; exact wrong_ok g t f x y h h0 ht
      · rw [if_neg (by omega)]; exact wrong_high g t f x y h h0 (by omega)
    · rw [if_neg (by omega)]; exact wrong_low g t f x y h (by omega)
  · rw [if_neg h]; exact wrong_err g t f x y _ rfl (e1_pos _ _ _ h)

set_option maxHeartbeats 1000000 in
theorem wrongMoves_1 (g t : Int) (f : Bool) (x y er : Int) (b cap : Nat) (w : World) (hb : b < w.heap.size)
    (h : w.cell? ⟨b, 0, none⟩ = some (.int .i64 t) ∧ w.cell? ⟨b, 1, none⟩ = some (.bool f) ∧ w.cell? ⟨b, 2, none⟩ = some (.int .i64 x) ∧ w.cell? ⟨b, 3, none⟩ = some (.int .i64 y))
    (W1 : WrongIs g t f x y er) (hp : 1 ≤ er) :
    Calls Tryd.prog 80 #[.int .i64 g, .slice (some ⟨b, 0, none⟩) 2 cap] w fun e w' => e = .returned (.int .i64 er) ∧ Below w.heap.size w w' := by
  go_enter Tryd.func80, Tryd.ntmps80
  go_wp2
  go_loopw [10] (fun i w1 => i = .int .i64 0 ∧ w1 = w) (fun i _ => 2 - (intOf i).toNat)
  case atStart => exact ⟨rfl, rfl⟩
  case round =>
    obtain ⟨rfl, rfl⟩ := hrel
    go_wp2_with fail
    refine (W1 _).mono ?_
    rintro e w1 ⟨rfl, hb1⟩
    go_wp2
    go_ret
    exact ⟨rfl, btrans (bal (Below.refl _ _)) hb1⟩

theorem cellsKeep {w w1 : World} {b : Nat} {o0 o1 o2 o3 : Nat} {v0 v1 v2 v3 : Value} (hb : b < w.heap.size) (hB : Below w.heap.size w w1)
    (h : w.cell? ⟨b, o0, none⟩ = some v0 ∧ w.cell? ⟨b, o1, none⟩ = some v1 ∧ w.cell? ⟨b, o2, none⟩ = some v2 ∧ w.cell? ⟨b, o3, none⟩ = some v3) :
    w1.cell? ⟨b, o0, none⟩ = some v0 ∧ w1.cell? ⟨b, o1, none⟩ = some v1 ∧ w1.cell? ⟨b, o2, none⟩ = some v2 ∧ w1.cell? ⟨b, o3, none⟩ = some v3 :=
  ⟨keepC hB hb h.1, keepC hB hb h.2.1, keepC hB hb h.2.2.1, keepC hB hb h.2.2.2⟩

set_option maxHeartbeats 1000000 in
theorem wrongMoves_2 (g t : Int) (f : Bool) (x y : Int) (t' : Int) (f' : Bool) (x' y' er : Int) (b cap : Nat) (w : World) (hb : b < w.heap.size)
    (h : Hid (w.cell? ⟨b, 0, none⟩ = some (.int .i64 t) ∧ w.cell? ⟨b, 1, none⟩ = some (.bool f) ∧ w.cell? ⟨b, 2, none⟩ = some (.int .i64 x) ∧ w.cell? ⟨b, 3, none⟩ = some (.int .i64 y)))
    (h' : Hid (w.cell? ⟨b, 4, none⟩ = some (.int .i64 t') ∧ w.cell? ⟨b, 5, none⟩ = some (.bool f') ∧ w.cell? ⟨b, 6, none⟩ = some (.int .i64 x') ∧ w.cell? ⟨b, 7, none⟩ = some (.int .i64 y')))
    (W1 : WrongIs g t f x y 0) (W2 : WrongIs g t' f' x' y' er) (hp : 1 ≤ er ∨ er = 0) :
    Calls Tryd.prog 80 #[.int .i64 g, .slice (some ⟨b, 0, none⟩) 2 cap] w fun e w' => e = .returned (.int .i64 er) ∧ Below w.heap.size w w' := by
  have Hp := hide hp
  clear hp
  go_enter Tryd.func80, Tryd.ntmps80
  go_wp2
  go_loopw [10] (fun i w1 => ∃ k : Nat, i = .int .i64 k ∧ Below w.heap.size w w1 ∧ (k = 0 ∨ k = 1 ∨ (k = 2 ∧ er = 0))) (fun i _ => 2 - (intOf i).toNat)
  case atStart => exact ⟨0, rfl, Below.refl _ _, Or.inl rfl⟩
  case round =>
    obtain ⟨k, rfl, hB, hk⟩ := hrel
    rcases hk with rfl | rfl | ⟨rfl, he⟩
    · have q := cellsKeep hb hB (unhide h)
      go_wp2_with fail
      clear q
      refine (W1 _).mono ?_
      rintro e w1 ⟨rfl, hb1⟩
      have S := btrans (bal hB) hb1
      clear hB hb1
      go_wp2
      go_roundw
      case rel => exact ⟨1, rfl, S, Or.inr (Or.inl rfl)⟩
      case measure => simp [intOf]
    · have q := cellsKeep hb hB (unhide h')
      go_wp2_with fail
      clear q
      refine (W2 _).mono ?_
      rintro e w1 ⟨rfl, hb1⟩
      have S := btrans (bal hB) hb1
      clear hB hb1
      rcases unhide Hp with hp | hp
      · go_wp2
        go_ret
        exact ⟨rfl, S⟩
      · subst hp
        go_wp2
        go_roundw
        case rel => exact ⟨2, rfl, S, Or.inr (Or.inr ⟨rfl, trivial⟩)⟩
        case measure => simp [intOf]
    · subst he
      go_wp2
      go_ret
      exact ⟨rfl, hB⟩

def w2E (g t x y t' x' y' : Int) : Int := if wE g t x y = 0 then wE g t' x' y' else wE g t x y
theorem wE_pos (g t x y : Int) (h : wE g t x y ≠ 0) : 1 ≤ wE g t x y := by
  unfold wE at *
  by_cases k : e1 g x y = 0
  · rw [if_pos k] at *
    by_cases l : 0 ≤ t ∧ t < g
    · rw [if_pos l] at h; omega
    · rw [if_neg l]; omega
  · rw [if_neg k]; exact e1_pos _ _ _ k
theorem w2E_pos (g t x y t' x' y' : Int) (h : w2E g t x y t' x' y' ≠ 0) : 1 ≤ w2E g t x y t' x' y' := by
  unfold w2E at *
  by_cases k : wE g t x y = 0
  · rw [if_pos k] at *; exact wE_pos _ _ _ _ h
  · rw [if_neg k]; exact wE_pos _ _ _ _ k

theorem wrongMoves_any (g t : Int) (f : Bool) (x y : Int) (t' : Int) (f' : Bool) (x' y' : Int) (b cap : Nat) (w : World) (hb : b < w.heap.size)
    (h : w.cell? ⟨b, 0, none⟩ = some (.int .i64 t) ∧ w.cell? ⟨b, 1, none⟩ = some (.bool f) ∧ w.cell? ⟨b, 2, none⟩ = some (.int .i64 x) ∧ w.cell? ⟨b, 3, none⟩ = some (.int .i64 y))
    (h' : w.cell? ⟨b, 4, none⟩ = some (.int .i64 t') ∧ w.cell? ⟨b, 5, none⟩ = some (.bool f') ∧ w.cell? ⟨b, 6, none⟩ = some (.int .i64 x') ∧ w.cell? ⟨b, 7, none⟩ = some (.int .i64 y')) :
    Calls Tryd.prog 80 #[.int .i64 g, .slice (some ⟨b, 0, none⟩) 2 cap] w fun e w' => e = .returned (.int .i64 (w2E g t x y t' x' y')) ∧ Below w.heap.size w w' := by
  have W1 := wrong_any g t f x y
  have W2 := wrong_any g t' f' x' y'
  unfold w2E
  by_cases k : wE g t x y = 0
  · rw [if_pos k]
    rw [k] at W1
    exact wrongMoves_2 g t f x y t' f' x' y' _ b cap w hb h h' W1 W2 (by
      by_cases l : wE g t' x' y' = 0
      · exact Or.inr l
      · exact Or.inl (wE_pos _ _ _ _ l))
  · rw [if_neg k]
    exact wrongMoves_1 g t f x y _ b cap w hb h W1 (wE_pos _ _ _ _ k)

set_option maxHeartbeats 1000000 in
theorem boundedMove_ok (t : Int) (f : Bool) (x y : Int) (w : World) (h : sm2 x y = true) :
    Calls Tryd.prog 81 #[.agg #[.int .i64 t, .bool f, .int .i64 x, .int .i64 y]] w fun e w' => e = .returned (.tuple #[.agg #[.int .i64 t, .bool f, .int .i64 x, .int .i64 y], .int .i64 0]) ∧ Below w.heap.size w w' := by
  go_enter Tryd.func81, Tryd.ntmps81
  go_wp2_with fail
  refine (within1 x y _ _ _ ?_ ?_ ?_).mono ?_
  · simp
  · simp [go_sem]
  · simp [go_sem]
  rintro e w1 ⟨rfl, hb⟩
  have M := (((OwnM.new w t f x y 41).alloc (.cells #[.int .i64 0, .bool false, .int .i64 0, .int .i64 0] 41)).alloc (.cells #[.int .i64 x, .int .i64 y] 33)).keep hb
  have R := ((OwnM.new (w.alloc (.cells #[.int .i64 t, .bool f, .int .i64 x, .int .i64 y] 41)) 0 false 0 0 41).alloc (.cells #[.int .i64 x, .int .i64 y] 33)).keep hb
  simp only [World.size_alloc] at R
  have S := btrans (bal (bal (bal (Below.refl _ _)))) hb
  clear hb
  have q1 := M.2.1
  have q2 := R.2
  go_wp2
  exact bodyPost_ret (v := .tuple #[.agg #[.int .i64 t, .bool f, .int .i64 x, .int .i64 y], .int .i64 0]) (by simp [results, Tryd.results81, go_sem, q2]) rfl ⟨rfl, bset (bset (bset (bset S (by dsimp only; omega)) (by dsimp only; omega)) (by dsimp only; omega)) (by dsimp only; omega)⟩

set_option maxHeartbeats 1000000 in
theorem boundedMove_much (t : Int) (f : Bool) (x y : Int) (w : World) (h : sm2 x y = false) :
    Calls Tryd.prog 81 #[.agg #[.int .i64 t, .bool f, .int .i64 x, .int .i64 y]] w fun e w' => e = .returned (.tuple #[.agg #[.int .i64 0, .bool false, .int .i64 0, .int .i64 0], .int .i64 4]) ∧ Below w.heap.size w w' := by
  go_enter Tryd.func81, Tryd.ntmps81
  go_wp2_with fail
  refine (within1 x y _ _ _ ?_ ?_ ?_).mono ?_
  · simp
  · simp [go_sem]
  · simp [go_sem]
  rintro e w1 ⟨rfl, hb⟩
  have R := ((OwnM.new (w.alloc (.cells #[.int .i64 t, .bool f, .int .i64 x, .int .i64 y] 41)) 0 false 0 0 41).alloc (.cells #[.int .i64 x, .int .i64 y] 33)).keep hb
  simp only [World.size_alloc] at R
  have S := btrans (bal (bal (bal (Below.refl _ _)))) hb
  clear hb
  have q2 := R.2
  go_wp2
  exact bodyPost_ret (v := .tuple #[.agg #[.int .i64 0, .bool false, .int .i64 0, .int .i64 0], .int .i64 4]) (by simp [results, Tryd.results81, go_sem, q2]) rfl ⟨rfl, bset (bset (bset (bset S (by dsimp only; omega)) (by dsimp only; omega)) (by dsimp only; omega)) (by dsimp only; omega)⟩


end Go.Proofs.YtpcajcgafmmlkaaDoor
