/-
  What turned and moved of package plane answer, at every grid and every move whose turn is one of the grid's (walks over the translated code).
-/
import Derived.Test.YtpcajcgafmmlkaaDoorTimes2
namespace Go.Proofs.YtpcajcgafmmlkaaDoor
open Go.RowKit

/-- a point lies in a box that may be written -/
def Own (W : World) (b : Nat) (x y : Int) : Prop := b < W.heap.size ∧ (W.cell? ⟨b, 0, none⟩ = some (.int .i64 x) ∧ W.cell? ⟨b, 1, none⟩ = some (.int .i64 y)) ∧ W.frozen? ⟨b, 0, none⟩ = false ∧ W.frozen? ⟨b, 1, none⟩ = false
theorem Own.keep {W w1 : World} {b : Nat} {x y : Int} (h : Own W b x y) (hb : Below W.heap.size W w1) : Own w1 b x y :=
  ⟨Nat.lt_of_lt_of_le h.1 hb.size, ⟨keepC hb h.1 h.2.1.1, keepC hb h.1 h.2.1.2⟩, by rw [hb.frozen (p := ⟨b, 0, none⟩) h.1]; exact h.2.2.1, by rw [hb.frozen (p := ⟨b, 1, none⟩) h.1]; exact h.2.2.2⟩
theorem Own.alloc {W : World} {b : Nat} {x y : Int} (h : Own W b x y) (o : Obj) : Own (W.alloc o) b x y :=
  h.keep (bal (Below.refl _ _))
theorem Own.new (W : World) (x y : Int) (t : TypeId) : Own (W.alloc (.cells #[.int .i64 x, .int .i64 y] t)) W.heap.size x y := by
  refine ⟨by simp, ⟨by simp [go_sem], by simp [go_sem]⟩, by simp [go_sem], by simp [go_sem]⟩
theorem Own.far {W : World} {b c : Nat} {o : Nat} {v : Value} {x y : Int} (h : Own W b x y) (hc : c ≠ b) : Own (W.setCell ⟨c, o, none⟩ v) b x y := by
  obtain ⟨h1, ⟨h2, h3⟩, h4, h5⟩ := h
  exact ⟨by simpa using h1, ⟨by simp [go_sem, h2], by simp [go_sem, h3]⟩, by simp [go_sem, h4], by simp [go_sem, h5]⟩
theorem Own.set {W : World} {b : Nat} {x y : Int} (h : Own W b x y) (u v : Int) : Own ((W.setCell ⟨b, 0, none⟩ (.int .i64 u)).setCell ⟨b, 1, none⟩ (.int .i64 v)) b u v := by
  obtain ⟨h1, ⟨h2, h3⟩, h4, h5⟩ := h
  exact ⟨by simpa using h1, ⟨by simp [go_sem, h2], by simp [go_sem, h3]⟩, by simp [go_sem, h4], by simp [go_sem, h5]⟩

/-! ### turns -/
def tq (g x y : Int) : Int := if g = 6 then x + y else x
def tu (g : Int) : Nat → Int → Int → Int × Int
  | 0, x, y => (x, y)
  | k + 1, x, y => (-(tu g k x y).2, tq g (tu g k x y).1 (tu g k x y).2)

/-- how long a point is at most: what turns and mirrors keep -/
def Sz (g M x y : Int) : Prop := (-M ≤ x ∧ x ≤ M) ∧ (-M ≤ y ∧ y ≤ M) ∧ (g = 6 → -M ≤ x + y ∧ x + y ≤ M)
theorem Sz.turn {g M x y : Int} (h : Sz g M x y) : Sz g M (-y) (tq g x y) := by
  unfold Sz tq at *
  by_cases e : g = 6
  · simp only [e, if_true] at *; have := h.2.2 trivial; omega
  · rw [if_neg e]; exact ⟨by omega, by omega, fun k => absurd k e⟩
theorem Sz.tu {g M x y : Int} (h : Sz g M x y) (k : Nat) : Sz g M (tu g k x y).1 (tu g k x y).2 := by
  induction k with
  | zero => exact h
  | succ k ih => exact ih.turn
theorem Sz.of_sm {g x y : Int} (h : sm2 x y = true) : Sz g 2097152 x y := by
  have := (sm2_iff _ _).1 h
  unfold Sz; omega

theorem turn1 (g x y : Int) (hg : g = 4 ∨ g = 6) (h : Sz g 268435456 x y) (w : World) :
    Calls Tryd.prog 66 #[.int .i64 g, .agg #[.int .i64 x, .int .i64 y], .agg #[.int .i64 0, .int .i64 1]] w fun e w' => e = .returned (.agg #[.int .i64 (-y), .int .i64 (tq g x y)]) ∧ Below w.heap.size w w' := by
  unfold Sz at h
  rcases hg with rfl | rfl
  · have := product4 x y 0 1 w (by unfold big; omega) (by unfold big; omega) (by unfold big; omega) (by unfold big; omega)
    rw [show x * 0 - y * 1 = -y by omega, show x * 1 + y * 0 = tq 4 x y by unfold tq; simp] at this
    exact this
  · have := product6 x y 0 1 w (by unfold big; omega) (by unfold big; omega) (by unfold big; omega) (by unfold big; omega)
    rw [show x * 0 - y * 1 = -y by omega, show x * 1 + y * 0 + y * 1 = tq 6 x y by unfold tq; simp] at this
    exact this

set_option maxHeartbeats 1000000 in
theorem turned_any (g x y : Int) (n : Nat) (w : World) (hg : g = 4 ∨ g = 6) (hn : n ≤ 6) (h : Sz g 268435456 x y) :
    Calls Tryd.prog 85 #[.int .i64 g, .agg #[.int .i64 x, .int .i64 y], .int .i64 n] w fun e w' => e = .returned (.agg #[.int .i64 (tu g n x y).1, .int .i64 (tu g n x y).2]) ∧ Below w.heap.size w w' := by
  have Hg := hide hg
  have Hs := hide h
  clear hg h
  go_enter Tryd.func85, Tryd.ntmps85
  go_wp2
  go_loopw [8] (fun i w1 => ∃ k : Nat, k ≤ n ∧ i = .int .i64 k ∧ Below w.heap.size w w1 ∧ Own w1 w.heap.size (tu g k x y).1 (tu g k x y).2 ∧ Own w1 (w.heap.size + 1) 0 0) (fun i _ => n - (intOf i).toNat)
  case atStart => exact ⟨0, Nat.zero_le _, rfl, bal (bal (Below.refl _ _)), (Own.new w x y 33).alloc _, by have := Own.new (w.alloc (.cells #[.int .i64 x, .int .i64 y] 33)) 0 0 33; simpa using this⟩
  case round =>
    obtain ⟨k, hk, rfl, hbel, O1, O2⟩ := hrel
    by_cases hlt : k < n
    · have hs := (unhide Hs).tu k
      have hS : tu g (k + 1) x y = (-(tu g k x y).2, tq g (tu g k x y).1 (tu g k x y).2) := rfl
      have H1 := hide hS
      clear hS
      generalize (tu g k x y).1 = X at *
      generalize (tu g k x y).2 = Y at *
      have q1 := O1.2.1
      have q2 := O1.2.2
      go_wp2_with fail
      clear q1 q2
      refine (turn1 g X Y (unhide Hg) hs _).mono ?_
      rintro e w2 ⟨rfl, hb2⟩
      have P1 := O1.keep hb2
      have P2 := O2.keep hb2
      have hb3 := btrans hbel hb2
      clear O1 O2 hbel hb2
      have q1 := P1.2.1
      have q2 := P1.2.2
      go_wp2
      go_roundw
      case rel => exact ⟨k + 1, by omega, by go_num, bset (bset hb3 (by dsimp only; omega)) (by dsimp only; omega), by rw [unhide H1]; exact P1.set _ _, (P2.far (by omega)).far (by omega)⟩
      case measure => simp [intOf]; omega
    · have e : k = n := by omega
      subst e
      have cl : ¬ ((k : Int) < (k : Int)) := by omega
      generalize hX : (tu g k x y).1 = X at *
      generalize hY : (tu g k x y).2 = Y at *
      have HX := hide hX
      have HY := hide hY
      clear hX hY
      have q1 := O1.2.1
      have q2 := O2.2.1
      have q3 := O2.2.2
      go_wp2
      exact bodyPost_ret (v := .agg #[.int .i64 X, .int .i64 Y]) (by simp [results, Tryd.results85, go_sem, q2]) rfl ⟨by rw [unhide HX, unhide HY], bset (bset hbel (by dsimp only; omega)) (by dsimp only; omega)⟩

/-! ### moved -/
theorem mirror_any (g x y : Int) (hg : g = 4 ∨ g = 6) (h : Sz g 268435456 x y) (w : World) :
    Calls Tryd.prog 84 #[.int .i64 g, .agg #[.int .i64 x, .int .i64 y]] w fun e w' => e = .returned (.agg #[.int .i64 (tq g x y), .int .i64 (-y)]) ∧ Below w.heap.size w w' := by
  unfold Sz at h
  rcases hg with rfl | rfl
  · exact mirrored4 x y w (by omega) (by omega)
  · exact mirrored6 x y w (by omega) (by omega)

def MirrIs (g x y u v : Int) : Prop := ∀ W : World, Calls Tryd.prog 84 #[.int .i64 g, .agg #[.int .i64 x, .int .i64 y]] W fun e w' => e = .returned (.agg #[.int .i64 u, .int .i64 v]) ∧ Below W.heap.size W w'
def TurnIs (g x y t u v : Int) : Prop := ∀ W : World, Calls Tryd.prog 85 #[.int .i64 g, .agg #[.int .i64 x, .int .i64 y], .int .i64 t] W fun e w' => e = .returned (.agg #[.int .i64 u, .int .i64 v]) ∧ Below W.heap.size W w'
/-- the value of a move -/
def mval (t : Int) (f : Bool) (x y : Int) : Value := .agg #[.int .i64 t, .bool f, .int .i64 x, .int .i64 y]

/-- a move lies in a box that may be written -/
def OwnM (W : World) (b : Nat) (t : Int) (f : Bool) (x y : Int) : Prop := b < W.heap.size ∧ (W.cell? ⟨b, 0, none⟩ = some (.int .i64 t) ∧ W.cell? ⟨b, 1, none⟩ = some (.bool f) ∧ W.cell? ⟨b, 2, none⟩ = some (.int .i64 x) ∧ W.cell? ⟨b, 3, none⟩ = some (.int .i64 y)) ∧
  W.frozen? ⟨b, 0, none⟩ = false ∧ W.frozen? ⟨b, 1, none⟩ = false ∧ W.frozen? ⟨b, 2, none⟩ = false ∧ W.frozen? ⟨b, 3, none⟩ = false
theorem keepF {W w1 : World} {b o : Nat} {v : Bool} (hb : Below W.heap.size W w1) (h : b < W.heap.size) (hc : W.frozen? ⟨b, o, none⟩ = v) : w1.frozen? ⟨b, o, none⟩ = v := by
  rw [hb.frozen (p := ⟨b, o, none⟩) h]; exact hc
theorem OwnM.keep {W w1 : World} {b : Nat} {t : Int} {f : Bool} {x y : Int} (h : OwnM W b t f x y) (hb : Below W.heap.size W w1) : OwnM w1 b t f x y := by
  obtain ⟨h1, ⟨h2, h3, h4, h5⟩, h6, h7, h8, h9⟩ := h
  exact ⟨Nat.lt_of_lt_of_le h1 hb.size, ⟨keepC hb h1 h2, keepC hb h1 h3, keepC hb h1 h4, keepC hb h1 h5⟩, keepF hb h1 h6, keepF hb h1 h7, keepF hb h1 h8, keepF hb h1 h9⟩
theorem OwnM.alloc {W : World} {b : Nat} {t : Int} {f : Bool} {x y : Int} (h : OwnM W b t f x y) (o : Obj) : OwnM (W.alloc o) b t f x y :=
  h.keep (bal (Below.refl _ _))
theorem OwnM.new (W : World) (t : Int) (f : Bool) (x y : Int) (ty : TypeId) : OwnM (W.alloc (.cells #[.int .i64 t, .bool f, .int .i64 x, .int .i64 y] ty)) W.heap.size t f x y := by
  refine ⟨by simp, ⟨by simp [go_sem], by simp [go_sem], by simp [go_sem], by simp [go_sem]⟩, by simp [go_sem], by simp [go_sem], by simp [go_sem], by simp [go_sem]⟩
theorem OwnM.far {W : World} {b c : Nat} {o : Nat} {v : Value} {t : Int} {f : Bool} {x y : Int} (h : OwnM W b t f x y) (hc : c ≠ b) : OwnM (W.setCell ⟨c, o, none⟩ v) b t f x y := by
  obtain ⟨h1, ⟨h2, h3, h4, h5⟩, h6, h7, h8, h9⟩ := h
  exact ⟨by simpa using h1, ⟨by simp [go_sem, h2], by simp [go_sem, h3], by simp [go_sem, h4], by simp [go_sem, h5]⟩, by simp [go_sem, h6], by simp [go_sem, h7], by simp [go_sem, h8], by simp [go_sem, h9]⟩

set_option maxHeartbeats 1000000 in
theorem moved_plain (g t bx b x y X Y : Int) (w : World) (T : TurnIs g x y t X Y) (h1 : -1152921504606846976 ≤ X + bx ∧ X + bx ≤ 1152921504606846976) (h2 : -1152921504606846976 ≤ Y + b ∧ Y + b ≤ 1152921504606846976) :
    Calls Tryd.prog 77 #[.int .i64 g, .agg #[.int .i64 t, .bool false, .int .i64 bx, .int .i64 b], .agg #[.int .i64 x, .int .i64 y]] w fun e w' => e = .returned (.agg #[.int .i64 (X + bx), .int .i64 (Y + b)]) ∧ Below w.heap.size w w' := by
  go_enter Tryd.func77, Tryd.ntmps77
  go_wp2_with fail
  refine (T _).mono ?_
  rintro e w1 ⟨rfl, hb⟩
  have M := (((OwnM.new w t false bx b 41).alloc (.cells #[.int .i64 x, .int .i64 y] 33)).alloc (.cells #[.int .i64 0, .int .i64 0] 33)).keep hb
  have O := ((Own.new (w.alloc (.cells #[.int .i64 t, .bool false, .int .i64 bx, .int .i64 b] 41)) x y 33).alloc (.cells #[.int .i64 0, .int .i64 0] 33)).keep hb
  have R := (Own.new ((w.alloc (.cells #[.int .i64 t, .bool false, .int .i64 bx, .int .i64 b] 41)).alloc (.cells #[.int .i64 x, .int .i64 y] 33)) 0 0 33).keep hb
  have S := btrans (bal (bal (bal (Below.refl _ _)))) hb
  simp only [World.size_alloc] at O R
  clear hb
  have q1 := M.2.1
  have q2 := O.2
  have q3 := R.2
  go_wp2
  exact bodyPost_ret (v := .agg #[.int .i64 (X + bx), .int .i64 (Y + b)]) (by simp [results, Tryd.results77, go_sem, q3]) rfl ⟨rfl, bset (bset (bset (bset S (by dsimp only; omega)) (by dsimp only; omega)) (by dsimp only; omega)) (by dsimp only; omega)⟩

set_option maxHeartbeats 1000000 in
theorem moved_flip (g t bx b x y u v X Y : Int) (w : World) (M : MirrIs g x y u v) (T : TurnIs g u v t X Y) (h1 : -1152921504606846976 ≤ X + bx ∧ X + bx ≤ 1152921504606846976) (h2 : -1152921504606846976 ≤ Y + b ∧ Y + b ≤ 1152921504606846976) :
    Calls Tryd.prog 77 #[.int .i64 g, .agg #[.int .i64 t, .bool true, .int .i64 bx, .int .i64 b], .agg #[.int .i64 x, .int .i64 y]] w fun e w' => e = .returned (.agg #[.int .i64 (X + bx), .int .i64 (Y + b)]) ∧ Below w.heap.size w w' := by
  go_enter Tryd.func77, Tryd.ntmps77
  go_wp2_with fail
  refine (M _).mono ?_
  rintro e w1 ⟨rfl, hb⟩
  have M := (((OwnM.new w t true bx b 41).alloc (.cells #[.int .i64 x, .int .i64 y] 33)).alloc (.cells #[.int .i64 0, .int .i64 0] 33)).keep hb
  have O := ((Own.new (w.alloc (.cells #[.int .i64 t, .bool true, .int .i64 bx, .int .i64 b] 41)) x y 33).alloc (.cells #[.int .i64 0, .int .i64 0] 33)).keep hb
  have R := (Own.new ((w.alloc (.cells #[.int .i64 t, .bool true, .int .i64 bx, .int .i64 b] 41)).alloc (.cells #[.int .i64 x, .int .i64 y] 33)) 0 0 33).keep hb
  have S := btrans (bal (bal (bal (Below.refl _ _)))) hb
  simp only [World.size_alloc] at O R
  clear hb
  have q1 := M.2.1
  have q2 := O.2
  go_wp2_with fail
  clear q1 q2
  have M2 := (M.far (c := w.heap.size + 1) (o := 0) (v := .int .i64 u) (by omega)).far (c := w.heap.size + 1) (o := 1) (v := .int .i64 v) (by omega)
  have O2 := O.set u v
  have R2 := (R.far (c := w.heap.size + 1) (o := 0) (v := .int .i64 u) (by omega)).far (c := w.heap.size + 1) (o := 1) (v := .int .i64 v) (by omega)
  have S2 := bset (p := ⟨w.heap.size + 1, 1, none⟩) (u := .int .i64 v) (bset (p := ⟨w.heap.size + 1, 0, none⟩) (u := .int .i64 u) S (by dsimp only; omega)) (by dsimp only; omega)
  clear M O R S
  refine (T _).mono ?_
  rintro e w2 ⟨rfl, hb⟩
  have M3 := M2.keep hb
  have O3 := O2.keep hb
  have R3 := R2.keep hb
  have S3 := btrans S2 hb
  clear M2 O2 R2 S2 hb
  have q1 := M3.2.1
  have q2 := O3.2
  have q3 := R3.2
  go_wp2
  exact bodyPost_ret (v := .agg #[.int .i64 (X + bx), .int .i64 (Y + b)]) (by simp [results, Tryd.results77, go_sem, q3]) rfl ⟨rfl, bset (bset (bset (bset S3 (by dsimp only; omega)) (by dsimp only; omega)) (by dsimp only; omega)) (by dsimp only; omega)⟩

def mi (g : Int) (f : Bool) (x y : Int) : Int × Int := match f with
  | true => (tq g x y, -y)
  | false => (x, y)
/-- where a move takes a point -/
def mv (g : Int) (t : Nat) (f : Bool) (bx b x y : Int) : Int × Int := ((tu g t (mi g f x y).1 (mi g f x y).2).1 + bx, (tu g t (mi g f x y).1 (mi g f x y).2).2 + b)

theorem Sz.mi {g M x y : Int} (h : Sz g M x y) (f : Bool) : Sz g M (mi g f x y).1 (mi g f x y).2 := by
  cases f with
  | false => exact h
  | true =>
    show Sz g M (tq g x y) (-y)
    unfold Sz tq at *
    by_cases e : g = 6
    · simp only [e, if_true] at *; have := h.2.2 trivial; omega
    · rw [if_neg e]; exact ⟨by omega, by omega, fun k => absurd k e⟩
theorem Sz.add {g M N x y u v : Int} (h : Sz g M x y) (k : Sz g N u v) : Sz g (M + N) (x + u) (y + v) := by
  unfold Sz at *
  refine ⟨by omega, by omega, fun e => ?_⟩
  have := h.2.2 e
  have := k.2.2 e
  omega
theorem Sz.mv {g M N bx b x y : Int} (h : Sz g M x y) (k : Sz g N bx b) (t : Nat) (f : Bool) : Sz g (M + N) (mv g t f bx b x y).1 (mv g t f bx b x y).2 :=
  Sz.add ((h.mi f).tu t) k
theorem Sz.mono {g M N x y : Int} (h : Sz g M x y) (k : M ≤ N) : Sz g N x y := by
  unfold Sz at *
  refine ⟨by omega, by omega, fun e => ?_⟩
  have := h.2.2 e
  omega

theorem moved_any (g : Int) (t : Nat) (f : Bool) (bx b x y : Int) (w : World) (hg : g = 4 ∨ g = 6) (ht : t ≤ 6) (h : Sz g 268435456 x y) (k : Sz g 268435456 bx b) :
    Calls Tryd.prog 77 #[.int .i64 g, .agg #[.int .i64 t, .bool f, .int .i64 bx, .int .i64 b], .agg #[.int .i64 x, .int .i64 y]] w fun e w' => e = .returned (.agg #[.int .i64 (mv g t f bx b x y).1, .int .i64 (mv g t f bx b x y).2]) ∧ Below w.heap.size w w' := by
  have hm := h.mi f
  have hs := h.mv k t f
  unfold Sz at hs
  cases f with
  | false => exact moved_plain g t bx b x y _ _ w (fun W => turned_any g x y t W hg ht h) (show -1152921504606846976 ≤ (mv g t false bx b x y).1 ∧ (mv g t false bx b x y).1 ≤ 1152921504606846976 by omega) (show -1152921504606846976 ≤ (mv g t false bx b x y).2 ∧ (mv g t false bx b x y).2 ≤ 1152921504606846976 by omega)
  | true => exact moved_flip g t bx b x y (tq g x y) (-y) _ _ w (fun W => mirror_any g x y hg h W) (fun W => turned_any g (tq g x y) (-y) t W hg ht hm) (show -1152921504606846976 ≤ (mv g t true bx b x y).1 ∧ (mv g t true bx b x y).1 ≤ 1152921504606846976 by omega) (show -1152921504606846976 ≤ (mv g t true bx b x y).2 ∧ (mv g t true bx b x y).2 ≤ 1152921504606846976 by omega)

end Go.Proofs.YtpcajcgafmmlkaaDoor
