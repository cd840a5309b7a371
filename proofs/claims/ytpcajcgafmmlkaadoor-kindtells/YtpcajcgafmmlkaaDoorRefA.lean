/-
  What the reference's Grid, Small, Turned, Mirrored, plus, scaled, To and Wrong answer (walks over the translated code).
-/
import Derived.Test.YtpcajcgafmmlkaaDoorTurn
import Derived.Test.YtpcajcgafmmlkaaDoorMoves
namespace Go.Proofs.YtpcajcgafmmlkaaDoor
open Go.RowKit

/-- no sum of two of these wraps round -/
def bd (n : Int) : Prop := -1152921504606846976 ≤ n ∧ n ≤ 1152921504606846976

set_option maxHeartbeats 1000000 in
theorem rturned_any (g x y : Int) (hg : g = 4 ∨ g = 6) (w : World) (hx : bd x) (hy : bd y) :
    Calls Tryd.prog 52 #[.int .i64 g, .agg #[.int .i64 x, .int .i64 y]] w fun e w' => e = .returned (.agg #[.int .i64 (-y), .int .i64 (tq g x y)]) ∧ Below w.heap.size w w' := by
  unfold bd at hx hy
  rcases hg with rfl | rfl
  · rw [show tq 4 x y = x by simp [tq]]
    go_enter Tryd.func52, Tryd.ntmps52
    go_wp2
    exact bodyPost_ret (v := .agg #[.int .i64 (-y), .int .i64 x]) (by simp [results, Tryd.results52, go_sem]) rfl ⟨rfl, bal (bal (Below.refl _ _))⟩
  · rw [show tq 6 x y = x + y by simp [tq]]
    go_enter Tryd.func52, Tryd.ntmps52
    go_wp2
    exact bodyPost_ret (v := .agg #[.int .i64 (-y), .int .i64 (x + y)]) (by simp [results, Tryd.results52, go_sem]) rfl ⟨rfl, bal (bal (Below.refl _ _))⟩

set_option maxHeartbeats 1000000 in
theorem rmirrored_any (g x y : Int) (hg : g = 4 ∨ g = 6) (w : World) (hx : bd x) (hy : bd y) :
    Calls Tryd.prog 51 #[.int .i64 g, .agg #[.int .i64 x, .int .i64 y]] w fun e w' => e = .returned (.agg #[.int .i64 (tq g x y), .int .i64 (-y)]) ∧ Below w.heap.size w w' := by
  unfold bd at hx hy
  rcases hg with rfl | rfl
  · rw [show tq 4 x y = x by simp [tq]]
    go_enter Tryd.func51, Tryd.ntmps51
    go_wp2
    exact bodyPost_ret (v := .agg #[.int .i64 x, .int .i64 (-y)]) (by simp [results, Tryd.results51, go_sem]) rfl ⟨rfl, bal (bal (Below.refl _ _))⟩
  · rw [show tq 6 x y = x + y by simp [tq]]
    go_enter Tryd.func51, Tryd.ntmps51
    go_wp2
    exact bodyPost_ret (v := .agg #[.int .i64 (x + y), .int .i64 (-y)]) (by simp [results, Tryd.results51, go_sem]) rfl ⟨rfl, bal (bal (Below.refl _ _))⟩

set_option maxHeartbeats 1000000 in
theorem plus_any (x y u v : Int) (w : World) (hx : bd x) (hy : bd y) (hu : bd u) (hv : bd v) :
    Calls Tryd.prog 53 #[.agg #[.int .i64 x, .int .i64 y], .agg #[.int .i64 u, .int .i64 v]] w fun e w' => e = .returned (.agg #[.int .i64 (x + u), .int .i64 (y + v)]) ∧ Below w.heap.size w w' := by
  unfold bd at hx hy hu hv
  go_enter Tryd.func53, Tryd.ntmps53
  go_wp2
  exact bodyPost_ret (v := .agg #[.int .i64 (x + u), .int .i64 (y + v)]) (by simp [results, Tryd.results53, go_sem]) rfl ⟨rfl, bal (bal (bal (Below.refl _ _)))⟩

/-! ### Wrong -/
/-! ### To -/
def ToIs (g t : Int) (f : Bool) (bx b x y u v : Int) : Prop := ∀ W : World, Calls Tryd.prog 34 #[.int .i64 g, .agg #[.int .i64 t, .bool f, .int .i64 bx, .int .i64 b], .agg #[.int .i64 x, .int .i64 y]] W fun e w' => e = .returned (.agg #[.int .i64 u, .int .i64 v]) ∧ Below W.heap.size W w'

theorem Sz.bd {g M x y : Int} (h : Sz g M x y) (k : M ≤ 1152921504606846976) : bd x ∧ bd y := by
  unfold Sz at h; unfold YtpcajcgafmmlkaaDoor.bd; omega

set_option maxHeartbeats 2000000 in
theorem to_plain (g : Int) (n : Nat) (bx b x y : Int) (hg : g = 4 ∨ g = 6) (hn : n ≤ 6) (h : Sz g 268435456 x y) (k : Sz g 268435456 bx b) :
    ToIs g n false bx b x y ((tu g n x y).1 + bx) ((tu g n x y).2 + b) := by
  intro w
  have Hg := hide hg
  have Hs := hide (h.mi false)
  have Hk := hide (k.bd (by decide))
  clear hg h k
  go_enter Tryd.func34, Tryd.ntmps34
  go_wp2_with fail
  have M2 := ((OwnM.new w n false bx b 41).alloc (.cells #[.int .i64 x, .int .i64 y] 33)).alloc (.cells #[.int .i64 0, .int .i64 0] 33)
  have O2 := (Own.new (w.alloc (.cells #[.int .i64 n, .bool false, .int .i64 bx, .int .i64 b] 41)) x y 33).alloc (.cells #[.int .i64 0, .int .i64 0] 33)
  have R2 := Own.new ((w.alloc (.cells #[.int .i64 n, .bool false, .int .i64 bx, .int .i64 b] 41)).alloc (.cells #[.int .i64 x, .int .i64 y] 33)) 0 0 33
  have S2 := bal (o := .cells #[.int .i64 0, .int .i64 0] 33) (bal (o := .cells #[.int .i64 x, .int .i64 y] 33) (bal (o := .cells #[.int .i64 n, .bool false, .int .i64 bx, .int .i64 b] 41) (Below.refl w.heap.size w)))
  simp only [World.size_alloc] at O2 R2
  go_loopw [7] (fun i w1 => ∃ k : Nat, k ≤ n ∧ i = .int .i64 k ∧ Below w.heap.size w w1 ∧ OwnM w1 w.heap.size n false bx b ∧ Own w1 (w.heap.size + 1) (tu g k x y).1 (tu g k x y).2 ∧ Own w1 (w.heap.size + 1 + 1) 0 0) (fun i _ => n - (intOf i).toNat)
  case atStart => exact ⟨0, Nat.zero_le _, rfl, S2, M2, O2, R2⟩
  case round =>
    clear M2 O2 R2 S2
    obtain ⟨k, hk, rfl, hbel, M, O, R⟩ := hrel
    have hs := (show Sz g 268435456 x y from unhide Hs).tu k
    have hbd := hide (hs.bd (by decide))
    clear hs
    by_cases hlt : k < n
    · have hS : tu g (k + 1) x y = (-(tu g k x y).2, tq g (tu g k x y).1 (tu g k x y).2) := rfl
      have H1 := hide hS
      clear hS
      generalize (tu g k x y).1 = X at *
      generalize (tu g k x y).2 = Y at *
      have q0 := M.2.1
      have q1 := O.2
      go_wp2_with fail
      clear q0 q1
      refine (rturned_any g X Y (unhide Hg) _ (unhide hbd).1 (unhide hbd).2).mono ?_
      rintro e w2 ⟨rfl, hb2⟩
      have M3 := M.keep hb2
      have O3 := O.keep hb2
      have R3 := R.keep hb2
      have hb3 := btrans hbel hb2
      clear M O R hbel hb2
      have q1 := O3.2
      go_wp2
      go_roundw
      case rel => exact ⟨k + 1, by omega, by go_num, bset (bset hb3 (by dsimp only; omega)) (by dsimp only; omega), (M3.far (by omega)).far (by omega), by rw [unhide H1]; exact O3.set _ _, (R3.far (by omega)).far (by omega)⟩
      case measure => simp [intOf]; omega
    · have e : k = n := by omega
      subst e
      have cl : ¬ ((k : Int) < (k : Int)) := by omega
      generalize hX : (tu g k x y).1 = X at *
      generalize hY : (tu g k x y).2 = Y at *
      have HX := hide hX
      have HY := hide hY
      clear hX hY
      have q0 := M.2.1
      have q1 := O.2
      go_wp2_with fail
      clear q0 q1
      refine (plus_any X Y bx b _ (unhide hbd).1 (unhide hbd).2 (unhide Hk).1 (unhide Hk).2).mono ?_
      rintro e w2 ⟨rfl, hb2⟩
      have R3 := R.keep hb2
      have hb3 := btrans hbel hb2
      clear M O R hbel hb2
      have q2 := R3.2
      go_wp2
      exact bodyPost_ret (v := .agg #[.int .i64 (X + bx), .int .i64 (Y + b)]) (by simp [results, Tryd.results34, go_sem, q2]) rfl ⟨by rw [unhide HX, unhide HY], bset (bset hb3 (by dsimp only; omega)) (by dsimp only; omega)⟩

set_option maxHeartbeats 2000000 in
theorem to_flip (g : Int) (n : Nat) (bx b x y : Int) (hg : g = 4 ∨ g = 6) (hn : n ≤ 6) (h : Sz g 268435456 x y) (k : Sz g 268435456 bx b) :
    ToIs g n true bx b x y ((tu g n (tq g x y) (-y)).1 + bx) ((tu g n (tq g x y) (-y)).2 + b) := by
  intro w
  have Hg := hide hg
  have Hs := hide (h.mi true)
  have Hm := hide (rmirrored_any g x y hg)
  have Hb := hide (h.bd (by decide))
  have Hk := hide (k.bd (by decide))
  clear hg h k
  go_enter Tryd.func34, Tryd.ntmps34
  go_wp2_with fail
  refine (unhide Hm _ (unhide Hb).1 (unhide Hb).2).mono ?_
  rintro e w1 ⟨rfl, hb⟩
  have M := (((OwnM.new w n true bx b 41).alloc (.cells #[.int .i64 x, .int .i64 y] 33)).alloc (.cells #[.int .i64 0, .int .i64 0] 33)).keep hb
  have O := ((Own.new (w.alloc (.cells #[.int .i64 n, .bool true, .int .i64 bx, .int .i64 b] 41)) x y 33).alloc (.cells #[.int .i64 0, .int .i64 0] 33)).keep hb
  have R := (Own.new ((w.alloc (.cells #[.int .i64 n, .bool true, .int .i64 bx, .int .i64 b] 41)).alloc (.cells #[.int .i64 x, .int .i64 y] 33)) 0 0 33).keep hb
  have S := btrans (bal (bal (bal (Below.refl _ _)))) hb
  simp only [World.size_alloc] at O R
  clear hb
  have q1 := M.2.1
  have q2 := O.2
  generalize hX0 : tq g x y = X0 at *
  generalize hY0 : -y = Y0 at *
  have HX0 := hide hX0
  have HY0 := hide hY0
  clear hX0 hY0
  go_wp2_with fail
  clear q1 q2
  have M2 := (M.far (c := w.heap.size + 1) (o := 0) (v := .int .i64 X0) (by omega)).far (c := w.heap.size + 1) (o := 1) (v := .int .i64 Y0) (by omega)
  have O2 := O.set X0 Y0
  have R2 := (R.far (c := w.heap.size + 1) (o := 0) (v := .int .i64 X0) (by omega)).far (c := w.heap.size + 1) (o := 1) (v := .int .i64 Y0) (by omega)
  have S2 := bset (p := ⟨w.heap.size + 1, 1, none⟩) (u := .int .i64 Y0) (bset (p := ⟨w.heap.size + 1, 0, none⟩) (u := .int .i64 X0) S (by dsimp only; omega)) (by dsimp only; omega)
  clear M O R S
  go_loopw [7] (fun i w1 => ∃ k : Nat, k ≤ n ∧ i = .int .i64 k ∧ Below w.heap.size w w1 ∧ OwnM w1 w.heap.size n true bx b ∧ Own w1 (w.heap.size + 1) (tu g k X0 Y0).1 (tu g k X0 Y0).2 ∧ Own w1 (w.heap.size + 1 + 1) 0 0) (fun i _ => n - (intOf i).toNat)
  case atStart => exact ⟨0, Nat.zero_le _, rfl, S2, M2, O2, R2⟩
  case round =>
    clear M2 O2 R2 S2
    obtain ⟨k, hk, rfl, hbel, M, O, R⟩ := hrel
    have hs := (show Sz g 268435456 X0 Y0 by have := unhide Hs; simp only [mi, unhide HX0, unhide HY0] at this; exact this).tu k
    have hbd := hide (hs.bd (by decide))
    clear hs
    by_cases hlt : k < n
    · have hS : tu g (k + 1) X0 Y0 = (-(tu g k X0 Y0).2, tq g (tu g k X0 Y0).1 (tu g k X0 Y0).2) := rfl
      have H1 := hide hS
      clear hS
      generalize (tu g k X0 Y0).1 = X at *
      generalize (tu g k X0 Y0).2 = Y at *
      have q0 := M.2.1
      have q1 := O.2
      go_wp2_with fail
      clear q0 q1
      refine (rturned_any g X Y (unhide Hg) _ (unhide hbd).1 (unhide hbd).2).mono ?_
      rintro e w2 ⟨rfl, hb2⟩
      have M3 := M.keep hb2
      have O3 := O.keep hb2
      have R3 := R.keep hb2
      have hb3 := btrans hbel hb2
      clear M O R hbel hb2
      have q1 := O3.2
      go_wp2
      go_roundw
      case rel => exact ⟨k + 1, by omega, by go_num, bset (bset hb3 (by dsimp only; omega)) (by dsimp only; omega), (M3.far (by omega)).far (by omega), by rw [unhide H1]; exact O3.set _ _, (R3.far (by omega)).far (by omega)⟩
      case measure => simp [intOf]; omega
    · have e : k = n := by omega
      subst e
      have cl : ¬ ((k : Int) < (k : Int)) := by omega
      generalize hX : (tu g k X0 Y0).1 = X at *
      generalize hY : (tu g k X0 Y0).2 = Y at *
      have HX := hide hX
      have HY := hide hY
      clear hX hY
      have q0 := M.2.1
      have q1 := O.2
      go_wp2_with fail
      clear q0 q1
      refine (plus_any X Y bx b _ (unhide hbd).1 (unhide hbd).2 (unhide Hk).1 (unhide Hk).2).mono ?_
      rintro e w2 ⟨rfl, hb2⟩
      have R3 := R.keep hb2
      have hb3 := btrans hbel hb2
      clear M O R hbel hb2
      have q2 := R3.2
      go_wp2
      exact bodyPost_ret (v := .agg #[.int .i64 (X + bx), .int .i64 (Y + b)]) (by simp [results, Tryd.results34, go_sem, q2]) rfl ⟨by rw [unhide HX0, unhide HY0, unhide HX, unhide HY], bset (bset hb3 (by dsimp only; omega)) (by dsimp only; omega)⟩

theorem to_any (g t : Int) (f : Bool) (bx b x y : Int) (hg : g = 4 ∨ g = 6) (ht : 0 ≤ t ∧ t < g) (h : Sz g 268435456 x y) (k : Sz g 268435456 bx b) : ToIs g t f bx b x y (mv g t.toNat f bx b x y).1 (mv g t.toNat f bx b x y).2 := by
  obtain ⟨n, rfl⟩ := Int.eq_ofNat_of_zero_le ht.1
  cases f with
  | false => exact to_plain g n bx b x y hg (by omega) h k
  | true => exact to_flip g n bx b x y hg (by omega) h k

end Go.Proofs.YtpcajcgafmmlkaaDoor
