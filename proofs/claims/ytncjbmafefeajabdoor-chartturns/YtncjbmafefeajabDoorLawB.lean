/-
  The walks of alive and of ChartGoes: they answer true.
-/
import Derived.Test.YtncjbmafefeajabDoorReadE
namespace Go.Proofs.YtncjbmafefeajabDoor
open Go.RowKit

abbrev aliveS : ByteArray := { data := #[226, 150, 161, 10, 194, 183, 226, 150, 136, 10] }
theorem alive_text : Text aliveS 4 [[0, 1]] := by
  have d : Lib.decodeGo aliveS = (9633, 3) := by decide +kernel
  refine ⟨by decide, Or.inl rfl, by rw [d]; decide, by rw [d]; decide, ?_⟩
  rw [d]
  have s4 : signAt aliveS 4 = some (0, 2) := by decide +kernel
  have s6 : signAt aliveS 6 = some (1, 3) := by decide +kernel
  have s9 : signAt aliveS 9 = none := by decide +kernel
  have h := RowsPre.snoc (s := aliveS) (a := 4) .nil (.snoc (.snoc .nil s4) s6) s9 (by simp) (by decide) (by decide)
  exact ⟨_, h, by simp, by decide⟩

set_option maxHeartbeats 2000000 in
theorem alive_any (W : World) (hT : Tabs W) : Calls Tryd.prog 12 #[] W fun e w' => e = .returned (.bool true) ∧ Below W.heap.size W w' := by
  have HR := hide (read_text aliveS 4 [[0, 1]] W alive_text hT)
  clear hT
  go_enter Tryd.func12, Tryd.ntmps12
  go_wp2_with fail
  refine (unhide HR).mono ?_
  rintro e w1 ⟨q, cap, rfl, hown, hb⟩
  simp only [headLen, List.headD, List.length_cons, List.length_nil]
  have hl : (lowCells [[0, 1]] 1).length = 2 := by decide
  go_wp2
  go_ret
  exact ⟨rfl, by first | exact bal (bal hb) | exact hb⟩

theorem atX_goes (w h : Int) (px : Nat → Int) (x y n m : Int) : atX w h px (x + n * w) (y + m * h) = atX w h px x y := by
  unfold atX
  rw [Int.add_mul_emod_self_right, Int.add_mul_emod_self_right]

set_option maxHeartbeats 4000000 in
theorem goes_far (g w h : Int) (p : Option Addr) (n cap : Nat) (x y a b : Int) (W : World) (hT : Tabs W)
    (q : a < -1000 ∨ (¬ a < -1000 ∧ 1000 < a) ∨ (¬ a < -1000 ∧ ¬ 1000 < a ∧ b < -1000) ∨ (¬ a < -1000 ∧ ¬ 1000 < a ∧ ¬ b < -1000 ∧ 1000 < b) ∨ (¬ a < -1000 ∧ ¬ 1000 < a ∧ ¬ b < -1000 ∧ ¬ 1000 < b ∧ 1048576 < x) ∨ (¬ a < -1000 ∧ ¬ 1000 < a ∧ ¬ b < -1000 ∧ ¬ 1000 < b ∧ ¬ 1048576 < x ∧ x < -1048576) ∨ (¬ a < -1000 ∧ ¬ 1000 < a ∧ ¬ b < -1000 ∧ ¬ 1000 < b ∧ ¬ 1048576 < x ∧ ¬ x < -1048576 ∧ 1048576 < y) ∨ (¬ a < -1000 ∧ ¬ 1000 < a ∧ ¬ b < -1000 ∧ ¬ 1000 < b ∧ ¬ 1048576 < x ∧ ¬ x < -1048576 ∧ ¬ 1048576 < y ∧ y < -1048576)) :
    Calls Tryd.prog 5 #[ch g w h p n cap, .agg #[.int .i64 x, .int .i64 y], .int .i64 a, .int .i64 b] W fun e w' => e = .returned (.bool true) ∧ Below W.heap.size W w' := by
  have B0 := bal (o := .cells #[.int .i64 x, .int .i64 y] 26) (bal (o := .cells #[.int .i64 g, .int .i64 w, .int .i64 h, .slice p n cap] 24) (Below.refl W.heap.size W))
  have HA := hide (alive_any _ (hT.keep B0))
  have Z0 := Own.new (W.alloc (.cells #[.int .i64 g, .int .i64 w, .int .i64 h, .slice p n cap] 24)) x y 26
  rw [World.size_alloc] at Z0
  clear hT
  rcases q with q | ⟨q1, q⟩ | ⟨q1, q2, q⟩ | ⟨q1, q2, q3, q⟩ | ⟨q1, q2, q3, q4, q⟩ | ⟨q1, q2, q3, q4, q5, q⟩ | ⟨q1, q2, q3, q4, q5, q6, q⟩ | ⟨q1, q2, q3, q4, q5, q6, q7, q⟩
  all_goals
    go_enter Tryd.func5, Tryd.ntmps5
    go_wp2_with fail
    refine (unhide HA).mono ?_
    rintro e w1 ⟨rfl, hb⟩
    have z := (Z0.keep hb).2
    have S1 := btrans B0 hb
    clear hb HA
    go_wp2
    go_ret
    exact ⟨rfl, S1⟩

set_option maxHeartbeats 4000000 in
theorem goes_near (g w h : Int) (p : Option Addr) (n cap : Nat) (px : Nat → Int) (x y a b : Int) (W : World) (hc : Cells W p n px) (hT : Tabs W) (q1 : ¬ a < -1000) (q2 : ¬ 1000 < a) (q3 : ¬ b < -1000) (q4 : ¬ 1000 < b) (q5 : ¬ 1048576 < x) (q6 : ¬ x < -1048576) (q7 : ¬ 1048576 < y) (q8 : ¬ y < -1048576) :
    Calls Tryd.prog 5 #[ch g w h p n cap, .agg #[.int .i64 x, .int .i64 y], .int .i64 a, .int .i64 b] W fun e w' => e = .returned (.bool true) ∧ Below W.heap.size W w' := by
  have B0 := bal (o := .cells #[.int .i64 x, .int .i64 y] 26) (bal (o := .cells #[.int .i64 g, .int .i64 w, .int .i64 h, .slice p n cap] 24) (Below.refl W.heap.size W))
  have HA := hide (alive_any _ (hT.keep B0))
  have K0 := hc.keep B0
  have C0 := (OwnC.new W g w h p n cap 24).alloc (.cells #[.int .i64 x, .int .i64 y] 26)
  have Z0 := Own.new (W.alloc (.cells #[.int .i64 g, .int .i64 w, .int .i64 h, .slice p n cap] 24)) x y 26
  rw [World.size_alloc] at Z0
  by_cases e : wE g w h n px = 0
  · obtain ⟨-, hw, hh, -⟩ := wE_zero g w h p n px W hc e
    have m1 : -64000 ≤ a * w ∧ a * w ≤ 64000 := by
      have k1 := Int.mul_le_mul_of_nonneg_right (a := a) (b := 1000) (c := w) (by omega) (by omega)
      have k2 := Int.mul_le_mul_of_nonneg_right (a := -1000) (b := a) (c := w) (by omega) (by omega)
      omega
    have m2 : -64000 ≤ b * h ∧ b * h ≤ 64000 := by
      have k1 := Int.mul_le_mul_of_nonneg_right (a := b) (b := 1000) (c := h) (by omega) (by omega)
      have k2 := Int.mul_le_mul_of_nonneg_right (a := -1000) (b := b) (c := h) (by omega) (by omega)
      omega
    have H1 := hide (fun V (hc : Cells V p n px) => at_any g w h p n cap px x y V hc)
    have H2 := hide (fun V (hc : Cells V p n px) => at_any g w h p n cap px (x + a * w) (y + b * h) V hc)
    have ev : atV g w h n px (x + a * w) (y + b * h) = atV g w h n px x y := by unfold atV; rw [if_pos e, if_pos e, atX_goes]
    rw [ev, e] at H2
    rw [e] at H1
    generalize atV g w h n px x y = av at *
    clear hc hT e ev hw hh
    go_enter Tryd.func5, Tryd.ntmps5
    go_wp2_with fail
    refine (unhide HA).mono ?_
    rintro e w1 ⟨rfl, hb⟩
    have z := (Z0.keep hb).2
    have c := (C0.keep hb).2
    have S1 := btrans B0 hb
    have K1 := K0.keep hb
    have hb1 := hb
    clear hb HA
    go_wp2_with fail
    clear z c
    refine (unhide H1 _ K1).mono ?_
    rintro e w2 ⟨rfl, hb⟩
    have z := ((Z0.keep hb1).keep hb).2
    have c := ((C0.keep hb1).keep hb).2
    have S2 := btrans S1 hb
    have K2 := K1.keep hb
    clear hb hb1 K1 S1
    go_wp2_with fail
    clear z c
    refine (unhide H2 _ K2).mono ?_
    rintro e w3 ⟨rfl, hb⟩
    have S3 := btrans S2 hb
    go_wp2
    go_ret
    exact ⟨rfl, S3⟩
  · have H1 := hide (fun X Y V (hc : Cells V p n px) => at_err g w h p n cap px X Y V hc _ rfl (wE_pos g w h n px e))
    generalize wE g w h n px = er at *
    clear hc hT e
    go_enter Tryd.func5, Tryd.ntmps5
    go_wp2_with fail
    refine (unhide HA).mono ?_
    rintro e w1 ⟨rfl, hb⟩
    have z := (Z0.keep hb).2
    have c := (C0.keep hb).2
    have S1 := btrans B0 hb
    have K1 := K0.keep hb
    have hb1 := hb
    clear hb HA
    go_wp2_with fail
    clear z c
    refine (unhide H1 _ _ _ K1).mono ?_
    rintro e w2 ⟨rfl, hb⟩
    have z := ((Z0.keep hb1).keep hb).2
    have c := ((C0.keep hb1).keep hb).2
    have S2 := btrans S1 hb
    have K2 := K1.keep hb
    clear hb hb1 K1 S1
    go_wp2_with fail
    clear z c
    refine (unhide H1 _ _ _ K2).mono ?_
    rintro e w3 ⟨rfl, hb⟩
    have S3 := btrans S2 hb
    go_wp2
    go_ret
    exact ⟨rfl, S3⟩

theorem goes_walk (g w h : Int) (p : Option Addr) (n cap : Nat) (px : Nat → Int) (x y a b : Int) (W : World) (hc : Cells W p n px) (hT : Tabs W) :
    Calls Tryd.prog 5 #[ch g w h p n cap, .agg #[.int .i64 x, .int .i64 y], .int .i64 a, .int .i64 b] W fun e w' => e = .returned (.bool true) ∧ Below W.heap.size W w' := by
  by_cases q1 : a < -1000
  · exact goes_far g w h p n cap x y a b W hT (Or.inl q1)
  by_cases q2 : 1000 < a
  · exact goes_far g w h p n cap x y a b W hT (by omega)
  by_cases q3 : b < -1000
  · exact goes_far g w h p n cap x y a b W hT (by omega)
  by_cases q4 : 1000 < b
  · exact goes_far g w h p n cap x y a b W hT (by omega)
  by_cases q5 : 1048576 < x
  · exact goes_far g w h p n cap x y a b W hT (by omega)
  by_cases q6 : x < -1048576
  · exact goes_far g w h p n cap x y a b W hT (by omega)
  by_cases q7 : 1048576 < y
  · exact goes_far g w h p n cap x y a b W hT (by omega)
  by_cases q8 : y < -1048576
  · exact goes_far g w h p n cap x y a b W hT (by omega)
  exact goes_near g w h p n cap px x y a b W hc hT q1 q2 q3 q4 q5 q6 q7 q8
end Go.Proofs.YtncjbmafefeajabDoor
