/-
  What the reference's Gcd answers: a greatest divisor, the one that is told.
-/
import Derived.Test.YtfopjkcnfngbpaaRTimes
namespace Go.Proofs.Ytfopjkcnfngbpaa
open Go.RowKit

def RGcdIs (g ax ay bx b : Int) (Q : Int → Int → Prop) : Prop := ∀ W : World, Calls Try.prog 13 #[.int .i64 g, .agg #[.int .i64 ax, .int .i64 ay], .agg #[.int .i64 bx, .int .i64 b]] W fun e w' => (∃ u v, e = .returned (.tuple #[.agg #[.int .i64 u, .int .i64 v], .int .i64 0]) ∧ Q u v) ∧ Below W.heap.size W w'
/-- how many turns it takes -/
def stp (g : Int) : Nat → Int → Int → Nat
  | 0, _, _ => 0
  | n + 1, x, y => if 0 < x ∧ 0 ≤ y then 0 else 1 + stp g n (-y) (tq g x y)
theorem stp_succ (g : Int) (n : Nat) (x y : Int) : stp g (n + 1) x y = if 0 < x ∧ 0 ≤ y then 0 else 1 + stp g n (-y) (tq g x y) := rfl
theorem tu_turn (g : Int) (j : Nat) (x y : Int) : tu g j (-y) (tq g x y) = tu g (j + 1) x y := by
  induction j with
  | zero => rfl
  | succ j ih => simp only [tu] at ih ⊢; rw [ih]
theorem stp_same (g : Int) : ∀ (n : Nat) (x y : Int), (∃ j, j < n ∧ Can (tu g j x y).1 (tu g j x y).2) → stp g (n + 1) x y = stp g n x y := by
  intro n
  induction n with
  | zero => rintro x y ⟨j, hj, _⟩; omega
  | succ n ih =>
    rintro x y ⟨j, hj, hc⟩
    rw [stp_succ g (n + 1) x y, stp_succ g n x y]
    split
    · rfl
    · rename_i hn
      have : j ≠ 0 := by
        rintro rfl
        exact hn hc
      obtain ⟨i, rfl⟩ : ∃ i, j = i + 1 := ⟨j - 1, by omega⟩
      rw [ih (-y) (tq g x y) ⟨i, by omega, by rw [tu_turn]; exact hc⟩]
theorem stp_less (g : Nat) (x y : Int) (hg : (g : Int) = 4 ∨ (g : Int) = 6) (hz : ¬ (x = 0 ∧ y = 0)) (hn : ¬ (0 < x ∧ 0 ≤ y)) : stp g g (-y) (tq g x y) < stp g g x y := by
  obtain ⟨j, hj, hc⟩ : ∃ j, j < g ∧ Can (tu g j x y).1 (tu g j x y).2 := by
    by_cases h : ∃ j, j < g ∧ Can (tu g j x y).1 (tu g j x y).2
    · exact h
    · exact absurd (can_some g x y hg (fun j hj hc => h ⟨j, hj, hc⟩)) hz
  obtain ⟨m, rfl⟩ : ∃ m, g = m + 1 := ⟨g - 1, by omega⟩
  have : j ≠ 0 := by
    rintro rfl
    exact hn hc
  obtain ⟨i, rfl⟩ : ∃ i, j = i + 1 := ⟨j - 1, by omega⟩
  have e := stp_same ((m + 1 : Nat) : Int) m (-y) (tq ((m + 1 : Nat) : Int) x y) ⟨i, by omega, by rw [tu_turn]; exact hc⟩
  rw [e]
  rw [stp_succ _ m x y, if_neg hn]
  omega

set_option maxRecDepth 100000 in
set_option maxHeartbeats 8000000 in
theorem rgcd_loop (g : Nat) (ax ay bx b : Int) (w : World) (hg : Hid ((g : Int) = 4 ∨ (g : Int) = 6)) (ok : okg g = true) (s1 : sm2 ax ay = true) (s2 : sm2 bx b = true) (I : Int → Int → Int → Int → Prop) (Q : Int → Int → Prop)
    (I0 : Hid (I ax ay bx b)) (St : Hid (∀ a1 a2 b1 b2, I a1 a2 b1 b2 → ¬ (b1 = 0 ∧ b2 = 0) → RestIs g a1 a2 b1 b2 (fun r1 r2 => (nn g r1 r2).toNat < (nn g b1 b2).toNat ∧ I b1 b2 r1 r2)))
    (SM : Hid (∀ a1 a2, I a1 a2 0 0 → nn g a1 a2 ≤ Mx))
    (U : Hid (∀ a1 a2, I a1 a2 0 0 → ∀ k, (Can (tu g k a1 a2).1 (tu g k a1 a2).2 ∨ ((tu g k a1 a2).1 = 0 ∧ (tu g k a1 a2).2 = 0)) → Q (tu g k a1 a2).1 (tu g k a1 a2).2)) :
    Calls Try.prog 13 #[.int .i64 g, .agg #[.int .i64 ax, .int .i64 ay], .agg #[.int .i64 bx, .int .i64 b]] w fun e w' => (∃ u v, e = .returned (.tuple #[.agg #[.int .i64 u, .int .i64 v], .int .i64 0]) ∧ Q u v) ∧ Below w.heap.size w w' := by
  have R0 : GcdBx w ax ay bx b (((w.alloc (.cells #[.int .i64 ax, .int .i64 ay] 23)).alloc (.cells #[.int .i64 bx, .int .i64 b] 23)).alloc (.cells #[.int .i64 0, .int .i64 0] 23)) := three w ax ay bx b
  have hg6 : (g : Int) ≤ 6 := by rcases unhide hg with h | h <;> omega
  go_enter Try.func13, Try.ntmps13
  go_wp2_with fail
  generalize ((w.alloc (.cells #[.int .i64 ax, .int .i64 ay] 23)).alloc (.cells #[.int .i64 bx, .int .i64 b] 23)).alloc (.cells #[.int .i64 0, .int .i64 0] 23) = w0 at *
  refine (grid_any g _).mono ?_
  rintro e w1 ⟨rfl, rfl⟩
  have q1 := R0.2.1.2.1
  go_wp2_with fail
  clear q1
  refine (small_any ax ay _).mono ?_
  rintro e w2 ⟨rfl, hb⟩
  have R2 := R0.keep hb
  clear R0 hb
  have q1 := R2.2.2.1.2.1
  go_wp2_with fail
  clear q1
  refine (small_any bx b _).mono ?_
  rintro e w3 ⟨rfl, hb⟩
  have B0 := R2.keep hb
  clear R2 hb
  go_wp2_with fail
  go_loopw [] (fun W => ∃ a1 a2 b1 b2 : Int, GcdBx w a1 a2 b1 b2 W ∧ I a1 a2 b1 b2) (fun W => (nn g (cellInt W (w.heap.size + 1) 0) (cellInt W (w.heap.size + 1) 1)).toNat)
  case atStart => exact ⟨ax, ay, bx, b, B0, unhide I0⟩
  case round =>
    clear B0
    obtain ⟨a1, a2, b1, b2, B, inv⟩ := hrel
    have Inv := hide inv
    clear inv
    by_cases z1 : b1 = 0
    · subst z1
      by_cases z2 : b2 = 0
      · subst z2
        have q1 := B.2.2.1.2.1
        go_wp2_with fail
        clear q1
        have HU := hide (unhide U a1 a2 (unhide Inv))
        have HSM := hide (unhide SM a1 a2 (unhide Inv))
        go_loopw [] (fun W => ∃ k : Nat, GcdBx w (tu g k a1 a2).1 (tu g k a1 a2).2 0 0 W) (fun W => stp g g (cellInt W w.heap.size 0) (cellInt W w.heap.size 1))
        case atStart => exact ⟨0, B⟩
        case round =>
          clear B
          obtain ⟨k, B⟩ := hrel
          have HQ := hide (unhide HU k)
          have hnn := nn_tu' g k a1 a2
          have pT := parts_le g _ _ (show nn g (tu g k a1 a2).1 (tu g k a1 a2).2 ≤ 3298534883328 by rw [hnn]; exact unhide HSM)
          have HT1 := hide (show tu g (k + 1) a1 a2 = (-(tu g k a1 a2).2, tq g (tu g k a1 a2).1 (tu g k a1 a2).2) from rfl)
          clear hnn
          generalize hX : (tu g k a1 a2).1 = X at *
          generalize hY : (tu g k a1 a2).2 = Y at *
          clear hX hY
          have A4 : RTurnIs g X Y (-Y) (tq g X Y) := fun V => rturned_any g X Y (unhide hg) V (by unfold bd; omega) (by unfold bd; omega)
          have HB := B
          by_cases x0 : X = 0
          · by_cases y0 : Y = 0
            · subst x0
              subst y0
              have q1 := B.2.1.2.1
              have q2 := B.2.2.2.2
              go_wp2
              exact bodyPost_ret (v := .tuple #[.agg #[.int .i64 0, .int .i64 0], .int .i64 0]) (by simp [results, Try.results13, go_sem, q2]) rfl ⟨⟨0, 0, rfl, unhide HQ (by first | exact Or.inr ⟨rfl, rfl⟩ | simp)⟩, bset (bset B.1 (by dsimp only; omega)) (by dsimp only; omega)⟩
            · have y1 : (Y == 0) = false := by simp [y0]
              have x1 : X < 1 := by omega
              have HY0 := hide y0
              clear y0
              subst x0
              have Hl := hide (stp_less g 0 Y (unhide hg) (fun h => unhide HY0 h.2) (by omega))
              have q1 := B.2.1.2.1
              go_wp2_with fail
              clear q1
              refine (A4 _).mono ?_
              rintro e w5 ⟨rfl, hb⟩
              have B5 := B.keep hb
              clear B hb
              have q1 := B5.2.1.2
              go_wp2
              have B6 := B5.setA (-Y) (tq g 0 Y)
              go_roundw
              case rel => exact ⟨k + 1, by rw [unhide HT1]; exact B6⟩
              case measure =>
                rw [cellInt_of B6.2.1.2.1.1, cellInt_of B6.2.1.2.1.2, cellInt_of HB.2.1.2.1.1, cellInt_of HB.2.1.2.1.2]
                exact unhide Hl
          · have x1 : (X == 0) = false := by simp [x0]
            have HX0 := hide x0
            clear x0
            by_cases x2 : X < 1
            · have HX2 := hide x2
              have Hl := hide (stp_less g X Y (unhide hg) (fun h => unhide HX0 h.1) (by have := unhide HX2; omega))
              have q1 := B.2.1.2.1
              go_wp2_with fail
              clear q1
              refine (A4 _).mono ?_
              rintro e w5 ⟨rfl, hb⟩
              have B5 := B.keep hb
              clear B hb
              have q1 := B5.2.1.2
              go_wp2
              have B6 := B5.setA (-Y) (tq g X Y)
              go_roundw
              case rel => exact ⟨k + 1, by rw [unhide HT1]; exact B6⟩
              case measure =>
                rw [cellInt_of B6.2.1.2.1.1, cellInt_of B6.2.1.2.1.2, cellInt_of HB.2.1.2.1.1, cellInt_of HB.2.1.2.1.2]
                exact unhide Hl
            · have x3 : decide (X < 1) = false := by simp; omega
              by_cases y2 : Y < 0
              · have HY2 := hide y2
                have Hl := hide (stp_less g X Y (unhide hg) (fun h => unhide HX0 h.1) (by have := unhide HY2; omega))
                have q1 := B.2.1.2.1
                go_wp2_with fail
                clear q1
                refine (A4 _).mono ?_
                rintro e w5 ⟨rfl, hb⟩
                have B5 := B.keep hb
                clear B hb
                have q1 := B5.2.1.2
                go_wp2
                have B6 := B5.setA (-Y) (tq g X Y)
                go_roundw
                case rel => exact ⟨k + 1, by rw [unhide HT1]; exact B6⟩
                case measure =>
                  rw [cellInt_of B6.2.1.2.1.1, cellInt_of B6.2.1.2.1.2, cellInt_of HB.2.1.2.1.1, cellInt_of HB.2.1.2.1.2]
                  exact unhide Hl
              · have y3 : decide (Y < 0) = false := by simp; omega
                have HC := hide (show Can X Y from ⟨by omega, by omega⟩)
                have q1 := B.2.1.2.1
                have q2 := B.2.2.2.2
                go_wp2
                exact bodyPost_ret (v := .tuple #[.agg #[.int .i64 X, .int .i64 Y], .int .i64 0]) (by simp [results, Try.results13, go_sem, q2]) rfl ⟨⟨X, Y, rfl, unhide HQ (Or.inl (unhide HC))⟩, bset (bset B.1 (by dsimp only; omega)) (by dsimp only; omega)⟩
      · have Hne := hide (show ¬ ((0 : Int) = 0 ∧ b2 = 0) from fun h => z2 h.2)
        have z3 : (b2 == 0) = false := by simp [z2]
        clear z2
        have R1 := unhide St a1 a2 0 b2 (unhide Inv) (unhide Hne)
        have HB := B
        have q1 := B.2.2.1.2.1
        go_wp2_with fail
        clear q1
        refine wp_region_noPanic ?_
        refine wp_region_held_drew (S := fun W => Below w.heap.size w W) (by kernel_rfl) (Below.drew B.1) ?_
        intro _
        have B4 := B.keep (Below.drew (Below.refl _ _))
        clear B
        refine wpAnyH_take (i := 1) (oi := _) (v := .int .i64 g) g7_1 (by kernel_rfl) (by kernel_rfl) (by kernel_rfl) (fun _ _ _ h => h) (Or.inl ⟨by rfl, ?_⟩) (by assumption) ?_
        · intro w hSw
          try dsimp only at hSw
          go_simp
        simp only [Act.put, List.setIfInBounds_toArray, List.set_cons_zero, List.set_cons_succ]
        refine wpAnyH_ready (rs := [0, 2, 3]) (by kernel_rfl) (by simp) ?_
        refine AllReadyH.cons (o := _) g7_0 (fun K hK => ?_) (AllReadyH.cons (o := _) g7_2 (fun K hK => ?_) (AllReadyH.cons (o := _) g7_3 (fun K hK => ?_) AllReadyH.nil))
        · skip
          have q1 := B4.2.1.2.1
          have q2 := B4.2.2.1.2.1
          go_simp
          refine hK.out _ _ B4.1 (fun _ => ?_)
          clear hK K q1 q2
          refine wpAnyH_ready (rs := [2, 3]) (by kernel_rfl) (by simp) ?_
          refine AllReadyH.cons (o := _) g7_2 (fun K hK => ?_) (AllReadyH.cons (o := _) g7_3 (fun K hK => ?_) AllReadyH.nil)
          · skip
            have q1 := B4.2.1.2.1
            have q2 := B4.2.2.1.2.1
            go_simp
            refine hK.out _ _ B4.1 (fun _ => ?_)
            clear hK K q1 q2
            refine wpAnyH_ready (rs := [3]) (by kernel_rfl) (by simp) ?_
            refine AllReadyH.cons (o := _) g7_3 (fun K hK => ?_) AllReadyH.nil
            have q1 := B4.2.1.2.1
            have q2 := B4.2.2.1.2.1
            go_simp
            refine hK.out _ _ B4.1 (fun _ => ?_)
            clear hK K q1 q2
            refine wpAnyH_ready (rs := [4]) (by kernel_rfl) (by simp) ?_
            refine AllReadyH.cons (o := _) g7_4 (fun K hK => ?_) AllReadyH.nil
            go_simp
            refine (R1 _).mono ?_
            rintro e w5 ⟨⟨r1, r2, rfl, hless, inext⟩, hb⟩
            have Hless := hide hless
            have Inext := hide inext
            clear hless inext
            have B5 := B4.keep hb
            refine hK.out _ _ B5.1 (fun _ => ?_)
            clear hK K B4 hb
            have B20 := B5.setA 0 b2
            have q1 := B5.2.1.2
            refine wpAnyH_ready (rs := [5]) (by kernel_rfl) (by simp) ?_
            refine AllReadyH.cons (o := _) g7_5 (fun K hK => ?_) AllReadyH.nil
            go_simp
            refine hK.out _ _ B20.1 (fun _ => ?_)
            clear hK K q1 B5
            have B21 := B20.setB r1 r2
            have q1 := B20.2.2.1.2
            refine wpAnyH_ready (rs := [6]) (by kernel_rfl) (by simp) ?_
            refine AllReadyH.cons (o := _) g7_6 (fun K hK => ?_) AllReadyH.nil
            go_simp
            refine hK.out _ _ B21.1 (fun _ => ?_)
            refine wpAnyH_done (by kernel_rfl) ?_ _
            refine NoPanic.normal ?_
            clear hK K q1 B20
            go_wp2
            go_roundw
            case rel => exact ⟨0, b2, r1, r2, B21, unhide Inext⟩
            case measure =>
              rw [cellInt_of B21.2.2.1.2.1.1, cellInt_of B21.2.2.1.2.1.2, cellInt_of HB.2.2.1.2.1.1, cellInt_of HB.2.2.1.2.1.2]
              exact unhide Hless
          · skip
            have q1 := B4.2.1.2.1
            have q2 := B4.2.2.1.2.1
            go_simp
            refine hK.out _ _ B4.1 (fun _ => ?_)
            clear hK K q1 q2
            refine wpAnyH_ready (rs := [2]) (by kernel_rfl) (by simp) ?_
            refine AllReadyH.cons (o := _) g7_2 (fun K hK => ?_) AllReadyH.nil
            have q1 := B4.2.1.2.1
            have q2 := B4.2.2.1.2.1
            go_simp
            refine hK.out _ _ B4.1 (fun _ => ?_)
            clear hK K q1 q2
            refine wpAnyH_ready (rs := [4]) (by kernel_rfl) (by simp) ?_
            refine AllReadyH.cons (o := _) g7_4 (fun K hK => ?_) AllReadyH.nil
            go_simp
            refine (R1 _).mono ?_
            rintro e w5 ⟨⟨r1, r2, rfl, hless, inext⟩, hb⟩
            have Hless := hide hless
            have Inext := hide inext
            clear hless inext
            have B5 := B4.keep hb
            refine hK.out _ _ B5.1 (fun _ => ?_)
            clear hK K B4 hb
            have B20 := B5.setA 0 b2
            have q1 := B5.2.1.2
            refine wpAnyH_ready (rs := [5]) (by kernel_rfl) (by simp) ?_
            refine AllReadyH.cons (o := _) g7_5 (fun K hK => ?_) AllReadyH.nil
            go_simp
            refine hK.out _ _ B20.1 (fun _ => ?_)
            clear hK K q1 B5
            have B21 := B20.setB r1 r2
            have q1 := B20.2.2.1.2
            refine wpAnyH_ready (rs := [6]) (by kernel_rfl) (by simp) ?_
            refine AllReadyH.cons (o := _) g7_6 (fun K hK => ?_) AllReadyH.nil
            go_simp
            refine hK.out _ _ B21.1 (fun _ => ?_)
            refine wpAnyH_done (by kernel_rfl) ?_ _
            refine NoPanic.normal ?_
            clear hK K q1 B20
            go_wp2
            go_roundw
            case rel => exact ⟨0, b2, r1, r2, B21, unhide Inext⟩
            case measure =>
              rw [cellInt_of B21.2.2.1.2.1.1, cellInt_of B21.2.2.1.2.1.2, cellInt_of HB.2.2.1.2.1.1, cellInt_of HB.2.2.1.2.1.2]
              exact unhide Hless
        · skip
          have q1 := B4.2.1.2.1
          have q2 := B4.2.2.1.2.1
          go_simp
          refine hK.out _ _ B4.1 (fun _ => ?_)
          clear hK K q1 q2
          refine wpAnyH_ready (rs := [0, 3]) (by kernel_rfl) (by simp) ?_
          refine AllReadyH.cons (o := _) g7_0 (fun K hK => ?_) (AllReadyH.cons (o := _) g7_3 (fun K hK => ?_) AllReadyH.nil)
          · skip
            have q1 := B4.2.1.2.1
            have q2 := B4.2.2.1.2.1
            go_simp
            refine hK.out _ _ B4.1 (fun _ => ?_)
            clear hK K q1 q2
            refine wpAnyH_ready (rs := [3]) (by kernel_rfl) (by simp) ?_
            refine AllReadyH.cons (o := _) g7_3 (fun K hK => ?_) AllReadyH.nil
            have q1 := B4.2.1.2.1
            have q2 := B4.2.2.1.2.1
            go_simp
            refine hK.out _ _ B4.1 (fun _ => ?_)
            clear hK K q1 q2
            refine wpAnyH_ready (rs := [4]) (by kernel_rfl) (by simp) ?_
            refine AllReadyH.cons (o := _) g7_4 (fun K hK => ?_) AllReadyH.nil
            go_simp
            refine (R1 _).mono ?_
            rintro e w5 ⟨⟨r1, r2, rfl, hless, inext⟩, hb⟩
            have Hless := hide hless
            have Inext := hide inext
            clear hless inext
            have B5 := B4.keep hb
            refine hK.out _ _ B5.1 (fun _ => ?_)
            clear hK K B4 hb
            have B20 := B5.setA 0 b2
            have q1 := B5.2.1.2
            refine wpAnyH_ready (rs := [5]) (by kernel_rfl) (by simp) ?_
            refine AllReadyH.cons (o := _) g7_5 (fun K hK => ?_) AllReadyH.nil
            go_simp
            refine hK.out _ _ B20.1 (fun _ => ?_)
            clear hK K q1 B5
            have B21 := B20.setB r1 r2
            have q1 := B20.2.2.1.2
            refine wpAnyH_ready (rs := [6]) (by kernel_rfl) (by simp) ?_
            refine AllReadyH.cons (o := _) g7_6 (fun K hK => ?_) AllReadyH.nil
            go_simp
            refine hK.out _ _ B21.1 (fun _ => ?_)
            refine wpAnyH_done (by kernel_rfl) ?_ _
            refine NoPanic.normal ?_
            clear hK K q1 B20
            go_wp2
            go_roundw
            case rel => exact ⟨0, b2, r1, r2, B21, unhide Inext⟩
            case measure =>
              rw [cellInt_of B21.2.2.1.2.1.1, cellInt_of B21.2.2.1.2.1.2, cellInt_of HB.2.2.1.2.1.1, cellInt_of HB.2.2.1.2.1.2]
              exact unhide Hless
          · skip
            have q1 := B4.2.1.2.1
            have q2 := B4.2.2.1.2.1
            go_simp
            refine hK.out _ _ B4.1 (fun _ => ?_)
            clear hK K q1 q2
            refine wpAnyH_ready (rs := [0, 4]) (by kernel_rfl) (by simp) ?_
            refine AllReadyH.cons (o := _) g7_0 (fun K hK => ?_) (AllReadyH.cons (o := _) g7_4 (fun K hK => ?_) AllReadyH.nil)
            · skip
              have q1 := B4.2.1.2.1
              have q2 := B4.2.2.1.2.1
              go_simp
              refine hK.out _ _ B4.1 (fun _ => ?_)
              clear hK K q1 q2
              refine wpAnyH_ready (rs := [4]) (by kernel_rfl) (by simp) ?_
              refine AllReadyH.cons (o := _) g7_4 (fun K hK => ?_) AllReadyH.nil
              go_simp
              refine (R1 _).mono ?_
              rintro e w5 ⟨⟨r1, r2, rfl, hless, inext⟩, hb⟩
              have Hless := hide hless
              have Inext := hide inext
              clear hless inext
              have B5 := B4.keep hb
              refine hK.out _ _ B5.1 (fun _ => ?_)
              clear hK K B4 hb
              have B20 := B5.setA 0 b2
              have q1 := B5.2.1.2
              refine wpAnyH_ready (rs := [5]) (by kernel_rfl) (by simp) ?_
              refine AllReadyH.cons (o := _) g7_5 (fun K hK => ?_) AllReadyH.nil
              go_simp
              refine hK.out _ _ B20.1 (fun _ => ?_)
              clear hK K q1 B5
              have B21 := B20.setB r1 r2
              have q1 := B20.2.2.1.2
              refine wpAnyH_ready (rs := [6]) (by kernel_rfl) (by simp) ?_
              refine AllReadyH.cons (o := _) g7_6 (fun K hK => ?_) AllReadyH.nil
              go_simp
              refine hK.out _ _ B21.1 (fun _ => ?_)
              refine wpAnyH_done (by kernel_rfl) ?_ _
              refine NoPanic.normal ?_
              clear hK K q1 B20
              go_wp2
              go_roundw
              case rel => exact ⟨0, b2, r1, r2, B21, unhide Inext⟩
              case measure =>
                rw [cellInt_of B21.2.2.1.2.1.1, cellInt_of B21.2.2.1.2.1.2, cellInt_of HB.2.2.1.2.1.1, cellInt_of HB.2.2.1.2.1.2]
                exact unhide Hless
            · skip
              go_simp
              refine (R1 _).mono ?_
              rintro e w5 ⟨⟨r1, r2, rfl, hless, inext⟩, hb⟩
              have Hless := hide hless
              have Inext := hide inext
              clear hless inext
              have B5 := B4.keep hb
              refine hK.out _ _ B5.1 (fun _ => ?_)
              clear hK K B4 hb
              refine wpAnyH_ready (rs := [0]) (by kernel_rfl) (by simp) ?_
              refine AllReadyH.cons (o := _) g7_0 (fun K hK => ?_) AllReadyH.nil
              have q1 := B5.2.1.2.1
              have q2 := B5.2.2.1.2.1
              go_simp
              refine hK.out _ _ B5.1 (fun _ => ?_)
              clear hK K q1 q2
              have B20 := B5.setA 0 b2
              have q1 := B5.2.1.2
              refine wpAnyH_ready (rs := [5]) (by kernel_rfl) (by simp) ?_
              refine AllReadyH.cons (o := _) g7_5 (fun K hK => ?_) AllReadyH.nil
              go_simp
              refine hK.out _ _ B20.1 (fun _ => ?_)
              clear hK K q1 B5
              have B21 := B20.setB r1 r2
              have q1 := B20.2.2.1.2
              refine wpAnyH_ready (rs := [6]) (by kernel_rfl) (by simp) ?_
              refine AllReadyH.cons (o := _) g7_6 (fun K hK => ?_) AllReadyH.nil
              go_simp
              refine hK.out _ _ B21.1 (fun _ => ?_)
              refine wpAnyH_done (by kernel_rfl) ?_ _
              refine NoPanic.normal ?_
              clear hK K q1 B20
              go_wp2
              go_roundw
              case rel => exact ⟨0, b2, r1, r2, B21, unhide Inext⟩
              case measure =>
                rw [cellInt_of B21.2.2.1.2.1.1, cellInt_of B21.2.2.1.2.1.2, cellInt_of HB.2.2.1.2.1.1, cellInt_of HB.2.2.1.2.1.2]
                exact unhide Hless
        · skip
          have q1 := B4.2.1.2.1
          have q2 := B4.2.2.1.2.1
          go_simp
          refine hK.out _ _ B4.1 (fun _ => ?_)
          clear hK K q1 q2
          refine wpAnyH_ready (rs := [0, 2]) (by kernel_rfl) (by simp) ?_
          refine AllReadyH.cons (o := _) g7_0 (fun K hK => ?_) (AllReadyH.cons (o := _) g7_2 (fun K hK => ?_) AllReadyH.nil)
          · skip
            have q1 := B4.2.1.2.1
            have q2 := B4.2.2.1.2.1
            go_simp
            refine hK.out _ _ B4.1 (fun _ => ?_)
            clear hK K q1 q2
            refine wpAnyH_ready (rs := [2]) (by kernel_rfl) (by simp) ?_
            refine AllReadyH.cons (o := _) g7_2 (fun K hK => ?_) AllReadyH.nil
            have q1 := B4.2.1.2.1
            have q2 := B4.2.2.1.2.1
            go_simp
            refine hK.out _ _ B4.1 (fun _ => ?_)
            clear hK K q1 q2
            refine wpAnyH_ready (rs := [4]) (by kernel_rfl) (by simp) ?_
            refine AllReadyH.cons (o := _) g7_4 (fun K hK => ?_) AllReadyH.nil
            go_simp
            refine (R1 _).mono ?_
            rintro e w5 ⟨⟨r1, r2, rfl, hless, inext⟩, hb⟩
            have Hless := hide hless
            have Inext := hide inext
            clear hless inext
            have B5 := B4.keep hb
            refine hK.out _ _ B5.1 (fun _ => ?_)
            clear hK K B4 hb
            have B20 := B5.setA 0 b2
            have q1 := B5.2.1.2
            refine wpAnyH_ready (rs := [5]) (by kernel_rfl) (by simp) ?_
            refine AllReadyH.cons (o := _) g7_5 (fun K hK => ?_) AllReadyH.nil
            go_simp
            refine hK.out _ _ B20.1 (fun _ => ?_)
            clear hK K q1 B5
            have B21 := B20.setB r1 r2
            have q1 := B20.2.2.1.2
            refine wpAnyH_ready (rs := [6]) (by kernel_rfl) (by simp) ?_
            refine AllReadyH.cons (o := _) g7_6 (fun K hK => ?_) AllReadyH.nil
            go_simp
            refine hK.out _ _ B21.1 (fun _ => ?_)
            refine wpAnyH_done (by kernel_rfl) ?_ _
            refine NoPanic.normal ?_
            clear hK K q1 B20
            go_wp2
            go_roundw
            case rel => exact ⟨0, b2, r1, r2, B21, unhide Inext⟩
            case measure =>
              rw [cellInt_of B21.2.2.1.2.1.1, cellInt_of B21.2.2.1.2.1.2, cellInt_of HB.2.2.1.2.1.1, cellInt_of HB.2.2.1.2.1.2]
              exact unhide Hless
          · skip
            have q1 := B4.2.1.2.1
            have q2 := B4.2.2.1.2.1
            go_simp
            refine hK.out _ _ B4.1 (fun _ => ?_)
            clear hK K q1 q2
            refine wpAnyH_ready (rs := [0, 4]) (by kernel_rfl) (by simp) ?_
            refine AllReadyH.cons (o := _) g7_0 (fun K hK => ?_) (AllReadyH.cons (o := _) g7_4 (fun K hK => ?_) AllReadyH.nil)
            · skip
              have q1 := B4.2.1.2.1
              have q2 := B4.2.2.1.2.1
              go_simp
              refine hK.out _ _ B4.1 (fun _ => ?_)
              clear hK K q1 q2
              refine wpAnyH_ready (rs := [4]) (by kernel_rfl) (by simp) ?_
              refine AllReadyH.cons (o := _) g7_4 (fun K hK => ?_) AllReadyH.nil
              go_simp
              refine (R1 _).mono ?_
              rintro e w5 ⟨⟨r1, r2, rfl, hless, inext⟩, hb⟩
              have Hless := hide hless
              have Inext := hide inext
              clear hless inext
              have B5 := B4.keep hb
              refine hK.out _ _ B5.1 (fun _ => ?_)
              clear hK K B4 hb
              have B20 := B5.setA 0 b2
              have q1 := B5.2.1.2
              refine wpAnyH_ready (rs := [5]) (by kernel_rfl) (by simp) ?_
              refine AllReadyH.cons (o := _) g7_5 (fun K hK => ?_) AllReadyH.nil
              go_simp
              refine hK.out _ _ B20.1 (fun _ => ?_)
              clear hK K q1 B5
              have B21 := B20.setB r1 r2
              have q1 := B20.2.2.1.2
              refine wpAnyH_ready (rs := [6]) (by kernel_rfl) (by simp) ?_
              refine AllReadyH.cons (o := _) g7_6 (fun K hK => ?_) AllReadyH.nil
              go_simp
              refine hK.out _ _ B21.1 (fun _ => ?_)
              refine wpAnyH_done (by kernel_rfl) ?_ _
              refine NoPanic.normal ?_
              clear hK K q1 B20
              go_wp2
              go_roundw
              case rel => exact ⟨0, b2, r1, r2, B21, unhide Inext⟩
              case measure =>
                rw [cellInt_of B21.2.2.1.2.1.1, cellInt_of B21.2.2.1.2.1.2, cellInt_of HB.2.2.1.2.1.1, cellInt_of HB.2.2.1.2.1.2]
                exact unhide Hless
            · skip
              go_simp
              refine (R1 _).mono ?_
              rintro e w5 ⟨⟨r1, r2, rfl, hless, inext⟩, hb⟩
              have Hless := hide hless
              have Inext := hide inext
              clear hless inext
              have B5 := B4.keep hb
              refine hK.out _ _ B5.1 (fun _ => ?_)
              clear hK K B4 hb
              refine wpAnyH_ready (rs := [0]) (by kernel_rfl) (by simp) ?_
              refine AllReadyH.cons (o := _) g7_0 (fun K hK => ?_) AllReadyH.nil
              have q1 := B5.2.1.2.1
              have q2 := B5.2.2.1.2.1
              go_simp
              refine hK.out _ _ B5.1 (fun _ => ?_)
              clear hK K q1 q2
              have B20 := B5.setA 0 b2
              have q1 := B5.2.1.2
              refine wpAnyH_ready (rs := [5]) (by kernel_rfl) (by simp) ?_
              refine AllReadyH.cons (o := _) g7_5 (fun K hK => ?_) AllReadyH.nil
              go_simp
              refine hK.out _ _ B20.1 (fun _ => ?_)
              clear hK K q1 B5
              have B21 := B20.setB r1 r2
              have q1 := B20.2.2.1.2
              refine wpAnyH_ready (rs := [6]) (by kernel_rfl) (by simp) ?_
              refine AllReadyH.cons (o := _) g7_6 (fun K hK => ?_) AllReadyH.nil
              go_simp
              refine hK.out _ _ B21.1 (fun _ => ?_)
              refine wpAnyH_done (by kernel_rfl) ?_ _
              refine NoPanic.normal ?_
              clear hK K q1 B20
              go_wp2
              go_roundw
              case rel => exact ⟨0, b2, r1, r2, B21, unhide Inext⟩
              case measure =>
                rw [cellInt_of B21.2.2.1.2.1.1, cellInt_of B21.2.2.1.2.1.2, cellInt_of HB.2.2.1.2.1.1, cellInt_of HB.2.2.1.2.1.2]
                exact unhide Hless
    · have Hne := hide (show ¬ (b1 = 0 ∧ b2 = 0) from fun h => z1 h.1)
      have z3 : (b1 == 0) = false := by simp [z1]
      clear z1
      have R1 := unhide St a1 a2 b1 b2 (unhide Inv) (unhide Hne)
      have HB := B
      have q1 := B.2.2.1.2.1
      go_wp2_with fail
      clear q1
      refine wp_region_noPanic ?_
      refine wp_region_held_drew (S := fun W => Below w.heap.size w W) (by kernel_rfl) (Below.drew B.1) ?_
      intro _
      have B4 := B.keep (Below.drew (Below.refl _ _))
      clear B
      refine wpAnyH_take (i := 1) (oi := _) (v := .int .i64 g) g7_1 (by kernel_rfl) (by kernel_rfl) (by kernel_rfl) (fun _ _ _ h => h) (Or.inl ⟨by rfl, ?_⟩) (by assumption) ?_
      · intro w hSw
        try dsimp only at hSw
        go_simp
      simp only [Act.put, List.setIfInBounds_toArray, List.set_cons_zero, List.set_cons_succ]
      refine wpAnyH_ready (rs := [0, 2, 3]) (by kernel_rfl) (by simp) ?_
      refine AllReadyH.cons (o := _) g7_0 (fun K hK => ?_) (AllReadyH.cons (o := _) g7_2 (fun K hK => ?_) (AllReadyH.cons (o := _) g7_3 (fun K hK => ?_) AllReadyH.nil))
      · skip
        have q1 := B4.2.1.2.1
        have q2 := B4.2.2.1.2.1
        go_simp
        refine hK.out _ _ B4.1 (fun _ => ?_)
        clear hK K q1 q2
        refine wpAnyH_ready (rs := [2, 3]) (by kernel_rfl) (by simp) ?_
        refine AllReadyH.cons (o := _) g7_2 (fun K hK => ?_) (AllReadyH.cons (o := _) g7_3 (fun K hK => ?_) AllReadyH.nil)
        · skip
          have q1 := B4.2.1.2.1
          have q2 := B4.2.2.1.2.1
          go_simp
          refine hK.out _ _ B4.1 (fun _ => ?_)
          clear hK K q1 q2
          refine wpAnyH_ready (rs := [3]) (by kernel_rfl) (by simp) ?_
          refine AllReadyH.cons (o := _) g7_3 (fun K hK => ?_) AllReadyH.nil
          have q1 := B4.2.1.2.1
          have q2 := B4.2.2.1.2.1
          go_simp
          refine hK.out _ _ B4.1 (fun _ => ?_)
          clear hK K q1 q2
          refine wpAnyH_ready (rs := [4]) (by kernel_rfl) (by simp) ?_
          refine AllReadyH.cons (o := _) g7_4 (fun K hK => ?_) AllReadyH.nil
          go_simp
          refine (R1 _).mono ?_
          rintro e w5 ⟨⟨r1, r2, rfl, hless, inext⟩, hb⟩
          have Hless := hide hless
          have Inext := hide inext
          clear hless inext
          have B5 := B4.keep hb
          refine hK.out _ _ B5.1 (fun _ => ?_)
          clear hK K B4 hb
          have B20 := B5.setA b1 b2
          have q1 := B5.2.1.2
          refine wpAnyH_ready (rs := [5]) (by kernel_rfl) (by simp) ?_
          refine AllReadyH.cons (o := _) g7_5 (fun K hK => ?_) AllReadyH.nil
          go_simp
          refine hK.out _ _ B20.1 (fun _ => ?_)
          clear hK K q1 B5
          have B21 := B20.setB r1 r2
          have q1 := B20.2.2.1.2
          refine wpAnyH_ready (rs := [6]) (by kernel_rfl) (by simp) ?_
          refine AllReadyH.cons (o := _) g7_6 (fun K hK => ?_) AllReadyH.nil
          go_simp
          refine hK.out _ _ B21.1 (fun _ => ?_)
          refine wpAnyH_done (by kernel_rfl) ?_ _
          refine NoPanic.normal ?_
          clear hK K q1 B20
          go_wp2
          go_roundw
          case rel => exact ⟨b1, b2, r1, r2, B21, unhide Inext⟩
          case measure =>
            rw [cellInt_of B21.2.2.1.2.1.1, cellInt_of B21.2.2.1.2.1.2, cellInt_of HB.2.2.1.2.1.1, cellInt_of HB.2.2.1.2.1.2]
            exact unhide Hless
        · skip
          have q1 := B4.2.1.2.1
          have q2 := B4.2.2.1.2.1
          go_simp
          refine hK.out _ _ B4.1 (fun _ => ?_)
          clear hK K q1 q2
          refine wpAnyH_ready (rs := [2]) (by kernel_rfl) (by simp) ?_
          refine AllReadyH.cons (o := _) g7_2 (fun K hK => ?_) AllReadyH.nil
          have q1 := B4.2.1.2.1
          have q2 := B4.2.2.1.2.1
          go_simp
          refine hK.out _ _ B4.1 (fun _ => ?_)
          clear hK K q1 q2
          refine wpAnyH_ready (rs := [4]) (by kernel_rfl) (by simp) ?_
          refine AllReadyH.cons (o := _) g7_4 (fun K hK => ?_) AllReadyH.nil
          go_simp
          refine (R1 _).mono ?_
          rintro e w5 ⟨⟨r1, r2, rfl, hless, inext⟩, hb⟩
          have Hless := hide hless
          have Inext := hide inext
          clear hless inext
          have B5 := B4.keep hb
          refine hK.out _ _ B5.1 (fun _ => ?_)
          clear hK K B4 hb
          have B20 := B5.setA b1 b2
          have q1 := B5.2.1.2
          refine wpAnyH_ready (rs := [5]) (by kernel_rfl) (by simp) ?_
          refine AllReadyH.cons (o := _) g7_5 (fun K hK => ?_) AllReadyH.nil
          go_simp
          refine hK.out _ _ B20.1 (fun _ => ?_)
          clear hK K q1 B5
          have B21 := B20.setB r1 r2
          have q1 := B20.2.2.1.2
          refine wpAnyH_ready (rs := [6]) (by kernel_rfl) (by simp) ?_
          refine AllReadyH.cons (o := _) g7_6 (fun K hK => ?_) AllReadyH.nil
          go_simp
          refine hK.out _ _ B21.1 (fun _ => ?_)
          refine wpAnyH_done (by kernel_rfl) ?_ _
          refine NoPanic.normal ?_
          clear hK K q1 B20
          go_wp2
          go_roundw
          case rel => exact ⟨b1, b2, r1, r2, B21, unhide Inext⟩
          case measure =>
            rw [cellInt_of B21.2.2.1.2.1.1, cellInt_of B21.2.2.1.2.1.2, cellInt_of HB.2.2.1.2.1.1, cellInt_of HB.2.2.1.2.1.2]
            exact unhide Hless
      · skip
        have q1 := B4.2.1.2.1
        have q2 := B4.2.2.1.2.1
        go_simp
        refine hK.out _ _ B4.1 (fun _ => ?_)
        clear hK K q1 q2
        refine wpAnyH_ready (rs := [0, 3]) (by kernel_rfl) (by simp) ?_
        refine AllReadyH.cons (o := _) g7_0 (fun K hK => ?_) (AllReadyH.cons (o := _) g7_3 (fun K hK => ?_) AllReadyH.nil)
        · skip
          have q1 := B4.2.1.2.1
          have q2 := B4.2.2.1.2.1
          go_simp
          refine hK.out _ _ B4.1 (fun _ => ?_)
          clear hK K q1 q2
          refine wpAnyH_ready (rs := [3]) (by kernel_rfl) (by simp) ?_
          refine AllReadyH.cons (o := _) g7_3 (fun K hK => ?_) AllReadyH.nil
          have q1 := B4.2.1.2.1
          have q2 := B4.2.2.1.2.1
          go_simp
          refine hK.out _ _ B4.1 (fun _ => ?_)
          clear hK K q1 q2
          refine wpAnyH_ready (rs := [4]) (by kernel_rfl) (by simp) ?_
          refine AllReadyH.cons (o := _) g7_4 (fun K hK => ?_) AllReadyH.nil
          go_simp
          refine (R1 _).mono ?_
          rintro e w5 ⟨⟨r1, r2, rfl, hless, inext⟩, hb⟩
          have Hless := hide hless
          have Inext := hide inext
          clear hless inext
          have B5 := B4.keep hb
          refine hK.out _ _ B5.1 (fun _ => ?_)
          clear hK K B4 hb
          have B20 := B5.setA b1 b2
          have q1 := B5.2.1.2
          refine wpAnyH_ready (rs := [5]) (by kernel_rfl) (by simp) ?_
          refine AllReadyH.cons (o := _) g7_5 (fun K hK => ?_) AllReadyH.nil
          go_simp
          refine hK.out _ _ B20.1 (fun _ => ?_)
          clear hK K q1 B5
          have B21 := B20.setB r1 r2
          have q1 := B20.2.2.1.2
          refine wpAnyH_ready (rs := [6]) (by kernel_rfl) (by simp) ?_
          refine AllReadyH.cons (o := _) g7_6 (fun K hK => ?_) AllReadyH.nil
          go_simp
          refine hK.out _ _ B21.1 (fun _ => ?_)
          refine wpAnyH_done (by kernel_rfl) ?_ _
          refine NoPanic.normal ?_
          clear hK K q1 B20
          go_wp2
          go_roundw
          case rel => exact ⟨b1, b2, r1, r2, B21, unhide Inext⟩
          case measure =>
            rw [cellInt_of B21.2.2.1.2.1.1, cellInt_of B21.2.2.1.2.1.2, cellInt_of HB.2.2.1.2.1.1, cellInt_of HB.2.2.1.2.1.2]
            exact unhide Hless
        · skip
          have q1 := B4.2.1.2.1
          have q2 := B4.2.2.1.2.1
          go_simp
          refine hK.out _ _ B4.1 (fun _ => ?_)
          clear hK K q1 q2
          refine wpAnyH_ready (rs := [0, 4]) (by kernel_rfl) (by simp) ?_
          refine AllReadyH.cons (o := _) g7_0 (fun K hK => ?_) (AllReadyH.cons (o := _) g7_4 (fun K hK => ?_) AllReadyH.nil)
          · skip
            have q1 := B4.2.1.2.1
            have q2 := B4.2.2.1.2.1
            go_simp
            refine hK.out _ _ B4.1 (fun _ => ?_)
            clear hK K q1 q2
            refine wpAnyH_ready (rs := [4]) (by kernel_rfl) (by simp) ?_
            refine AllReadyH.cons (o := _) g7_4 (fun K hK => ?_) AllReadyH.nil
            go_simp
            refine (R1 _).mono ?_
            rintro e w5 ⟨⟨r1, r2, rfl, hless, inext⟩, hb⟩
            have Hless := hide hless
            have Inext := hide inext
            clear hless inext
            have B5 := B4.keep hb
            refine hK.out _ _ B5.1 (fun _ => ?_)
            clear hK K B4 hb
            have B20 := B5.setA b1 b2
            have q1 := B5.2.1.2
            refine wpAnyH_ready (rs := [5]) (by kernel_rfl) (by simp) ?_
            refine AllReadyH.cons (o := _) g7_5 (fun K hK => ?_) AllReadyH.nil
            go_simp
            refine hK.out _ _ B20.1 (fun _ => ?_)
            clear hK K q1 B5
            have B21 := B20.setB r1 r2
            have q1 := B20.2.2.1.2
            refine wpAnyH_ready (rs := [6]) (by kernel_rfl) (by simp) ?_
            refine AllReadyH.cons (o := _) g7_6 (fun K hK => ?_) AllReadyH.nil
            go_simp
            refine hK.out _ _ B21.1 (fun _ => ?_)
            refine wpAnyH_done (by kernel_rfl) ?_ _
            refine NoPanic.normal ?_
            clear hK K q1 B20
            go_wp2
            go_roundw
            case rel => exact ⟨b1, b2, r1, r2, B21, unhide Inext⟩
            case measure =>
              rw [cellInt_of B21.2.2.1.2.1.1, cellInt_of B21.2.2.1.2.1.2, cellInt_of HB.2.2.1.2.1.1, cellInt_of HB.2.2.1.2.1.2]
              exact unhide Hless
          · skip
            go_simp
            refine (R1 _).mono ?_
            rintro e w5 ⟨⟨r1, r2, rfl, hless, inext⟩, hb⟩
            have Hless := hide hless
            have Inext := hide inext
            clear hless inext
            have B5 := B4.keep hb
            refine hK.out _ _ B5.1 (fun _ => ?_)
            clear hK K B4 hb
            refine wpAnyH_ready (rs := [0]) (by kernel_rfl) (by simp) ?_
            refine AllReadyH.cons (o := _) g7_0 (fun K hK => ?_) AllReadyH.nil
            have q1 := B5.2.1.2.1
            have q2 := B5.2.2.1.2.1
            go_simp
            refine hK.out _ _ B5.1 (fun _ => ?_)
            clear hK K q1 q2
            have B20 := B5.setA b1 b2
            have q1 := B5.2.1.2
            refine wpAnyH_ready (rs := [5]) (by kernel_rfl) (by simp) ?_
            refine AllReadyH.cons (o := _) g7_5 (fun K hK => ?_) AllReadyH.nil
            go_simp
            refine hK.out _ _ B20.1 (fun _ => ?_)
            clear hK K q1 B5
            have B21 := B20.setB r1 r2
            have q1 := B20.2.2.1.2
            refine wpAnyH_ready (rs := [6]) (by kernel_rfl) (by simp) ?_
            refine AllReadyH.cons (o := _) g7_6 (fun K hK => ?_) AllReadyH.nil
            go_simp
            refine hK.out _ _ B21.1 (fun _ => ?_)
            refine wpAnyH_done (by kernel_rfl) ?_ _
            refine NoPanic.normal ?_
            clear hK K q1 B20
            go_wp2
            go_roundw
            case rel => exact ⟨b1, b2, r1, r2, B21, unhide Inext⟩
            case measure =>
              rw [cellInt_of B21.2.2.1.2.1.1, cellInt_of B21.2.2.1.2.1.2, cellInt_of HB.2.2.1.2.1.1, cellInt_of HB.2.2.1.2.1.2]
              exact unhide Hless
      · skip
        have q1 := B4.2.1.2.1
        have q2 := B4.2.2.1.2.1
        go_simp
        refine hK.out _ _ B4.1 (fun _ => ?_)
        clear hK K q1 q2
        refine wpAnyH_ready (rs := [0, 2]) (by kernel_rfl) (by simp) ?_
        refine AllReadyH.cons (o := _) g7_0 (fun K hK => ?_) (AllReadyH.cons (o := _) g7_2 (fun K hK => ?_) AllReadyH.nil)
        · skip
          have q1 := B4.2.1.2.1
          have q2 := B4.2.2.1.2.1
          go_simp
          refine hK.out _ _ B4.1 (fun _ => ?_)
          clear hK K q1 q2
          refine wpAnyH_ready (rs := [2]) (by kernel_rfl) (by simp) ?_
          refine AllReadyH.cons (o := _) g7_2 (fun K hK => ?_) AllReadyH.nil
          have q1 := B4.2.1.2.1
          have q2 := B4.2.2.1.2.1
          go_simp
          refine hK.out _ _ B4.1 (fun _ => ?_)
          clear hK K q1 q2
          refine wpAnyH_ready (rs := [4]) (by kernel_rfl) (by simp) ?_
          refine AllReadyH.cons (o := _) g7_4 (fun K hK => ?_) AllReadyH.nil
          go_simp
          refine (R1 _).mono ?_
          rintro e w5 ⟨⟨r1, r2, rfl, hless, inext⟩, hb⟩
          have Hless := hide hless
          have Inext := hide inext
          clear hless inext
          have B5 := B4.keep hb
          refine hK.out _ _ B5.1 (fun _ => ?_)
          clear hK K B4 hb
          have B20 := B5.setA b1 b2
          have q1 := B5.2.1.2
          refine wpAnyH_ready (rs := [5]) (by kernel_rfl) (by simp) ?_
          refine AllReadyH.cons (o := _) g7_5 (fun K hK => ?_) AllReadyH.nil
          go_simp
          refine hK.out _ _ B20.1 (fun _ => ?_)
          clear hK K q1 B5
          have B21 := B20.setB r1 r2
          have q1 := B20.2.2.1.2
          refine wpAnyH_ready (rs := [6]) (by kernel_rfl) (by simp) ?_
          refine AllReadyH.cons (o := _) g7_6 (fun K hK => ?_) AllReadyH.nil
          go_simp
          refine hK.out _ _ B21.1 (fun _ => ?_)
          refine wpAnyH_done (by kernel_rfl) ?_ _
          refine NoPanic.normal ?_
          clear hK K q1 B20
          go_wp2
          go_roundw
          case rel => exact ⟨b1, b2, r1, r2, B21, unhide Inext⟩
          case measure =>
            rw [cellInt_of B21.2.2.1.2.1.1, cellInt_of B21.2.2.1.2.1.2, cellInt_of HB.2.2.1.2.1.1, cellInt_of HB.2.2.1.2.1.2]
            exact unhide Hless
        · skip
          have q1 := B4.2.1.2.1
          have q2 := B4.2.2.1.2.1
          go_simp
          refine hK.out _ _ B4.1 (fun _ => ?_)
          clear hK K q1 q2
          refine wpAnyH_ready (rs := [0, 4]) (by kernel_rfl) (by simp) ?_
          refine AllReadyH.cons (o := _) g7_0 (fun K hK => ?_) (AllReadyH.cons (o := _) g7_4 (fun K hK => ?_) AllReadyH.nil)
          · skip
            have q1 := B4.2.1.2.1
            have q2 := B4.2.2.1.2.1
            go_simp
            refine hK.out _ _ B4.1 (fun _ => ?_)
            clear hK K q1 q2
            refine wpAnyH_ready (rs := [4]) (by kernel_rfl) (by simp) ?_
            refine AllReadyH.cons (o := _) g7_4 (fun K hK => ?_) AllReadyH.nil
            go_simp
            refine (R1 _).mono ?_
            rintro e w5 ⟨⟨r1, r2, rfl, hless, inext⟩, hb⟩
            have Hless := hide hless
            have Inext := hide inext
            clear hless inext
            have B5 := B4.keep hb
            refine hK.out _ _ B5.1 (fun _ => ?_)
            clear hK K B4 hb
            have B20 := B5.setA b1 b2
            have q1 := B5.2.1.2
            refine wpAnyH_ready (rs := [5]) (by kernel_rfl) (by simp) ?_
            refine AllReadyH.cons (o := _) g7_5 (fun K hK => ?_) AllReadyH.nil
            go_simp
            refine hK.out _ _ B20.1 (fun _ => ?_)
            clear hK K q1 B5
            have B21 := B20.setB r1 r2
            have q1 := B20.2.2.1.2
            refine wpAnyH_ready (rs := [6]) (by kernel_rfl) (by simp) ?_
            refine AllReadyH.cons (o := _) g7_6 (fun K hK => ?_) AllReadyH.nil
            go_simp
            refine hK.out _ _ B21.1 (fun _ => ?_)
            refine wpAnyH_done (by kernel_rfl) ?_ _
            refine NoPanic.normal ?_
            clear hK K q1 B20
            go_wp2
            go_roundw
            case rel => exact ⟨b1, b2, r1, r2, B21, unhide Inext⟩
            case measure =>
              rw [cellInt_of B21.2.2.1.2.1.1, cellInt_of B21.2.2.1.2.1.2, cellInt_of HB.2.2.1.2.1.1, cellInt_of HB.2.2.1.2.1.2]
              exact unhide Hless
          · skip
            go_simp
            refine (R1 _).mono ?_
            rintro e w5 ⟨⟨r1, r2, rfl, hless, inext⟩, hb⟩
            have Hless := hide hless
            have Inext := hide inext
            clear hless inext
            have B5 := B4.keep hb
            refine hK.out _ _ B5.1 (fun _ => ?_)
            clear hK K B4 hb
            refine wpAnyH_ready (rs := [0]) (by kernel_rfl) (by simp) ?_
            refine AllReadyH.cons (o := _) g7_0 (fun K hK => ?_) AllReadyH.nil
            have q1 := B5.2.1.2.1
            have q2 := B5.2.2.1.2.1
            go_simp
            refine hK.out _ _ B5.1 (fun _ => ?_)
            clear hK K q1 q2
            have B20 := B5.setA b1 b2
            have q1 := B5.2.1.2
            refine wpAnyH_ready (rs := [5]) (by kernel_rfl) (by simp) ?_
            refine AllReadyH.cons (o := _) g7_5 (fun K hK => ?_) AllReadyH.nil
            go_simp
            refine hK.out _ _ B20.1 (fun _ => ?_)
            clear hK K q1 B5
            have B21 := B20.setB r1 r2
            have q1 := B20.2.2.1.2
            refine wpAnyH_ready (rs := [6]) (by kernel_rfl) (by simp) ?_
            refine AllReadyH.cons (o := _) g7_6 (fun K hK => ?_) AllReadyH.nil
            go_simp
            refine hK.out _ _ B21.1 (fun _ => ?_)
            refine wpAnyH_done (by kernel_rfl) ?_ _
            refine NoPanic.normal ?_
            clear hK K q1 B20
            go_wp2
            go_roundw
            case rel => exact ⟨b1, b2, r1, r2, B21, unhide Inext⟩
            case measure =>
              rw [cellInt_of B21.2.2.1.2.1.1, cellInt_of B21.2.2.1.2.1.2, cellInt_of HB.2.2.1.2.1.1, cellInt_of HB.2.2.1.2.1.2]
              exact unhide Hless
end Go.Proofs.Ytfopjkcnfngbpaa
