/-
  What the reference's Fitting answers where one move fits: just that move (walk over the translated code).
-/
import Derived.Test.YtpcajcgafmmlkaaDoorRefA
import Derived.Test.YtpcajcgafmmlkaaDoorComposed
namespace Go.Proofs.YtpcajcgafmmlkaaDoor
open Go.RowKit

/-- the boxes of a call of Fitting -/
def FitB (w : World) (ox oy ax ay bx b : Int) (W : World) : Prop :=
  Below w.heap.size w W ∧ Own W w.heap.size ox oy ∧ Own W (w.heap.size + 1) ax ay ∧ Own W (w.heap.size + 1 + 1) bx b ∧ OwnM W (w.heap.size + 1 + 1 + 1) 0 false 0 0
theorem FitB.keep {w W w1 : World} {ox oy ax ay bx b : Int} (h : FitB w ox oy ax ay bx b W) (hb : Below W.heap.size W w1) : FitB w ox oy ax ay bx b w1 :=
  ⟨btrans h.1 hb, h.2.1.keep hb, h.2.2.1.keep hb, h.2.2.2.1.keep hb, h.2.2.2.2.keep hb⟩
theorem FitB.drew {w W : World} {ox oy ax ay bx b : Int} (h : FitB w ox oy ax ay bx b W) : FitB w ox oy ax ay bx b W.drew := h.keep (Below.drew (Below.refl _ _))
theorem FitB.alloc {w W : World} {ox oy ax ay bx b : Int} (h : FitB w ox oy ax ay bx b W) (o : Obj) : FitB w ox oy ax ay bx b (W.alloc o) := h.keep (bal (Below.refl _ _))
theorem OwnM.drew {W : World} {b : Nat} {t : Int} {f : Bool} {x y : Int} (h : OwnM W b t f x y) : OwnM W.drew b t f x y := h.keep (Below.drew (Below.refl _ _))
abbrev FtC2 (W : World) (b : Nat) (v0 v1 : Value) : Prop := W.cell? ⟨b, 0, none⟩ = some v0 ∧ W.cell? ⟨b, 1, none⟩ = some v1
abbrev FitS (w : World) (ox oy ax ay bx b : Int) (m : Nat) (t : Int) (f : Bool) (W : World) : Prop :=
  (FitB w ox oy ax ay bx b W ∧ OwnM W m t f ox oy) ∧ C4 W m (.int .i64 t) (.bool f) (.int .i64 ox) (.int .i64 oy) ∧ FtC2 W (w.heap.size + 1) (.int .i64 ax) (.int .i64 ay) ∧ FtC2 W (w.heap.size + 1 + 1) (.int .i64 bx) (.int .i64 b)
theorem FitS.mk' {w W : World} {ox oy ax ay bx b : Int} {m : Nat} {t : Int} {f : Bool} (h : FitB w ox oy ax ay bx b W) (k : OwnM W m t f ox oy) : FitS w ox oy ax ay bx b m t f W :=
  ⟨⟨h, k⟩, k.2.1, h.2.2.1.2.1, h.2.2.2.1.2.1⟩
theorem FitS.keep {w W w1 : World} {ox oy ax ay bx b : Int} {m : Nat} {t : Int} {f : Bool} (h : FitS w ox oy ax ay bx b m t f W) (hb : Below W.heap.size W w1) : FitS w ox oy ax ay bx b m t f w1 :=
  FitS.mk' (h.1.1.keep hb) (h.1.2.keep hb)

theorem g14_0 {a0 a1 a2 a3 a4 a5 a6 a7 a8 a9 a10 a11 a12 a13 : Oper} : (#[a0, a1, a2, a3, a4, a5, a6, a7, a8, a9, a10, a11, a12, a13] : Array Oper)[0]? = some a0 := rfl
theorem g14_1 {a0 a1 a2 a3 a4 a5 a6 a7 a8 a9 a10 a11 a12 a13 : Oper} : (#[a0, a1, a2, a3, a4, a5, a6, a7, a8, a9, a10, a11, a12, a13] : Array Oper)[1]? = some a1 := rfl
theorem g14_2 {a0 a1 a2 a3 a4 a5 a6 a7 a8 a9 a10 a11 a12 a13 : Oper} : (#[a0, a1, a2, a3, a4, a5, a6, a7, a8, a9, a10, a11, a12, a13] : Array Oper)[2]? = some a2 := rfl
theorem g14_3 {a0 a1 a2 a3 a4 a5 a6 a7 a8 a9 a10 a11 a12 a13 : Oper} : (#[a0, a1, a2, a3, a4, a5, a6, a7, a8, a9, a10, a11, a12, a13] : Array Oper)[3]? = some a3 := rfl
theorem g14_4 {a0 a1 a2 a3 a4 a5 a6 a7 a8 a9 a10 a11 a12 a13 : Oper} : (#[a0, a1, a2, a3, a4, a5, a6, a7, a8, a9, a10, a11, a12, a13] : Array Oper)[4]? = some a4 := rfl
theorem g14_5 {a0 a1 a2 a3 a4 a5 a6 a7 a8 a9 a10 a11 a12 a13 : Oper} : (#[a0, a1, a2, a3, a4, a5, a6, a7, a8, a9, a10, a11, a12, a13] : Array Oper)[5]? = some a5 := rfl
theorem g14_6 {a0 a1 a2 a3 a4 a5 a6 a7 a8 a9 a10 a11 a12 a13 : Oper} : (#[a0, a1, a2, a3, a4, a5, a6, a7, a8, a9, a10, a11, a12, a13] : Array Oper)[6]? = some a6 := rfl
theorem g14_7 {a0 a1 a2 a3 a4 a5 a6 a7 a8 a9 a10 a11 a12 a13 : Oper} : (#[a0, a1, a2, a3, a4, a5, a6, a7, a8, a9, a10, a11, a12, a13] : Array Oper)[7]? = some a7 := rfl
theorem g14_8 {a0 a1 a2 a3 a4 a5 a6 a7 a8 a9 a10 a11 a12 a13 : Oper} : (#[a0, a1, a2, a3, a4, a5, a6, a7, a8, a9, a10, a11, a12, a13] : Array Oper)[8]? = some a8 := rfl
theorem g14_9 {a0 a1 a2 a3 a4 a5 a6 a7 a8 a9 a10 a11 a12 a13 : Oper} : (#[a0, a1, a2, a3, a4, a5, a6, a7, a8, a9, a10, a11, a12, a13] : Array Oper)[9]? = some a9 := rfl
theorem g14_10 {a0 a1 a2 a3 a4 a5 a6 a7 a8 a9 a10 a11 a12 a13 : Oper} : (#[a0, a1, a2, a3, a4, a5, a6, a7, a8, a9, a10, a11, a12, a13] : Array Oper)[10]? = some a10 := rfl
theorem g14_11 {a0 a1 a2 a3 a4 a5 a6 a7 a8 a9 a10 a11 a12 a13 : Oper} : (#[a0, a1, a2, a3, a4, a5, a6, a7, a8, a9, a10, a11, a12, a13] : Array Oper)[11]? = some a11 := rfl
theorem g14_12 {a0 a1 a2 a3 a4 a5 a6 a7 a8 a9 a10 a11 a12 a13 : Oper} : (#[a0, a1, a2, a3, a4, a5, a6, a7, a8, a9, a10, a11, a12, a13] : Array Oper)[12]? = some a12 := rfl
theorem g14_13 {a0 a1 a2 a3 a4 a5 a6 a7 a8 a9 a10 a11 a12 a13 : Oper} : (#[a0, a1, a2, a3, a4, a5, a6, a7, a8, a9, a10, a11, a12, a13] : Array Oper)[13]? = some a13 := rfl

set_option maxRecDepth 100000 in
set_option maxHeartbeats 8000000 in
theorem fitting_is (g : Int) (T : Nat) (F : Bool) (ox oy ax ay bx b : Int) (w : World) (hg : g ≤ 6) (hT : (T : Int) < g)
    (P : Hid (∀ t : Nat, (t : Int) < g → ∀ f : Bool, ∃ p1 p2 r1 r2 : Int, ToIs g t f ox oy 1 0 p1 p2 ∧ ToIs g t f ox oy 0 1 r1 r2 ∧ ((t = T ∧ f = F) → p1 = ax ∧ p2 = ay ∧ r1 = bx ∧ r2 = b) ∧ (¬ (t = T ∧ f = F) → ¬ (p1 = ax ∧ p2 = ay ∧ r1 = bx ∧ r2 = b)))) :
    Calls Tryd.prog 68 #[.int .i64 g, .agg #[.int .i64 ox, .int .i64 oy], .agg #[.int .i64 ax, .int .i64 ay], .agg #[.int .i64 bx, .int .i64 b]] w fun e w' => e = .returned (.agg #[.int .i64 T, .bool F, .int .i64 ox, .int .i64 oy]) ∧ Below w.heap.size w w' := by
  go_enter Tryd.func68, Tryd.ntmps68
  go_wp2_with fail
  have B0 : FitB w ox oy ax ay bx b ((((w.alloc (.cells #[.int .i64 ox, .int .i64 oy] 33)).alloc (.cells #[.int .i64 ax, .int .i64 ay] 33)).alloc (.cells #[.int .i64 bx, .int .i64 b] 33)).alloc (.cells #[.int .i64 0, .bool false, .int .i64 0, .int .i64 0] 41)) := by
    have O := (((Own.new w ox oy 33).alloc (.cells #[.int .i64 ax, .int .i64 ay] 33)).alloc (.cells #[.int .i64 bx, .int .i64 b] 33)).alloc (.cells #[.int .i64 0, .bool false, .int .i64 0, .int .i64 0] 41)
    have A := ((Own.new (w.alloc (.cells #[.int .i64 ox, .int .i64 oy] 33)) ax ay 33).alloc (.cells #[.int .i64 bx, .int .i64 b] 33)).alloc (.cells #[.int .i64 0, .bool false, .int .i64 0, .int .i64 0] 41)
    have C := (Own.new ((w.alloc (.cells #[.int .i64 ox, .int .i64 oy] 33)).alloc (.cells #[.int .i64 ax, .int .i64 ay] 33)) bx b 33).alloc (.cells #[.int .i64 0, .bool false, .int .i64 0, .int .i64 0] 41)
    have R := OwnM.new (((w.alloc (.cells #[.int .i64 ox, .int .i64 oy] 33)).alloc (.cells #[.int .i64 ax, .int .i64 ay] 33)).alloc (.cells #[.int .i64 bx, .int .i64 b] 33)) 0 false 0 0 41
    simp only [World.size_alloc] at A C R
    exact ⟨bal (bal (bal (bal (Below.refl _ _)))), O, A, C, R⟩
  go_loopw [9] (fun i w1 => ∃ t : Nat, i = .int .i64 t ∧ t ≤ T ∧ FitB w ox oy ax ay bx b w1) (fun i _ => 7 - (intOf i).toNat)
  case atStart => exact ⟨0, rfl, Nat.zero_le _, B0⟩
  case round =>
    clear B0
    obtain ⟨t, rfl, htT, B⟩ := hrel
    have htg : (t : Int) < g := by omega
    go_wp2_with fail
    go_loopw [10] (fun i w1 => ∃ k : Nat, i = .int .i64 k ∧ k ≤ 2 ∧ (t = T → k ≤ F.toNat) ∧ FitB w ox oy ax ay bx b w1) (fun i _ => 2 - (intOf i).toNat)
    case atStart => exact ⟨0, rfl, by omega, fun _ => Nat.zero_le _, B⟩
    case round =>
      clear B
      obtain ⟨k, rfl, hk2, hkF, B⟩ := hrel
      have HkF := hide hkF
      clear hkF
      have hk : k = 0 ∨ k = 1 ∨ k = 2 := by omega
      rcases hk with rfl | rfl | rfl
      · obtain ⟨p1, p2, r1, r2, T1, T2, hit, mis⟩ := unhide P t htg false
        have Hit := hide hit
        have Mis := hide mis
        clear hit mis
        by_cases hh : t = T ∧ false = F
        · obtain ⟨z1, z2, z3, z4⟩ := unhide Hit hh
          rw [z1, z2] at T1
          rw [z3, z4] at T2
          clear z1 z2 z3 z4
          have Hh := hide hh
          clear hh
          have q0 := B.2.1.2.1
          go_wp2_with fail
          clear q0
          have B1 := B.alloc (.cells #[.int .i64 t, .bool false, .int .i64 ox, .int .i64 oy] 41)
          have N1 := OwnM.new wr t false ox oy 41
          refine wp_region_noPanic ?_
          refine wp_region_held_drew (S := fun W => FitS w ox oy ax ay bx b wr.heap.size t false W) (by kernel_rfl) (FitS.mk' B1.drew N1.drew) ?_
          intro hHeld
          refine wpAnyH_take (i := 0) (oi := _) (v := .int .i64 g) g14_0 (by kernel_rfl) (by kernel_rfl) (by kernel_rfl) (fun _ _ _ h => h) (Or.inl ⟨by rfl, ?_⟩) (by assumption) ?_
          · intro w hSw
            try dsimp only at hSw
            go_simp
          simp only [Act.put, List.setIfInBounds_toArray, List.set_cons_zero, List.set_cons_succ]
          refine wpAnyH_take (i := 1) (oi := _) (v := .agg #[.int .i64 t, .bool false, .int .i64 ox, .int .i64 oy]) g14_1 (by kernel_rfl) (by kernel_rfl) (by kernel_rfl) (fun _ _ _ h => h) (Or.inl ⟨by rfl, ?_⟩) (by assumption) ?_
          · intro w hSw
            try dsimp only at hSw
            go_simp
          simp only [Act.put, List.setIfInBounds_toArray, List.set_cons_zero, List.set_cons_succ]
          refine wpAnyH_take (i := 2) (oi := _) (v := .agg #[.int .i64 1, .int .i64 0]) g14_2 (by kernel_rfl) (by kernel_rfl) (by kernel_rfl) (fun _ _ _ h => h) (Or.inl ⟨by rfl, ?_⟩) (by assumption) ?_
          · intro w hSw
            try dsimp only at hSw
            go_simp
          simp only [Act.put, List.setIfInBounds_toArray, List.set_cons_zero, List.set_cons_succ]
          refine wpAnyH_take (i := 4) (oi := _) (v := .agg #[.int .i64 ax, .int .i64 ay]) g14_4 (by kernel_rfl) (by kernel_rfl) (by kernel_rfl) (fun _ _ _ h => h) (Or.inl ⟨by rfl, ?_⟩) (by assumption) ?_
          · intro w hSw
            try dsimp only at hSw
            go_simp
          simp only [Act.put, List.setIfInBounds_toArray, List.set_cons_zero, List.set_cons_succ]
          refine wpAnyH_ready (rs := [3]) (by kernel_rfl) (by simp) ?_
          refine AllReadyH.cons (o := _) g14_3 (fun K hK => ?_) AllReadyH.nil
          go_simp
          refine (T1 _).mono ?_
          rintro e w1 ⟨rfl, hb⟩
          refine hK.out _ _ (FitS.keep hHeld hb) (fun hHeld2 => ?_)
          clear hK K hHeld hb
          refine wpAnyH_take (i := 5) (oi := _) (v := .bool true) g14_5 (by kernel_rfl) (by kernel_rfl) (by kernel_rfl) (fun _ _ _ h => h) (Or.inl ⟨by rfl, ?_⟩) (by assumption) ?_
          · intro w hSw
            try dsimp only at hSw
            go_simp
          simp only [Act.put, List.setIfInBounds_toArray, List.set_cons_zero, List.set_cons_succ]
          refine wpAnyH_take (i := 6) (oi := _) (v := .bool true) g14_6 (by kernel_rfl) (by kernel_rfl) (by kernel_rfl) (fun _ _ _ h => h) (Or.inl ⟨by rfl, ?_⟩) (by assumption) ?_
          · intro w hSw
            try dsimp only at hSw
            go_simp
          simp only [Act.put, List.setIfInBounds_toArray, List.set_cons_zero, List.set_cons_succ]
          refine wpAnyH_take (i := 7) (oi := _) (v := .int .i64 g) g14_7 (by kernel_rfl) (by kernel_rfl) (by kernel_rfl) (fun _ _ _ h => h) (Or.inl ⟨by rfl, ?_⟩) (by assumption) ?_
          · intro w hSw
            try dsimp only at hSw
            go_simp
          simp only [Act.put, List.setIfInBounds_toArray, List.set_cons_zero, List.set_cons_succ]
          refine wpAnyH_take (i := 8) (oi := _) (v := .agg #[.int .i64 t, .bool false, .int .i64 ox, .int .i64 oy]) g14_8 (by kernel_rfl) (by kernel_rfl) (by kernel_rfl) (fun _ _ _ h => h) (Or.inl ⟨by rfl, ?_⟩) (by assumption) ?_
          · intro w hSw
            try dsimp only at hSw
            go_simp
          simp only [Act.put, List.setIfInBounds_toArray, List.set_cons_zero, List.set_cons_succ]
          refine wpAnyH_take (i := 9) (oi := _) (v := .agg #[.int .i64 0, .int .i64 1]) g14_9 (by kernel_rfl) (by kernel_rfl) (by kernel_rfl) (fun _ _ _ h => h) (Or.inl ⟨by rfl, ?_⟩) (by assumption) ?_
          · intro w hSw
            try dsimp only at hSw
            go_simp
          simp only [Act.put, List.setIfInBounds_toArray, List.set_cons_zero, List.set_cons_succ]
          refine wpAnyH_take (i := 11) (oi := _) (v := .agg #[.int .i64 bx, .int .i64 b]) g14_11 (by kernel_rfl) (by kernel_rfl) (by kernel_rfl) (fun _ _ _ h => h) (Or.inl ⟨by rfl, ?_⟩) (by assumption) ?_
          · intro w hSw
            try dsimp only at hSw
            go_simp
          simp only [Act.put, List.setIfInBounds_toArray, List.set_cons_zero, List.set_cons_succ]
          refine wpAnyH_ready (rs := [10]) (by kernel_rfl) (by simp) ?_
          refine AllReadyH.cons (o := _) g14_10 (fun K hK => ?_) AllReadyH.nil
          go_simp
          refine (T2 _).mono ?_
          rintro e w2 ⟨rfl, hb⟩
          refine hK.out _ _ (FitS.keep hHeld2 hb) (fun hHeld3 => ?_)
          clear hK K hHeld2 hb
          refine wpAnyH_take (i := 12) (oi := _) (v := .bool true) g14_12 (by kernel_rfl) (by kernel_rfl) (by kernel_rfl) (fun _ _ _ h => h) (Or.inl ⟨by rfl, ?_⟩) (by assumption) ?_
          · intro w hSw
            try dsimp only at hSw
            go_simp
          simp only [Act.put, List.setIfInBounds_toArray, List.set_cons_zero, List.set_cons_succ]
          refine wpAnyH_take (i := 13) (oi := _) (v := .bool true) g14_13 (by kernel_rfl) (by kernel_rfl) (by kernel_rfl) (fun _ _ _ h => h) (Or.inl ⟨by rfl, ?_⟩) (by assumption) ?_
          · intro w hSw
            try dsimp only at hSw
            go_simp
          simp only [Act.put, List.setIfInBounds_toArray, List.set_cons_zero, List.set_cons_succ]
          refine wpAnyH_done (by kernel_rfl) ?_ _
          refine NoPanic.normal ?_
          obtain ⟨B2, N2⟩ := hHeld3.1
          clear B B1 N1 hHeld3
          have q1 := N2.2.1
          have q2 := B2.2.2.2.2.2
          go_wp2
          exact bodyPost_ret (v := .agg #[.int .i64 t, .bool false, .int .i64 ox, .int .i64 oy]) (by simp [results, Tryd.results68, go_sem, q2]) rfl ⟨by rw [(unhide Hh).1, (unhide Hh).2], bset (bset (bset (bset B2.1 (by dsimp only; omega)) (by dsimp only; omega)) (by dsimp only; omega)) (by dsimp only; omega)⟩
        · have hm := hide (unhide Mis hh)
          have Hnext := hide (show t = T → 0 + 1 ≤ F.toNat by intro e; have := unhide HkF e; cases F <;> simp_all)
          clear hh
          by_cases z1 : p1 = ax
          · rw [z1] at T1 hm
            clear z1
            by_cases z2 : p2 = ay
            · rw [z2] at T1 hm
              clear z2
              by_cases z3 : r1 = bx
              · rw [z3] at T2 hm
                clear z3
                have z4 : (r2 == b) = false := by
                  by_cases e : r2 = b
                  · exact absurd ⟨rfl, rfl, rfl, e⟩ (unhide hm)
                  · simp [e]
                clear hm
                have q0 := B.2.1.2.1
                go_wp2_with fail
                clear q0
                have B1 := B.alloc (.cells #[.int .i64 t, .bool false, .int .i64 ox, .int .i64 oy] 41)
                have N1 := OwnM.new wr t false ox oy 41
                refine wp_region_noPanic ?_
                refine wp_region_held_drew (S := fun W => FitS w ox oy ax ay bx b wr.heap.size t false W) (by kernel_rfl) (FitS.mk' B1.drew N1.drew) ?_
                intro hHeld
                refine wpAnyH_take (i := 0) (oi := _) (v := .int .i64 g) g14_0 (by kernel_rfl) (by kernel_rfl) (by kernel_rfl) (fun _ _ _ h => h) (Or.inl ⟨by rfl, ?_⟩) (by assumption) ?_
                · intro w hSw
                  try dsimp only at hSw
                  go_simp
                simp only [Act.put, List.setIfInBounds_toArray, List.set_cons_zero, List.set_cons_succ]
                refine wpAnyH_take (i := 1) (oi := _) (v := .agg #[.int .i64 t, .bool false, .int .i64 ox, .int .i64 oy]) g14_1 (by kernel_rfl) (by kernel_rfl) (by kernel_rfl) (fun _ _ _ h => h) (Or.inl ⟨by rfl, ?_⟩) (by assumption) ?_
                · intro w hSw
                  try dsimp only at hSw
                  go_simp
                simp only [Act.put, List.setIfInBounds_toArray, List.set_cons_zero, List.set_cons_succ]
                refine wpAnyH_take (i := 2) (oi := _) (v := .agg #[.int .i64 1, .int .i64 0]) g14_2 (by kernel_rfl) (by kernel_rfl) (by kernel_rfl) (fun _ _ _ h => h) (Or.inl ⟨by rfl, ?_⟩) (by assumption) ?_
                · intro w hSw
                  try dsimp only at hSw
                  go_simp
                simp only [Act.put, List.setIfInBounds_toArray, List.set_cons_zero, List.set_cons_succ]
                refine wpAnyH_take (i := 4) (oi := _) (v := .agg #[.int .i64 ax, .int .i64 ay]) g14_4 (by kernel_rfl) (by kernel_rfl) (by kernel_rfl) (fun _ _ _ h => h) (Or.inl ⟨by rfl, ?_⟩) (by assumption) ?_
                · intro w hSw
                  try dsimp only at hSw
                  go_simp
                simp only [Act.put, List.setIfInBounds_toArray, List.set_cons_zero, List.set_cons_succ]
                refine wpAnyH_ready (rs := [3]) (by kernel_rfl) (by simp) ?_
                refine AllReadyH.cons (o := _) g14_3 (fun K hK => ?_) AllReadyH.nil
                go_simp
                refine (T1 _).mono ?_
                rintro e w1 ⟨rfl, hb⟩
                refine hK.out _ _ (FitS.keep hHeld hb) (fun hHeld2 => ?_)
                clear hK K hHeld hb
                refine wpAnyH_take (i := 5) (oi := _) (v := .bool true) g14_5 (by kernel_rfl) (by kernel_rfl) (by kernel_rfl) (fun _ _ _ h => h) (Or.inl ⟨by rfl, ?_⟩) (by assumption) ?_
                · intro w hSw
                  try dsimp only at hSw
                  go_simp
                simp only [Act.put, List.setIfInBounds_toArray, List.set_cons_zero, List.set_cons_succ]
                refine wpAnyH_take (i := 6) (oi := _) (v := .bool true) g14_6 (by kernel_rfl) (by kernel_rfl) (by kernel_rfl) (fun _ _ _ h => h) (Or.inl ⟨by rfl, ?_⟩) (by assumption) ?_
                · intro w hSw
                  try dsimp only at hSw
                  go_simp
                simp only [Act.put, List.setIfInBounds_toArray, List.set_cons_zero, List.set_cons_succ]
                refine wpAnyH_take (i := 7) (oi := _) (v := .int .i64 g) g14_7 (by kernel_rfl) (by kernel_rfl) (by kernel_rfl) (fun _ _ _ h => h) (Or.inl ⟨by rfl, ?_⟩) (by assumption) ?_
                · intro w hSw
                  try dsimp only at hSw
                  go_simp
                simp only [Act.put, List.setIfInBounds_toArray, List.set_cons_zero, List.set_cons_succ]
                refine wpAnyH_take (i := 8) (oi := _) (v := .agg #[.int .i64 t, .bool false, .int .i64 ox, .int .i64 oy]) g14_8 (by kernel_rfl) (by kernel_rfl) (by kernel_rfl) (fun _ _ _ h => h) (Or.inl ⟨by rfl, ?_⟩) (by assumption) ?_
                · intro w hSw
                  try dsimp only at hSw
                  go_simp
                simp only [Act.put, List.setIfInBounds_toArray, List.set_cons_zero, List.set_cons_succ]
                refine wpAnyH_take (i := 9) (oi := _) (v := .agg #[.int .i64 0, .int .i64 1]) g14_9 (by kernel_rfl) (by kernel_rfl) (by kernel_rfl) (fun _ _ _ h => h) (Or.inl ⟨by rfl, ?_⟩) (by assumption) ?_
                · intro w hSw
                  try dsimp only at hSw
                  go_simp
                simp only [Act.put, List.setIfInBounds_toArray, List.set_cons_zero, List.set_cons_succ]
                refine wpAnyH_take (i := 11) (oi := _) (v := .agg #[.int .i64 bx, .int .i64 b]) g14_11 (by kernel_rfl) (by kernel_rfl) (by kernel_rfl) (fun _ _ _ h => h) (Or.inl ⟨by rfl, ?_⟩) (by assumption) ?_
                · intro w hSw
                  try dsimp only at hSw
                  go_simp
                simp only [Act.put, List.setIfInBounds_toArray, List.set_cons_zero, List.set_cons_succ]
                refine wpAnyH_ready (rs := [10]) (by kernel_rfl) (by simp) ?_
                refine AllReadyH.cons (o := _) g14_10 (fun K hK => ?_) AllReadyH.nil
                go_simp
                refine (T2 _).mono ?_
                rintro e w2 ⟨rfl, hb⟩
                refine hK.out _ _ (FitS.keep hHeld2 hb) (fun hHeld3 => ?_)
                clear hK K hHeld2 hb
                refine wpAnyH_take (i := 12) (oi := _) (v := .bool false) g14_12 (by kernel_rfl) (by kernel_rfl) (by kernel_rfl) (fun _ _ _ h => h) (Or.inl ⟨by rfl, ?_⟩) (by assumption) ?_
                · intro w hSw
                  try dsimp only at hSw
                  go_simp
                simp only [Act.put, List.setIfInBounds_toArray, List.set_cons_zero, List.set_cons_succ]
                refine wpAnyH_take (i := 13) (oi := _) (v := .bool false) g14_13 (by kernel_rfl) (by kernel_rfl) (by kernel_rfl) (fun _ _ _ h => h) (Or.inl ⟨by rfl, ?_⟩) (by assumption) ?_
                · intro w hSw
                  try dsimp only at hSw
                  go_simp
                simp only [Act.put, List.setIfInBounds_toArray, List.set_cons_zero, List.set_cons_succ]
                refine wpAnyH_done (by kernel_rfl) ?_ _
                refine NoPanic.normal ?_
                obtain ⟨B2, N2⟩ := hHeld3.1
                clear B B1 N1 hHeld3
                go_wp2
                go_roundw
                case rel => exact ⟨0 + 1, rfl, by omega, unhide Hnext, B2⟩
                case measure => simp [intOf]
              · have z4 : (r1 == bx) = false := by simp [z3]
                clear z3 hm
                have q0 := B.2.1.2.1
                go_wp2_with fail
                clear q0
                have B1 := B.alloc (.cells #[.int .i64 t, .bool false, .int .i64 ox, .int .i64 oy] 41)
                have N1 := OwnM.new wr t false ox oy 41
                refine wp_region_noPanic ?_
                refine wp_region_held_drew (S := fun W => FitS w ox oy ax ay bx b wr.heap.size t false W) (by kernel_rfl) (FitS.mk' B1.drew N1.drew) ?_
                intro hHeld
                refine wpAnyH_take (i := 0) (oi := _) (v := .int .i64 g) g14_0 (by kernel_rfl) (by kernel_rfl) (by kernel_rfl) (fun _ _ _ h => h) (Or.inl ⟨by rfl, ?_⟩) (by assumption) ?_
                · intro w hSw
                  try dsimp only at hSw
                  go_simp
                simp only [Act.put, List.setIfInBounds_toArray, List.set_cons_zero, List.set_cons_succ]
                refine wpAnyH_take (i := 1) (oi := _) (v := .agg #[.int .i64 t, .bool false, .int .i64 ox, .int .i64 oy]) g14_1 (by kernel_rfl) (by kernel_rfl) (by kernel_rfl) (fun _ _ _ h => h) (Or.inl ⟨by rfl, ?_⟩) (by assumption) ?_
                · intro w hSw
                  try dsimp only at hSw
                  go_simp
                simp only [Act.put, List.setIfInBounds_toArray, List.set_cons_zero, List.set_cons_succ]
                refine wpAnyH_take (i := 2) (oi := _) (v := .agg #[.int .i64 1, .int .i64 0]) g14_2 (by kernel_rfl) (by kernel_rfl) (by kernel_rfl) (fun _ _ _ h => h) (Or.inl ⟨by rfl, ?_⟩) (by assumption) ?_
                · intro w hSw
                  try dsimp only at hSw
                  go_simp
                simp only [Act.put, List.setIfInBounds_toArray, List.set_cons_zero, List.set_cons_succ]
                refine wpAnyH_take (i := 4) (oi := _) (v := .agg #[.int .i64 ax, .int .i64 ay]) g14_4 (by kernel_rfl) (by kernel_rfl) (by kernel_rfl) (fun _ _ _ h => h) (Or.inl ⟨by rfl, ?_⟩) (by assumption) ?_
                · intro w hSw
                  try dsimp only at hSw
                  go_simp
                simp only [Act.put, List.setIfInBounds_toArray, List.set_cons_zero, List.set_cons_succ]
                refine wpAnyH_ready (rs := [3]) (by kernel_rfl) (by simp) ?_
                refine AllReadyH.cons (o := _) g14_3 (fun K hK => ?_) AllReadyH.nil
                go_simp
                refine (T1 _).mono ?_
                rintro e w1 ⟨rfl, hb⟩
                refine hK.out _ _ (FitS.keep hHeld hb) (fun hHeld2 => ?_)
                clear hK K hHeld hb
                refine wpAnyH_take (i := 5) (oi := _) (v := .bool true) g14_5 (by kernel_rfl) (by kernel_rfl) (by kernel_rfl) (fun _ _ _ h => h) (Or.inl ⟨by rfl, ?_⟩) (by assumption) ?_
                · intro w hSw
                  try dsimp only at hSw
                  go_simp
                simp only [Act.put, List.setIfInBounds_toArray, List.set_cons_zero, List.set_cons_succ]
                refine wpAnyH_take (i := 6) (oi := _) (v := .bool true) g14_6 (by kernel_rfl) (by kernel_rfl) (by kernel_rfl) (fun _ _ _ h => h) (Or.inl ⟨by rfl, ?_⟩) (by assumption) ?_
                · intro w hSw
                  try dsimp only at hSw
                  go_simp
                simp only [Act.put, List.setIfInBounds_toArray, List.set_cons_zero, List.set_cons_succ]
                refine wpAnyH_take (i := 7) (oi := _) (v := .int .i64 g) g14_7 (by kernel_rfl) (by kernel_rfl) (by kernel_rfl) (fun _ _ _ h => h) (Or.inl ⟨by rfl, ?_⟩) (by assumption) ?_
                · intro w hSw
                  try dsimp only at hSw
                  go_simp
                simp only [Act.put, List.setIfInBounds_toArray, List.set_cons_zero, List.set_cons_succ]
                refine wpAnyH_take (i := 8) (oi := _) (v := .agg #[.int .i64 t, .bool false, .int .i64 ox, .int .i64 oy]) g14_8 (by kernel_rfl) (by kernel_rfl) (by kernel_rfl) (fun _ _ _ h => h) (Or.inl ⟨by rfl, ?_⟩) (by assumption) ?_
                · intro w hSw
                  try dsimp only at hSw
                  go_simp
                simp only [Act.put, List.setIfInBounds_toArray, List.set_cons_zero, List.set_cons_succ]
                refine wpAnyH_take (i := 9) (oi := _) (v := .agg #[.int .i64 0, .int .i64 1]) g14_9 (by kernel_rfl) (by kernel_rfl) (by kernel_rfl) (fun _ _ _ h => h) (Or.inl ⟨by rfl, ?_⟩) (by assumption) ?_
                · intro w hSw
                  try dsimp only at hSw
                  go_simp
                simp only [Act.put, List.setIfInBounds_toArray, List.set_cons_zero, List.set_cons_succ]
                refine wpAnyH_take (i := 11) (oi := _) (v := .agg #[.int .i64 bx, .int .i64 b]) g14_11 (by kernel_rfl) (by kernel_rfl) (by kernel_rfl) (fun _ _ _ h => h) (Or.inl ⟨by rfl, ?_⟩) (by assumption) ?_
                · intro w hSw
                  try dsimp only at hSw
                  go_simp
                simp only [Act.put, List.setIfInBounds_toArray, List.set_cons_zero, List.set_cons_succ]
                refine wpAnyH_ready (rs := [10]) (by kernel_rfl) (by simp) ?_
                refine AllReadyH.cons (o := _) g14_10 (fun K hK => ?_) AllReadyH.nil
                go_simp
                refine (T2 _).mono ?_
                rintro e w2 ⟨rfl, hb⟩
                refine hK.out _ _ (FitS.keep hHeld2 hb) (fun hHeld3 => ?_)
                clear hK K hHeld2 hb
                refine wpAnyH_take (i := 12) (oi := _) (v := .bool false) g14_12 (by kernel_rfl) (by kernel_rfl) (by kernel_rfl) (fun _ _ _ h => h) (Or.inl ⟨by rfl, ?_⟩) (by assumption) ?_
                · intro w hSw
                  try dsimp only at hSw
                  go_simp
                simp only [Act.put, List.setIfInBounds_toArray, List.set_cons_zero, List.set_cons_succ]
                refine wpAnyH_take (i := 13) (oi := _) (v := .bool false) g14_13 (by kernel_rfl) (by kernel_rfl) (by kernel_rfl) (fun _ _ _ h => h) (Or.inl ⟨by rfl, ?_⟩) (by assumption) ?_
                · intro w hSw
                  try dsimp only at hSw
                  go_simp
                simp only [Act.put, List.setIfInBounds_toArray, List.set_cons_zero, List.set_cons_succ]
                refine wpAnyH_done (by kernel_rfl) ?_ _
                refine NoPanic.normal ?_
                obtain ⟨B2, N2⟩ := hHeld3.1
                clear B B1 N1 hHeld3
                go_wp2
                go_roundw
                case rel => exact ⟨0 + 1, rfl, by omega, unhide Hnext, B2⟩
                case measure => simp [intOf]
            · have z4 : (p2 == ay) = false := by simp [z2]
              clear z2 hm
              have q0 := B.2.1.2.1
              go_wp2_with fail
              clear q0
              have B1 := B.alloc (.cells #[.int .i64 t, .bool false, .int .i64 ox, .int .i64 oy] 41)
              have N1 := OwnM.new wr t false ox oy 41
              refine wp_region_noPanic ?_
              refine wp_region_held_drew (S := fun W => FitS w ox oy ax ay bx b wr.heap.size t false W) (by kernel_rfl) (FitS.mk' B1.drew N1.drew) ?_
              intro hHeld
              refine wpAnyH_take (i := 0) (oi := _) (v := .int .i64 g) g14_0 (by kernel_rfl) (by kernel_rfl) (by kernel_rfl) (fun _ _ _ h => h) (Or.inl ⟨by rfl, ?_⟩) (by assumption) ?_
              · intro w hSw
                try dsimp only at hSw
                go_simp
              simp only [Act.put, List.setIfInBounds_toArray, List.set_cons_zero, List.set_cons_succ]
              refine wpAnyH_take (i := 1) (oi := _) (v := .agg #[.int .i64 t, .bool false, .int .i64 ox, .int .i64 oy]) g14_1 (by kernel_rfl) (by kernel_rfl) (by kernel_rfl) (fun _ _ _ h => h) (Or.inl ⟨by rfl, ?_⟩) (by assumption) ?_
              · intro w hSw
                try dsimp only at hSw
                go_simp
              simp only [Act.put, List.setIfInBounds_toArray, List.set_cons_zero, List.set_cons_succ]
              refine wpAnyH_take (i := 2) (oi := _) (v := .agg #[.int .i64 1, .int .i64 0]) g14_2 (by kernel_rfl) (by kernel_rfl) (by kernel_rfl) (fun _ _ _ h => h) (Or.inl ⟨by rfl, ?_⟩) (by assumption) ?_
              · intro w hSw
                try dsimp only at hSw
                go_simp
              simp only [Act.put, List.setIfInBounds_toArray, List.set_cons_zero, List.set_cons_succ]
              refine wpAnyH_take (i := 4) (oi := _) (v := .agg #[.int .i64 ax, .int .i64 ay]) g14_4 (by kernel_rfl) (by kernel_rfl) (by kernel_rfl) (fun _ _ _ h => h) (Or.inl ⟨by rfl, ?_⟩) (by assumption) ?_
              · intro w hSw
                try dsimp only at hSw
                go_simp
              simp only [Act.put, List.setIfInBounds_toArray, List.set_cons_zero, List.set_cons_succ]
              refine wpAnyH_ready (rs := [3]) (by kernel_rfl) (by simp) ?_
              refine AllReadyH.cons (o := _) g14_3 (fun K hK => ?_) AllReadyH.nil
              go_simp
              refine (T1 _).mono ?_
              rintro e w1 ⟨rfl, hb⟩
              refine hK.out _ _ (FitS.keep hHeld hb) (fun hHeld2 => ?_)
              clear hK K hHeld hb
              refine wpAnyH_take (i := 5) (oi := _) (v := .bool false) g14_5 (by kernel_rfl) (by kernel_rfl) (by kernel_rfl) (fun _ _ _ h => h) (Or.inl ⟨by rfl, ?_⟩) (by assumption) ?_
              · intro w hSw
                try dsimp only at hSw
                go_simp
              simp only [Act.put, List.setIfInBounds_toArray, List.set_cons_zero, List.set_cons_succ]
              refine wpAnyH_take (i := 6) (oi := _) (v := .bool false) g14_6 (by kernel_rfl) (by kernel_rfl) (by kernel_rfl) (fun _ _ _ h => h) (Or.inl ⟨by rfl, ?_⟩) (by assumption) ?_
              · intro w hSw
                try dsimp only at hSw
                go_simp
              simp only [Act.put, List.setIfInBounds_toArray, List.set_cons_zero, List.set_cons_succ]
              refine wpAnyH_take (i := 7) (oi := _) (v := undef) g14_7 (by kernel_rfl) (by kernel_rfl) (by kernel_rfl) (fun _ _ _ h => h) (Or.inr ⟨by rfl, rfl⟩) (by assumption) ?_
              simp only [Act.put, List.setIfInBounds_toArray, List.set_cons_zero, List.set_cons_succ]
              refine wpAnyH_take (i := 8) (oi := _) (v := undef) g14_8 (by kernel_rfl) (by kernel_rfl) (by kernel_rfl) (fun _ _ _ h => h) (Or.inr ⟨by rfl, rfl⟩) (by assumption) ?_
              simp only [Act.put, List.setIfInBounds_toArray, List.set_cons_zero, List.set_cons_succ]
              refine wpAnyH_take (i := 9) (oi := _) (v := undef) g14_9 (by kernel_rfl) (by kernel_rfl) (by kernel_rfl) (fun _ _ _ h => h) (Or.inr ⟨by rfl, rfl⟩) (by assumption) ?_
              simp only [Act.put, List.setIfInBounds_toArray, List.set_cons_zero, List.set_cons_succ]
              refine wpAnyH_take (i := 10) (oi := _) (v := undef) g14_10 (by kernel_rfl) (by kernel_rfl) (by kernel_rfl) (fun _ _ _ h => h) (Or.inr ⟨by rfl, rfl⟩) (by assumption) ?_
              simp only [Act.put, List.setIfInBounds_toArray, List.set_cons_zero, List.set_cons_succ]
              refine wpAnyH_take (i := 11) (oi := _) (v := undef) g14_11 (by kernel_rfl) (by kernel_rfl) (by kernel_rfl) (fun _ _ _ h => h) (Or.inr ⟨by rfl, rfl⟩) (by assumption) ?_
              simp only [Act.put, List.setIfInBounds_toArray, List.set_cons_zero, List.set_cons_succ]
              refine wpAnyH_take (i := 12) (oi := _) (v := undef) g14_12 (by kernel_rfl) (by kernel_rfl) (by kernel_rfl) (fun _ _ _ h => h) (Or.inr ⟨by rfl, rfl⟩) (by assumption) ?_
              simp only [Act.put, List.setIfInBounds_toArray, List.set_cons_zero, List.set_cons_succ]
              refine wpAnyH_take (i := 13) (oi := _) (v := .bool false) g14_13 (by kernel_rfl) (by kernel_rfl) (by kernel_rfl) (fun _ _ _ h => h) (Or.inl ⟨by rfl, ?_⟩) (by assumption) ?_
              · intro w hSw
                try dsimp only at hSw
                go_simp
              simp only [Act.put, List.setIfInBounds_toArray, List.set_cons_zero, List.set_cons_succ]
              refine wpAnyH_done (by kernel_rfl) ?_ _
              refine NoPanic.normal ?_
              obtain ⟨B2, N2⟩ := hHeld2.1
              clear B B1 N1 hHeld2
              go_wp2
              go_roundw
              case rel => exact ⟨0 + 1, rfl, by omega, unhide Hnext, B2⟩
              case measure => simp [intOf]
          · have z4 : (p1 == ax) = false := by simp [z1]
            clear z1 hm
            have q0 := B.2.1.2.1
            go_wp2_with fail
            clear q0
            have B1 := B.alloc (.cells #[.int .i64 t, .bool false, .int .i64 ox, .int .i64 oy] 41)
            have N1 := OwnM.new wr t false ox oy 41
            refine wp_region_noPanic ?_
            refine wp_region_held_drew (S := fun W => FitS w ox oy ax ay bx b wr.heap.size t false W) (by kernel_rfl) (FitS.mk' B1.drew N1.drew) ?_
            intro hHeld
            refine wpAnyH_take (i := 0) (oi := _) (v := .int .i64 g) g14_0 (by kernel_rfl) (by kernel_rfl) (by kernel_rfl) (fun _ _ _ h => h) (Or.inl ⟨by rfl, ?_⟩) (by assumption) ?_
            · intro w hSw
              try dsimp only at hSw
              go_simp
            simp only [Act.put, List.setIfInBounds_toArray, List.set_cons_zero, List.set_cons_succ]
            refine wpAnyH_take (i := 1) (oi := _) (v := .agg #[.int .i64 t, .bool false, .int .i64 ox, .int .i64 oy]) g14_1 (by kernel_rfl) (by kernel_rfl) (by kernel_rfl) (fun _ _ _ h => h) (Or.inl ⟨by rfl, ?_⟩) (by assumption) ?_
            · intro w hSw
              try dsimp only at hSw
              go_simp
            simp only [Act.put, List.setIfInBounds_toArray, List.set_cons_zero, List.set_cons_succ]
            refine wpAnyH_take (i := 2) (oi := _) (v := .agg #[.int .i64 1, .int .i64 0]) g14_2 (by kernel_rfl) (by kernel_rfl) (by kernel_rfl) (fun _ _ _ h => h) (Or.inl ⟨by rfl, ?_⟩) (by assumption) ?_
            · intro w hSw
              try dsimp only at hSw
              go_simp
            simp only [Act.put, List.setIfInBounds_toArray, List.set_cons_zero, List.set_cons_succ]
            refine wpAnyH_take (i := 4) (oi := _) (v := .agg #[.int .i64 ax, .int .i64 ay]) g14_4 (by kernel_rfl) (by kernel_rfl) (by kernel_rfl) (fun _ _ _ h => h) (Or.inl ⟨by rfl, ?_⟩) (by assumption) ?_
            · intro w hSw
              try dsimp only at hSw
              go_simp
            simp only [Act.put, List.setIfInBounds_toArray, List.set_cons_zero, List.set_cons_succ]
            refine wpAnyH_ready (rs := [3]) (by kernel_rfl) (by simp) ?_
            refine AllReadyH.cons (o := _) g14_3 (fun K hK => ?_) AllReadyH.nil
            go_simp
            refine (T1 _).mono ?_
            rintro e w1 ⟨rfl, hb⟩
            refine hK.out _ _ (FitS.keep hHeld hb) (fun hHeld2 => ?_)
            clear hK K hHeld hb
            refine wpAnyH_take (i := 5) (oi := _) (v := .bool false) g14_5 (by kernel_rfl) (by kernel_rfl) (by kernel_rfl) (fun _ _ _ h => h) (Or.inl ⟨by rfl, ?_⟩) (by assumption) ?_
            · intro w hSw
              try dsimp only at hSw
              go_simp
            simp only [Act.put, List.setIfInBounds_toArray, List.set_cons_zero, List.set_cons_succ]
            refine wpAnyH_take (i := 6) (oi := _) (v := .bool false) g14_6 (by kernel_rfl) (by kernel_rfl) (by kernel_rfl) (fun _ _ _ h => h) (Or.inl ⟨by rfl, ?_⟩) (by assumption) ?_
            · intro w hSw
              try dsimp only at hSw
              go_simp
            simp only [Act.put, List.setIfInBounds_toArray, List.set_cons_zero, List.set_cons_succ]
            refine wpAnyH_take (i := 7) (oi := _) (v := undef) g14_7 (by kernel_rfl) (by kernel_rfl) (by kernel_rfl) (fun _ _ _ h => h) (Or.inr ⟨by rfl, rfl⟩) (by assumption) ?_
            simp only [Act.put, List.setIfInBounds_toArray, List.set_cons_zero, List.set_cons_succ]
            refine wpAnyH_take (i := 8) (oi := _) (v := undef) g14_8 (by kernel_rfl) (by kernel_rfl) (by kernel_rfl) (fun _ _ _ h => h) (Or.inr ⟨by rfl, rfl⟩) (by assumption) ?_
            simp only [Act.put, List.setIfInBounds_toArray, List.set_cons_zero, List.set_cons_succ]
            refine wpAnyH_take (i := 9) (oi := _) (v := undef) g14_9 (by kernel_rfl) (by kernel_rfl) (by kernel_rfl) (fun _ _ _ h => h) (Or.inr ⟨by rfl, rfl⟩) (by assumption) ?_
            simp only [Act.put, List.setIfInBounds_toArray, List.set_cons_zero, List.set_cons_succ]
            refine wpAnyH_take (i := 10) (oi := _) (v := undef) g14_10 (by kernel_rfl) (by kernel_rfl) (by kernel_rfl) (fun _ _ _ h => h) (Or.inr ⟨by rfl, rfl⟩) (by assumption) ?_
            simp only [Act.put, List.setIfInBounds_toArray, List.set_cons_zero, List.set_cons_succ]
            refine wpAnyH_take (i := 11) (oi := _) (v := undef) g14_11 (by kernel_rfl) (by kernel_rfl) (by kernel_rfl) (fun _ _ _ h => h) (Or.inr ⟨by rfl, rfl⟩) (by assumption) ?_
            simp only [Act.put, List.setIfInBounds_toArray, List.set_cons_zero, List.set_cons_succ]
            refine wpAnyH_take (i := 12) (oi := _) (v := undef) g14_12 (by kernel_rfl) (by kernel_rfl) (by kernel_rfl) (fun _ _ _ h => h) (Or.inr ⟨by rfl, rfl⟩) (by assumption) ?_
            simp only [Act.put, List.setIfInBounds_toArray, List.set_cons_zero, List.set_cons_succ]
            refine wpAnyH_take (i := 13) (oi := _) (v := .bool false) g14_13 (by kernel_rfl) (by kernel_rfl) (by kernel_rfl) (fun _ _ _ h => h) (Or.inl ⟨by rfl, ?_⟩) (by assumption) ?_
            · intro w hSw
              try dsimp only at hSw
              go_simp
            simp only [Act.put, List.setIfInBounds_toArray, List.set_cons_zero, List.set_cons_succ]
            refine wpAnyH_done (by kernel_rfl) ?_ _
            refine NoPanic.normal ?_
            obtain ⟨B2, N2⟩ := hHeld2.1
            clear B B1 N1 hHeld2
            go_wp2
            go_roundw
            case rel => exact ⟨0 + 1, rfl, by omega, unhide Hnext, B2⟩
            case measure => simp [intOf]
      · obtain ⟨p1, p2, r1, r2, T1, T2, hit, mis⟩ := unhide P t htg true
        have Hit := hide hit
        have Mis := hide mis
        clear hit mis
        by_cases hh : t = T ∧ true = F
        · obtain ⟨z1, z2, z3, z4⟩ := unhide Hit hh
          rw [z1, z2] at T1
          rw [z3, z4] at T2
          clear z1 z2 z3 z4
          have Hh := hide hh
          clear hh
          have q0 := B.2.1.2.1
          go_wp2_with fail
          clear q0
          have B1 := B.alloc (.cells #[.int .i64 t, .bool true, .int .i64 ox, .int .i64 oy] 41)
          have N1 := OwnM.new wr t true ox oy 41
          refine wp_region_noPanic ?_
          refine wp_region_held_drew (S := fun W => FitS w ox oy ax ay bx b wr.heap.size t true W) (by kernel_rfl) (FitS.mk' B1.drew N1.drew) ?_
          intro hHeld
          refine wpAnyH_take (i := 0) (oi := _) (v := .int .i64 g) g14_0 (by kernel_rfl) (by kernel_rfl) (by kernel_rfl) (fun _ _ _ h => h) (Or.inl ⟨by rfl, ?_⟩) (by assumption) ?_
          · intro w hSw
            try dsimp only at hSw
            go_simp
          simp only [Act.put, List.setIfInBounds_toArray, List.set_cons_zero, List.set_cons_succ]
          refine wpAnyH_take (i := 1) (oi := _) (v := .agg #[.int .i64 t, .bool true, .int .i64 ox, .int .i64 oy]) g14_1 (by kernel_rfl) (by kernel_rfl) (by kernel_rfl) (fun _ _ _ h => h) (Or.inl ⟨by rfl, ?_⟩) (by assumption) ?_
          · intro w hSw
            try dsimp only at hSw
            go_simp
          simp only [Act.put, List.setIfInBounds_toArray, List.set_cons_zero, List.set_cons_succ]
          refine wpAnyH_take (i := 2) (oi := _) (v := .agg #[.int .i64 1, .int .i64 0]) g14_2 (by kernel_rfl) (by kernel_rfl) (by kernel_rfl) (fun _ _ _ h => h) (Or.inl ⟨by rfl, ?_⟩) (by assumption) ?_
          · intro w hSw
            try dsimp only at hSw
            go_simp
          simp only [Act.put, List.setIfInBounds_toArray, List.set_cons_zero, List.set_cons_succ]
          refine wpAnyH_take (i := 4) (oi := _) (v := .agg #[.int .i64 ax, .int .i64 ay]) g14_4 (by kernel_rfl) (by kernel_rfl) (by kernel_rfl) (fun _ _ _ h => h) (Or.inl ⟨by rfl, ?_⟩) (by assumption) ?_
          · intro w hSw
            try dsimp only at hSw
            go_simp
          simp only [Act.put, List.setIfInBounds_toArray, List.set_cons_zero, List.set_cons_succ]
          refine wpAnyH_ready (rs := [3]) (by kernel_rfl) (by simp) ?_
          refine AllReadyH.cons (o := _) g14_3 (fun K hK => ?_) AllReadyH.nil
          go_simp
          refine (T1 _).mono ?_
          rintro e w1 ⟨rfl, hb⟩
          refine hK.out _ _ (FitS.keep hHeld hb) (fun hHeld2 => ?_)
          clear hK K hHeld hb
          refine wpAnyH_take (i := 5) (oi := _) (v := .bool true) g14_5 (by kernel_rfl) (by kernel_rfl) (by kernel_rfl) (fun _ _ _ h => h) (Or.inl ⟨by rfl, ?_⟩) (by assumption) ?_
          · intro w hSw
            try dsimp only at hSw
            go_simp
          simp only [Act.put, List.setIfInBounds_toArray, List.set_cons_zero, List.set_cons_succ]
          refine wpAnyH_take (i := 6) (oi := _) (v := .bool true) g14_6 (by kernel_rfl) (by kernel_rfl) (by kernel_rfl) (fun _ _ _ h => h) (Or.inl ⟨by rfl, ?_⟩) (by assumption) ?_
          · intro w hSw
            try dsimp only at hSw
            go_simp
          simp only [Act.put, List.setIfInBounds_toArray, List.set_cons_zero, List.set_cons_succ]
          refine wpAnyH_take (i := 7) (oi := _) (v := .int .i64 g) g14_7 (by kernel_rfl) (by kernel_rfl) (by kernel_rfl) (fun _ _ _ h => h) (Or.inl ⟨by rfl, ?_⟩) (by assumption) ?_
          · intro w hSw
            try dsimp only at hSw
            go_simp
          simp only [Act.put, List.setIfInBounds_toArray, List.set_cons_zero, List.set_cons_succ]
          refine wpAnyH_take (i := 8) (oi := _) (v := .agg #[.int .i64 t, .bool true, .int .i64 ox, .int .i64 oy]) g14_8 (by kernel_rfl) (by kernel_rfl) (by kernel_rfl) (fun _ _ _ h => h) (Or.inl ⟨by rfl, ?_⟩) (by assumption) ?_
          · intro w hSw
            try dsimp only at hSw
            go_simp
          simp only [Act.put, List.setIfInBounds_toArray, List.set_cons_zero, List.set_cons_succ]
          refine wpAnyH_take (i := 9) (oi := _) (v := .agg #[.int .i64 0, .int .i64 1]) g14_9 (by kernel_rfl) (by kernel_rfl) (by kernel_rfl) (fun _ _ _ h => h) (Or.inl ⟨by rfl, ?_⟩) (by assumption) ?_
          · intro w hSw
            try dsimp only at hSw
            go_simp
          simp only [Act.put, List.setIfInBounds_toArray, List.set_cons_zero, List.set_cons_succ]
          refine wpAnyH_take (i := 11) (oi := _) (v := .agg #[.int .i64 bx, .int .i64 b]) g14_11 (by kernel_rfl) (by kernel_rfl) (by kernel_rfl) (fun _ _ _ h => h) (Or.inl ⟨by rfl, ?_⟩) (by assumption) ?_
          · intro w hSw
            try dsimp only at hSw
            go_simp
          simp only [Act.put, List.setIfInBounds_toArray, List.set_cons_zero, List.set_cons_succ]
          refine wpAnyH_ready (rs := [10]) (by kernel_rfl) (by simp) ?_
          refine AllReadyH.cons (o := _) g14_10 (fun K hK => ?_) AllReadyH.nil
          go_simp
          refine (T2 _).mono ?_
          rintro e w2 ⟨rfl, hb⟩
          refine hK.out _ _ (FitS.keep hHeld2 hb) (fun hHeld3 => ?_)
          clear hK K hHeld2 hb
          refine wpAnyH_take (i := 12) (oi := _) (v := .bool true) g14_12 (by kernel_rfl) (by kernel_rfl) (by kernel_rfl) (fun _ _ _ h => h) (Or.inl ⟨by rfl, ?_⟩) (by assumption) ?_
          · intro w hSw
            try dsimp only at hSw
            go_simp
          simp only [Act.put, List.setIfInBounds_toArray, List.set_cons_zero, List.set_cons_succ]
          refine wpAnyH_take (i := 13) (oi := _) (v := .bool true) g14_13 (by kernel_rfl) (by kernel_rfl) (by kernel_rfl) (fun _ _ _ h => h) (Or.inl ⟨by rfl, ?_⟩) (by assumption) ?_
          · intro w hSw
            try dsimp only at hSw
            go_simp
          simp only [Act.put, List.setIfInBounds_toArray, List.set_cons_zero, List.set_cons_succ]
          refine wpAnyH_done (by kernel_rfl) ?_ _
          refine NoPanic.normal ?_
          obtain ⟨B2, N2⟩ := hHeld3.1
          clear B B1 N1 hHeld3
          have q1 := N2.2.1
          have q2 := B2.2.2.2.2.2
          go_wp2
          exact bodyPost_ret (v := .agg #[.int .i64 t, .bool true, .int .i64 ox, .int .i64 oy]) (by simp [results, Tryd.results68, go_sem, q2]) rfl ⟨by rw [(unhide Hh).1, (unhide Hh).2], bset (bset (bset (bset B2.1 (by dsimp only; omega)) (by dsimp only; omega)) (by dsimp only; omega)) (by dsimp only; omega)⟩
        · have hm := hide (unhide Mis hh)
          have Hnext := hide (show t = T → 1 + 1 ≤ F.toNat by intro e; have := unhide HkF e; cases F <;> simp_all)
          clear hh
          by_cases z1 : p1 = ax
          · rw [z1] at T1 hm
            clear z1
            by_cases z2 : p2 = ay
            · rw [z2] at T1 hm
              clear z2
              by_cases z3 : r1 = bx
              · rw [z3] at T2 hm
                clear z3
                have z4 : (r2 == b) = false := by
                  by_cases e : r2 = b
                  · exact absurd ⟨rfl, rfl, rfl, e⟩ (unhide hm)
                  · simp [e]
                clear hm
                have q0 := B.2.1.2.1
                go_wp2_with fail
                clear q0
                have B1 := B.alloc (.cells #[.int .i64 t, .bool true, .int .i64 ox, .int .i64 oy] 41)
                have N1 := OwnM.new wr t true ox oy 41
                refine wp_region_noPanic ?_
                refine wp_region_held_drew (S := fun W => FitS w ox oy ax ay bx b wr.heap.size t true W) (by kernel_rfl) (FitS.mk' B1.drew N1.drew) ?_
                intro hHeld
                refine wpAnyH_take (i := 0) (oi := _) (v := .int .i64 g) g14_0 (by kernel_rfl) (by kernel_rfl) (by kernel_rfl) (fun _ _ _ h => h) (Or.inl ⟨by rfl, ?_⟩) (by assumption) ?_
                · intro w hSw
                  try dsimp only at hSw
                  go_simp
                simp only [Act.put, List.setIfInBounds_toArray, List.set_cons_zero, List.set_cons_succ]
                refine wpAnyH_take (i := 1) (oi := _) (v := .agg #[.int .i64 t, .bool true, .int .i64 ox, .int .i64 oy]) g14_1 (by kernel_rfl) (by kernel_rfl) (by kernel_rfl) (fun _ _ _ h => h) (Or.inl ⟨by rfl, ?_⟩) (by assumption) ?_
                · intro w hSw
                  try dsimp only at hSw
                  go_simp
                simp only [Act.put, List.setIfInBounds_toArray, List.set_cons_zero, List.set_cons_succ]
                refine wpAnyH_take (i := 2) (oi := _) (v := .agg #[.int .i64 1, .int .i64 0]) g14_2 (by kernel_rfl) (by kernel_rfl) (by kernel_rfl) (fun _ _ _ h => h) (Or.inl ⟨by rfl, ?_⟩) (by assumption) ?_
                · intro w hSw
                  try dsimp only at hSw
                  go_simp
                simp only [Act.put, List.setIfInBounds_toArray, List.set_cons_zero, List.set_cons_succ]
                refine wpAnyH_take (i := 4) (oi := _) (v := .agg #[.int .i64 ax, .int .i64 ay]) g14_4 (by kernel_rfl) (by kernel_rfl) (by kernel_rfl) (fun _ _ _ h => h) (Or.inl ⟨by rfl, ?_⟩) (by assumption) ?_
                · intro w hSw
                  try dsimp only at hSw
                  go_simp
                simp only [Act.put, List.setIfInBounds_toArray, List.set_cons_zero, List.set_cons_succ]
                refine wpAnyH_ready (rs := [3]) (by kernel_rfl) (by simp) ?_
                refine AllReadyH.cons (o := _) g14_3 (fun K hK => ?_) AllReadyH.nil
                go_simp
                refine (T1 _).mono ?_
                rintro e w1 ⟨rfl, hb⟩
                refine hK.out _ _ (FitS.keep hHeld hb) (fun hHeld2 => ?_)
                clear hK K hHeld hb
                refine wpAnyH_take (i := 5) (oi := _) (v := .bool true) g14_5 (by kernel_rfl) (by kernel_rfl) (by kernel_rfl) (fun _ _ _ h => h) (Or.inl ⟨by rfl, ?_⟩) (by assumption) ?_
                · intro w hSw
                  try dsimp only at hSw
                  go_simp
                simp only [Act.put, List.setIfInBounds_toArray, List.set_cons_zero, List.set_cons_succ]
                refine wpAnyH_take (i := 6) (oi := _) (v := .bool true) g14_6 (by kernel_rfl) (by kernel_rfl) (by kernel_rfl) (fun _ _ _ h => h) (Or.inl ⟨by rfl, ?_⟩) (by assumption) ?_
                · intro w hSw
                  try dsimp only at hSw
                  go_simp
                simp only [Act.put, List.setIfInBounds_toArray, List.set_cons_zero, List.set_cons_succ]
                refine wpAnyH_take (i := 7) (oi := _) (v := .int .i64 g) g14_7 (by kernel_rfl) (by kernel_rfl) (by kernel_rfl) (fun _ _ _ h => h) (Or.inl ⟨by rfl, ?_⟩) (by assumption) ?_
                · intro w hSw
                  try dsimp only at hSw
                  go_simp
                simp only [Act.put, List.setIfInBounds_toArray, List.set_cons_zero, List.set_cons_succ]
                refine wpAnyH_take (i := 8) (oi := _) (v := .agg #[.int .i64 t, .bool true, .int .i64 ox, .int .i64 oy]) g14_8 (by kernel_rfl) (by kernel_rfl) (by kernel_rfl) (fun _ _ _ h => h) (Or.inl ⟨by rfl, ?_⟩) (by assumption) ?_
                · intro w hSw
                  try dsimp only at hSw
                  go_simp
                simp only [Act.put, List.setIfInBounds_toArray, List.set_cons_zero, List.set_cons_succ]
                refine wpAnyH_take (i := 9) (oi := _) (v := .agg #[.int .i64 0, .int .i64 1]) g14_9 (by kernel_rfl) (by kernel_rfl) (by kernel_rfl) (fun _ _ _ h => h) (Or.inl ⟨by rfl, ?_⟩) (by assumption) ?_
                · intro w hSw
                  try dsimp only at hSw
                  go_simp
                simp only [Act.put, List.setIfInBounds_toArray, List.set_cons_zero, List.set_cons_succ]
                refine wpAnyH_take (i := 11) (oi := _) (v := .agg #[.int .i64 bx, .int .i64 b]) g14_11 (by kernel_rfl) (by kernel_rfl) (by kernel_rfl) (fun _ _ _ h => h) (Or.inl ⟨by rfl, ?_⟩) (by assumption) ?_
                · intro w hSw
                  try dsimp only at hSw
                  go_simp
                simp only [Act.put, List.setIfInBounds_toArray, List.set_cons_zero, List.set_cons_succ]
                refine wpAnyH_ready (rs := [10]) (by kernel_rfl) (by simp) ?_
                refine AllReadyH.cons (o := _) g14_10 (fun K hK => ?_) AllReadyH.nil
                go_simp
                refine (T2 _).mono ?_
                rintro e w2 ⟨rfl, hb⟩
                refine hK.out _ _ (FitS.keep hHeld2 hb) (fun hHeld3 => ?_)
                clear hK K hHeld2 hb
                refine wpAnyH_take (i := 12) (oi := _) (v := .bool false) g14_12 (by kernel_rfl) (by kernel_rfl) (by kernel_rfl) (fun _ _ _ h => h) (Or.inl ⟨by rfl, ?_⟩) (by assumption) ?_
                · intro w hSw
                  try dsimp only at hSw
                  go_simp
                simp only [Act.put, List.setIfInBounds_toArray, List.set_cons_zero, List.set_cons_succ]
                refine wpAnyH_take (i := 13) (oi := _) (v := .bool false) g14_13 (by kernel_rfl) (by kernel_rfl) (by kernel_rfl) (fun _ _ _ h => h) (Or.inl ⟨by rfl, ?_⟩) (by assumption) ?_
                · intro w hSw
                  try dsimp only at hSw
                  go_simp
                simp only [Act.put, List.setIfInBounds_toArray, List.set_cons_zero, List.set_cons_succ]
                refine wpAnyH_done (by kernel_rfl) ?_ _
                refine NoPanic.normal ?_
                obtain ⟨B2, N2⟩ := hHeld3.1
                clear B B1 N1 hHeld3
                go_wp2
                go_roundw
                case rel => exact ⟨1 + 1, rfl, by omega, unhide Hnext, B2⟩
                case measure => simp [intOf]
              · have z4 : (r1 == bx) = false := by simp [z3]
                clear z3 hm
                have q0 := B.2.1.2.1
                go_wp2_with fail
                clear q0
                have B1 := B.alloc (.cells #[.int .i64 t, .bool true, .int .i64 ox, .int .i64 oy] 41)
                have N1 := OwnM.new wr t true ox oy 41
                refine wp_region_noPanic ?_
                refine wp_region_held_drew (S := fun W => FitS w ox oy ax ay bx b wr.heap.size t true W) (by kernel_rfl) (FitS.mk' B1.drew N1.drew) ?_
                intro hHeld
                refine wpAnyH_take (i := 0) (oi := _) (v := .int .i64 g) g14_0 (by kernel_rfl) (by kernel_rfl) (by kernel_rfl) (fun _ _ _ h => h) (Or.inl ⟨by rfl, ?_⟩) (by assumption) ?_
                · intro w hSw
                  try dsimp only at hSw
                  go_simp
                simp only [Act.put, List.setIfInBounds_toArray, List.set_cons_zero, List.set_cons_succ]
                refine wpAnyH_take (i := 1) (oi := _) (v := .agg #[.int .i64 t, .bool true, .int .i64 ox, .int .i64 oy]) g14_1 (by kernel_rfl) (by kernel_rfl) (by kernel_rfl) (fun _ _ _ h => h) (Or.inl ⟨by rfl, ?_⟩) (by assumption) ?_
                · intro w hSw
                  try dsimp only at hSw
                  go_simp
                simp only [Act.put, List.setIfInBounds_toArray, List.set_cons_zero, List.set_cons_succ]
                refine wpAnyH_take (i := 2) (oi := _) (v := .agg #[.int .i64 1, .int .i64 0]) g14_2 (by kernel_rfl) (by kernel_rfl) (by kernel_rfl) (fun _ _ _ h => h) (Or.inl ⟨by rfl, ?_⟩) (by assumption) ?_
                · intro w hSw
                  try dsimp only at hSw
                  go_simp
                simp only [Act.put, List.setIfInBounds_toArray, List.set_cons_zero, List.set_cons_succ]
                refine wpAnyH_take (i := 4) (oi := _) (v := .agg #[.int .i64 ax, .int .i64 ay]) g14_4 (by kernel_rfl) (by kernel_rfl) (by kernel_rfl) (fun _ _ _ h => h) (Or.inl ⟨by rfl, ?_⟩) (by assumption) ?_
                · intro w hSw
                  try dsimp only at hSw
                  go_simp
                simp only [Act.put, List.setIfInBounds_toArray, List.set_cons_zero, List.set_cons_succ]
                refine wpAnyH_ready (rs := [3]) (by kernel_rfl) (by simp) ?_
                refine AllReadyH.cons (o := _) g14_3 (fun K hK => ?_) AllReadyH.nil
                go_simp
                refine (T1 _).mono ?_
                rintro e w1 ⟨rfl, hb⟩
                refine hK.out _ _ (FitS.keep hHeld hb) (fun hHeld2 => ?_)
                clear hK K hHeld hb
                refine wpAnyH_take (i := 5) (oi := _) (v := .bool true) g14_5 (by kernel_rfl) (by kernel_rfl) (by kernel_rfl) (fun _ _ _ h => h) (Or.inl ⟨by rfl, ?_⟩) (by assumption) ?_
                · intro w hSw
                  try dsimp only at hSw
                  go_simp
                simp only [Act.put, List.setIfInBounds_toArray, List.set_cons_zero, List.set_cons_succ]
                refine wpAnyH_take (i := 6) (oi := _) (v := .bool true) g14_6 (by kernel_rfl) (by kernel_rfl) (by kernel_rfl) (fun _ _ _ h => h) (Or.inl ⟨by rfl, ?_⟩) (by assumption) ?_
                · intro w hSw
                  try dsimp only at hSw
                  go_simp
                simp only [Act.put, List.setIfInBounds_toArray, List.set_cons_zero, List.set_cons_succ]
                refine wpAnyH_take (i := 7) (oi := _) (v := .int .i64 g) g14_7 (by kernel_rfl) (by kernel_rfl) (by kernel_rfl) (fun _ _ _ h => h) (Or.inl ⟨by rfl, ?_⟩) (by assumption) ?_
                · intro w hSw
                  try dsimp only at hSw
                  go_simp
                simp only [Act.put, List.setIfInBounds_toArray, List.set_cons_zero, List.set_cons_succ]
                refine wpAnyH_take (i := 8) (oi := _) (v := .agg #[.int .i64 t, .bool true, .int .i64 ox, .int .i64 oy]) g14_8 (by kernel_rfl) (by kernel_rfl) (by kernel_rfl) (fun _ _ _ h => h) (Or.inl ⟨by rfl, ?_⟩) (by assumption) ?_
                · intro w hSw
                  try dsimp only at hSw
                  go_simp
                simp only [Act.put, List.setIfInBounds_toArray, List.set_cons_zero, List.set_cons_succ]
                refine wpAnyH_take (i := 9) (oi := _) (v := .agg #[.int .i64 0, .int .i64 1]) g14_9 (by kernel_rfl) (by kernel_rfl) (by kernel_rfl) (fun _ _ _ h => h) (Or.inl ⟨by rfl, ?_⟩) (by assumption) ?_
                · intro w hSw
                  try dsimp only at hSw
                  go_simp
                simp only [Act.put, List.setIfInBounds_toArray, List.set_cons_zero, List.set_cons_succ]
                refine wpAnyH_take (i := 11) (oi := _) (v := .agg #[.int .i64 bx, .int .i64 b]) g14_11 (by kernel_rfl) (by kernel_rfl) (by kernel_rfl) (fun _ _ _ h => h) (Or.inl ⟨by rfl, ?_⟩) (by assumption) ?_
                · intro w hSw
                  try dsimp only at hSw
                  go_simp
                simp only [Act.put, List.setIfInBounds_toArray, List.set_cons_zero, List.set_cons_succ]
                refine wpAnyH_ready (rs := [10]) (by kernel_rfl) (by simp) ?_
                refine AllReadyH.cons (o := _) g14_10 (fun K hK => ?_) AllReadyH.nil
                go_simp
                refine (T2 _).mono ?_
                rintro e w2 ⟨rfl, hb⟩
                refine hK.out _ _ (FitS.keep hHeld2 hb) (fun hHeld3 => ?_)
                clear hK K hHeld2 hb
                refine wpAnyH_take (i := 12) (oi := _) (v := .bool false) g14_12 (by kernel_rfl) (by kernel_rfl) (by kernel_rfl) (fun _ _ _ h => h) (Or.inl ⟨by rfl, ?_⟩) (by assumption) ?_
                · intro w hSw
                  try dsimp only at hSw
                  go_simp
                simp only [Act.put, List.setIfInBounds_toArray, List.set_cons_zero, List.set_cons_succ]
                refine wpAnyH_take (i := 13) (oi := _) (v := .bool false) g14_13 (by kernel_rfl) (by kernel_rfl) (by kernel_rfl) (fun _ _ _ h => h) (Or.inl ⟨by rfl, ?_⟩) (by assumption) ?_
                · intro w hSw
                  try dsimp only at hSw
                  go_simp
                simp only [Act.put, List.setIfInBounds_toArray, List.set_cons_zero, List.set_cons_succ]
                refine wpAnyH_done (by kernel_rfl) ?_ _
                refine NoPanic.normal ?_
                obtain ⟨B2, N2⟩ := hHeld3.1
                clear B B1 N1 hHeld3
                go_wp2
                go_roundw
                case rel => exact ⟨1 + 1, rfl, by omega, unhide Hnext, B2⟩
                case measure => simp [intOf]
            · have z4 : (p2 == ay) = false := by simp [z2]
              clear z2 hm
              have q0 := B.2.1.2.1
              go_wp2_with fail
              clear q0
              have B1 := B.alloc (.cells #[.int .i64 t, .bool true, .int .i64 ox, .int .i64 oy] 41)
              have N1 := OwnM.new wr t true ox oy 41
              refine wp_region_noPanic ?_
              refine wp_region_held_drew (S := fun W => FitS w ox oy ax ay bx b wr.heap.size t true W) (by kernel_rfl) (FitS.mk' B1.drew N1.drew) ?_
              intro hHeld
              refine wpAnyH_take (i := 0) (oi := _) (v := .int .i64 g) g14_0 (by kernel_rfl) (by kernel_rfl) (by kernel_rfl) (fun _ _ _ h => h) (Or.inl ⟨by rfl, ?_⟩) (by assumption) ?_
              · intro w hSw
                try dsimp only at hSw
                go_simp
              simp only [Act.put, List.setIfInBounds_toArray, List.set_cons_zero, List.set_cons_succ]
              refine wpAnyH_take (i := 1) (oi := _) (v := .agg #[.int .i64 t, .bool true, .int .i64 ox, .int .i64 oy]) g14_1 (by kernel_rfl) (by kernel_rfl) (by kernel_rfl) (fun _ _ _ h => h) (Or.inl ⟨by rfl, ?_⟩) (by assumption) ?_
              · intro w hSw
                try dsimp only at hSw
                go_simp
              simp only [Act.put, List.setIfInBounds_toArray, List.set_cons_zero, List.set_cons_succ]
              refine wpAnyH_take (i := 2) (oi := _) (v := .agg #[.int .i64 1, .int .i64 0]) g14_2 (by kernel_rfl) (by kernel_rfl) (by kernel_rfl) (fun _ _ _ h => h) (Or.inl ⟨by rfl, ?_⟩) (by assumption) ?_
              · intro w hSw
                try dsimp only at hSw
                go_simp
              simp only [Act.put, List.setIfInBounds_toArray, List.set_cons_zero, List.set_cons_succ]
              refine wpAnyH_take (i := 4) (oi := _) (v := .agg #[.int .i64 ax, .int .i64 ay]) g14_4 (by kernel_rfl) (by kernel_rfl) (by kernel_rfl) (fun _ _ _ h => h) (Or.inl ⟨by rfl, ?_⟩) (by assumption) ?_
              · intro w hSw
                try dsimp only at hSw
                go_simp
              simp only [Act.put, List.setIfInBounds_toArray, List.set_cons_zero, List.set_cons_succ]
              refine wpAnyH_ready (rs := [3]) (by kernel_rfl) (by simp) ?_
              refine AllReadyH.cons (o := _) g14_3 (fun K hK => ?_) AllReadyH.nil
              go_simp
              refine (T1 _).mono ?_
              rintro e w1 ⟨rfl, hb⟩
              refine hK.out _ _ (FitS.keep hHeld hb) (fun hHeld2 => ?_)
              clear hK K hHeld hb
              refine wpAnyH_take (i := 5) (oi := _) (v := .bool false) g14_5 (by kernel_rfl) (by kernel_rfl) (by kernel_rfl) (fun _ _ _ h => h) (Or.inl ⟨by rfl, ?_⟩) (by assumption) ?_
              · intro w hSw
                try dsimp only at hSw
                go_simp
              simp only [Act.put, List.setIfInBounds_toArray, List.set_cons_zero, List.set_cons_succ]
              refine wpAnyH_take (i := 6) (oi := _) (v := .bool false) g14_6 (by kernel_rfl) (by kernel_rfl) (by kernel_rfl) (fun _ _ _ h => h) (Or.inl ⟨by rfl, ?_⟩) (by assumption) ?_
              · intro w hSw
                try dsimp only at hSw
                go_simp
              simp only [Act.put, List.setIfInBounds_toArray, List.set_cons_zero, List.set_cons_succ]
              refine wpAnyH_take (i := 7) (oi := _) (v := undef) g14_7 (by kernel_rfl) (by kernel_rfl) (by kernel_rfl) (fun _ _ _ h => h) (Or.inr ⟨by rfl, rfl⟩) (by assumption) ?_
              simp only [Act.put, List.setIfInBounds_toArray, List.set_cons_zero, List.set_cons_succ]
              refine wpAnyH_take (i := 8) (oi := _) (v := undef) g14_8 (by kernel_rfl) (by kernel_rfl) (by kernel_rfl) (fun _ _ _ h => h) (Or.inr ⟨by rfl, rfl⟩) (by assumption) ?_
              simp only [Act.put, List.setIfInBounds_toArray, List.set_cons_zero, List.set_cons_succ]
              refine wpAnyH_take (i := 9) (oi := _) (v := undef) g14_9 (by kernel_rfl) (by kernel_rfl) (by kernel_rfl) (fun _ _ _ h => h) (Or.inr ⟨by rfl, rfl⟩) (by assumption) ?_
              simp only [Act.put, List.setIfInBounds_toArray, List.set_cons_zero, List.set_cons_succ]
              refine wpAnyH_take (i := 10) (oi := _) (v := undef) g14_10 (by kernel_rfl) (by kernel_rfl) (by kernel_rfl) (fun _ _ _ h => h) (Or.inr ⟨by rfl, rfl⟩) (by assumption) ?_
              simp only [Act.put, List.setIfInBounds_toArray, List.set_cons_zero, List.set_cons_succ]
              refine wpAnyH_take (i := 11) (oi := _) (v := undef) g14_11 (by kernel_rfl) (by kernel_rfl) (by kernel_rfl) (fun _ _ _ h => h) (Or.inr ⟨by rfl, rfl⟩) (by assumption) ?_
              simp only [Act.put, List.setIfInBounds_toArray, List.set_cons_zero, List.set_cons_succ]
              refine wpAnyH_take (i := 12) (oi := _) (v := undef) g14_12 (by kernel_rfl) (by kernel_rfl) (by kernel_rfl) (fun _ _ _ h => h) (Or.inr ⟨by rfl, rfl⟩) (by assumption) ?_
              simp only [Act.put, List.setIfInBounds_toArray, List.set_cons_zero, List.set_cons_succ]
              refine wpAnyH_take (i := 13) (oi := _) (v := .bool false) g14_13 (by kernel_rfl) (by kernel_rfl) (by kernel_rfl) (fun _ _ _ h => h) (Or.inl ⟨by rfl, ?_⟩) (by assumption) ?_
              · intro w hSw
                try dsimp only at hSw
                go_simp
              simp only [Act.put, List.setIfInBounds_toArray, List.set_cons_zero, List.set_cons_succ]
              refine wpAnyH_done (by kernel_rfl) ?_ _
              refine NoPanic.normal ?_
              obtain ⟨B2, N2⟩ := hHeld2.1
              clear B B1 N1 hHeld2
              go_wp2
              go_roundw
              case rel => exact ⟨1 + 1, rfl, by omega, unhide Hnext, B2⟩
              case measure => simp [intOf]
          · have z4 : (p1 == ax) = false := by simp [z1]
            clear z1 hm
            have q0 := B.2.1.2.1
            go_wp2_with fail
            clear q0
            have B1 := B.alloc (.cells #[.int .i64 t, .bool true, .int .i64 ox, .int .i64 oy] 41)
            have N1 := OwnM.new wr t true ox oy 41
            refine wp_region_noPanic ?_
            refine wp_region_held_drew (S := fun W => FitS w ox oy ax ay bx b wr.heap.size t true W) (by kernel_rfl) (FitS.mk' B1.drew N1.drew) ?_
            intro hHeld
            refine wpAnyH_take (i := 0) (oi := _) (v := .int .i64 g) g14_0 (by kernel_rfl) (by kernel_rfl) (by kernel_rfl) (fun _ _ _ h => h) (Or.inl ⟨by rfl, ?_⟩) (by assumption) ?_
            · intro w hSw
              try dsimp only at hSw
              go_simp
            simp only [Act.put, List.setIfInBounds_toArray, List.set_cons_zero, List.set_cons_succ]
            refine wpAnyH_take (i := 1) (oi := _) (v := .agg #[.int .i64 t, .bool true, .int .i64 ox, .int .i64 oy]) g14_1 (by kernel_rfl) (by kernel_rfl) (by kernel_rfl) (fun _ _ _ h => h) (Or.inl ⟨by rfl, ?_⟩) (by assumption) ?_
            · intro w hSw
              try dsimp only at hSw
              go_simp
            simp only [Act.put, List.setIfInBounds_toArray, List.set_cons_zero, List.set_cons_succ]
            refine wpAnyH_take (i := 2) (oi := _) (v := .agg #[.int .i64 1, .int .i64 0]) g14_2 (by kernel_rfl) (by kernel_rfl) (by kernel_rfl) (fun _ _ _ h => h) (Or.inl ⟨by rfl, ?_⟩) (by assumption) ?_
            · intro w hSw
              try dsimp only at hSw
              go_simp
            simp only [Act.put, List.setIfInBounds_toArray, List.set_cons_zero, List.set_cons_succ]
            refine wpAnyH_take (i := 4) (oi := _) (v := .agg #[.int .i64 ax, .int .i64 ay]) g14_4 (by kernel_rfl) (by kernel_rfl) (by kernel_rfl) (fun _ _ _ h => h) (Or.inl ⟨by rfl, ?_⟩) (by assumption) ?_
            · intro w hSw
              try dsimp only at hSw
              go_simp
            simp only [Act.put, List.setIfInBounds_toArray, List.set_cons_zero, List.set_cons_succ]
            refine wpAnyH_ready (rs := [3]) (by kernel_rfl) (by simp) ?_
            refine AllReadyH.cons (o := _) g14_3 (fun K hK => ?_) AllReadyH.nil
            go_simp
            refine (T1 _).mono ?_
            rintro e w1 ⟨rfl, hb⟩
            refine hK.out _ _ (FitS.keep hHeld hb) (fun hHeld2 => ?_)
            clear hK K hHeld hb
            refine wpAnyH_take (i := 5) (oi := _) (v := .bool false) g14_5 (by kernel_rfl) (by kernel_rfl) (by kernel_rfl) (fun _ _ _ h => h) (Or.inl ⟨by rfl, ?_⟩) (by assumption) ?_
            · intro w hSw
              try dsimp only at hSw
              go_simp
            simp only [Act.put, List.setIfInBounds_toArray, List.set_cons_zero, List.set_cons_succ]
            refine wpAnyH_take (i := 6) (oi := _) (v := .bool false) g14_6 (by kernel_rfl) (by kernel_rfl) (by kernel_rfl) (fun _ _ _ h => h) (Or.inl ⟨by rfl, ?_⟩) (by assumption) ?_
            · intro w hSw
              try dsimp only at hSw
              go_simp
            simp only [Act.put, List.setIfInBounds_toArray, List.set_cons_zero, List.set_cons_succ]
            refine wpAnyH_take (i := 7) (oi := _) (v := undef) g14_7 (by kernel_rfl) (by kernel_rfl) (by kernel_rfl) (fun _ _ _ h => h) (Or.inr ⟨by rfl, rfl⟩) (by assumption) ?_
            simp only [Act.put, List.setIfInBounds_toArray, List.set_cons_zero, List.set_cons_succ]
            refine wpAnyH_take (i := 8) (oi := _) (v := undef) g14_8 (by kernel_rfl) (by kernel_rfl) (by kernel_rfl) (fun _ _ _ h => h) (Or.inr ⟨by rfl, rfl⟩) (by assumption) ?_
            simp only [Act.put, List.setIfInBounds_toArray, List.set_cons_zero, List.set_cons_succ]
            refine wpAnyH_take (i := 9) (oi := _) (v := undef) g14_9 (by kernel_rfl) (by kernel_rfl) (by kernel_rfl) (fun _ _ _ h => h) (Or.inr ⟨by rfl, rfl⟩) (by assumption) ?_
            simp only [Act.put, List.setIfInBounds_toArray, List.set_cons_zero, List.set_cons_succ]
            refine wpAnyH_take (i := 10) (oi := _) (v := undef) g14_10 (by kernel_rfl) (by kernel_rfl) (by kernel_rfl) (fun _ _ _ h => h) (Or.inr ⟨by rfl, rfl⟩) (by assumption) ?_
            simp only [Act.put, List.setIfInBounds_toArray, List.set_cons_zero, List.set_cons_succ]
            refine wpAnyH_take (i := 11) (oi := _) (v := undef) g14_11 (by kernel_rfl) (by kernel_rfl) (by kernel_rfl) (fun _ _ _ h => h) (Or.inr ⟨by rfl, rfl⟩) (by assumption) ?_
            simp only [Act.put, List.setIfInBounds_toArray, List.set_cons_zero, List.set_cons_succ]
            refine wpAnyH_take (i := 12) (oi := _) (v := undef) g14_12 (by kernel_rfl) (by kernel_rfl) (by kernel_rfl) (fun _ _ _ h => h) (Or.inr ⟨by rfl, rfl⟩) (by assumption) ?_
            simp only [Act.put, List.setIfInBounds_toArray, List.set_cons_zero, List.set_cons_succ]
            refine wpAnyH_take (i := 13) (oi := _) (v := .bool false) g14_13 (by kernel_rfl) (by kernel_rfl) (by kernel_rfl) (fun _ _ _ h => h) (Or.inl ⟨by rfl, ?_⟩) (by assumption) ?_
            · intro w hSw
              try dsimp only at hSw
              go_simp
            simp only [Act.put, List.setIfInBounds_toArray, List.set_cons_zero, List.set_cons_succ]
            refine wpAnyH_done (by kernel_rfl) ?_ _
            refine NoPanic.normal ?_
            obtain ⟨B2, N2⟩ := hHeld2.1
            clear B B1 N1 hHeld2
            go_wp2
            go_roundw
            case rel => exact ⟨1 + 1, rfl, by omega, unhide Hnext, B2⟩
            case measure => simp [intOf]
      · have hlt : t < T := by
          have := unhide HkF
          have hF : F.toNat ≤ 1 := by cases F <;> simp
          by_cases e : t = T
          · have := this e; omega
          · omega
        go_wp2
        go_roundw
        case rel => exact ⟨t + 1, by go_num, by omega, B⟩
        case measure => simp [intOf]; omega

end Go.Proofs.YtpcajcgafmmlkaaDoor
