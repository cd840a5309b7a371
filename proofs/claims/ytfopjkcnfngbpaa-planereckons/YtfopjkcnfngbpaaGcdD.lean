/-
  What Gcd of package plane answer, out of what they call (walks over the translated code).
-/
import Derived.Test.YtfopjkcnfngbpaaGcdC
namespace Go.Proofs.Ytfopjkcnfngbpaa
open Go.RowKit

theorem g7_0 {a0 a1 a2 a3 a4 a5 a6 : Oper} : (#[a0, a1, a2, a3, a4, a5, a6] : Array Oper)[0]? = some a0 := rfl
theorem g7_1 {a0 a1 a2 a3 a4 a5 a6 : Oper} : (#[a0, a1, a2, a3, a4, a5, a6] : Array Oper)[1]? = some a1 := rfl
theorem g7_2 {a0 a1 a2 a3 a4 a5 a6 : Oper} : (#[a0, a1, a2, a3, a4, a5, a6] : Array Oper)[2]? = some a2 := rfl
theorem g7_3 {a0 a1 a2 a3 a4 a5 a6 : Oper} : (#[a0, a1, a2, a3, a4, a5, a6] : Array Oper)[3]? = some a3 := rfl
theorem g7_4 {a0 a1 a2 a3 a4 a5 a6 : Oper} : (#[a0, a1, a2, a3, a4, a5, a6] : Array Oper)[4]? = some a4 := rfl
theorem g7_5 {a0 a1 a2 a3 a4 a5 a6 : Oper} : (#[a0, a1, a2, a3, a4, a5, a6] : Array Oper)[5]? = some a5 := rfl
theorem g7_6 {a0 a1 a2 a3 a4 a5 a6 : Oper} : (#[a0, a1, a2, a3, a4, a5, a6] : Array Oper)[6]? = some a6 := rfl

def cellInt (W : World) (b o : Nat) : Int := intOf ((W.cell? ⟨b, o, none⟩).getD undef)
theorem cellInt_of {W : World} {b o : Nat} {x : Int} (h : W.cell? ⟨b, o, none⟩ = some (.int .i64 x)) : cellInt W b o = x := by unfold cellInt; rw [h]; rfl
def GcdBx (w : World) (ax ay bx b : Int) (W : World) : Prop :=
  Below w.heap.size w W ∧ Own W w.heap.size ax ay ∧ Own W (w.heap.size + 1) bx b ∧ Own W (w.heap.size + 1 + 1) 0 0
theorem GcdBx.keep {w W w1 : World} {ax ay bx b : Int} (h : GcdBx w ax ay bx b W) (hb : Below W.heap.size W w1) : GcdBx w ax ay bx b w1 :=
  ⟨btrans h.1 hb, h.2.1.keep hb, h.2.2.1.keep hb, h.2.2.2.keep hb⟩
theorem GcdBx.setA {w W : World} {ax ay bx b : Int} (h : GcdBx w ax ay bx b W) (u v : Int) : GcdBx w u v bx b ((W.setCell ⟨w.heap.size, 0, none⟩ (.int .i64 u)).setCell ⟨w.heap.size, 1, none⟩ (.int .i64 v)) :=
  ⟨bset (bset h.1 (by dsimp only; omega)) (by dsimp only; omega), h.2.1.set u v, (h.2.2.1.far (by omega)).far (by omega), (h.2.2.2.far (by omega)).far (by omega)⟩
theorem GcdBx.setB {w W : World} {ax ay bx b : Int} (h : GcdBx w ax ay bx b W) (u v : Int) : GcdBx w ax ay u v ((W.setCell ⟨w.heap.size + 1, 0, none⟩ (.int .i64 u)).setCell ⟨w.heap.size + 1, 1, none⟩ (.int .i64 v)) :=
  ⟨bset (bset h.1 (by dsimp only; omega)) (by dsimp only; omega), (h.2.1.far (by omega)).far (by omega), h.2.2.1.set u v, (h.2.2.2.far (by omega)).far (by omega)⟩
def RemIs (g ax ay bx b rx ry : Int) : Prop := ∀ W : World, Calls Try.prog 34 #[.int .i64 g, .agg #[.int .i64 ax, .int .i64 ay], .agg #[.int .i64 bx, .int .i64 b]] W fun e w' => e = .returned (.agg #[.int .i64 rx, .int .i64 ry]) ∧ Below W.heap.size W w'

set_option maxRecDepth 100000 in
set_option maxHeartbeats 8000000 in
theorem gcd_loop (g : Int) (ax ay bx b : Int) (w : World) (he : Hid (e2 g ax ay bx b = 0)) (I : Int → Int → Int → Int → Prop) (Q : Int → Int → Prop)
    (I0 : Hid (I ax ay bx b)) (St : Hid (∀ a1 a2 b1 b2, I a1 a2 b1 b2 → ¬ (b1 = 0 ∧ b2 = 0) → ∃ r1 r2, RemIs g a1 a2 b1 b2 r1 r2 ∧ (nn g r1 r2).toNat < (nn g b1 b2).toNat ∧ I b1 b2 r1 r2))
    (U : Hid (∀ a1 a2, I a1 a2 0 0 → ∀ W : World, Calls Try.prog 35 #[.int .i64 g, .agg #[.int .i64 a1, .int .i64 a2]] W fun e w' => (∃ u v, e = .returned (.agg #[.int .i64 u, .int .i64 v]) ∧ Q u v) ∧ Below W.heap.size W w')) :
    Calls Try.prog 12 #[.int .i64 g, .agg #[.int .i64 ax, .int .i64 ay], .agg #[.int .i64 bx, .int .i64 b]] w fun e w' => (∃ u v, e = .returned (.tuple #[.agg #[.int .i64 u, .int .i64 v], .int .i64 0]) ∧ Q u v) ∧ Below w.heap.size w w' := by
  go_enter Try.func12, Try.ntmps12
  go_wp2_with fail
  refine (wrongPoints2 g ax ay bx b _ _ _ ?_ ?_ ?_ ?_ ?_).mono ?_
  · simp
  · simp [go_sem]
  · simp [go_sem]
  · simp [go_sem]
  · simp [go_sem]
  rw [unhide he]
  rintro e w1 ⟨rfl, hb⟩
  have A := ((((Own.new w ax ay 23).alloc (.cells #[.int .i64 bx, .int .i64 b] 23)).alloc (.cells #[.int .i64 0, .int .i64 0] 23)).alloc (.cells #[.int .i64 ax, .int .i64 ay, .int .i64 bx, .int .i64 b] 23)).keep hb
  have C := (((Own.new (w.alloc (.cells #[.int .i64 ax, .int .i64 ay] 23)) bx b 23).alloc (.cells #[.int .i64 0, .int .i64 0] 23)).alloc (.cells #[.int .i64 ax, .int .i64 ay, .int .i64 bx, .int .i64 b] 23)).keep hb
  have R := ((Own.new ((w.alloc (.cells #[.int .i64 ax, .int .i64 ay] 23)).alloc (.cells #[.int .i64 bx, .int .i64 b] 23)) 0 0 23).alloc (.cells #[.int .i64 ax, .int .i64 ay, .int .i64 bx, .int .i64 b] 23)).keep hb
  have S := btrans (bal (bal (bal (bal (Below.refl _ _))))) hb
  simp only [World.size_alloc] at C R
  clear hb
  have B0 : GcdBx w ax ay bx b w1 := ⟨S, A, C, R⟩
  clear A C R S
  go_wp2_with fail
  go_loopw [20] (fun _ W => ∃ a1 a2 b1 b2 : Int, GcdBx w a1 a2 b1 b2 W ∧ I a1 a2 b1 b2) (fun _ W => (nn g (cellInt W (w.heap.size + 1) 0) (cellInt W (w.heap.size + 1) 1)).toNat)
  case atStart => exact ⟨ax, ay, bx, b, B0, unhide I0⟩
  case round =>
    clear B0
    obtain ⟨a1, a2, b1, b2, B, inv⟩ := hrel
    have Inv := hide inv
    clear inv
    by_cases z1 : b1 = 0
    · subst z1
      by_cases z2 : b2 = 0
      · subst z2
        have HU := hide (unhide U a1 a2 (unhide Inv))
        have q1 := B.2.2.1.2.1
        have q2 := B.2.1.2.1
        go_wp2_with fail
        clear q1 q2
        refine (unhide HU _).mono ?_
        rintro e w5 ⟨⟨u, v, rfl, hQ⟩, hb⟩
        have HQ := hide hQ
        clear hQ
        have B5 := B.keep hb
        clear B hb
        have q1 := B5.2.2.2.2
        go_wp2
        exact bodyPost_ret (v := .tuple #[.agg #[.int .i64 u, .int .i64 v], .int .i64 0]) (by simp [results, Try.results12, go_sem, q1]) rfl ⟨⟨u, v, rfl, unhide HQ⟩, bset (bset B5.1 (by dsimp only; omega)) (by dsimp only; omega)⟩
      · have Hne := hide (show ¬ ((0 : Int) = 0 ∧ b2 = 0) from fun h => z2 h.2)
        have z3 : (b2 == 0) = false := by simp [z2]
        clear z2
        obtain ⟨r1, r2, R1, hless, inext⟩ := unhide St a1 a2 0 b2 (unhide Inv) (unhide Hne)
        have Hless := hide hless
        have Inext := hide inext
        clear hless inext
        have HB := B
        have q1 := B.2.2.1.2.1
        go_wp2_with fail
        clear q1
        refine wp_region_noPanic ?_
        refine wp_region_held_drew (S := fun W => Below w.heap.size w W) (by kernel_rfl) (Below.drew B.1) ?_
        intro _
        have B4 := B.keep (Below.drew (Below.refl _ _))
        clear B
        refine wpAnyH_take (i := 1) (oi := _) (v := .int .i64 g) g7_1 (by kernel_rfl) (by kernel_rfl) (by kernel_rfl) (fun _ _ _ h => h) (Or.inl ⟨by rfl, ?_⟩) (by assumption) ?_
        · intro w hSw
          try dsimp only at hSw
          go_simp
        simp only [Act.put, List.setIfInBounds_toArray, List.set_cons_zero, List.set_cons_succ]
        refine wpAnyH_ready (rs := [0, 2, 3]) (by kernel_rfl) (by simp) ?_
        refine AllReadyH.cons (o := _) g7_0 (fun K hK => ?_) (AllReadyH.cons (o := _) g7_2 (fun K hK => ?_) (AllReadyH.cons (o := _) g7_3 (fun K hK => ?_) AllReadyH.nil))
        · skip
          have q1 := B4.2.1.2.1
          have q2 := B4.2.2.1.2.1
          go_simp
          refine hK.out _ _ B4.1 (fun _ => ?_)
          clear hK K q1 q2
          refine wpAnyH_ready (rs := [2, 3]) (by kernel_rfl) (by simp) ?_
          refine AllReadyH.cons (o := _) g7_2 (fun K hK => ?_) (AllReadyH.cons (o := _) g7_3 (fun K hK => ?_) AllReadyH.nil)
          · skip
            have q1 := B4.2.1.2.1
            have q2 := B4.2.2.1.2.1
            go_simp
            refine hK.out _ _ B4.1 (fun _ => ?_)
            clear hK K q1 q2
            refine wpAnyH_ready (rs := [3]) (by kernel_rfl) (by simp) ?_
            refine AllReadyH.cons (o := _) g7_3 (fun K hK => ?_) AllReadyH.nil
            have q1 := B4.2.1.2.1
            have q2 := B4.2.2.1.2.1
            go_simp
            refine hK.out _ _ B4.1 (fun _ => ?_)
            clear hK K q1 q2
            refine wpAnyH_ready (rs := [4]) (by kernel_rfl) (by simp) ?_
            refine AllReadyH.cons (o := _) g7_4 (fun K hK => ?_) AllReadyH.nil
            go_simp
            refine (R1 _).mono ?_
            rintro e w5 ⟨rfl, hb⟩
            have B5 := B4.keep hb
            refine hK.out _ _ B5.1 (fun _ => ?_)
            clear hK K B4 hb
            have B20 := B5.setA 0 b2
            have q1 := B5.2.1.2
            refine wpAnyH_ready (rs := [5]) (by kernel_rfl) (by simp) ?_
            refine AllReadyH.cons (o := _) g7_5 (fun K hK => ?_) AllReadyH.nil
            go_simp
            refine hK.out _ _ B20.1 (fun _ => ?_)
            clear hK K q1 B5
            have B21 := B20.setB r1 r2
            have q1 := B20.2.2.1.2
            refine wpAnyH_ready (rs := [6]) (by kernel_rfl) (by simp) ?_
            refine AllReadyH.cons (o := _) g7_6 (fun K hK => ?_) AllReadyH.nil
            go_simp
            refine hK.out _ _ B21.1 (fun _ => ?_)
            refine wpAnyH_done (by kernel_rfl) ?_ _
            refine NoPanic.normal ?_
            clear hK K q1 B20
            go_wp2
            go_roundw
            case rel => exact ⟨0, b2, r1, r2, B21, unhide Inext⟩
            case measure =>
              rw [cellInt_of B21.2.2.1.2.1.1, cellInt_of B21.2.2.1.2.1.2, cellInt_of HB.2.2.1.2.1.1, cellInt_of HB.2.2.1.2.1.2]
              exact unhide Hless
          · skip
            have q1 := B4.2.1.2.1
            have q2 := B4.2.2.1.2.1
            go_simp
            refine hK.out _ _ B4.1 (fun _ => ?_)
            clear hK K q1 q2
            refine wpAnyH_ready (rs := [2]) (by kernel_rfl) (by simp) ?_
            refine AllReadyH.cons (o := _) g7_2 (fun K hK => ?_) AllReadyH.nil
            have q1 := B4.2.1.2.1
            have q2 := B4.2.2.1.2.1
            go_simp
            refine hK.out _ _ B4.1 (fun _ => ?_)
            clear hK K q1 q2
            refine wpAnyH_ready (rs := [4]) (by kernel_rfl) (by simp) ?_
            refine AllReadyH.cons (o := _) g7_4 (fun K hK => ?_) AllReadyH.nil
            go_simp
            refine (R1 _).mono ?_
            rintro e w5 ⟨rfl, hb⟩
            have B5 := B4.keep hb
            refine hK.out _ _ B5.1 (fun _ => ?_)
            clear hK K B4 hb
            have B20 := B5.setA 0 b2
            have q1 := B5.2.1.2
            refine wpAnyH_ready (rs := [5]) (by kernel_rfl) (by simp) ?_
            refine AllReadyH.cons (o := _) g7_5 (fun K hK => ?_) AllReadyH.nil
            go_simp
            refine hK.out _ _ B20.1 (fun _ => ?_)
            clear hK K q1 B5
            have B21 := B20.setB r1 r2
            have q1 := B20.2.2.1.2
            refine wpAnyH_ready (rs := [6]) (by kernel_rfl) (by simp) ?_
            refine AllReadyH.cons (o := _) g7_6 (fun K hK => ?_) AllReadyH.nil
            go_simp
            refine hK.out _ _ B21.1 (fun _ => ?_)
            refine wpAnyH_done (by kernel_rfl) ?_ _
            refine NoPanic.normal ?_
            clear hK K q1 B20
            go_wp2
            go_roundw
            case rel => exact ⟨0, b2, r1, r2, B21, unhide Inext⟩
            case measure =>
              rw [cellInt_of B21.2.2.1.2.1.1, cellInt_of B21.2.2.1.2.1.2, cellInt_of HB.2.2.1.2.1.1, cellInt_of HB.2.2.1.2.1.2]
              exact unhide Hless
        · skip
          have q1 := B4.2.1.2.1
          have q2 := B4.2.2.1.2.1
          go_simp
          refine hK.out _ _ B4.1 (fun _ => ?_)
          clear hK K q1 q2
          refine wpAnyH_ready (rs := [0, 3]) (by kernel_rfl) (by simp) ?_
          refine AllReadyH.cons (o := _) g7_0 (fun K hK => ?_) (AllReadyH.cons (o := _) g7_3 (fun K hK => ?_) AllReadyH.nil)
          · skip
            have q1 := B4.2.1.2.1
            have q2 := B4.2.2.1.2.1
            go_simp
            refine hK.out _ _ B4.1 (fun _ => ?_)
            clear hK K q1 q2
            refine wpAnyH_ready (rs := [3]) (by kernel_rfl) (by simp) ?_
            refine AllReadyH.cons (o := _) g7_3 (fun K hK => ?_) AllReadyH.nil
            have q1 := B4.2.1.2.1
            have q2 := B4.2.2.1.2.1
            go_simp
            refine hK.out _ _ B4.1 (fun _ => ?_)
            clear hK K q1 q2
            refine wpAnyH_ready (rs := [4]) (by kernel_rfl) (by simp) ?_
            refine AllReadyH.cons (o := _) g7_4 (fun K hK => ?_) AllReadyH.nil
            go_simp
            refine (R1 _).mono ?_
            rintro e w5 ⟨rfl, hb⟩
            have B5 := B4.keep hb
            refine hK.out _ _ B5.1 (fun _ => ?_)
            clear hK K B4 hb
            have B20 := B5.setA 0 b2
            have q1 := B5.2.1.2
            refine wpAnyH_ready (rs := [5]) (by kernel_rfl) (by simp) ?_
            refine AllReadyH.cons (o := _) g7_5 (fun K hK => ?_) AllReadyH.nil
            go_simp
            refine hK.out _ _ B20.1 (fun _ => ?_)
            clear hK K q1 B5
            have B21 := B20.setB r1 r2
            have q1 := B20.2.2.1.2
            refine wpAnyH_ready (rs := [6]) (by kernel_rfl) (by simp) ?_
            refine AllReadyH.cons (o := _) g7_6 (fun K hK => ?_) AllReadyH.nil
            go_simp
            refine hK.out _ _ B21.1 (fun _ => ?_)
            refine wpAnyH_done (by kernel_rfl) ?_ _
            refine NoPanic.normal ?_
            clear hK K q1 B20
            go_wp2
            go_roundw
            case rel => exact ⟨0, b2, r1, r2, B21, unhide Inext⟩
            case measure =>
              rw [cellInt_of B21.2.2.1.2.1.1, cellInt_of B21.2.2.1.2.1.2, cellInt_of HB.2.2.1.2.1.1, cellInt_of HB.2.2.1.2.1.2]
              exact unhide Hless
          · skip
            have q1 := B4.2.1.2.1
            have q2 := B4.2.2.1.2.1
            go_simp
            refine hK.out _ _ B4.1 (fun _ => ?_)
            clear hK K q1 q2
            refine wpAnyH_ready (rs := [0, 4]) (by kernel_rfl) (by simp) ?_
            refine AllReadyH.cons (o := _) g7_0 (fun K hK => ?_) (AllReadyH.cons (o := _) g7_4 (fun K hK => ?_) AllReadyH.nil)
            · skip
              have q1 := B4.2.1.2.1
              have q2 := B4.2.2.1.2.1
              go_simp
              refine hK.out _ _ B4.1 (fun _ => ?_)
              clear hK K q1 q2
              refine wpAnyH_ready (rs := [4]) (by kernel_rfl) (by simp) ?_
              refine AllReadyH.cons (o := _) g7_4 (fun K hK => ?_) AllReadyH.nil
              go_simp
              refine (R1 _).mono ?_
              rintro e w5 ⟨rfl, hb⟩
              have B5 := B4.keep hb
              refine hK.out _ _ B5.1 (fun _ => ?_)
              clear hK K B4 hb
              have B20 := B5.setA 0 b2
              have q1 := B5.2.1.2
              refine wpAnyH_ready (rs := [5]) (by kernel_rfl) (by simp) ?_
              refine AllReadyH.cons (o := _) g7_5 (fun K hK => ?_) AllReadyH.nil
              go_simp
              refine hK.out _ _ B20.1 (fun _ => ?_)
              clear hK K q1 B5
              have B21 := B20.setB r1 r2
              have q1 := B20.2.2.1.2
              refine wpAnyH_ready (rs := [6]) (by kernel_rfl) (by simp) ?_
              refine AllReadyH.cons (o := _) g7_6 (fun K hK => ?_) AllReadyH.nil
              go_simp
              refine hK.out _ _ B21.1 (fun _ => ?_)
              refine wpAnyH_done (by kernel_rfl) ?_ _
              refine NoPanic.normal ?_
              clear hK K q1 B20
              go_wp2
              go_roundw
              case rel => exact ⟨0, b2, r1, r2, B21, unhide Inext⟩
              case measure =>
                rw [cellInt_of B21.2.2.1.2.1.1, cellInt_of B21.2.2.1.2.1.2, cellInt_of HB.2.2.1.2.1.1, cellInt_of HB.2.2.1.2.1.2]
                exact unhide Hless
            · skip
              go_simp
              refine (R1 _).mono ?_
              rintro e w5 ⟨rfl, hb⟩
              have B5 := B4.keep hb
              refine hK.out _ _ B5.1 (fun _ => ?_)
              clear hK K B4 hb
              refine wpAnyH_ready (rs := [0]) (by kernel_rfl) (by simp) ?_
              refine AllReadyH.cons (o := _) g7_0 (fun K hK => ?_) AllReadyH.nil
              have q1 := B5.2.1.2.1
              have q2 := B5.2.2.1.2.1
              go_simp
              refine hK.out _ _ B5.1 (fun _ => ?_)
              clear hK K q1 q2
              have B20 := B5.setA 0 b2
              have q1 := B5.2.1.2
              refine wpAnyH_ready (rs := [5]) (by kernel_rfl) (by simp) ?_
              refine AllReadyH.cons (o := _) g7_5 (fun K hK => ?_) AllReadyH.nil
              go_simp
              refine hK.out _ _ B20.1 (fun _ => ?_)
              clear hK K q1 B5
              have B21 := B20.setB r1 r2
              have q1 := B20.2.2.1.2
              refine wpAnyH_ready (rs := [6]) (by kernel_rfl) (by simp) ?_
              refine AllReadyH.cons (o := _) g7_6 (fun K hK => ?_) AllReadyH.nil
              go_simp
              refine hK.out _ _ B21.1 (fun _ => ?_)
              refine wpAnyH_done (by kernel_rfl) ?_ _
              refine NoPanic.normal ?_
              clear hK K q1 B20
              go_wp2
              go_roundw
              case rel => exact ⟨0, b2, r1, r2, B21, unhide Inext⟩
              case measure =>
                rw [cellInt_of B21.2.2.1.2.1.1, cellInt_of B21.2.2.1.2.1.2, cellInt_of HB.2.2.1.2.1.1, cellInt_of HB.2.2.1.2.1.2]
                exact unhide Hless
        · skip
          have q1 := B4.2.1.2.1
          have q2 := B4.2.2.1.2.1
          go_simp
          refine hK.out _ _ B4.1 (fun _ => ?_)
          clear hK K q1 q2
          refine wpAnyH_ready (rs := [0, 2]) (by kernel_rfl) (by simp) ?_
          refine AllReadyH.cons (o := _) g7_0 (fun K hK => ?_) (AllReadyH.cons (o := _) g7_2 (fun K hK => ?_) AllReadyH.nil)
          · skip
            have q1 := B4.2.1.2.1
            have q2 := B4.2.2.1.2.1
            go_simp
            refine hK.out _ _ B4.1 (fun _ => ?_)
            clear hK K q1 q2
            refine wpAnyH_ready (rs := [2]) (by kernel_rfl) (by simp) ?_
            refine AllReadyH.cons (o := _) g7_2 (fun K hK => ?_) AllReadyH.nil
            have q1 := B4.2.1.2.1
            have q2 := B4.2.2.1.2.1
            go_simp
            refine hK.out _ _ B4.1 (fun _ => ?_)
            clear hK K q1 q2
            refine wpAnyH_ready (rs := [4]) (by kernel_rfl) (by simp) ?_
            refine AllReadyH.cons (o := _) g7_4 (fun K hK => ?_) AllReadyH.nil
            go_simp
            refine (R1 _).mono ?_
            rintro e w5 ⟨rfl, hb⟩
            have B5 := B4.keep hb
            refine hK.out _ _ B5.1 (fun _ => ?_)
            clear hK K B4 hb
            have B20 := B5.setA 0 b2
            have q1 := B5.2.1.2
            refine wpAnyH_ready (rs := [5]) (by kernel_rfl) (by simp) ?_
            refine AllReadyH.cons (o := _) g7_5 (fun K hK => ?_) AllReadyH.nil
            go_simp
            refine hK.out _ _ B20.1 (fun _ => ?_)
            clear hK K q1 B5
            have B21 := B20.setB r1 r2
            have q1 := B20.2.2.1.2
            refine wpAnyH_ready (rs := [6]) (by kernel_rfl) (by simp) ?_
            refine AllReadyH.cons (o := _) g7_6 (fun K hK => ?_) AllReadyH.nil
            go_simp
            refine hK.out _ _ B21.1 (fun _ => ?_)
            refine wpAnyH_done (by kernel_rfl) ?_ _
            refine NoPanic.normal ?_
            clear hK K q1 B20
            go_wp2
            go_roundw
            case rel => exact ⟨0, b2, r1, r2, B21, unhide Inext⟩
            case measure =>
              rw [cellInt_of B21.2.2.1.2.1.1, cellInt_of B21.2.2.1.2.1.2, cellInt_of HB.2.2.1.2.1.1, cellInt_of HB.2.2.1.2.1.2]
              exact unhide Hless
          · skip
            have q1 := B4.2.1.2.1
            have q2 := B4.2.2.1.2.1
            go_simp
            refine hK.out _ _ B4.1 (fun _ => ?_)
            clear hK K q1 q2
            refine wpAnyH_ready (rs := [0, 4]) (by kernel_rfl) (by simp) ?_
            refine AllReadyH.cons (o := _) g7_0 (fun K hK => ?_) (AllReadyH.cons (o := _) g7_4 (fun K hK => ?_) AllReadyH.nil)
            · skip
              have q1 := B4.2.1.2.1
              have q2 := B4.2.2.1.2.1
              go_simp
              refine hK.out _ _ B4.1 (fun _ => ?_)
              clear hK K q1 q2
              refine wpAnyH_ready (rs := [4]) (by kernel_rfl) (by simp) ?_
              refine AllReadyH.cons (o := _) g7_4 (fun K hK => ?_) AllReadyH.nil
              go_simp
              refine (R1 _).mono ?_
              rintro e w5 ⟨rfl, hb⟩
              have B5 := B4.keep hb
              refine hK.out _ _ B5.1 (fun _ => ?_)
              clear hK K B4 hb
              have B20 := B5.setA 0 b2
              have q1 := B5.2.1.2
              refine wpAnyH_ready (rs := [5]) (by kernel_rfl) (by simp) ?_
              refine AllReadyH.cons (o := _) g7_5 (fun K hK => ?_) AllReadyH.nil
              go_simp
              refine hK.out _ _ B20.1 (fun _ => ?_)
              clear hK K q1 B5
              have B21 := B20.setB r1 r2
              have q1 := B20.2.2.1.2
              refine wpAnyH_ready (rs := [6]) (by kernel_rfl) (by simp) ?_
              refine AllReadyH.cons (o := _) g7_6 (fun K hK => ?_) AllReadyH.nil
              go_simp
              refine hK.out _ _ B21.1 (fun _ => ?_)
              refine wpAnyH_done (by kernel_rfl) ?_ _
              refine NoPanic.normal ?_
              clear hK K q1 B20
              go_wp2
              go_roundw
              case rel => exact ⟨0, b2, r1, r2, B21, unhide Inext⟩
              case measure =>
                rw [cellInt_of B21.2.2.1.2.1.1, cellInt_of B21.2.2.1.2.1.2, cellInt_of HB.2.2.1.2.1.1, cellInt_of HB.2.2.1.2.1.2]
                exact unhide Hless
            · skip
              go_simp
              refine (R1 _).mono ?_
              rintro e w5 ⟨rfl, hb⟩
              have B5 := B4.keep hb
              refine hK.out _ _ B5.1 (fun _ => ?_)
              clear hK K B4 hb
              refine wpAnyH_ready (rs := [0]) (by kernel_rfl) (by simp) ?_
              refine AllReadyH.cons (o := _) g7_0 (fun K hK => ?_) AllReadyH.nil
              have q1 := B5.2.1.2.1
              have q2 := B5.2.2.1.2.1
              go_simp
              refine hK.out _ _ B5.1 (fun _ => ?_)
              clear hK K q1 q2
              have B20 := B5.setA 0 b2
              have q1 := B5.2.1.2
              refine wpAnyH_ready (rs := [5]) (by kernel_rfl) (by simp) ?_
              refine AllReadyH.cons (o := _) g7_5 (fun K hK => ?_) AllReadyH.nil
              go_simp
              refine hK.out _ _ B20.1 (fun _ => ?_)
              clear hK K q1 B5
              have B21 := B20.setB r1 r2
              have q1 := B20.2.2.1.2
              refine wpAnyH_ready (rs := [6]) (by kernel_rfl) (by simp) ?_
              refine AllReadyH.cons (o := _) g7_6 (fun K hK => ?_) AllReadyH.nil
              go_simp
              refine hK.out _ _ B21.1 (fun _ => ?_)
              refine wpAnyH_done (by kernel_rfl) ?_ _
              refine NoPanic.normal ?_
              clear hK K q1 B20
              go_wp2
              go_roundw
              case rel => exact ⟨0, b2, r1, r2, B21, unhide Inext⟩
              case measure =>
                rw [cellInt_of B21.2.2.1.2.1.1, cellInt_of B21.2.2.1.2.1.2, cellInt_of HB.2.2.1.2.1.1, cellInt_of HB.2.2.1.2.1.2]
                exact unhide Hless
    · have Hne := hide (show ¬ (b1 = 0 ∧ b2 = 0) from fun h => z1 h.1)
      have z3 : (b1 == 0) = false := by simp [z1]
      clear z1
      obtain ⟨r1, r2, R1, hless, inext⟩ := unhide St a1 a2 b1 b2 (unhide Inv) (unhide Hne)
      have Hless := hide hless
      have Inext := hide inext
      clear hless inext
      have HB := B
      have q1 := B.2.2.1.2.1
      go_wp2_with fail
      clear q1
      refine wp_region_noPanic ?_
      refine wp_region_held_drew (S := fun W => Below w.heap.size w W) (by kernel_rfl) (Below.drew B.1) ?_
      intro _
      have B4 := B.keep (Below.drew (Below.refl _ _))
      clear B
      refine wpAnyH_take (i := 1) (oi := _) (v := .int .i64 g) g7_1 (by kernel_rfl) (by kernel_rfl) (by kernel_rfl) (fun _ _ _ h => h) (Or.inl ⟨by rfl, ?_⟩) (by assumption) ?_
      · intro w hSw
        try dsimp only at hSw
        go_simp
      simp only [Act.put, List.setIfInBounds_toArray, List.set_cons_zero, List.set_cons_succ]
      refine wpAnyH_ready (rs := [0, 2, 3]) (by kernel_rfl) (by simp) ?_
      refine AllReadyH.cons (o := _) g7_0 (fun K hK => ?_) (AllReadyH.cons (o := _) g7_2 (fun K hK => ?_) (AllReadyH.cons (o := _) g7_3 (fun K hK => ?_) AllReadyH.nil))
      · skip
        have q1 := B4.2.1.2.1
        have q2 := B4.2.2.1.2.1
        go_simp
        refine hK.out _ _ B4.1 (fun _ => ?_)
        clear hK K q1 q2
        refine wpAnyH_ready (rs := [2, 3]) (by kernel_rfl) (by simp) ?_
        refine AllReadyH.cons (o := _) g7_2 (fun K hK => ?_) (AllReadyH.cons (o := _) g7_3 (fun K hK => ?_) AllReadyH.nil)
        · skip
          have q1 := B4.2.1.2.1
          have q2 := B4.2.2.1.2.1
          go_simp
          refine hK.out _ _ B4.1 (fun _ => ?_)
          clear hK K q1 q2
          refine wpAnyH_ready (rs := [3]) (by kernel_rfl) (by simp) ?_
          refine AllReadyH.cons (o := _) g7_3 (fun K hK => ?_) AllReadyH.nil
          have q1 := B4.2.1.2.1
          have q2 := B4.2.2.1.2.1
          go_simp
          refine hK.out _ _ B4.1 (fun _ => ?_)
          clear hK K q1 q2
          refine wpAnyH_ready (rs := [4]) (by kernel_rfl) (by simp) ?_
          refine AllReadyH.cons (o := _) g7_4 (fun K hK => ?_) AllReadyH.nil
          go_simp
          refine (R1 _).mono ?_
          rintro e w5 ⟨rfl, hb⟩
          have B5 := B4.keep hb
          refine hK.out _ _ B5.1 (fun _ => ?_)
          clear hK K B4 hb
          have B20 := B5.setA b1 b2
          have q1 := B5.2.1.2
          refine wpAnyH_ready (rs := [5]) (by kernel_rfl) (by simp) ?_
          refine AllReadyH.cons (o := _) g7_5 (fun K hK => ?_) AllReadyH.nil
          go_simp
          refine hK.out _ _ B20.1 (fun _ => ?_)
          clear hK K q1 B5
          have B21 := B20.setB r1 r2
          have q1 := B20.2.2.1.2
          refine wpAnyH_ready (rs := [6]) (by kernel_rfl) (by simp) ?_
          refine AllReadyH.cons (o := _) g7_6 (fun K hK => ?_) AllReadyH.nil
          go_simp
          refine hK.out _ _ B21.1 (fun _ => ?_)
          refine wpAnyH_done (by kernel_rfl) ?_ _
          refine NoPanic.normal ?_
          clear hK K q1 B20
          go_wp2
          go_roundw
          case rel => exact ⟨b1, b2, r1, r2, B21, unhide Inext⟩
          case measure =>
            rw [cellInt_of B21.2.2.1.2.1.1, cellInt_of B21.2.2.1.2.1.2, cellInt_of HB.2.2.1.2.1.1, cellInt_of HB.2.2.1.2.1.2]
            exact unhide Hless
        · skip
          have q1 := B4.2.1.2.1
          have q2 := B4.2.2.1.2.1
          go_simp
          refine hK.out _ _ B4.1 (fun _ => ?_)
          clear hK K q1 q2
          refine wpAnyH_ready (rs := [2]) (by kernel_rfl) (by simp) ?_
          refine AllReadyH.cons (o := _) g7_2 (fun K hK => ?_) AllReadyH.nil
          have q1 := B4.2.1.2.1
          have q2 := B4.2.2.1.2.1
          go_simp
          refine hK.out _ _ B4.1 (fun _ => ?_)
          clear hK K q1 q2
          refine wpAnyH_ready (rs := [4]) (by kernel_rfl) (by simp) ?_
          refine AllReadyH.cons (o := _) g7_4 (fun K hK => ?_) AllReadyH.nil
          go_simp
          refine (R1 _).mono ?_
          rintro e w5 ⟨rfl, hb⟩
          have B5 := B4.keep hb
          refine hK.out _ _ B5.1 (fun _ => ?_)
          clear hK K B4 hb
          have B20 := B5.setA b1 b2
          have q1 := B5.2.1.2
          refine wpAnyH_ready (rs := [5]) (by kernel_rfl) (by simp) ?_
          refine AllReadyH.cons (o := _) g7_5 (fun K hK => ?_) AllReadyH.nil
          go_simp
          refine hK.out _ _ B20.1 (fun _ => ?_)
          clear hK K q1 B5
          have B21 := B20.setB r1 r2
          have q1 := B20.2.2.1.2
          refine wpAnyH_ready (rs := [6]) (by kernel_rfl) (by simp) ?_
          refine AllReadyH.cons (o := _) g7_6 (fun K hK => ?_) AllReadyH.nil
          go_simp
          refine hK.out _ _ B21.1 (fun _ => ?_)
          refine wpAnyH_done (by kernel_rfl) ?_ _
          refine NoPanic.normal ?_
          clear hK K q1 B20
          go_wp2
          go_roundw
          case rel => exact ⟨b1, b2, r1, r2, B21, unhide Inext⟩
          case measure =>
            rw [cellInt_of B21.2.2.1.2.1.1, cellInt_of B21.2.2.1.2.1.2, cellInt_of HB.2.2.1.2.1.1, cellInt_of HB.2.2.1.2.1.2]
            exact unhide Hless
      · skip
        have q1 := B4.2.1.2.1
        have q2 := B4.2.2.1.2.1
        go_simp
        refine hK.out _ _ B4.1 (fun _ => ?_)
        clear hK K q1 q2
        refine wpAnyH_ready (rs := [0, 3]) (by kernel_rfl) (by simp) ?_
        refine AllReadyH.cons (o := _) g7_0 (fun K hK => ?_) (AllReadyH.cons (o := _) g7_3 (fun K hK => ?_) AllReadyH.nil)
        · skip
          have q1 := B4.2.1.2.1
          have q2 := B4.2.2.1.2.1
          go_simp
          refine hK.out _ _ B4.1 (fun _ => ?_)
          clear hK K q1 q2
          refine wpAnyH_ready (rs := [3]) (by kernel_rfl) (by simp) ?_
          refine AllReadyH.cons (o := _) g7_3 (fun K hK => ?_) AllReadyH.nil
          have q1 := B4.2.1.2.1
          have q2 := B4.2.2.1.2.1
          go_simp
          refine hK.out _ _ B4.1 (fun _ => ?_)
          clear hK K q1 q2
          refine wpAnyH_ready (rs := [4]) (by kernel_rfl) (by simp) ?_
          refine AllReadyH.cons (o := _) g7_4 (fun K hK => ?_) AllReadyH.nil
          go_simp
          refine (R1 _).mono ?_
          rintro e w5 ⟨rfl, hb⟩
          have B5 := B4.keep hb
          refine hK.out _ _ B5.1 (fun _ => ?_)
          clear hK K B4 hb
          have B20 := B5.setA b1 b2
          have q1 := B5.2.1.2
          refine wpAnyH_ready (rs := [5]) (by kernel_rfl) (by simp) ?_
          refine AllReadyH.cons (o := _) g7_5 (fun K hK => ?_) AllReadyH.nil
          go_simp
          refine hK.out _ _ B20.1 (fun _ => ?_)
          clear hK K q1 B5
          have B21 := B20.setB r1 r2
          have q1 := B20.2.2.1.2
          refine wpAnyH_ready (rs := [6]) (by kernel_rfl) (by simp) ?_
          refine AllReadyH.cons (o := _) g7_6 (fun K hK => ?_) AllReadyH.nil
          go_simp
          refine hK.out _ _ B21.1 (fun _ => ?_)
          refine wpAnyH_done (by kernel_rfl) ?_ _
          refine NoPanic.normal ?_
          clear hK K q1 B20
          go_wp2
          go_roundw
          case rel => exact ⟨b1, b2, r1, r2, B21, unhide Inext⟩
          case measure =>
            rw [cellInt_of B21.2.2.1.2.1.1, cellInt_of B21.2.2.1.2.1.2, cellInt_of HB.2.2.1.2.1.1, cellInt_of HB.2.2.1.2.1.2]
            exact unhide Hless
        · skip
          have q1 := B4.2.1.2.1
          have q2 := B4.2.2.1.2.1
          go_simp
          refine hK.out _ _ B4.1 (fun _ => ?_)
          clear hK K q1 q2
          refine wpAnyH_ready (rs := [0, 4]) (by kernel_rfl) (by simp) ?_
          refine AllReadyH.cons (o := _) g7_0 (fun K hK => ?_) (AllReadyH.cons (o := _) g7_4 (fun K hK => ?_) AllReadyH.nil)
          · skip
            have q1 := B4.2.1.2.1
            have q2 := B4.2.2.1.2.1
            go_simp
            refine hK.out _ _ B4.1 (fun _ => ?_)
            clear hK K q1 q2
            refine wpAnyH_ready (rs := [4]) (by kernel_rfl) (by simp) ?_
            refine AllReadyH.cons (o := _) g7_4 (fun K hK => ?_) AllReadyH.nil
            go_simp
            refine (R1 _).mono ?_
            rintro e w5 ⟨rfl, hb⟩
            have B5 := B4.keep hb
            refine hK.out _ _ B5.1 (fun _ => ?_)
            clear hK K B4 hb
            have B20 := B5.setA b1 b2
            have q1 := B5.2.1.2
            refine wpAnyH_ready (rs := [5]) (by kernel_rfl) (by simp) ?_
            refine AllReadyH.cons (o := _) g7_5 (fun K hK => ?_) AllReadyH.nil
            go_simp
            refine hK.out _ _ B20.1 (fun _ => ?_)
            clear hK K q1 B5
            have B21 := B20.setB r1 r2
            have q1 := B20.2.2.1.2
            refine wpAnyH_ready (rs := [6]) (by kernel_rfl) (by simp) ?_
            refine AllReadyH.cons (o := _) g7_6 (fun K hK => ?_) AllReadyH.nil
            go_simp
            refine hK.out _ _ B21.1 (fun _ => ?_)
            refine wpAnyH_done (by kernel_rfl) ?_ _
            refine NoPanic.normal ?_
            clear hK K q1 B20
            go_wp2
            go_roundw
            case rel => exact ⟨b1, b2, r1, r2, B21, unhide Inext⟩
            case measure =>
              rw [cellInt_of B21.2.2.1.2.1.1, cellInt_of B21.2.2.1.2.1.2, cellInt_of HB.2.2.1.2.1.1, cellInt_of HB.2.2.1.2.1.2]
              exact unhide Hless
          · skip
            go_simp
            refine (R1 _).mono ?_
            rintro e w5 ⟨rfl, hb⟩
            have B5 := B4.keep hb
            refine hK.out _ _ B5.1 (fun _ => ?_)
            clear hK K B4 hb
            refine wpAnyH_ready (rs := [0]) (by kernel_rfl) (by simp) ?_
            refine AllReadyH.cons (o := _) g7_0 (fun K hK => ?_) AllReadyH.nil
            have q1 := B5.2.1.2.1
            have q2 := B5.2.2.1.2.1
            go_simp
            refine hK.out _ _ B5.1 (fun _ => ?_)
            clear hK K q1 q2
            have B20 := B5.setA b1 b2
            have q1 := B5.2.1.2
            refine wpAnyH_ready (rs := [5]) (by kernel_rfl) (by simp) ?_
            refine AllReadyH.cons (o := _) g7_5 (fun K hK => ?_) AllReadyH.nil
            go_simp
            refine hK.out _ _ B20.1 (fun _ => ?_)
            clear hK K q1 B5
            have B21 := B20.setB r1 r2
            have q1 := B20.2.2.1.2
            refine wpAnyH_ready (rs := [6]) (by kernel_rfl) (by simp) ?_
            refine AllReadyH.cons (o := _) g7_6 (fun K hK => ?_) AllReadyH.nil
            go_simp
            refine hK.out _ _ B21.1 (fun _ => ?_)
            refine wpAnyH_done (by kernel_rfl) ?_ _
            refine NoPanic.normal ?_
            clear hK K q1 B20
            go_wp2
            go_roundw
            case rel => exact ⟨b1, b2, r1, r2, B21, unhide Inext⟩
            case measure =>
              rw [cellInt_of B21.2.2.1.2.1.1, cellInt_of B21.2.2.1.2.1.2, cellInt_of HB.2.2.1.2.1.1, cellInt_of HB.2.2.1.2.1.2]
              exact unhide Hless
      · skip
        have q1 := B4.2.1.2.1
        have q2 := B4.2.2.1.2.1
        go_simp
        refine hK.out _ _ B4.1 (fun _ => ?_)
        clear hK K q1 q2
        refine wpAnyH_ready (rs := [0, 2]) (by kernel_rfl) (by simp) ?_
        refine AllReadyH.cons (o := _) g7_0 (fun K hK => ?_) (AllReadyH.cons (o := _) g7_2 (fun K hK => ?_) AllReadyH.nil)
        · skip
          have q1 := B4.2.1.2.1
          have q2 := B4.2.2.1.2.1
          go_simp
          refine hK.out _ _ B4.1 (fun _ => ?_)
          clear hK K q1 q2
          refine wpAnyH_ready (rs := [2]) (by kernel_rfl) (by simp) ?_
          refine AllReadyH.cons (o := _) g7_2 (fun K hK => ?_) AllReadyH.nil
          have q1 := B4.2.1.2.1
          have q2 := B4.2.2.1.2.1
          go_simp
          refine hK.out _ _ B4.1 (fun _ => ?_)
          clear hK K q1 q2
          refine wpAnyH_ready (rs := [4]) (by kernel_rfl) (by simp) ?_
          refine AllReadyH.cons (o := _) g7_4 (fun K hK => ?_) AllReadyH.nil
          go_simp
          refine (R1 _).mono ?_
          rintro e w5 ⟨rfl, hb⟩
          have B5 := B4.keep hb
          refine hK.out _ _ B5.1 (fun _ => ?_)
          clear hK K B4 hb
          have B20 := B5.setA b1 b2
          have q1 := B5.2.1.2
          refine wpAnyH_ready (rs := [5]) (by kernel_rfl) (by simp) ?_
          refine AllReadyH.cons (o := _) g7_5 (fun K hK => ?_) AllReadyH.nil
          go_simp
          refine hK.out _ _ B20.1 (fun _ => ?_)
          clear hK K q1 B5
          have B21 := B20.setB r1 r2
          have q1 := B20.2.2.1.2
          refine wpAnyH_ready (rs := [6]) (by kernel_rfl) (by simp) ?_
          refine AllReadyH.cons (o := _) g7_6 (fun K hK => ?_) AllReadyH.nil
          go_simp
          refine hK.out _ _ B21.1 (fun _ => ?_)
          refine wpAnyH_done (by kernel_rfl) ?_ _
          refine NoPanic.normal ?_
          clear hK K q1 B20
          go_wp2
          go_roundw
          case rel => exact ⟨b1, b2, r1, r2, B21, unhide Inext⟩
          case measure =>
            rw [cellInt_of B21.2.2.1.2.1.1, cellInt_of B21.2.2.1.2.1.2, cellInt_of HB.2.2.1.2.1.1, cellInt_of HB.2.2.1.2.1.2]
            exact unhide Hless
        · skip
          have q1 := B4.2.1.2.1
          have q2 := B4.2.2.1.2.1
          go_simp
          refine hK.out _ _ B4.1 (fun _ => ?_)
          clear hK K q1 q2
          refine wpAnyH_ready (rs := [0, 4]) (by kernel_rfl) (by simp) ?_
          refine AllReadyH.cons (o := _) g7_0 (fun K hK => ?_) (AllReadyH.cons (o := _) g7_4 (fun K hK => ?_) AllReadyH.nil)
          · skip
            have q1 := B4.2.1.2.1
            have q2 := B4.2.2.1.2.1
            go_simp
            refine hK.out _ _ B4.1 (fun _ => ?_)
            clear hK K q1 q2
            refine wpAnyH_ready (rs := [4]) (by kernel_rfl) (by simp) ?_
            refine AllReadyH.cons (o := _) g7_4 (fun K hK => ?_) AllReadyH.nil
            go_simp
            refine (R1 _).mono ?_
            rintro e w5 ⟨rfl, hb⟩
            have B5 := B4.keep hb
            refine hK.out _ _ B5.1 (fun _ => ?_)
            clear hK K B4 hb
            have B20 := B5.setA b1 b2
            have q1 := B5.2.1.2
            refine wpAnyH_ready (rs := [5]) (by kernel_rfl) (by simp) ?_
            refine AllReadyH.cons (o := _) g7_5 (fun K hK => ?_) AllReadyH.nil
            go_simp
            refine hK.out _ _ B20.1 (fun _ => ?_)
            clear hK K q1 B5
            have B21 := B20.setB r1 r2
            have q1 := B20.2.2.1.2
            refine wpAnyH_ready (rs := [6]) (by kernel_rfl) (by simp) ?_
            refine AllReadyH.cons (o := _) g7_6 (fun K hK => ?_) AllReadyH.nil
            go_simp
            refine hK.out _ _ B21.1 (fun _ => ?_)
            refine wpAnyH_done (by kernel_rfl) ?_ _
            refine NoPanic.normal ?_
            clear hK K q1 B20
            go_wp2
            go_roundw
            case rel => exact ⟨b1, b2, r1, r2, B21, unhide Inext⟩
            case measure =>
              rw [cellInt_of B21.2.2.1.2.1.1, cellInt_of B21.2.2.1.2.1.2, cellInt_of HB.2.2.1.2.1.1, cellInt_of HB.2.2.1.2.1.2]
              exact unhide Hless
          · skip
            go_simp
            refine (R1 _).mono ?_
            rintro e w5 ⟨rfl, hb⟩
            have B5 := B4.keep hb
            refine hK.out _ _ B5.1 (fun _ => ?_)
            clear hK K B4 hb
            refine wpAnyH_ready (rs := [0]) (by kernel_rfl) (by simp) ?_
            refine AllReadyH.cons (o := _) g7_0 (fun K hK => ?_) AllReadyH.nil
            have q1 := B5.2.1.2.1
            have q2 := B5.2.2.1.2.1
            go_simp
            refine hK.out _ _ B5.1 (fun _ => ?_)
            clear hK K q1 q2
            have B20 := B5.setA b1 b2
            have q1 := B5.2.1.2
            refine wpAnyH_ready (rs := [5]) (by kernel_rfl) (by simp) ?_
            refine AllReadyH.cons (o := _) g7_5 (fun K hK => ?_) AllReadyH.nil
            go_simp
            refine hK.out _ _ B20.1 (fun _ => ?_)
            clear hK K q1 B5
            have B21 := B20.setB r1 r2
            have q1 := B20.2.2.1.2
            refine wpAnyH_ready (rs := [6]) (by kernel_rfl) (by simp) ?_
            refine AllReadyH.cons (o := _) g7_6 (fun K hK => ?_) AllReadyH.nil
            go_simp
            refine hK.out _ _ B21.1 (fun _ => ?_)
            refine wpAnyH_done (by kernel_rfl) ?_ _
            refine NoPanic.normal ?_
            clear hK K q1 B20
            go_wp2
            go_roundw
            case rel => exact ⟨b1, b2, r1, r2, B21, unhide Inext⟩
            case measure =>
              rw [cellInt_of B21.2.2.1.2.1.1, cellInt_of B21.2.2.1.2.1.2, cellInt_of HB.2.2.1.2.1.1, cellInt_of HB.2.2.1.2.1.2]
              exact unhide Hless

end Go.Proofs.Ytfopjkcnfngbpaa
