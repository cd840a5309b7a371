/-
  What remainder of package plane answers, out of what it calls, in plain variables (walk over the translated code).
-/
import Derived.Test.YtfopjkcnfngbpaaGcdA
namespace Go.Proofs.Ytfopjkcnfngbpaa
open Go.RowKit

theorem g8_0 {a0 a1 a2 a3 a4 a5 a6 a7 : Oper} : (#[a0, a1, a2, a3, a4, a5, a6, a7] : Array Oper)[0]? = some a0 := rfl
theorem g8_1 {a0 a1 a2 a3 a4 a5 a6 a7 : Oper} : (#[a0, a1, a2, a3, a4, a5, a6, a7] : Array Oper)[1]? = some a1 := rfl
theorem g8_2 {a0 a1 a2 a3 a4 a5 a6 a7 : Oper} : (#[a0, a1, a2, a3, a4, a5, a6, a7] : Array Oper)[2]? = some a2 := rfl
theorem g8_3 {a0 a1 a2 a3 a4 a5 a6 a7 : Oper} : (#[a0, a1, a2, a3, a4, a5, a6, a7] : Array Oper)[3]? = some a3 := rfl
theorem g8_4 {a0 a1 a2 a3 a4 a5 a6 a7 : Oper} : (#[a0, a1, a2, a3, a4, a5, a6, a7] : Array Oper)[4]? = some a4 := rfl
theorem g8_5 {a0 a1 a2 a3 a4 a5 a6 a7 : Oper} : (#[a0, a1, a2, a3, a4, a5, a6, a7] : Array Oper)[5]? = some a5 := rfl
theorem g8_6 {a0 a1 a2 a3 a4 a5 a6 a7 : Oper} : (#[a0, a1, a2, a3, a4, a5, a6, a7] : Array Oper)[6]? = some a6 := rfl
theorem g8_7 {a0 a1 a2 a3 a4 a5 a6 a7 : Oper} : (#[a0, a1, a2, a3, a4, a5, a6, a7] : Array Oper)[7]? = some a7 := rfl

theorem g10_0 {a0 a1 a2 a3 a4 a5 a6 a7 a8 a9 : Oper} : (#[a0, a1, a2, a3, a4, a5, a6, a7, a8, a9] : Array Oper)[0]? = some a0 := rfl
theorem g10_1 {a0 a1 a2 a3 a4 a5 a6 a7 a8 a9 : Oper} : (#[a0, a1, a2, a3, a4, a5, a6, a7, a8, a9] : Array Oper)[1]? = some a1 := rfl
theorem g10_2 {a0 a1 a2 a3 a4 a5 a6 a7 a8 a9 : Oper} : (#[a0, a1, a2, a3, a4, a5, a6, a7, a8, a9] : Array Oper)[2]? = some a2 := rfl
theorem g10_3 {a0 a1 a2 a3 a4 a5 a6 a7 a8 a9 : Oper} : (#[a0, a1, a2, a3, a4, a5, a6, a7, a8, a9] : Array Oper)[3]? = some a3 := rfl
theorem g10_4 {a0 a1 a2 a3 a4 a5 a6 a7 a8 a9 : Oper} : (#[a0, a1, a2, a3, a4, a5, a6, a7, a8, a9] : Array Oper)[4]? = some a4 := rfl
theorem g10_5 {a0 a1 a2 a3 a4 a5 a6 a7 a8 a9 : Oper} : (#[a0, a1, a2, a3, a4, a5, a6, a7, a8, a9] : Array Oper)[5]? = some a5 := rfl
theorem g10_6 {a0 a1 a2 a3 a4 a5 a6 a7 a8 a9 : Oper} : (#[a0, a1, a2, a3, a4, a5, a6, a7, a8, a9] : Array Oper)[6]? = some a6 := rfl
theorem g10_7 {a0 a1 a2 a3 a4 a5 a6 a7 a8 a9 : Oper} : (#[a0, a1, a2, a3, a4, a5, a6, a7, a8, a9] : Array Oper)[7]? = some a7 := rfl
theorem g10_8 {a0 a1 a2 a3 a4 a5 a6 a7 a8 a9 : Oper} : (#[a0, a1, a2, a3, a4, a5, a6, a7, a8, a9] : Array Oper)[8]? = some a8 := rfl
theorem g10_9 {a0 a1 a2 a3 a4 a5 a6 a7 a8 a9 : Oper} : (#[a0, a1, a2, a3, a4, a5, a6, a7, a8, a9] : Array Oper)[9]? = some a9 := rfl

/-- the boxes of a call of remainder -/
def RemB (w : World) (ax ay bx b : Int) (W : World) : Prop :=
  Below w.heap.size w W ∧ Own W w.heap.size ax ay ∧ Own W (w.heap.size + 1) bx b ∧ Own W (w.heap.size + 1 + 1) 0 0
theorem RemB.keep {w W w1 : World} {ax ay bx b : Int} (h : RemB w ax ay bx b W) (hb : Below W.heap.size W w1) : RemB w ax ay bx b w1 :=
  ⟨btrans h.1 hb, h.2.1.keep hb, h.2.2.1.keep hb, h.2.2.2.keep hb⟩
theorem RemB.far {w W : World} {ax ay bx b : Int} (h : RemB w ax ay bx b W) {k o : Nat} {v : Value} (hk : w.heap.size + 1 + 1 < k) : RemB w ax ay bx b (W.setCell ⟨k, o, none⟩ v) :=
  ⟨bset h.1 (by dsimp only; omega), h.2.1.far (by omega), h.2.2.1.far (by omega), h.2.2.2.far (by omega)⟩
theorem Own.drew {W : World} {b : Nat} {x y : Int} (h : Own W b x y) : Own W.drew b x y := h.keep (Below.drew (Below.refl _ _))
abbrev D2 (W : World) (b : Nat) (v0 v1 : Value) : Prop := W.cell? ⟨b, 0, none⟩ = some v0 ∧ W.cell? ⟨b, 1, none⟩ = some v1
abbrev RemS (w : World) (ax ay bx b : Int) (W : World) : Prop :=
  RemB w ax ay bx b W ∧ D2 W w.heap.size (.int .i64 ax) (.int .i64 ay) ∧ D2 W (w.heap.size + 1) (.int .i64 bx) (.int .i64 b)
theorem RemB.s {w W : World} {ax ay bx b : Int} (h : RemB w ax ay bx b W) : RemS w ax ay bx b W := ⟨h, h.2.1.2.1, h.2.2.1.2.1⟩
def ProdIs (g ax ay bx b u v : Int) : Prop := ∀ W : World, Calls Try.prog 29 #[.int .i64 g, .agg #[.int .i64 ax, .int .i64 ay], .agg #[.int .i64 bx, .int .i64 b]] W fun e w' => e = .returned (.agg #[.int .i64 u, .int .i64 v]) ∧ Below W.heap.size W w'
def InNormIs (g x y n : Int) : Prop := ∀ W : World, Calls Try.prog 32 #[.int .i64 g, .agg #[.int .i64 x, .int .i64 y]] W fun e w' => e = .returned (.int .i64 n) ∧ Below W.heap.size W w'
abbrev QS (w : World) (ax ay bx b : Int) (k : Nat) (u v : Int) (W : World) : Prop :=
  (RemB w ax ay bx b W ∧ k < W.heap.size) ∧ D2 W k (.int .i64 u) (.int .i64 v)

theorem QS.keep {w W w1 : World} {ax ay bx b : Int} {k : Nat} {u v : Int} (h : QS w ax ay bx b k u v W) (hb : Below W.heap.size W w1) : QS w ax ay bx b k u v w1 :=
  ⟨⟨h.1.1.keep hb, Nat.lt_of_lt_of_le h.1.2 hb.size⟩, keepC hb h.1.2 h.2.1, keepC hb h.1.2 h.2.2⟩

set_option maxRecDepth 100000 in
set_option maxHeartbeats 4000000 in
theorem remainder_is (g ax ay bx b n mx my u v qx qy px py : Int) (w : World) (N0 : InNormIs g bx b n) (M : MirrIs g bx b mx my) (P1 : ProdIs g ax ay mx my u v) (N1 : NearIs u n qx) (N2 : NearIs v n qy) (P2 : ProdIs g qx qy bx b px py)
    (hx : -1152921504606846976 ≤ ax - px ∧ ax - px ≤ 1152921504606846976) (hy : -1152921504606846976 ≤ ay - py ∧ ay - py ≤ 1152921504606846976) :
    Calls Try.prog 34 #[.int .i64 g, .agg #[.int .i64 ax, .int .i64 ay], .agg #[.int .i64 bx, .int .i64 b]] w fun e w' => e = .returned (.agg #[.int .i64 (ax - px), .int .i64 (ay - py)]) ∧ Below w.heap.size w w' := by
  go_enter Try.func34, Try.ntmps34
  go_wp2_with fail
  refine (N0 _).mono ?_
  rintro e w1 ⟨rfl, hb⟩
  have A := (((Own.new w ax ay 23).alloc (.cells #[.int .i64 bx, .int .i64 b] 23)).alloc (.cells #[.int .i64 0, .int .i64 0] 23)).keep hb
  have C := ((Own.new (w.alloc (.cells #[.int .i64 ax, .int .i64 ay] 23)) bx b 23).alloc (.cells #[.int .i64 0, .int .i64 0] 23)).keep hb
  have R := (Own.new ((w.alloc (.cells #[.int .i64 ax, .int .i64 ay] 23)).alloc (.cells #[.int .i64 bx, .int .i64 b] 23)) 0 0 23).keep hb
  have S := btrans (bal (bal (bal (Below.refl _ _)))) hb
  simp only [World.size_alloc] at C R
  clear hb
  have B1 : RemB w ax ay bx b w1 := ⟨S, A, C, R⟩
  clear A C R S
  go_wp2_with fail
  refine wp_region_noPanic ?_
  refine wp_region_held_drew (S := fun W => RemS w ax ay bx b W) (by kernel_rfl) (B1.keep (Below.drew (Below.refl _ _))).s ?_
  intro H0
  refine wpAnyH_take (i := 0) (oi := _) (v := .int .i64 g) g8_0 (by kernel_rfl) (by kernel_rfl) (by kernel_rfl) (fun _ _ _ h => h) (Or.inl ⟨by rfl, ?_⟩) (by assumption) ?_
  · intro w hSw
    try dsimp only at hSw
    go_simp
  simp only [Act.put, List.setIfInBounds_toArray, List.set_cons_zero, List.set_cons_succ]
  refine wpAnyH_take (i := 1) (oi := _) (v := .agg #[.int .i64 ax, .int .i64 ay]) g8_1 (by kernel_rfl) (by kernel_rfl) (by kernel_rfl) (fun _ _ _ h => h) (Or.inl ⟨by rfl, ?_⟩) (by assumption) ?_
  · intro w hSw
    try dsimp only at hSw
    go_simp
  simp only [Act.put, List.setIfInBounds_toArray, List.set_cons_zero, List.set_cons_succ]
  refine wpAnyH_take (i := 2) (oi := _) (v := .int .i64 g) g8_2 (by kernel_rfl) (by kernel_rfl) (by kernel_rfl) (fun _ _ _ h => h) (Or.inl ⟨by rfl, ?_⟩) (by assumption) ?_
  · intro w hSw
    try dsimp only at hSw
    go_simp
  simp only [Act.put, List.setIfInBounds_toArray, List.set_cons_zero, List.set_cons_succ]
  refine wpAnyH_take (i := 3) (oi := _) (v := .agg #[.int .i64 bx, .int .i64 b]) g8_3 (by kernel_rfl) (by kernel_rfl) (by kernel_rfl) (fun _ _ _ h => h) (Or.inl ⟨by rfl, ?_⟩) (by assumption) ?_
  · intro w hSw
    try dsimp only at hSw
    go_simp
  simp only [Act.put, List.setIfInBounds_toArray, List.set_cons_zero, List.set_cons_succ]
  refine wpAnyH_ready (rs := [4, 6]) (by kernel_rfl) (by simp) ?_
  refine AllReadyH.cons (o := _) g8_4 (fun K hK => ?_) (AllReadyH.cons (o := _) g8_6 (fun K hK => ?_) AllReadyH.nil)
  · go_simp
    refine (M _).mono ?_
    rintro e w2 ⟨rfl, hb⟩
    have H1 := (H0.1.keep hb).s
    refine hK.out _ _ H1 (fun _ => ?_)
    clear hK K H0 hb
    refine wpAnyH_ready (rs := [5, 6]) (by kernel_rfl) (by simp) ?_
    refine AllReadyH.cons (o := _) g8_5 (fun K hK => ?_) (AllReadyH.cons (o := _) g8_6 (fun K hK => ?_) AllReadyH.nil)
    · go_simp
      refine (P1 _).mono ?_
      rintro e w3 ⟨rfl, hb⟩
      have H2 := (H1.1.keep hb).s
      refine hK.out _ _ H2 (fun _ => ?_)
      clear hK K H1 hb
      have hk : w.heap.size + 1 + 1 < w3.heap.size := H2.1.2.2.2.1
      refine wpAnyH_ready (rs := [6]) (by kernel_rfl) (by simp) ?_
      refine AllReadyH.cons (o := _) g8_6 (fun K hK => ?_) AllReadyH.nil
      go_simp
      refine hK.out _ _ (H2.1.keep (bal (o := .cells #[.int .i64 0, .int .i64 0] 23) (Below.refl _ _))).s (fun _ => ?_)
      clear hK K
      have B7 := H2.1.keep (bal (o := .cells #[.int .i64 u, .int .i64 v] 23) (Below.refl _ _))
      have Q7 := Own.new w3 u v 23
      refine wpAnyH_ready (rs := [7]) (by kernel_rfl) (by simp) ?_
      refine AllReadyH.cons (o := _) g8_7 (fun K hK => ?_) AllReadyH.nil
      go_simp
      refine hK.out _ _ B7.s (fun _ => ?_)
      refine wpAnyH_done (by kernel_rfl) ?_ _
      refine NoPanic.normal ?_
      clear hK K H2
      obtain ⟨kq, hkq⟩ : ∃ kq, kq = w3.heap.size := ⟨_, rfl⟩
      rw [← hkq] at hk Q7 ⊢
      have HK := hide hkq
      clear hkq
      go_wp2_with fail
      refine wp_region_noPanic ?_
      refine wp_region_held_drew (S := fun W => RemB w ax ay bx b W) (by kernel_rfl) (B7.keep (Below.drew (Below.refl _ _))) ?_
      intro hS
      have B10 := B7.keep (Below.drew (Below.refl _ _))
      have Q10 := Q7.drew
      clear B7 Q7
      refine wpAnyH_take (i := 0) (oi := _) (v := .pointer (some ⟨kq, 0, none⟩)) g10_0 (by kernel_rfl) (by kernel_rfl) (by kernel_rfl) (fun _ _ _ h => h) (Or.inl ⟨by rfl, ?_⟩) (by assumption) ?_
      · intro w hSw
        try dsimp only at hSw
        go_simp
      simp only [Act.put, List.setIfInBounds_toArray, List.set_cons_zero, List.set_cons_succ]
      refine wpAnyH_take (i := 2) (oi := _) (v := .int .i64 n) g10_2 (by kernel_rfl) (by kernel_rfl) (by kernel_rfl) (fun _ _ _ h => h) (Or.inl ⟨by rfl, ?_⟩) (by assumption) ?_
      · intro w hSw
        try dsimp only at hSw
        go_simp
      simp only [Act.put, List.setIfInBounds_toArray, List.set_cons_zero, List.set_cons_succ]
      refine wpAnyH_take (i := 4) (oi := _) (v := .pointer (some ⟨kq, 1, none⟩)) g10_4 (by kernel_rfl) (by kernel_rfl) (by kernel_rfl) (fun _ _ _ h => h) (Or.inl ⟨by rfl, ?_⟩) (by assumption) ?_
      · intro w hSw
        try dsimp only at hSw
        go_simp
      simp only [Act.put, List.setIfInBounds_toArray, List.set_cons_zero, List.set_cons_succ]
      refine wpAnyH_take (i := 6) (oi := _) (v := .int .i64 n) g10_6 (by kernel_rfl) (by kernel_rfl) (by kernel_rfl) (fun _ _ _ h => h) (Or.inl ⟨by rfl, ?_⟩) (by assumption) ?_
      · intro w hSw
        try dsimp only at hSw
        go_simp
      simp only [Act.put, List.setIfInBounds_toArray, List.set_cons_zero, List.set_cons_succ]
      refine wpAnyH_ready (rs := [1, 5]) (by kernel_rfl) (by simp) ?_
      refine AllReadyH.cons (o := _) g10_1 (fun K hK => ?_) (AllReadyH.cons (o := _) g10_5 (fun K hK => ?_) AllReadyH.nil)
      · skip
        have q1 := Q10.2.1
        go_simp
        refine hK.out _ _ B10 (fun _ => ?_)
        clear hK K q1
        refine wpAnyH_ready (rs := [3, 5]) (by kernel_rfl) (by simp) ?_
        refine AllReadyH.cons (o := _) g10_3 (fun K hK => ?_) (AllReadyH.cons (o := _) g10_5 (fun K hK => ?_) AllReadyH.nil)
        · skip
          go_simp
          refine (N1 _).mono ?_
          rintro e w11 ⟨rfl, hb⟩
          have B11 := B10.keep hb
          have Q11 := Q10.keep hb
          refine hK.out _ _ B11 (fun _ => ?_)
          clear hK K B10 Q10 hb
          refine wpAnyH_ready (rs := [5]) (by kernel_rfl) (by simp) ?_
          refine AllReadyH.cons (o := _) g10_5 (fun K hK => ?_) AllReadyH.nil
          have q1 := Q11.2.1
          go_simp
          refine hK.out _ _ B11 (fun _ => ?_)
          clear hK K q1
          refine wpAnyH_ready (rs := [7]) (by kernel_rfl) (by simp) ?_
          refine AllReadyH.cons (o := _) g10_7 (fun K hK => ?_) AllReadyH.nil
          go_simp
          refine (N2 _).mono ?_
          rintro e w12 ⟨rfl, hb⟩
          have B12 := B11.keep hb
          have Q12 := Q11.keep hb
          refine hK.out _ _ B12 (fun _ => ?_)
          clear hK K B11 Q11 hb
          refine wpAnyH_take (i := 8) (oi := _) (v := .agg #[.int .i64 qx, .int .i64 qy]) g10_8 (by kernel_rfl) (by kernel_rfl) (by kernel_rfl) (fun _ _ _ h => h) (Or.inl ⟨by rfl, ?_⟩) (by assumption) ?_
          · intro w hSw
            try dsimp only at hSw
            go_simp
          simp only [Act.put, List.setIfInBounds_toArray, List.set_cons_zero, List.set_cons_succ]
          have B20 := (B12.far (k := kq) (o := 0) (v := .int .i64 qx) hk).far (k := kq) (o := 1) (v := .int .i64 qy) hk
          have Q20 := Q12.set qx qy
          have q1 := Q12.2
          refine wpAnyH_ready (rs := [9]) (by kernel_rfl) (by simp) ?_
          refine AllReadyH.cons (o := _) g10_9 (fun K hK => ?_) AllReadyH.nil
          go_simp
          refine hK.out _ _ B20 (fun _ => ?_)
          refine wpAnyH_done (by kernel_rfl) ?_ _
          refine NoPanic.normal ?_
          clear hK K q1 B12 Q12
          have q1 := Q20.2.1
          have q2 := B20.2.2.1.2.1
          go_wp2_with fail
          clear q1 q2
          refine (P2 _).mono ?_
          rintro e w30 ⟨rfl, hb⟩
          have B30 := B20.keep hb
          clear B20 Q20 hb
          have B31 := B30.keep (bal (o := .cells #[.int .i64 px, .int .i64 py] 23) (Below.refl _ _))
          have q1 := B31.2.1.2.1
          have q2 := B31.2.2.2.2
          go_wp2
          exact bodyPost_ret (v := .agg #[.int .i64 (ax - px), .int .i64 (ay - py)]) (by simp [results, Try.results34, go_sem, q2]) rfl ⟨rfl, bset (bset B31.1 (by dsimp only; omega)) (by dsimp only; omega)⟩
        · skip
          have q1 := Q10.2.1
          go_simp
          refine hK.out _ _ B10 (fun _ => ?_)
          clear hK K q1
          refine wpAnyH_ready (rs := [3]) (by kernel_rfl) (by simp) ?_
          refine AllReadyH.cons (o := _) g10_3 (fun K hK => ?_) AllReadyH.nil
          go_simp
          refine (N1 _).mono ?_
          rintro e w11 ⟨rfl, hb⟩
          have B11 := B10.keep hb
          have Q11 := Q10.keep hb
          refine hK.out _ _ B11 (fun _ => ?_)
          clear hK K B10 Q10 hb
          refine wpAnyH_ready (rs := [7]) (by kernel_rfl) (by simp) ?_
          refine AllReadyH.cons (o := _) g10_7 (fun K hK => ?_) AllReadyH.nil
          go_simp
          refine (N2 _).mono ?_
          rintro e w12 ⟨rfl, hb⟩
          have B12 := B11.keep hb
          have Q12 := Q11.keep hb
          refine hK.out _ _ B12 (fun _ => ?_)
          clear hK K B11 Q11 hb
          refine wpAnyH_take (i := 8) (oi := _) (v := .agg #[.int .i64 qx, .int .i64 qy]) g10_8 (by kernel_rfl) (by kernel_rfl) (by kernel_rfl) (fun _ _ _ h => h) (Or.inl ⟨by rfl, ?_⟩) (by assumption) ?_
          · intro w hSw
            try dsimp only at hSw
            go_simp
          simp only [Act.put, List.setIfInBounds_toArray, List.set_cons_zero, List.set_cons_succ]
          have B20 := (B12.far (k := kq) (o := 0) (v := .int .i64 qx) hk).far (k := kq) (o := 1) (v := .int .i64 qy) hk
          have Q20 := Q12.set qx qy
          have q1 := Q12.2
          refine wpAnyH_ready (rs := [9]) (by kernel_rfl) (by simp) ?_
          refine AllReadyH.cons (o := _) g10_9 (fun K hK => ?_) AllReadyH.nil
          go_simp
          refine hK.out _ _ B20 (fun _ => ?_)
          refine wpAnyH_done (by kernel_rfl) ?_ _
          refine NoPanic.normal ?_
          clear hK K q1 B12 Q12
          have q1 := Q20.2.1
          have q2 := B20.2.2.1.2.1
          go_wp2_with fail
          clear q1 q2
          refine (P2 _).mono ?_
          rintro e w30 ⟨rfl, hb⟩
          have B30 := B20.keep hb
          clear B20 Q20 hb
          have B31 := B30.keep (bal (o := .cells #[.int .i64 px, .int .i64 py] 23) (Below.refl _ _))
          have q1 := B31.2.1.2.1
          have q2 := B31.2.2.2.2
          go_wp2
          exact bodyPost_ret (v := .agg #[.int .i64 (ax - px), .int .i64 (ay - py)]) (by simp [results, Try.results34, go_sem, q2]) rfl ⟨rfl, bset (bset B31.1 (by dsimp only; omega)) (by dsimp only; omega)⟩
      · skip
        have q1 := Q10.2.1
        go_simp
        refine hK.out _ _ B10 (fun _ => ?_)
        clear hK K q1
        refine wpAnyH_ready (rs := [1]) (by kernel_rfl) (by simp) ?_
        refine AllReadyH.cons (o := _) g10_1 (fun K hK => ?_) AllReadyH.nil
        have q1 := Q10.2.1
        go_simp
        refine hK.out _ _ B10 (fun _ => ?_)
        clear hK K q1
        refine wpAnyH_ready (rs := [3]) (by kernel_rfl) (by simp) ?_
        refine AllReadyH.cons (o := _) g10_3 (fun K hK => ?_) AllReadyH.nil
        go_simp
        refine (N1 _).mono ?_
        rintro e w11 ⟨rfl, hb⟩
        have B11 := B10.keep hb
        have Q11 := Q10.keep hb
        refine hK.out _ _ B11 (fun _ => ?_)
        clear hK K B10 Q10 hb
        refine wpAnyH_ready (rs := [7]) (by kernel_rfl) (by simp) ?_
        refine AllReadyH.cons (o := _) g10_7 (fun K hK => ?_) AllReadyH.nil
        go_simp
        refine (N2 _).mono ?_
        rintro e w12 ⟨rfl, hb⟩
        have B12 := B11.keep hb
        have Q12 := Q11.keep hb
        refine hK.out _ _ B12 (fun _ => ?_)
        clear hK K B11 Q11 hb
        refine wpAnyH_take (i := 8) (oi := _) (v := .agg #[.int .i64 qx, .int .i64 qy]) g10_8 (by kernel_rfl) (by kernel_rfl) (by kernel_rfl) (fun _ _ _ h => h) (Or.inl ⟨by rfl, ?_⟩) (by assumption) ?_
        · intro w hSw
          try dsimp only at hSw
          go_simp
        simp only [Act.put, List.setIfInBounds_toArray, List.set_cons_zero, List.set_cons_succ]
        have B20 := (B12.far (k := kq) (o := 0) (v := .int .i64 qx) hk).far (k := kq) (o := 1) (v := .int .i64 qy) hk
        have Q20 := Q12.set qx qy
        have q1 := Q12.2
        refine wpAnyH_ready (rs := [9]) (by kernel_rfl) (by simp) ?_
        refine AllReadyH.cons (o := _) g10_9 (fun K hK => ?_) AllReadyH.nil
        go_simp
        refine hK.out _ _ B20 (fun _ => ?_)
        refine wpAnyH_done (by kernel_rfl) ?_ _
        refine NoPanic.normal ?_
        clear hK K q1 B12 Q12
        have q1 := Q20.2.1
        have q2 := B20.2.2.1.2.1
        go_wp2_with fail
        clear q1 q2
        refine (P2 _).mono ?_
        rintro e w30 ⟨rfl, hb⟩
        have B30 := B20.keep hb
        clear B20 Q20 hb
        have B31 := B30.keep (bal (o := .cells #[.int .i64 px, .int .i64 py] 23) (Below.refl _ _))
        have q1 := B31.2.1.2.1
        have q2 := B31.2.2.2.2
        go_wp2
        exact bodyPost_ret (v := .agg #[.int .i64 (ax - px), .int .i64 (ay - py)]) (by simp [results, Try.results34, go_sem, q2]) rfl ⟨rfl, bset (bset B31.1 (by dsimp only; omega)) (by dsimp only; omega)⟩
    · go_simp
      have H2 := (H1.1.keep (bal (o := .cells #[.int .i64 0, .int .i64 0] 23) (Below.refl _ _))).s
      have Q := Own.new w2 0 0 23
      have hk : w.heap.size + 1 + 1 < w2.heap.size := H1.1.2.2.2.1
      refine hK.out _ _ H2 (fun _ => ?_)
      clear hK K H1
      refine wpAnyH_ready (rs := [5]) (by kernel_rfl) (by simp) ?_
      refine AllReadyH.cons (o := _) g8_5 (fun K hK => ?_) AllReadyH.nil
      go_simp
      refine (P1 _).mono ?_
      rintro e w3 ⟨rfl, hb⟩
      have H3 := (H2.1.keep hb).s
      have Q' := Q.keep hb
      refine hK.out _ _ H3 (fun _ => ?_)
      clear hK K H2 hb Q
      have B7 := (H3.1.far (k := w2.heap.size) (o := 0) (v := .int .i64 u) hk).far (k := w2.heap.size) (o := 1) (v := .int .i64 v) hk
      have Q7 := Q'.set u v
      have q1 := Q'.2
      refine wpAnyH_ready (rs := [7]) (by kernel_rfl) (by simp) ?_
      refine AllReadyH.cons (o := _) g8_7 (fun K hK => ?_) AllReadyH.nil
      go_simp
      refine hK.out _ _ B7.s (fun _ => ?_)
      refine wpAnyH_done (by kernel_rfl) ?_ _
      refine NoPanic.normal ?_
      clear hK K q1 Q' H3
      obtain ⟨kq, hkq⟩ : ∃ kq, kq = w2.heap.size := ⟨_, rfl⟩
      rw [← hkq] at hk Q7 B7 ⊢
      have HK := hide hkq
      clear hkq
      go_wp2_with fail
      refine wp_region_noPanic ?_
      refine wp_region_held_drew (S := fun W => RemB w ax ay bx b W) (by kernel_rfl) (B7.keep (Below.drew (Below.refl _ _))) ?_
      intro hS
      have B10 := B7.keep (Below.drew (Below.refl _ _))
      have Q10 := Q7.drew
      clear B7 Q7
      refine wpAnyH_take (i := 0) (oi := _) (v := .pointer (some ⟨kq, 0, none⟩)) g10_0 (by kernel_rfl) (by kernel_rfl) (by kernel_rfl) (fun _ _ _ h => h) (Or.inl ⟨by rfl, ?_⟩) (by assumption) ?_
      · intro w hSw
        try dsimp only at hSw
        go_simp
      simp only [Act.put, List.setIfInBounds_toArray, List.set_cons_zero, List.set_cons_succ]
      refine wpAnyH_take (i := 2) (oi := _) (v := .int .i64 n) g10_2 (by kernel_rfl) (by kernel_rfl) (by kernel_rfl) (fun _ _ _ h => h) (Or.inl ⟨by rfl, ?_⟩) (by assumption) ?_
      · intro w hSw
        try dsimp only at hSw
        go_simp
      simp only [Act.put, List.setIfInBounds_toArray, List.set_cons_zero, List.set_cons_succ]
      refine wpAnyH_take (i := 4) (oi := _) (v := .pointer (some ⟨kq, 1, none⟩)) g10_4 (by kernel_rfl) (by kernel_rfl) (by kernel_rfl) (fun _ _ _ h => h) (Or.inl ⟨by rfl, ?_⟩) (by assumption) ?_
      · intro w hSw
        try dsimp only at hSw
        go_simp
      simp only [Act.put, List.setIfInBounds_toArray, List.set_cons_zero, List.set_cons_succ]
      refine wpAnyH_take (i := 6) (oi := _) (v := .int .i64 n) g10_6 (by kernel_rfl) (by kernel_rfl) (by kernel_rfl) (fun _ _ _ h => h) (Or.inl ⟨by rfl, ?_⟩) (by assumption) ?_
      · intro w hSw
        try dsimp only at hSw
        go_simp
      simp only [Act.put, List.setIfInBounds_toArray, List.set_cons_zero, List.set_cons_succ]
      refine wpAnyH_ready (rs := [1, 5]) (by kernel_rfl) (by simp) ?_
      refine AllReadyH.cons (o := _) g10_1 (fun K hK => ?_) (AllReadyH.cons (o := _) g10_5 (fun K hK => ?_) AllReadyH.nil)
      · skip
        have q1 := Q10.2.1
        go_simp
        refine hK.out _ _ B10 (fun _ => ?_)
        clear hK K q1
        refine wpAnyH_ready (rs := [3, 5]) (by kernel_rfl) (by simp) ?_
        refine AllReadyH.cons (o := _) g10_3 (fun K hK => ?_) (AllReadyH.cons (o := _) g10_5 (fun K hK => ?_) AllReadyH.nil)
        · skip
          go_simp
          refine (N1 _).mono ?_
          rintro e w11 ⟨rfl, hb⟩
          have B11 := B10.keep hb
          have Q11 := Q10.keep hb
          refine hK.out _ _ B11 (fun _ => ?_)
          clear hK K B10 Q10 hb
          refine wpAnyH_ready (rs := [5]) (by kernel_rfl) (by simp) ?_
          refine AllReadyH.cons (o := _) g10_5 (fun K hK => ?_) AllReadyH.nil
          have q1 := Q11.2.1
          go_simp
          refine hK.out _ _ B11 (fun _ => ?_)
          clear hK K q1
          refine wpAnyH_ready (rs := [7]) (by kernel_rfl) (by simp) ?_
          refine AllReadyH.cons (o := _) g10_7 (fun K hK => ?_) AllReadyH.nil
          go_simp
          refine (N2 _).mono ?_
          rintro e w12 ⟨rfl, hb⟩
          have B12 := B11.keep hb
          have Q12 := Q11.keep hb
          refine hK.out _ _ B12 (fun _ => ?_)
          clear hK K B11 Q11 hb
          refine wpAnyH_take (i := 8) (oi := _) (v := .agg #[.int .i64 qx, .int .i64 qy]) g10_8 (by kernel_rfl) (by kernel_rfl) (by kernel_rfl) (fun _ _ _ h => h) (Or.inl ⟨by rfl, ?_⟩) (by assumption) ?_
          · intro w hSw
            try dsimp only at hSw
            go_simp
          simp only [Act.put, List.setIfInBounds_toArray, List.set_cons_zero, List.set_cons_succ]
          have B20 := (B12.far (k := kq) (o := 0) (v := .int .i64 qx) hk).far (k := kq) (o := 1) (v := .int .i64 qy) hk
          have Q20 := Q12.set qx qy
          have q1 := Q12.2
          refine wpAnyH_ready (rs := [9]) (by kernel_rfl) (by simp) ?_
          refine AllReadyH.cons (o := _) g10_9 (fun K hK => ?_) AllReadyH.nil
          go_simp
          refine hK.out _ _ B20 (fun _ => ?_)
          refine wpAnyH_done (by kernel_rfl) ?_ _
          refine NoPanic.normal ?_
          clear hK K q1 B12 Q12
          have q1 := Q20.2.1
          have q2 := B20.2.2.1.2.1
          go_wp2_with fail
          clear q1 q2
          refine (P2 _).mono ?_
          rintro e w30 ⟨rfl, hb⟩
          have B30 := B20.keep hb
          clear B20 Q20 hb
          have B31 := B30.keep (bal (o := .cells #[.int .i64 px, .int .i64 py] 23) (Below.refl _ _))
          have q1 := B31.2.1.2.1
          have q2 := B31.2.2.2.2
          go_wp2
          exact bodyPost_ret (v := .agg #[.int .i64 (ax - px), .int .i64 (ay - py)]) (by simp [results, Try.results34, go_sem, q2]) rfl ⟨rfl, bset (bset B31.1 (by dsimp only; omega)) (by dsimp only; omega)⟩
        · skip
          have q1 := Q10.2.1
          go_simp
          refine hK.out _ _ B10 (fun _ => ?_)
          clear hK K q1
          refine wpAnyH_ready (rs := [3]) (by kernel_rfl) (by simp) ?_
          refine AllReadyH.cons (o := _) g10_3 (fun K hK => ?_) AllReadyH.nil
          go_simp
          refine (N1 _).mono ?_
          rintro e w11 ⟨rfl, hb⟩
          have B11 := B10.keep hb
          have Q11 := Q10.keep hb
          refine hK.out _ _ B11 (fun _ => ?_)
          clear hK K B10 Q10 hb
          refine wpAnyH_ready (rs := [7]) (by kernel_rfl) (by simp) ?_
          refine AllReadyH.cons (o := _) g10_7 (fun K hK => ?_) AllReadyH.nil
          go_simp
          refine (N2 _).mono ?_
          rintro e w12 ⟨rfl, hb⟩
          have B12 := B11.keep hb
          have Q12 := Q11.keep hb
          refine hK.out _ _ B12 (fun _ => ?_)
          clear hK K B11 Q11 hb
          refine wpAnyH_take (i := 8) (oi := _) (v := .agg #[.int .i64 qx, .int .i64 qy]) g10_8 (by kernel_rfl) (by kernel_rfl) (by kernel_rfl) (fun _ _ _ h => h) (Or.inl ⟨by rfl, ?_⟩) (by assumption) ?_
          · intro w hSw
            try dsimp only at hSw
            go_simp
          simp only [Act.put, List.setIfInBounds_toArray, List.set_cons_zero, List.set_cons_succ]
          have B20 := (B12.far (k := kq) (o := 0) (v := .int .i64 qx) hk).far (k := kq) (o := 1) (v := .int .i64 qy) hk
          have Q20 := Q12.set qx qy
          have q1 := Q12.2
          refine wpAnyH_ready (rs := [9]) (by kernel_rfl) (by simp) ?_
          refine AllReadyH.cons (o := _) g10_9 (fun K hK => ?_) AllReadyH.nil
          go_simp
          refine hK.out _ _ B20 (fun _ => ?_)
          refine wpAnyH_done (by kernel_rfl) ?_ _
          refine NoPanic.normal ?_
          clear hK K q1 B12 Q12
          have q1 := Q20.2.1
          have q2 := B20.2.2.1.2.1
          go_wp2_with fail
          clear q1 q2
          refine (P2 _).mono ?_
          rintro e w30 ⟨rfl, hb⟩
          have B30 := B20.keep hb
          clear B20 Q20 hb
          have B31 := B30.keep (bal (o := .cells #[.int .i64 px, .int .i64 py] 23) (Below.refl _ _))
          have q1 := B31.2.1.2.1
          have q2 := B31.2.2.2.2
          go_wp2
          exact bodyPost_ret (v := .agg #[.int .i64 (ax - px), .int .i64 (ay - py)]) (by simp [results, Try.results34, go_sem, q2]) rfl ⟨rfl, bset (bset B31.1 (by dsimp only; omega)) (by dsimp only; omega)⟩
      · skip
        have q1 := Q10.2.1
        go_simp
        refine hK.out _ _ B10 (fun _ => ?_)
        clear hK K q1
        refine wpAnyH_ready (rs := [1]) (by kernel_rfl) (by simp) ?_
        refine AllReadyH.cons (o := _) g10_1 (fun K hK => ?_) AllReadyH.nil
        have q1 := Q10.2.1
        go_simp
        refine hK.out _ _ B10 (fun _ => ?_)
        clear hK K q1
        refine wpAnyH_ready (rs := [3]) (by kernel_rfl) (by simp) ?_
        refine AllReadyH.cons (o := _) g10_3 (fun K hK => ?_) AllReadyH.nil
        go_simp
        refine (N1 _).mono ?_
        rintro e w11 ⟨rfl, hb⟩
        have B11 := B10.keep hb
        have Q11 := Q10.keep hb
        refine hK.out _ _ B11 (fun _ => ?_)
        clear hK K B10 Q10 hb
        refine wpAnyH_ready (rs := [7]) (by kernel_rfl) (by simp) ?_
        refine AllReadyH.cons (o := _) g10_7 (fun K hK => ?_) AllReadyH.nil
        go_simp
        refine (N2 _).mono ?_
        rintro e w12 ⟨rfl, hb⟩
        have B12 := B11.keep hb
        have Q12 := Q11.keep hb
        refine hK.out _ _ B12 (fun _ => ?_)
        clear hK K B11 Q11 hb
        refine wpAnyH_take (i := 8) (oi := _) (v := .agg #[.int .i64 qx, .int .i64 qy]) g10_8 (by kernel_rfl) (by kernel_rfl) (by kernel_rfl) (fun _ _ _ h => h) (Or.inl ⟨by rfl, ?_⟩) (by assumption) ?_
        · intro w hSw
          try dsimp only at hSw
          go_simp
        simp only [Act.put, List.setIfInBounds_toArray, List.set_cons_zero, List.set_cons_succ]
        have B20 := (B12.far (k := kq) (o := 0) (v := .int .i64 qx) hk).far (k := kq) (o := 1) (v := .int .i64 qy) hk
        have Q20 := Q12.set qx qy
        have q1 := Q12.2
        refine wpAnyH_ready (rs := [9]) (by kernel_rfl) (by simp) ?_
        refine AllReadyH.cons (o := _) g10_9 (fun K hK => ?_) AllReadyH.nil
        go_simp
        refine hK.out _ _ B20 (fun _ => ?_)
        refine wpAnyH_done (by kernel_rfl) ?_ _
        refine NoPanic.normal ?_
        clear hK K q1 B12 Q12
        have q1 := Q20.2.1
        have q2 := B20.2.2.1.2.1
        go_wp2_with fail
        clear q1 q2
        refine (P2 _).mono ?_
        rintro e w30 ⟨rfl, hb⟩
        have B30 := B20.keep hb
        clear B20 Q20 hb
        have B31 := B30.keep (bal (o := .cells #[.int .i64 px, .int .i64 py] 23) (Below.refl _ _))
        have q1 := B31.2.1.2.1
        have q2 := B31.2.2.2.2
        go_wp2
        exact bodyPost_ret (v := .agg #[.int .i64 (ax - px), .int .i64 (ay - py)]) (by simp [results, Try.results34, go_sem, q2]) rfl ⟨rfl, bset (bset B31.1 (by dsimp only; omega)) (by dsimp only; omega)⟩
  · go_simp
    have H1 := ((B1.keep (bal (o := .cells #[.int .i64 0, .int .i64 0] 23) (Below.refl _ _))).keep (Below.drew (Below.refl _ _))).s
    have Q := (Own.new w1 0 0 23).drew
    have hk : w.heap.size + 1 + 1 < w1.heap.size := B1.2.2.2.1
    refine hK.out _ _ H1 (fun _ => ?_)
    clear hK K H0
    refine wpAnyH_ready (rs := [4]) (by kernel_rfl) (by simp) ?_
    refine AllReadyH.cons (o := _) g8_4 (fun K hK => ?_) AllReadyH.nil
    go_simp
    refine (M _).mono ?_
    rintro e w2 ⟨rfl, hb⟩
    have H2 := (H1.1.keep hb).s
    have Q' := Q.keep hb
    refine hK.out _ _ H2 (fun _ => ?_)
    clear hK K H1 hb Q
    refine wpAnyH_ready (rs := [5]) (by kernel_rfl) (by simp) ?_
    refine AllReadyH.cons (o := _) g8_5 (fun K hK => ?_) AllReadyH.nil
    go_simp
    refine (P1 _).mono ?_
    rintro e w3 ⟨rfl, hb⟩
    have H3 := (H2.1.keep hb).s
    have Q'' := Q'.keep hb
    refine hK.out _ _ H3 (fun _ => ?_)
    clear hK K H2 hb Q'
    have B7 := (H3.1.far (k := w1.heap.size) (o := 0) (v := .int .i64 u) hk).far (k := w1.heap.size) (o := 1) (v := .int .i64 v) hk
    have Q7 := Q''.set u v
    have q1 := Q''.2
    refine wpAnyH_ready (rs := [7]) (by kernel_rfl) (by simp) ?_
    refine AllReadyH.cons (o := _) g8_7 (fun K hK => ?_) AllReadyH.nil
    go_simp
    refine hK.out _ _ B7.s (fun _ => ?_)
    refine wpAnyH_done (by kernel_rfl) ?_ _
    refine NoPanic.normal ?_
    clear hK K q1 Q'' H3
    obtain ⟨kq, hkq⟩ : ∃ kq, kq = w1.heap.size := ⟨_, rfl⟩
    rw [← hkq] at hk Q7 B7 ⊢
    have HK := hide hkq
    clear hkq
    go_wp2_with fail
    refine wp_region_noPanic ?_
    refine wp_region_held_drew (S := fun W => RemB w ax ay bx b W) (by kernel_rfl) (B7.keep (Below.drew (Below.refl _ _))) ?_
    intro hS
    have B10 := B7.keep (Below.drew (Below.refl _ _))
    have Q10 := Q7.drew
    clear B7 Q7
    refine wpAnyH_take (i := 0) (oi := _) (v := .pointer (some ⟨kq, 0, none⟩)) g10_0 (by kernel_rfl) (by kernel_rfl) (by kernel_rfl) (fun _ _ _ h => h) (Or.inl ⟨by rfl, ?_⟩) (by assumption) ?_
    · intro w hSw
      try dsimp only at hSw
      go_simp
    simp only [Act.put, List.setIfInBounds_toArray, List.set_cons_zero, List.set_cons_succ]
    refine wpAnyH_take (i := 2) (oi := _) (v := .int .i64 n) g10_2 (by kernel_rfl) (by kernel_rfl) (by kernel_rfl) (fun _ _ _ h => h) (Or.inl ⟨by rfl, ?_⟩) (by assumption) ?_
    · intro w hSw
      try dsimp only at hSw
      go_simp
    simp only [Act.put, List.setIfInBounds_toArray, List.set_cons_zero, List.set_cons_succ]
    refine wpAnyH_take (i := 4) (oi := _) (v := .pointer (some ⟨kq, 1, none⟩)) g10_4 (by kernel_rfl) (by kernel_rfl) (by kernel_rfl) (fun _ _ _ h => h) (Or.inl ⟨by rfl, ?_⟩) (by assumption) ?_
    · intro w hSw
      try dsimp only at hSw
      go_simp
    simp only [Act.put, List.setIfInBounds_toArray, List.set_cons_zero, List.set_cons_succ]
    refine wpAnyH_take (i := 6) (oi := _) (v := .int .i64 n) g10_6 (by kernel_rfl) (by kernel_rfl) (by kernel_rfl) (fun _ _ _ h => h) (Or.inl ⟨by rfl, ?_⟩) (by assumption) ?_
    · intro w hSw
      try dsimp only at hSw
      go_simp
    simp only [Act.put, List.setIfInBounds_toArray, List.set_cons_zero, List.set_cons_succ]
    refine wpAnyH_ready (rs := [1, 5]) (by kernel_rfl) (by simp) ?_
    refine AllReadyH.cons (o := _) g10_1 (fun K hK => ?_) (AllReadyH.cons (o := _) g10_5 (fun K hK => ?_) AllReadyH.nil)
    · skip
      have q1 := Q10.2.1
      go_simp
      refine hK.out _ _ B10 (fun _ => ?_)
      clear hK K q1
      refine wpAnyH_ready (rs := [3, 5]) (by kernel_rfl) (by simp) ?_
      refine AllReadyH.cons (o := _) g10_3 (fun K hK => ?_) (AllReadyH.cons (o := _) g10_5 (fun K hK => ?_) AllReadyH.nil)
      · skip
        go_simp
        refine (N1 _).mono ?_
        rintro e w11 ⟨rfl, hb⟩
        have B11 := B10.keep hb
        have Q11 := Q10.keep hb
        refine hK.out _ _ B11 (fun _ => ?_)
        clear hK K B10 Q10 hb
        refine wpAnyH_ready (rs := [5]) (by kernel_rfl) (by simp) ?_
        refine AllReadyH.cons (o := _) g10_5 (fun K hK => ?_) AllReadyH.nil
        have q1 := Q11.2.1
        go_simp
        refine hK.out _ _ B11 (fun _ => ?_)
        clear hK K q1
        refine wpAnyH_ready (rs := [7]) (by kernel_rfl) (by simp) ?_
        refine AllReadyH.cons (o := _) g10_7 (fun K hK => ?_) AllReadyH.nil
        go_simp
        refine (N2 _).mono ?_
        rintro e w12 ⟨rfl, hb⟩
        have B12 := B11.keep hb
        have Q12 := Q11.keep hb
        refine hK.out _ _ B12 (fun _ => ?_)
        clear hK K B11 Q11 hb
        refine wpAnyH_take (i := 8) (oi := _) (v := .agg #[.int .i64 qx, .int .i64 qy]) g10_8 (by kernel_rfl) (by kernel_rfl) (by kernel_rfl) (fun _ _ _ h => h) (Or.inl ⟨by rfl, ?_⟩) (by assumption) ?_
        · intro w hSw
          try dsimp only at hSw
          go_simp
        simp only [Act.put, List.setIfInBounds_toArray, List.set_cons_zero, List.set_cons_succ]
        have B20 := (B12.far (k := kq) (o := 0) (v := .int .i64 qx) hk).far (k := kq) (o := 1) (v := .int .i64 qy) hk
        have Q20 := Q12.set qx qy
        have q1 := Q12.2
        refine wpAnyH_ready (rs := [9]) (by kernel_rfl) (by simp) ?_
        refine AllReadyH.cons (o := _) g10_9 (fun K hK => ?_) AllReadyH.nil
        go_simp
        refine hK.out _ _ B20 (fun _ => ?_)
        refine wpAnyH_done (by kernel_rfl) ?_ _
        refine NoPanic.normal ?_
        clear hK K q1 B12 Q12
        have q1 := Q20.2.1
        have q2 := B20.2.2.1.2.1
        go_wp2_with fail
        clear q1 q2
        refine (P2 _).mono ?_
        rintro e w30 ⟨rfl, hb⟩
        have B30 := B20.keep hb
        clear B20 Q20 hb
        have B31 := B30.keep (bal (o := .cells #[.int .i64 px, .int .i64 py] 23) (Below.refl _ _))
        have q1 := B31.2.1.2.1
        have q2 := B31.2.2.2.2
        go_wp2
        exact bodyPost_ret (v := .agg #[.int .i64 (ax - px), .int .i64 (ay - py)]) (by simp [results, Try.results34, go_sem, q2]) rfl ⟨rfl, bset (bset B31.1 (by dsimp only; omega)) (by dsimp only; omega)⟩
      · skip
        have q1 := Q10.2.1
        go_simp
        refine hK.out _ _ B10 (fun _ => ?_)
        clear hK K q1
        refine wpAnyH_ready (rs := [3]) (by kernel_rfl) (by simp) ?_
        refine AllReadyH.cons (o := _) g10_3 (fun K hK => ?_) AllReadyH.nil
        go_simp
        refine (N1 _).mono ?_
        rintro e w11 ⟨rfl, hb⟩
        have B11 := B10.keep hb
        have Q11 := Q10.keep hb
        refine hK.out _ _ B11 (fun _ => ?_)
        clear hK K B10 Q10 hb
        refine wpAnyH_ready (rs := [7]) (by kernel_rfl) (by simp) ?_
        refine AllReadyH.cons (o := _) g10_7 (fun K hK => ?_) AllReadyH.nil
        go_simp
        refine (N2 _).mono ?_
        rintro e w12 ⟨rfl, hb⟩
        have B12 := B11.keep hb
        have Q12 := Q11.keep hb
        refine hK.out _ _ B12 (fun _ => ?_)
        clear hK K B11 Q11 hb
        refine wpAnyH_take (i := 8) (oi := _) (v := .agg #[.int .i64 qx, .int .i64 qy]) g10_8 (by kernel_rfl) (by kernel_rfl) (by kernel_rfl) (fun _ _ _ h => h) (Or.inl ⟨by rfl, ?_⟩) (by assumption) ?_
        · intro w hSw
          try dsimp only at hSw
          go_simp
        simp only [Act.put, List.setIfInBounds_toArray, List.set_cons_zero, List.set_cons_succ]
        have B20 := (B12.far (k := kq) (o := 0) (v := .int .i64 qx) hk).far (k := kq) (o := 1) (v := .int .i64 qy) hk
        have Q20 := Q12.set qx qy
        have q1 := Q12.2
        refine wpAnyH_ready (rs := [9]) (by kernel_rfl) (by simp) ?_
        refine AllReadyH.cons (o := _) g10_9 (fun K hK => ?_) AllReadyH.nil
        go_simp
        refine hK.out _ _ B20 (fun _ => ?_)
        refine wpAnyH_done (by kernel_rfl) ?_ _
        refine NoPanic.normal ?_
        clear hK K q1 B12 Q12
        have q1 := Q20.2.1
        have q2 := B20.2.2.1.2.1
        go_wp2_with fail
        clear q1 q2
        refine (P2 _).mono ?_
        rintro e w30 ⟨rfl, hb⟩
        have B30 := B20.keep hb
        clear B20 Q20 hb
        have B31 := B30.keep (bal (o := .cells #[.int .i64 px, .int .i64 py] 23) (Below.refl _ _))
        have q1 := B31.2.1.2.1
        have q2 := B31.2.2.2.2
        go_wp2
        exact bodyPost_ret (v := .agg #[.int .i64 (ax - px), .int .i64 (ay - py)]) (by simp [results, Try.results34, go_sem, q2]) rfl ⟨rfl, bset (bset B31.1 (by dsimp only; omega)) (by dsimp only; omega)⟩
    · skip
      have q1 := Q10.2.1
      go_simp
      refine hK.out _ _ B10 (fun _ => ?_)
      clear hK K q1
      refine wpAnyH_ready (rs := [1]) (by kernel_rfl) (by simp) ?_
      refine AllReadyH.cons (o := _) g10_1 (fun K hK => ?_) AllReadyH.nil
      have q1 := Q10.2.1
      go_simp
      refine hK.out _ _ B10 (fun _ => ?_)
      clear hK K q1
      refine wpAnyH_ready (rs := [3]) (by kernel_rfl) (by simp) ?_
      refine AllReadyH.cons (o := _) g10_3 (fun K hK => ?_) AllReadyH.nil
      go_simp
      refine (N1 _).mono ?_
      rintro e w11 ⟨rfl, hb⟩
      have B11 := B10.keep hb
      have Q11 := Q10.keep hb
      refine hK.out _ _ B11 (fun _ => ?_)
      clear hK K B10 Q10 hb
      refine wpAnyH_ready (rs := [7]) (by kernel_rfl) (by simp) ?_
      refine AllReadyH.cons (o := _) g10_7 (fun K hK => ?_) AllReadyH.nil
      go_simp
      refine (N2 _).mono ?_
      rintro e w12 ⟨rfl, hb⟩
      have B12 := B11.keep hb
      have Q12 := Q11.keep hb
      refine hK.out _ _ B12 (fun _ => ?_)
      clear hK K B11 Q11 hb
      refine wpAnyH_take (i := 8) (oi := _) (v := .agg #[.int .i64 qx, .int .i64 qy]) g10_8 (by kernel_rfl) (by kernel_rfl) (by kernel_rfl) (fun _ _ _ h => h) (Or.inl ⟨by rfl, ?_⟩) (by assumption) ?_
      · intro w hSw
        try dsimp only at hSw
        go_simp
      simp only [Act.put, List.setIfInBounds_toArray, List.set_cons_zero, List.set_cons_succ]
      have B20 := (B12.far (k := kq) (o := 0) (v := .int .i64 qx) hk).far (k := kq) (o := 1) (v := .int .i64 qy) hk
      have Q20 := Q12.set qx qy
      have q1 := Q12.2
      refine wpAnyH_ready (rs := [9]) (by kernel_rfl) (by simp) ?_
      refine AllReadyH.cons (o := _) g10_9 (fun K hK => ?_) AllReadyH.nil
      go_simp
      refine hK.out _ _ B20 (fun _ => ?_)
      refine wpAnyH_done (by kernel_rfl) ?_ _
      refine NoPanic.normal ?_
      clear hK K q1 B12 Q12
      have q1 := Q20.2.1
      have q2 := B20.2.2.1.2.1
      go_wp2_with fail
      clear q1 q2
      refine (P2 _).mono ?_
      rintro e w30 ⟨rfl, hb⟩
      have B30 := B20.keep hb
      clear B20 Q20 hb
      have B31 := B30.keep (bal (o := .cells #[.int .i64 px, .int .i64 py] 23) (Below.refl _ _))
      have q1 := B31.2.1.2.1
      have q2 := B31.2.2.2.2
      go_wp2
      exact bodyPost_ret (v := .agg #[.int .i64 (ax - px), .int .i64 (ay - py)]) (by simp [results, Try.results34, go_sem, q2]) rfl ⟨rfl, bset (bset B31.1 (by dsimp only; omega)) (by dsimp only; omega)⟩

end Go.Proofs.Ytfopjkcnfngbpaa
