/-
  What the reference's Product, Square and Divides answer (walks over the translated code).
-/
import Derived.Test.YtfopjkcnfngbpaaGcdB
import Derived.Test.YtfopjkcnfngbpaaComposed
namespace Go.Proofs.Ytfopjkcnfngbpaa
open Go.RowKit

/-! ### Product -/
abbrev G2 (W : World) (b : Nat) : Prop := W.frozen? ⟨b, 0, none⟩ = false ∧ W.frozen? ⟨b, 1, none⟩ = false
abbrev PS (w : World) (ax ay bx b : Int) (W : World) : Prop :=
  (Below w.heap.size w W ∧ w.heap.size + 1 + 1 < W.heap.size) ∧ D2 W w.heap.size (.int .i64 ax) (.int .i64 ay) ∧ D2 W (w.heap.size + 1) (.int .i64 bx) (.int .i64 b) ∧
    D2 W (w.heap.size + 1 + 1) (hat W (w.heap.size + 1 + 1) 0) (hat W (w.heap.size + 1 + 1) 1) ∧ G2 W (w.heap.size + 1 + 1)
theorem PS.keep {w W w1 : World} {ax ay bx b : Int} (h : PS w ax ay bx b W) (hb : Below W.heap.size W w1) : PS w ax ay bx b w1 := by
  obtain ⟨⟨h1, h2⟩, ⟨a0, a1⟩, ⟨b0, b1⟩, ⟨c0, c1⟩, d0, d1⟩ := h
  exact ⟨⟨btrans h1 hb, Nat.lt_of_lt_of_le h2 hb.size⟩, ⟨keepC hb (by omega) a0, keepC hb (by omega) a1⟩, ⟨keepC hb (by omega) b0, keepC hb (by omega) b1⟩, ⟨hat_of (keepC hb h2 c0), hat_of (keepC hb h2 c1)⟩, keepF hb h2 d0, keepF hb h2 d1⟩
theorem PS.init (w : World) (ax ay bx b : Int) :
    PS w ax ay bx b (((w.alloc (.cells #[.int .i64 ax, .int .i64 ay] 23)).alloc (.cells #[.int .i64 bx, .int .i64 b] 23)).alloc (.cells #[.int .i64 0, .int .i64 0] 23)).drew := by
  have M := ((Own.new w ax ay 23).alloc (.cells #[.int .i64 bx, .int .i64 b] 23)).alloc (.cells #[.int .i64 0, .int .i64 0] 23)
  have N := (Own.new (w.alloc (.cells #[.int .i64 ax, .int .i64 ay] 23)) bx b 23).alloc (.cells #[.int .i64 0, .int .i64 0] 23)
  have R := Own.new ((w.alloc (.cells #[.int .i64 ax, .int .i64 ay] 23)).alloc (.cells #[.int .i64 bx, .int .i64 b] 23)) 0 0 23
  simp only [World.size_alloc] at N R
  exact ⟨⟨Below.drew (bal (bal (bal (Below.refl _ _)))), R.1⟩, M.2.1, N.2.1, ⟨hat_of R.2.1.1, hat_of R.2.1.2⟩, R.2.2⟩
theorem PS.set {w W : World} {ax ay bx b : Int} (h : PS w ax ay bx b W) (v0 v1 : Value) :
    PS w ax ay bx b ((W.setCell ⟨w.heap.size + 1 + 1, 0, none⟩ v0).setCell ⟨w.heap.size + 1 + 1, 1, none⟩ v1) := by
  obtain ⟨⟨h1, h2⟩, ⟨a0, a1⟩, ⟨b0, b1⟩, ⟨c0, c1⟩, d0, d1⟩ := h
  refine ⟨⟨bset (bset h1 (by dsimp only; omega)) (by dsimp only; omega), by simpa using h2⟩, ⟨?_, ?_⟩, ⟨?_, ?_⟩, ⟨hat_of (v := v0) ?_, hat_of (v := v1) ?_⟩, ?_, ?_⟩
  all_goals simp [go_sem, a0, a1, b0, b1, c0, c1, d0, d1]

def RProdIs (g ax ay bx b u v : Int) : Prop := ∀ W : World, Calls Try.prog 26 #[.int .i64 g, .agg #[.int .i64 ax, .int .i64 ay], .agg #[.int .i64 bx, .int .i64 b]] W fun e w' => e = .returned (.agg #[.int .i64 u, .int .i64 v]) ∧ Below W.heap.size W w'
def ScIs (n x y u v : Int) : Prop := ∀ W : World, Calls Try.prog 44 #[.int .i64 n, .agg #[.int .i64 x, .int .i64 y]] W fun e w' => e = .returned (.agg #[.int .i64 u, .int .i64 v]) ∧ Below W.heap.size W w'
def RTurnIs (g x y u v : Int) : Prop := ∀ W : World, Calls Try.prog 37 #[.int .i64 g, .agg #[.int .i64 x, .int .i64 y]] W fun e w' => e = .returned (.agg #[.int .i64 u, .int .i64 v]) ∧ Below W.heap.size W w'
def PlusIs (x y u v p q : Int) : Prop := ∀ W : World, Calls Try.prog 46 #[.agg #[.int .i64 x, .int .i64 y], .agg #[.int .i64 u, .int .i64 v]] W fun e w' => e = .returned (.agg #[.int .i64 p, .int .i64 q]) ∧ Below W.heap.size W w'
def RMirrIs (g x y u v : Int) : Prop := ∀ W : World, Calls Try.prog 45 #[.int .i64 g, .agg #[.int .i64 x, .int .i64 y]] W fun e w' => e = .returned (.agg #[.int .i64 u, .int .i64 v]) ∧ Below W.heap.size W w'
def SqIs (g x y n : Int) : Prop := ∀ W : World, Calls Try.prog 33 #[.int .i64 g, .agg #[.int .i64 x, .int .i64 y]] W fun e w' => e = .returned (.int .i64 n) ∧ Below W.heap.size W w'

set_option maxRecDepth 100000 in
set_option maxHeartbeats 4000000 in
theorem rproduct_is (g ax ay bx b s1 s2 t1 t2 s3 s4 u v : Int) (A1 : ScIs ax bx b s1 s2) (A2 : RTurnIs g bx b t1 t2) (A3 : ScIs ay t1 t2 s3 s4) (A4 : PlusIs s1 s2 s3 s4 u v) : RProdIs g ax ay bx b u v := by
  intro w
  go_enter Try.func26, Try.ntmps26
  go_wp2_with fail
  go_region_held3 (fun W => PS w ax ay bx b W)
    (first | exact PS.init w ax ay bx b | (refine PS.keep (by assumption) hb) | (refine PS.set (by assumption) _ _))
    (first
      | (go_at_call_of 44 (Value.agg #[Value.int IntKind.i64 bx, Value.int IntKind.i64 b]); refine (A1 _).mono ?_; rintro e w1 ⟨rfl, hb⟩)
      | (go_at_call 37; refine (A2 _).mono ?_; rintro e w1 ⟨rfl, hb⟩)
      | (go_at_call_of 44 (Value.agg #[Value.int IntKind.i64 t1, Value.int IntKind.i64 t2]); refine (A3 _).mono ?_; rintro e w1 ⟨rfl, hb⟩)
      | (go_at_call 46; refine (A4 _).mono ?_; rintro e w1 ⟨rfl, hb⟩; have hS7 := PS.keep (by assumption) hb))
  obtain ⟨⟨h1, h2⟩, _, _, ⟨c0, c1⟩, _⟩ := hS7
  go_wp2
  exact bodyPost_ret (v := .agg #[.int .i64 u, .int .i64 v]) (by simp [results, Try.results26, go_sem, c0, c1]) rfl ⟨rfl, bset (bset h1 (by dsimp only; omega)) (by dsimp only; omega)⟩

theorem rproduct_any (g ax ay bx b : Int) (hg : g = 4 ∨ g = 6) (ha : -68719476736 ≤ ax ∧ ax ≤ 68719476736) (ha' : -68719476736 ≤ ay ∧ ay ≤ 68719476736) (hb : -4194304 ≤ bx ∧ bx ≤ 4194304) (hb' : -4194304 ≤ b ∧ b ≤ 4194304) : RProdIs g ax ay bx b (pX ax ay bx b) (pY g ax ay bx b) := by
  have m1 := mul_bd ax bx 68719476736 4194304 (by decide) (by decide) ha hb
  have m2 := mul_bd ax b 68719476736 4194304 (by decide) (by decide) ha hb'
  have m3 := mul_bd ay (-b) 68719476736 4194304 (by decide) (by decide) ha' (by omega)
  have ht : -8388608 ≤ tq g bx b ∧ tq g bx b ≤ 8388608 := by unfold tq; split <;> omega
  have m4 := mul_bd ay (tq g bx b) 68719476736 8388608 (by decide) (by decide) ha' ht
  have e1 : pX ax ay bx b = ax * bx + ay * -b := by unfold pX; grind
  have e2 : pY g ax ay bx b = ax * b + ay * tq g bx b := by unfold pY tq; split <;> grind
  rw [e1, e2]
  exact rproduct_is g ax ay bx b _ _ _ _ _ _ _ _ (fun W => scaled_any ax bx b W (by unfold bd; omega) (by unfold bd; omega)) (fun W => rturned_any g bx b hg W (by unfold bd; omega) (by unfold bd; omega))
    (fun W => scaled_any ay _ _ W (by unfold bd; omega) (by unfold bd; omega)) (fun W => plus_any _ _ _ _ W (by unfold bd; omega) (by unfold bd; omega) (by unfold bd; omega) (by unfold bd; omega))

/-! ### Square -/
set_option maxHeartbeats 1000000 in
theorem square_any (g x y : Int) (hg : g = 4 ∨ g = 6) (h1 : big (x * x)) (h2 : big (x * y)) (h3 : big (y * y)) : SqIs g x y (nn g x y) := by
  intro w
  unfold big at h1 h2 h3
  rcases hg with rfl | rfl
  · rw [show nn 4 x y = x * x + y * y by simp [nn]]
    go_enter Try.func33, Try.ntmps33
    go_wp2
    go_ret
    exact ⟨rfl, bal (Below.refl _ _)⟩
  · rw [show nn 6 x y = x * x + x * y + y * y by simp [nn]]
    go_enter Try.func33, Try.ntmps33
    go_wp2
    go_ret
    exact ⟨rfl, bal (Below.refl _ _)⟩

/-! ### Divides -/
def DivIs (g ax ay bx b : Int) : Prop := ∀ W : World, Calls Try.prog 25 #[.int .i64 g, .agg #[.int .i64 ax, .int .i64 ay], .agg #[.int .i64 bx, .int .i64 b]] W fun e w' => e = .returned (.bool true) ∧ Below W.heap.size W w'

set_option maxHeartbeats 1000000 in
theorem divides_zero (g : Int) : DivIs g 0 0 0 0 := by
  intro w
  go_enter Try.func25, Try.ntmps25
  go_wp2
  go_ret
  exact ⟨rfl, bal (bal (Below.refl _ _))⟩

def DivB (w : World) (ax ay bx b : Int) (W : World) : Prop := Below w.heap.size w W ∧ Own W w.heap.size ax ay ∧ Own W (w.heap.size + 1) bx b
theorem DivB.keep {w W w1 : World} {ax ay bx b : Int} (h : DivB w ax ay bx b W) (hb : Below W.heap.size W w1) : DivB w ax ay bx b w1 :=
  ⟨btrans h.1 hb, h.2.1.keep hb, h.2.2.keep hb⟩
theorem DivB.far {w W : World} {ax ay bx b : Int} (h : DivB w ax ay bx b W) {k o : Nat} {v : Value} (hk : w.heap.size + 1 < k) : DivB w ax ay bx b (W.setCell ⟨k, o, none⟩ v) :=
  ⟨bset h.1 (by dsimp only; omega), h.2.1.far (by omega), h.2.2.far (by omega)⟩
abbrev DivS (w : World) (ax ay bx b : Int) (W : World) : Prop :=
  DivB w ax ay bx b W ∧ D2 W w.heap.size (.int .i64 ax) (.int .i64 ay) ∧ D2 W (w.heap.size + 1) (.int .i64 bx) (.int .i64 b)
theorem DivB.s {w W : World} {ax ay bx b : Int} (h : DivB w ax ay bx b W) : DivS w ax ay bx b W := ⟨h, h.2.1.2.1, h.2.2.2.1⟩

set_option maxRecDepth 100000 in
set_option maxHeartbeats 4000000 in
theorem divides_x (g ax ay bx b mx my u v n : Int) (hz : (ax == 0) = false) (A1 : RMirrIs g ax ay mx my) (A2 : RProdIs g bx b mx my u v) (A3 : SqIs g ax ay n) (hn : 1 ≤ n ∧ n ≤ 1152921504606846976) (d1 : u.tmod n = 0) (d2 : v.tmod n = 0) : DivIs g ax ay bx b := by
  intro w
  go_enter Try.func25, Try.ntmps25
  go_wp2_with fail
  have B1 : DivB w ax ay bx b ((w.alloc (.cells #[.int .i64 ax, .int .i64 ay] 23)).alloc (.cells #[.int .i64 bx, .int .i64 b] 23)) := by
    have M := (Own.new w ax ay 23).alloc (.cells #[.int .i64 bx, .int .i64 b] 23)
    have N := Own.new (w.alloc (.cells #[.int .i64 ax, .int .i64 ay] 23)) bx b 23
    simp only [World.size_alloc] at N
    exact ⟨bal (bal (Below.refl _ _)), M, N⟩
  obtain ⟨w1, hw1⟩ : ∃ w1, w1 = ((w.alloc (.cells #[.int .i64 ax, .int .i64 ay] 23)).alloc (.cells #[.int .i64 bx, .int .i64 b] 23)) := ⟨_, rfl⟩
  rw [← hw1] at B1 ⊢
  clear hw1
  refine wp_region_noPanic ?_
  refine wp_region_held_drew (S := fun W => DivS w ax ay bx b W) (by kernel_rfl) (B1.keep (Below.drew (Below.refl _ _))).s ?_
  intro H0
  refine wpAnyH_take (i := 0) (oi := _) (v := .int .i64 g) g8_0 (by kernel_rfl) (by kernel_rfl) (by kernel_rfl) (fun _ _ _ h => h) (Or.inl ⟨by rfl, ?_⟩) (by assumption) ?_
  · intro w hSw
    try dsimp only at hSw
    go_simp
  simp only [Act.put, List.setIfInBounds_toArray, List.set_cons_zero, List.set_cons_succ]
  refine wpAnyH_take (i := 1) (oi := _) (v := .agg #[.int .i64 bx, .int .i64 b]) g8_1 (by kernel_rfl) (by kernel_rfl) (by kernel_rfl) (fun _ _ _ h => h) (Or.inl ⟨by rfl, ?_⟩) (by assumption) ?_
  · intro w hSw
    try dsimp only at hSw
    go_simp
  simp only [Act.put, List.setIfInBounds_toArray, List.set_cons_zero, List.set_cons_succ]
  refine wpAnyH_take (i := 2) (oi := _) (v := .int .i64 g) g8_2 (by kernel_rfl) (by kernel_rfl) (by kernel_rfl) (fun _ _ _ h => h) (Or.inl ⟨by rfl, ?_⟩) (by assumption) ?_
  · intro w hSw
    try dsimp only at hSw
    go_simp
  simp only [Act.put, List.setIfInBounds_toArray, List.set_cons_zero, List.set_cons_succ]
  refine wpAnyH_take (i := 3) (oi := _) (v := .agg #[.int .i64 ax, .int .i64 ay]) g8_3 (by kernel_rfl) (by kernel_rfl) (by kernel_rfl) (fun _ _ _ h => h) (Or.inl ⟨by rfl, ?_⟩) (by assumption) ?_
  · intro w hSw
    try dsimp only at hSw
    go_simp
  simp only [Act.put, List.setIfInBounds_toArray, List.set_cons_zero, List.set_cons_succ]
  refine wpAnyH_ready (rs := [4, 6]) (by kernel_rfl) (by simp) ?_
  refine AllReadyH.cons (o := _) g8_4 (fun K hK => ?_) (AllReadyH.cons (o := _) g8_6 (fun K hK => ?_) AllReadyH.nil)
  · go_simp
    refine (A1 _).mono ?_
    rintro e w2 ⟨rfl, hb⟩
    have H1 := (H0.1.keep hb).s
    refine hK.out _ _ H1 (fun _ => ?_)
    clear hK K H0 hb
    refine wpAnyH_ready (rs := [5, 6]) (by kernel_rfl) (by simp) ?_
    refine AllReadyH.cons (o := _) g8_5 (fun K hK => ?_) (AllReadyH.cons (o := _) g8_6 (fun K hK => ?_) AllReadyH.nil)
    · go_simp
      refine (A2 _).mono ?_
      rintro e w3 ⟨rfl, hb⟩
      have H2 := (H1.1.keep hb).s
      refine hK.out _ _ H2 (fun _ => ?_)
      clear hK K H1 hb
      have hk : w.heap.size + 1 < w3.heap.size := H2.1.2.2.1
      refine wpAnyH_ready (rs := [6]) (by kernel_rfl) (by simp) ?_
      refine AllReadyH.cons (o := _) g8_6 (fun K hK => ?_) AllReadyH.nil
      go_simp
      refine hK.out _ _ (H2.1.keep (bal (o := .cells #[.int .i64 0, .int .i64 0] 23) (Below.refl _ _))).s (fun _ => ?_)
      clear hK K
      have B7 := H2.1.keep (bal (o := .cells #[.int .i64 u, .int .i64 v] 23) (Below.refl _ _))
      have Q7 := Own.new w3 u v 23
      refine wpAnyH_ready (rs := [7]) (by kernel_rfl) (by simp) ?_
      refine AllReadyH.cons (o := _) g8_7 (fun K hK => ?_) AllReadyH.nil
      go_simp
      refine hK.out _ _ B7.s (fun _ => ?_)
      refine wpAnyH_done (by kernel_rfl) ?_ _
      refine NoPanic.normal ?_
      clear hK K H2
      obtain ⟨kq, hkq⟩ : ∃ kq, kq = w3.heap.size := ⟨_, rfl⟩
      rw [← hkq] at hk Q7 ⊢
      clear hkq
      have q1 := B7.2.1.2.1
      go_wp2_with fail
      clear q1
      refine (A3 _).mono ?_
      rintro e w9 ⟨rfl, hb⟩
      have B8 := B7.keep hb
      have Q8 := Q7.keep hb
      clear B7 Q7 hb
      have q1 := Q8.2.1
      go_wp2
      go_ret
      exact ⟨rfl, B8.1⟩
    · go_simp
      have H2 := (H1.1.keep (bal (o := .cells #[.int .i64 0, .int .i64 0] 23) (Below.refl _ _))).s
      have Q := Own.new w2 0 0 23
      have hk : w.heap.size + 1 < w2.heap.size := H1.1.2.2.1
      refine hK.out _ _ H2 (fun _ => ?_)
      clear hK K H1
      refine wpAnyH_ready (rs := [5]) (by kernel_rfl) (by simp) ?_
      refine AllReadyH.cons (o := _) g8_5 (fun K hK => ?_) AllReadyH.nil
      go_simp
      refine (A2 _).mono ?_
      rintro e w3 ⟨rfl, hb⟩
      have H3 := (H2.1.keep hb).s
      have Q' := Q.keep hb
      refine hK.out _ _ H3 (fun _ => ?_)
      clear hK K H2 hb Q
      have B7 := (H3.1.far (k := w2.heap.size) (o := 0) (v := .int .i64 u) hk).far (k := w2.heap.size) (o := 1) (v := .int .i64 v) hk
      have Q7 := Q'.set u v
      have q1 := Q'.2
      refine wpAnyH_ready (rs := [7]) (by kernel_rfl) (by simp) ?_
      refine AllReadyH.cons (o := _) g8_7 (fun K hK => ?_) AllReadyH.nil
      go_simp
      refine hK.out _ _ B7.s (fun _ => ?_)
      refine wpAnyH_done (by kernel_rfl) ?_ _
      refine NoPanic.normal ?_
      clear hK K q1 Q' H3
      obtain ⟨kq, hkq⟩ : ∃ kq, kq = w2.heap.size := ⟨_, rfl⟩
      rw [← hkq] at hk Q7 B7 ⊢
      clear hkq
      have q1 := B7.2.1.2.1
      go_wp2_with fail
      clear q1
      refine (A3 _).mono ?_
      rintro e w9 ⟨rfl, hb⟩
      have B8 := B7.keep hb
      have Q8 := Q7.keep hb
      clear B7 Q7 hb
      have q1 := Q8.2.1
      go_wp2
      go_ret
      exact ⟨rfl, B8.1⟩
  · go_simp
    have H1 := ((B1.keep (bal (o := .cells #[.int .i64 0, .int .i64 0] 23) (Below.refl _ _))).keep (Below.drew (Below.refl _ _))).s
    have Q := (Own.new w1 0 0 23).drew
    have hk : w.heap.size + 1 < w1.heap.size := B1.2.2.1
    refine hK.out _ _ H1 (fun _ => ?_)
    clear hK K H0
    refine wpAnyH_ready (rs := [4]) (by kernel_rfl) (by simp) ?_
    refine AllReadyH.cons (o := _) g8_4 (fun K hK => ?_) AllReadyH.nil
    go_simp
    refine (A1 _).mono ?_
    rintro e w2 ⟨rfl, hb⟩
    have H2 := (H1.1.keep hb).s
    have Q' := Q.keep hb
    refine hK.out _ _ H2 (fun _ => ?_)
    clear hK K H1 hb Q
    refine wpAnyH_ready (rs := [5]) (by kernel_rfl) (by simp) ?_
    refine AllReadyH.cons (o := _) g8_5 (fun K hK => ?_) AllReadyH.nil
    go_simp
    refine (A2 _).mono ?_
    rintro e w3 ⟨rfl, hb⟩
    have H3 := (H2.1.keep hb).s
    have Q'' := Q'.keep hb
    refine hK.out _ _ H3 (fun _ => ?_)
    clear hK K H2 hb Q'
    have B7 := (H3.1.far (k := w1.heap.size) (o := 0) (v := .int .i64 u) hk).far (k := w1.heap.size) (o := 1) (v := .int .i64 v) hk
    have Q7 := Q''.set u v
    have q1 := Q''.2
    refine wpAnyH_ready (rs := [7]) (by kernel_rfl) (by simp) ?_
    refine AllReadyH.cons (o := _) g8_7 (fun K hK => ?_) AllReadyH.nil
    go_simp
    refine hK.out _ _ B7.s (fun _ => ?_)
    refine wpAnyH_done (by kernel_rfl) ?_ _
    refine NoPanic.normal ?_
    clear hK K q1 Q'' H3
    obtain ⟨kq, hkq⟩ : ∃ kq, kq = w1.heap.size := ⟨_, rfl⟩
    rw [← hkq] at hk Q7 B7 ⊢
    clear hkq
    have q1 := B7.2.1.2.1
    go_wp2_with fail
    clear q1
    refine (A3 _).mono ?_
    rintro e w9 ⟨rfl, hb⟩
    have B8 := B7.keep hb
    have Q8 := Q7.keep hb
    clear B7 Q7 hb
    have q1 := Q8.2.1
    go_wp2
    go_ret
    exact ⟨rfl, B8.1⟩

set_option maxRecDepth 100000 in
set_option maxHeartbeats 4000000 in
theorem divides_y (g ay bx b mx my u v n : Int) (hz : (ay == 0) = false) (A1 : RMirrIs g 0 ay mx my) (A2 : RProdIs g bx b mx my u v) (A3 : SqIs g 0 ay n) (hn : 1 ≤ n ∧ n ≤ 1152921504606846976) (d1 : u.tmod n = 0) (d2 : v.tmod n = 0) : DivIs g 0 ay bx b := by
  intro w
  go_enter Try.func25, Try.ntmps25
  go_wp2_with fail
  have B1 : DivB w 0 ay bx b ((w.alloc (.cells #[.int .i64 0, .int .i64 ay] 23)).alloc (.cells #[.int .i64 bx, .int .i64 b] 23)) := by
    have M := (Own.new w 0 ay 23).alloc (.cells #[.int .i64 bx, .int .i64 b] 23)
    have N := Own.new (w.alloc (.cells #[.int .i64 0, .int .i64 ay] 23)) bx b 23
    simp only [World.size_alloc] at N
    exact ⟨bal (bal (Below.refl _ _)), M, N⟩
  obtain ⟨w1, hw1⟩ : ∃ w1, w1 = ((w.alloc (.cells #[.int .i64 0, .int .i64 ay] 23)).alloc (.cells #[.int .i64 bx, .int .i64 b] 23)) := ⟨_, rfl⟩
  rw [← hw1] at B1 ⊢
  clear hw1
  refine wp_region_noPanic ?_
  refine wp_region_held_drew (S := fun W => DivS w 0 ay bx b W) (by kernel_rfl) (B1.keep (Below.drew (Below.refl _ _))).s ?_
  intro H0
  refine wpAnyH_take (i := 0) (oi := _) (v := .int .i64 g) g8_0 (by kernel_rfl) (by kernel_rfl) (by kernel_rfl) (fun _ _ _ h => h) (Or.inl ⟨by rfl, ?_⟩) (by assumption) ?_
  · intro w hSw
    try dsimp only at hSw
    go_simp
  simp only [Act.put, List.setIfInBounds_toArray, List.set_cons_zero, List.set_cons_succ]
  refine wpAnyH_take (i := 1) (oi := _) (v := .agg #[.int .i64 bx, .int .i64 b]) g8_1 (by kernel_rfl) (by kernel_rfl) (by kernel_rfl) (fun _ _ _ h => h) (Or.inl ⟨by rfl, ?_⟩) (by assumption) ?_
  · intro w hSw
    try dsimp only at hSw
    go_simp
  simp only [Act.put, List.setIfInBounds_toArray, List.set_cons_zero, List.set_cons_succ]
  refine wpAnyH_take (i := 2) (oi := _) (v := .int .i64 g) g8_2 (by kernel_rfl) (by kernel_rfl) (by kernel_rfl) (fun _ _ _ h => h) (Or.inl ⟨by rfl, ?_⟩) (by assumption) ?_
  · intro w hSw
    try dsimp only at hSw
    go_simp
  simp only [Act.put, List.setIfInBounds_toArray, List.set_cons_zero, List.set_cons_succ]
  refine wpAnyH_take (i := 3) (oi := _) (v := .agg #[.int .i64 0, .int .i64 ay]) g8_3 (by kernel_rfl) (by kernel_rfl) (by kernel_rfl) (fun _ _ _ h => h) (Or.inl ⟨by rfl, ?_⟩) (by assumption) ?_
  · intro w hSw
    try dsimp only at hSw
    go_simp
  simp only [Act.put, List.setIfInBounds_toArray, List.set_cons_zero, List.set_cons_succ]
  refine wpAnyH_ready (rs := [4, 6]) (by kernel_rfl) (by simp) ?_
  refine AllReadyH.cons (o := _) g8_4 (fun K hK => ?_) (AllReadyH.cons (o := _) g8_6 (fun K hK => ?_) AllReadyH.nil)
  · go_simp
    refine (A1 _).mono ?_
    rintro e w2 ⟨rfl, hb⟩
    have H1 := (H0.1.keep hb).s
    refine hK.out _ _ H1 (fun _ => ?_)
    clear hK K H0 hb
    refine wpAnyH_ready (rs := [5, 6]) (by kernel_rfl) (by simp) ?_
    refine AllReadyH.cons (o := _) g8_5 (fun K hK => ?_) (AllReadyH.cons (o := _) g8_6 (fun K hK => ?_) AllReadyH.nil)
    · go_simp
      refine (A2 _).mono ?_
      rintro e w3 ⟨rfl, hb⟩
      have H2 := (H1.1.keep hb).s
      refine hK.out _ _ H2 (fun _ => ?_)
      clear hK K H1 hb
      have hk : w.heap.size + 1 < w3.heap.size := H2.1.2.2.1
      refine wpAnyH_ready (rs := [6]) (by kernel_rfl) (by simp) ?_
      refine AllReadyH.cons (o := _) g8_6 (fun K hK => ?_) AllReadyH.nil
      go_simp
      refine hK.out _ _ (H2.1.keep (bal (o := .cells #[.int .i64 0, .int .i64 0] 23) (Below.refl _ _))).s (fun _ => ?_)
      clear hK K
      have B7 := H2.1.keep (bal (o := .cells #[.int .i64 u, .int .i64 v] 23) (Below.refl _ _))
      have Q7 := Own.new w3 u v 23
      refine wpAnyH_ready (rs := [7]) (by kernel_rfl) (by simp) ?_
      refine AllReadyH.cons (o := _) g8_7 (fun K hK => ?_) AllReadyH.nil
      go_simp
      refine hK.out _ _ B7.s (fun _ => ?_)
      refine wpAnyH_done (by kernel_rfl) ?_ _
      refine NoPanic.normal ?_
      clear hK K H2
      obtain ⟨kq, hkq⟩ : ∃ kq, kq = w3.heap.size := ⟨_, rfl⟩
      rw [← hkq] at hk Q7 ⊢
      clear hkq
      have q1 := B7.2.1.2.1
      go_wp2_with fail
      clear q1
      refine (A3 _).mono ?_
      rintro e w9 ⟨rfl, hb⟩
      have B8 := B7.keep hb
      have Q8 := Q7.keep hb
      clear B7 Q7 hb
      have q1 := Q8.2.1
      go_wp2
      go_ret
      exact ⟨rfl, B8.1⟩
    · go_simp
      have H2 := (H1.1.keep (bal (o := .cells #[.int .i64 0, .int .i64 0] 23) (Below.refl _ _))).s
      have Q := Own.new w2 0 0 23
      have hk : w.heap.size + 1 < w2.heap.size := H1.1.2.2.1
      refine hK.out _ _ H2 (fun _ => ?_)
      clear hK K H1
      refine wpAnyH_ready (rs := [5]) (by kernel_rfl) (by simp) ?_
      refine AllReadyH.cons (o := _) g8_5 (fun K hK => ?_) AllReadyH.nil
      go_simp
      refine (A2 _).mono ?_
      rintro e w3 ⟨rfl, hb⟩
      have H3 := (H2.1.keep hb).s
      have Q' := Q.keep hb
      refine hK.out _ _ H3 (fun _ => ?_)
      clear hK K H2 hb Q
      have B7 := (H3.1.far (k := w2.heap.size) (o := 0) (v := .int .i64 u) hk).far (k := w2.heap.size) (o := 1) (v := .int .i64 v) hk
      have Q7 := Q'.set u v
      have q1 := Q'.2
      refine wpAnyH_ready (rs := [7]) (by kernel_rfl) (by simp) ?_
      refine AllReadyH.cons (o := _) g8_7 (fun K hK => ?_) AllReadyH.nil
      go_simp
      refine hK.out _ _ B7.s (fun _ => ?_)
      refine wpAnyH_done (by kernel_rfl) ?_ _
      refine NoPanic.normal ?_
      clear hK K q1 Q' H3
      obtain ⟨kq, hkq⟩ : ∃ kq, kq = w2.heap.size := ⟨_, rfl⟩
      rw [← hkq] at hk Q7 B7 ⊢
      clear hkq
      have q1 := B7.2.1.2.1
      go_wp2_with fail
      clear q1
      refine (A3 _).mono ?_
      rintro e w9 ⟨rfl, hb⟩
      have B8 := B7.keep hb
      have Q8 := Q7.keep hb
      clear B7 Q7 hb
      have q1 := Q8.2.1
      go_wp2
      go_ret
      exact ⟨rfl, B8.1⟩
  · go_simp
    have H1 := ((B1.keep (bal (o := .cells #[.int .i64 0, .int .i64 0] 23) (Below.refl _ _))).keep (Below.drew (Below.refl _ _))).s
    have Q := (Own.new w1 0 0 23).drew
    have hk : w.heap.size + 1 < w1.heap.size := B1.2.2.1
    refine hK.out _ _ H1 (fun _ => ?_)
    clear hK K H0
    refine wpAnyH_ready (rs := [4]) (by kernel_rfl) (by simp) ?_
    refine AllReadyH.cons (o := _) g8_4 (fun K hK => ?_) AllReadyH.nil
    go_simp
    refine (A1 _).mono ?_
    rintro e w2 ⟨rfl, hb⟩
    have H2 := (H1.1.keep hb).s
    have Q' := Q.keep hb
    refine hK.out _ _ H2 (fun _ => ?_)
    clear hK K H1 hb Q
    refine wpAnyH_ready (rs := [5]) (by kernel_rfl) (by simp) ?_
    refine AllReadyH.cons (o := _) g8_5 (fun K hK => ?_) AllReadyH.nil
    go_simp
    refine (A2 _).mono ?_
    rintro e w3 ⟨rfl, hb⟩
    have H3 := (H2.1.keep hb).s
    have Q'' := Q'.keep hb
    refine hK.out _ _ H3 (fun _ => ?_)
    clear hK K H2 hb Q'
    have B7 := (H3.1.far (k := w1.heap.size) (o := 0) (v := .int .i64 u) hk).far (k := w1.heap.size) (o := 1) (v := .int .i64 v) hk
    have Q7 := Q''.set u v
    have q1 := Q''.2
    refine wpAnyH_ready (rs := [7]) (by kernel_rfl) (by simp) ?_
    refine AllReadyH.cons (o := _) g8_7 (fun K hK => ?_) AllReadyH.nil
    go_simp
    refine hK.out _ _ B7.s (fun _ => ?_)
    refine wpAnyH_done (by kernel_rfl) ?_ _
    refine NoPanic.normal ?_
    clear hK K q1 Q'' H3
    obtain ⟨kq, hkq⟩ : ∃ kq, kq = w1.heap.size := ⟨_, rfl⟩
    rw [← hkq] at hk Q7 B7 ⊢
    clear hkq
    have q1 := B7.2.1.2.1
    go_wp2_with fail
    clear q1
    refine (A3 _).mono ?_
    rintro e w9 ⟨rfl, hb⟩
    have B8 := B7.keep hb
    have Q8 := Q7.keep hb
    clear B7 Q7 hb
    have q1 := Q8.2.1
    go_wp2
    go_ret
    exact ⟨rfl, B8.1⟩

end Go.Proofs.Ytfopjkcnfngbpaa
