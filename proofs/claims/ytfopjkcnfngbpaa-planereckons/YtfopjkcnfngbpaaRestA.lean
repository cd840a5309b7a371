/-
  What the reference's rest answers: what is left, shorter than what was taken away, and the same but for multiples of it.
-/
import Derived.Test.YtfopjkcnfngbpaaRestMath
namespace Go.Proofs.Ytfopjkcnfngbpaa
open Go.RowKit

/-- two boxes that stand through a statement that draws its order -/
abbrev S2 (wr : World) (b1 : Nat) (x1 y1 : Int) (b2 : Nat) (x2 y2 : Int) (V : World) : Prop := Below wr.heap.size wr V ∧ D2 V b1 (.int .i64 x1) (.int .i64 y1) ∧ D2 V b2 (.int .i64 x2) (.int .i64 y2)
theorem S2.init {wr : World} {b1 b2 : Nat} {x1 y1 x2 y2 : Int} (h1 : Own wr b1 x1 y1) (h2 : Own wr b2 x2 y2) : S2 wr b1 x1 y1 b2 x2 y2 wr.drew := ⟨Below.drew (Below.refl _ _), h1.2.1, h2.2.1⟩
theorem S2.keep {wr V w1 : World} {b1 b2 : Nat} {x1 y1 x2 y2 : Int} (l1 : b1 < wr.heap.size) (l2 : b2 < wr.heap.size) (h : S2 wr b1 x1 y1 b2 x2 y2 V) (hb : Below V.heap.size V w1) : S2 wr b1 x1 y1 b2 x2 y2 w1 := by
  have hs := h.1.size
  exact ⟨btrans h.1 hb, ⟨keepC hb (by omega) h.2.1.1, keepC hb (by omega) h.2.1.2⟩, ⟨keepC hb (by omega) h.2.2.1, keepC hb (by omega) h.2.2.2⟩⟩
theorem sq22 (g x y : Int) (hg : g = 4 ∨ g = 6) (h1 : -4194304 ≤ x ∧ x ≤ 4194304) (h2 : -4194304 ≤ y ∧ y ≤ 4194304) : SqIs g x y (nn g x y) :=
  square_any g x y hg (big_of _ _ 4194304 4194304 (by decide) (by decide) h1 h1 (by decide)) (big_of _ _ 4194304 4194304 (by decide) (by decide) h1 h2 (by decide)) (big_of _ _ 4194304 4194304 (by decide) (by decide) h2 h2 (by decide))
theorem nn_scale (g m x y : Int) : nn g (m * x) (m * y) = m * m * nn g x y := by unfold nn; split <;> grind
theorem Dv.turned {g bx b x y : Int} (h : Dv g bx b x y) : Dv g bx b (-y) (tq g x y) := by
  have := h.mul 0 1
  have e1 : pX x y 0 1 = -y := by unfold pX; omega
  have e2 : pY g x y 0 1 = tq g x y := by unfold pY tq; split <;> omega
  rw [e1, e2] at this
  exact this
theorem dv_tus {g bx b x y : Int} (h : Dv g bx b x y) (k : Nat) : Dv g bx b (tu g k x y).1 (tu g k x y).2 := by
  induction k with
  | zero => exact h
  | succ k ih => exact ih.turned
theorem Dv.scaled (g m bx b : Int) : Dv g bx b (m * bx) (m * b) := ⟨m, 0, by unfold pX; grind, by unfold pY; split <;> grind⟩
/-- the same but for multiples -/
def Cg (g bx b ax ay x y : Int) : Prop := Dv g bx b (x - ax) (y - ay)
theorem Cg.step {g bx b ax ay x y u v : Int} (h : Cg g bx b ax ay x y) (k : Dv g bx b u v) : Cg g bx b ax ay (x + u) (y + v) := by
  unfold Cg at *
  have := h.add k
  rwa [show x - ax + u = x + u - ax by omega, show y - ay + v = y + v - ay by omega] at this
theorem Cg.refl (g bx b ax ay : Int) : Cg g bx b ax ay ax ay := by
  unfold Cg
  rw [show ax - ax = 0 by omega, show ay - ay = 0 by omega]
  exact Dv.zero _ _ _
/-- b times a power of two -/
def pw (j : Nat) : Int := 2 ^ j
theorem pw_zero : pw 0 = 1 := rfl
theorem pw_succ (j : Nat) : pw (j + 1) = 2 * pw j := by unfold pw; rw [Int.pow_succ]; omega
theorem pw_pos (j : Nat) : 1 ≤ pw j := by
  induction j with
  | zero => decide
  | succ j ih => rw [pw_succ]; omega

def RestIs (g ax ay bx b : Int) (Q : Int → Int → Prop) : Prop := ∀ W : World, Calls Try.prog 36 #[.int .i64 g, .agg #[.int .i64 ax, .int .i64 ay], .agg #[.int .i64 bx, .int .i64 b]] W fun e w' => (∃ x y, e = .returned (.agg #[.int .i64 x, .int .i64 y]) ∧ Q x y) ∧ Below W.heap.size W w'
/-- the boxes of a call -/
def RB (W : World) (x y bx b : Int) (V : World) : Prop := Below W.heap.size W V ∧ Own V W.heap.size x y ∧ Own V (W.heap.size + 1) bx b ∧ Own V (W.heap.size + 1 + 1) 0 0
theorem RB.keep {W V w1 : World} {x y bx b : Int} (h : RB W x y bx b V) (hb : Below V.heap.size V w1) : RB W x y bx b w1 := ⟨btrans h.1 hb, h.2.1.keep hb, h.2.2.1.keep hb, h.2.2.2.keep hb⟩
theorem RB.far {W V : World} {x y bx b : Int} (h : RB W x y bx b V) (c : Nat) (hc : W.heap.size + 1 + 1 < c) (u v : Int) : RB W x y bx b ((V.setCell ⟨c, 0, none⟩ (.int .i64 u)).setCell ⟨c, 1, none⟩ (.int .i64 v)) :=
  ⟨bset (bset h.1 (by dsimp only; omega)) (by dsimp only; omega), (h.2.1.far (by omega)).far (by omega), (h.2.2.1.far (by omega)).far (by omega), (h.2.2.2.far (by omega)).far (by omega)⟩
theorem RB.setA {W V : World} {x y bx b : Int} (h : RB W x y bx b V) (u v : Int) : RB W u v bx b ((V.setCell ⟨W.heap.size, 0, none⟩ (.int .i64 u)).setCell ⟨W.heap.size, 1, none⟩ (.int .i64 v)) :=
  ⟨bset (bset h.1 (by dsimp only; omega)) (by dsimp only; omega), h.2.1.set u v, (h.2.2.1.far (by omega)).far (by omega), (h.2.2.2.far (by omega)).far (by omega)⟩
def rm (v : Value) (n : Nat) : Nat := match v with | .bool true => n + 1 | _ => 0
def Mx : Int := 3298534883328

/-- a round of the outer loop ends -/
theorem outer_end {g : Nat} {ax ay bx b x y x' y' : Int} {W wr0 w2 : World} {ag : Bool} (h0 : RB W x y bx b wr0) (hR : RB W x' y' bx b w2) (hC : Cg g bx b ax ay x' y') (hM : nn g x' y' ≤ Mx) (h : (ag = true ∧ nn g x' y' < nn g x y) ∨ (ag = false ∧ nn g x' y' < nn g bx b)) :
    (∃ (x y : Int) (ag' : Bool), Value.bool ag = .bool ag' ∧ RB W x y bx b w2 ∧ Cg g bx b ax ay x y ∧ nn g x y ≤ Mx ∧ (ag' = true ∨ nn g x y < nn g bx b)) ∧
    rm (.bool ag) (nn g (cellInt w2 W.heap.size 0) (cellInt w2 W.heap.size 1)).toNat < rm (.bool true) (nn g (cellInt wr0 W.heap.size 0) (cellInt wr0 W.heap.size 1)).toNat := by
  refine ⟨⟨x', y', ag, rfl, hR, hC, hM, ?_⟩, ?_⟩
  · rcases h with h | h
    · exact Or.inl h.1
    · exact Or.inr h.2
  · rw [cellInt_of hR.2.1.2.1.1, cellInt_of hR.2.1.2.1.2, cellInt_of h0.2.1.2.1.1, cellInt_of h0.2.1.2.1.2]
    have n1 := nn_nonneg g x' y'
    rcases h with ⟨rfl, h⟩ | ⟨rfl, h⟩
    · simp [rm]; omega
    · simp [rm]
/-- half a step -/
theorem half_step (j : Nat) (v : Int) : (pw (j + 1) * v).tdiv 2 = pw j * v := by
  rw [pw_succ, Int.mul_assoc]
  exact Int.mul_tdiv_cancel_left _ (by decide)
theorem step_ne (j : Nat) (v : Int) (h : v ≠ 0) : pw (j + 1) * v ≠ v := by
  intro e
  have h1 := pw_pos j
  have h2 : (pw (j + 1) - 1) * v = 0 := by rw [Int.sub_mul]; omega
  rcases Int.mul_eq_zero.1 h2 with h3 | h3
  · rw [pw_succ] at h3; omega
  · exact h h3

set_option maxRecDepth 100000 in
set_option maxHeartbeats 4000000 in
theorem rest_any (g : Nat) (ax ay bx b : Int) (hg : (g : Int) = 4 ∨ (g : Int) = 6) (ha : nn g ax ay ≤ Mx) (hb : nn g bx b ≤ Mx) (hne : ¬ (bx = 0 ∧ b = 0)) :
    RestIs g ax ay bx b (fun x y => Cg g bx b ax ay x y ∧ nn g x y < nn g bx b) := by
  intro W
  have HR0 : RB W ax ay bx b (((W.alloc (.cells #[.int .i64 ax, .int .i64 ay] 23)).alloc (.cells #[.int .i64 bx, .int .i64 b] 23)).alloc (.cells #[.int .i64 0, .int .i64 0] 23)) := by
    have M := ((Own.new W ax ay 23).alloc (.cells #[.int .i64 bx, .int .i64 b] 23)).alloc (.cells #[.int .i64 0, .int .i64 0] 23)
    have N := (Own.new (W.alloc (.cells #[.int .i64 ax, .int .i64 ay] 23)) bx b 23).alloc (.cells #[.int .i64 0, .int .i64 0] 23)
    have R := Own.new ((W.alloc (.cells #[.int .i64 ax, .int .i64 ay] 23)).alloc (.cells #[.int .i64 bx, .int .i64 b] 23)) 0 0 23
    simp only [World.size_alloc] at N R
    exact ⟨bal (bal (bal (Below.refl _ _))), M, N, R⟩
  have Hg := hide hg
  have Hb := hide hb
  have Ha := hide ha
  have Hne := hide hne
  have hg6 : g ≤ 6 := by omega
  clear hg hb ha hne
  go_enter Try.func36, Try.ntmps36
  go_wp2_with fail
  generalize ((W.alloc (.cells #[.int .i64 ax, .int .i64 ay] 23)).alloc (.cells #[.int .i64 bx, .int .i64 b] 23)).alloc (.cells #[.int .i64 0, .int .i64 0] 23) = w0 at *
  go_loopw [7] (fun v wr => ∃ (x y : Int) (ag : Bool), v = .bool ag ∧ RB W x y bx b wr ∧ Cg g bx b ax ay x y ∧ nn g x y ≤ Mx ∧ (ag = true ∨ nn g x y < nn g bx b)) (fun v wr => rm v (nn g (cellInt wr W.heap.size 0) (cellInt wr W.heap.size 1)).toNat)
  case atStart => exact ⟨ax, ay, true, rfl, HR0, Cg.refl _ _ _ _ _, unhide Ha, Or.inl rfl⟩
  case round =>
    clear HR0
    obtain ⟨x, y, ag, rfl, hR, hC, hM, hag⟩ := hrel
    have HC := hide hC
    have HM := hide hM
    have Hag := hide hag
    clear hC hM hag
    cases ag with
    | false =>
      have q1 := hR.2.1.2.1
      have q2 := hR.2.2.2.2
      go_wp2
      exact bodyPost_ret (v := .agg #[.int .i64 x, .int .i64 y]) (by simp [results, Try.results36, go_sem, q2]) rfl ⟨⟨x, y, rfl, unhide HC, by rcases unhide Hag with h | h; cases h; exact h⟩, bset (bset hR.1 (by dsimp only; omega)) (by dsimp only; omega)⟩
    | true =>
      clear Hag
      have q1 := hR.2.2.1.2.1
      go_wp2_with fail
      clear q1
      have hR1 := hR.keep (bal (o := .cells #[.int .i64 bx, .int .i64 b] 23) (Below.refl _ _))
      have hst := Own.new wr bx b 23
      have hbs : W.heap.size + 1 + 1 < wr.heap.size := hR.2.2.2.1
      have HRm := hide hR
      clear hR
      generalize hw1 : wr.alloc (.cells #[.int .i64 bx, .int .i64 b] 23) = w1 at *
      generalize hbn : wr.heap.size = bs at *
      clear hw1
      go_loopw [] (fun wr => ∃ j : Nat, RB W x y bx b wr ∧ Own wr bs (pw j * bx) (pw j * b) ∧ nn g (pw j * bx) (pw j * b) ≤ Mx) (fun wr => (nn g x y - nn g (cellInt wr bs 0) (cellInt wr bs 1)).toNat)
      case atStart => exact ⟨0, hR1, by rw [pw_zero, Int.one_mul, Int.one_mul]; exact hst, by rw [pw_zero, Int.one_mul, Int.one_mul]; exact unhide Hb⟩
      case round =>
        clear hR1 hst
        obtain ⟨j, hR, hO, hMs⟩ := hrel
        have pX' := parts_le g _ _ hMs
        have pA := parts_le g x y (unhide HM)
        have hS1 := hide (show 4 * nn g (pw j * bx) (pw j * b) = nn g (2 * (pw j * bx)) (2 * (pw j * b)) by rw [nn_scale g 2 (pw j * bx) (pw j * b)]; omega)
        have hN1 := hide (show 1 ≤ nn g (pw j * bx) (pw j * b) by
          rw [nn_scale]
          have h1 := nn_pos g bx b (unhide Hne)
          have h2 := pw_pos j
          have h3 := Int.mul_le_mul (a := 1) (b := 1) (c := pw j) (d := pw j) h2 h2 (by omega) (by omega)
          have h4 := Int.mul_le_mul (a := 1) (b := 1) (c := pw j * pw j) (d := nn g bx b) (by omega) h1 (by omega) (by omega)
          omega)
        have hP := hide (show 2 * (pw j * bx) = pw (j + 1) * bx ∧ 2 * (pw j * b) = pw (j + 1) * b by rw [pw_succ, Int.mul_assoc, Int.mul_assoc]; exact ⟨rfl, rfl⟩)
        have Hj := hide (show (pw j * bx, pw j * b) = (pw j * bx, pw j * b) from rfl)
        have HMs := hide hMs
        generalize hXj : pw j * bx = X at *
        generalize hYj : pw j * b = Y at *
        have A1 : ScIs 2 X Y (2 * X) (2 * Y) := fun V => scaled_any 2 X Y V (by unfold bd; omega) (by unfold bd; omega)
        have A2 := sq22 g (2 * X) (2 * Y) (unhide Hg) (by omega) (by omega)
        have A3 := sq22 g x y (unhide Hg) (by omega) (by omega)
        have hXJ := hide hXj
        have hYJ := hide hYj
        have hbl := hO.1
        have hal := hR.2.1.1
        clear hXj hYj hMs Hj
        by_cases hlt : nn g (2 * X) (2 * Y) < nn g x y
        · have HLT := hide hlt
          generalize hn2 : nn g (2 * X) (2 * Y) = n2 at *
          generalize hna : nn g x y = na at *
          generalize h2X : 2 * X = X2 at *
          generalize h2Y : 2 * Y = Y2 at *
          clear h2X h2Y
          go_wp2_with fail
          go_region_held3 (fun V => S2 wr bs X Y W.heap.size x y V)
            (first | exact S2.init hO hR.2.1 | exact S2.keep hbl hal (by assumption) hb)
            (first
              | (go_at_call 44; refine (A1 _).mono ?_; rintro e w2 ⟨rfl, hb⟩)
              | (go_at_call_of 33 (Value.agg #[Value.int IntKind.i64 X2, Value.int IntKind.i64 Y2]); refine (A2 _).mono ?_; rintro e w2 ⟨rfl, hb⟩)
              | (go_at_call_of 33 (Value.agg #[Value.int IntKind.i64 x, Value.int IntKind.i64 y]); refine (A3 _).mono ?_; rintro e w2 ⟨rfl, hb⟩))
          obtain ⟨hS, _⟩ := (by assumption : S2 wr bs X Y W.heap.size x y _)
          have hR2 := hR.keep hS
          have hO2 := hO.keep hS
          have HRp := hide hR
          have HOp := hide hO
          clear hR hO hS
          have q := hO2.2
          go_wp2_with fail
          clear q
          refine (A1 _).mono ?_
          rintro e w3 ⟨rfl, hb⟩
          have hR3 := hR2.keep hb
          have hO3 := hO2.keep hb
          clear hR2 hO2 hb
          have q := hO3.2
          go_wp2
          have hO4 := hO3.set X2 Y2
          have hR4 := hR3.far bs (by omega) X2 Y2
          go_roundw
          case rel =>
            refine ⟨j + 1, hR4, ?_, ?_⟩
            · have := unhide hP; rw [← this.1, ← this.2]; exact hO4
            · have := unhide hP; rw [← this.1, ← this.2, hn2]
              have := unhide HLT
              have := unhide HM
              omega
          case measure =>
            rw [cellInt_of hO4.2.1.1, cellInt_of hO4.2.1.2, cellInt_of (unhide HOp).2.1.1, cellInt_of (unhide HOp).2.1.2]
            have := unhide hS1
            have := unhide hN1
            have := unhide HLT
            omega
        · have HLT := hide (show nn g x y ≤ nn g (2 * X) (2 * Y) by omega)
          have hlt2 : decide (nn g (2 * X) (2 * Y) < nn g x y) = false := by simp; omega
          generalize hn2 : nn g (2 * X) (2 * Y) = n2 at *
          generalize hna : nn g x y = na at *
          generalize h2X : 2 * X = X2 at *
          generalize h2Y : 2 * Y = Y2 at *
          clear h2X h2Y
          go_wp2_with fail
          go_region_held3 (fun V => S2 wr bs X Y W.heap.size x y V)
            (first | exact S2.init hO hR.2.1 | exact S2.keep hbl hal (by assumption) hb)
            (first
              | (go_at_call 44; refine (A1 _).mono ?_; rintro e w2 ⟨rfl, hb⟩)
              | (go_at_call_of 33 (Value.agg #[Value.int IntKind.i64 X2, Value.int IntKind.i64 Y2]); refine (A2 _).mono ?_; rintro e w2 ⟨rfl, hb⟩)
              | (go_at_call_of 33 (Value.agg #[Value.int IntKind.i64 x, Value.int IntKind.i64 y]); refine (A3 _).mono ?_; rintro e w2 ⟨rfl, hb⟩))
          obtain ⟨hS, _⟩ := (by assumption : S2 wr bs X Y W.heap.size x y _)
          have hR2 := hR.keep hS
          have hO2 := hO.keep hS
          clear hR hO hS A1 A2 hlt hlt2 HLT
          go_wp2_with fail
          subst hna
          clear A3 hn2 hS1 hN1 hP pX' hbl hal
          go_loopw [7] (fun v wr => ∃ (j : Nat) (x' y' : Int) (ag : Bool), v = .bool ag ∧ RB W x' y' bx b wr ∧ Own wr bs (pw j * bx) (pw j * b) ∧ nn g (pw j * bx) (pw j * b) ≤ Mx ∧ Cg g bx b ax ay x' y' ∧ ((ag = false ∧ x' = x ∧ y' = y) ∨ (ag = true ∧ nn g x' y' < nn g x y))) (fun _ wr => (nn g (cellInt wr bs 0) (cellInt wr bs 1)).toNat)
          case atStart => exact ⟨j, x, y, false, rfl, hR2, by rw [unhide hXJ, unhide hYJ]; exact hO2, by rw [unhide hXJ, unhide hYJ]; exact unhide HMs, unhide HC, Or.inl ⟨rfl, rfl, rfl⟩⟩
          case round =>
            clear hR2 hO2 hXJ hYJ HMs
            obtain ⟨j, x', y', ag, rfl, hR, hO, hMs, hC', hag⟩ := hrel
            have pS := parts_le g _ _ hMs
            have pB := parts_le g bx b (unhide Hb)
            have hge : nn g bx b ≤ nn g (pw j * bx) (pw j * b) := by
              rw [nn_scale]
              have h1 := nn_nonneg g bx b
              have h2 := pw_pos j
              have h3 := Int.mul_le_mul (a := 1) (b := 1) (c := pw j) (d := pw j) h2 h2 (by omega) (by omega)
              have h4 := Int.mul_le_mul_of_nonneg_right (a := 1) (b := pw j * pw j) (c := nn g bx b) (by omega) h1
              omega
            have A1 := sq22 g (pw j * bx) (pw j * b) (unhide Hg) (by omega) (by omega)
            have A2 := sq22 g bx b (unhide Hg) (by omega) (by omega)
            have HC' := hide hC'
            have Hag := hide hag
            have HMs := hide hMs
            have hbl := hO.1
            have hal := hR.2.2.1.1
            have HOp := hide hO
            clear hC' hag hMs
            generalize hXj : pw j * bx = Xs at *
            generalize hYj : pw j * b = Ys at *
            have HXj := hide hXj
            have HYj := hide hYj
            clear hXj hYj
            have hge' : decide (nn g bx b ≤ nn g Xs Ys) = true := by simp; exact hge
            generalize hnb : nn g bx b = nb at *
            generalize hns : nn g Xs Ys = ns at *
            cases ag with
            | true =>
              go_wp2_with fail
              go_region_held3 (fun V => S2 wr bs Xs Ys (W.heap.size + 1) bx b V)
                (first | exact S2.init hO hR.2.2.1 | exact S2.keep hbl hal (by assumption) hb)
                (first
                  | (go_at_call_of 33 (Value.agg #[Value.int IntKind.i64 Xs, Value.int IntKind.i64 Ys]); refine (A1 _).mono ?_; rintro e w2 ⟨rfl, hb⟩)
                  | (go_at_call_of 33 (Value.agg #[Value.int IntKind.i64 bx, Value.int IntKind.i64 b]); refine (A2 _).mono ?_; rintro e w2 ⟨rfl, hb⟩))
              obtain ⟨hS, _⟩ := (by assumption : S2 wr bs Xs Ys (W.heap.size + 1) bx b _)
              have hR2 := hR.keep hS
              clear hR hO hS A1 A2
              have hlt := hide (show nn g x' y' < nn g x y by
                rcases unhide Hag with h | h
                · cases h.1
                · exact h.2)
              have hMx := hide (show nn g x' y' ≤ Mx by have := unhide hlt; have := unhide HM; omega)
              have hEnd := hide (outer_end (unhide HRm) hR2 (unhide HC') (unhide hMx) (Or.inl ⟨rfl, unhide hlt⟩))
              go_wp2_with fail
              first
                | exact unhide hEnd
                | (rw [hnb] at hEnd; exact unhide hEnd)
            | false =>
              obtain ⟨rfl, rfl⟩ : x' = x ∧ y' = y := by
                rcases unhide Hag with h | h
                · exact h.2
                · cases h.1
              clear Hag
              go_wp2_with fail
              go_region_held3 (fun V => S2 wr bs Xs Ys (W.heap.size + 1) bx b V)
                (first | exact S2.init hO hR.2.2.1 | exact S2.keep hbl hal (by assumption) hb)
                (first
                  | (go_at_call_of 33 (Value.agg #[Value.int IntKind.i64 Xs, Value.int IntKind.i64 Ys]); refine (A1 _).mono ?_; rintro e w2 ⟨rfl, hb⟩)
                  | (go_at_call_of 33 (Value.agg #[Value.int IntKind.i64 bx, Value.int IntKind.i64 b]); refine (A2 _).mono ?_; rintro e w2 ⟨rfl, hb⟩))
              obtain ⟨hS, _⟩ := (by assumption : S2 wr bs Xs Ys (W.heap.size + 1) bx b _)
              have hR2 := hR.keep hS
              have hO2 := hO.keep hS
              clear hR hO hS A1 A2
              have q := hO2.2.1
              go_wp2_with fail
              clear q
              have hR3 := hR2.keep (bal (o := .cells #[.int .i64 Xs, .int .i64 Ys] 23) (Below.refl _ _))
              have hO3 := hO2.alloc (.cells #[.int .i64 Xs, .int .i64 Ys] 23)
              have hT3 := Own.new w2 Xs Ys 23
              have hbt1 : bs < w2.heap.size := hO2.1
              clear hR2 hO2
              generalize w2.alloc (.cells #[.int .i64 Xs, .int .i64 Ys] 23) = w3 at *
              generalize w2.heap.size = bt at *
              have hszT := hide (nn_tu' g)
              go_loopw [10, 7] (fun v ag wr => ∃ k : Nat, v = .int .i64 k ∧ ag = .bool false ∧ k ≤ g ∧ RB W x' y' bx b wr ∧ Own wr bs Xs Ys ∧ Own wr bt (tu g k Xs Ys).1 (tu g k Xs Ys).2 ∧ ∀ i, i < k → nn g x' y' ≤ nn g (x' + (tu g i Xs Ys).1) (y' + (tu g i Xs Ys).2)) (fun v _ _ => g - (intOf v).toNat)
              case atStart => exact ⟨0, rfl, rfl, Nat.zero_le _, hR3, hO3, hT3, fun i hi => by omega⟩
              case round =>
                clear hR3 hO3 hT3
                obtain ⟨k, rfl, rfl, hk, hR, hO, hT, hall⟩ := hrel
                have Hall := hide hall
                clear hall
                by_cases hkg : k < g
                · have hnt := unhide hszT k Xs Ys
                  have pT := parts_le g (tu g k Xs Ys).1 (tu g k Xs Ys).2 (by rw [hnt, hns]; exact unhide HMs)
                  have HD := hide (show Dv g bx b (tu g k Xs Ys).1 (tu g k Xs Ys).2 by
                    apply dv_tus
                    rw [← unhide HXj, ← unhide HYj]
                    exact Dv.scaled _ _ _ _)
                  have HT1 := hide (show tu g (k + 1) Xs Ys = (-(tu g k Xs Ys).2, tq g (tu g k Xs Ys).1 (tu g k Xs Ys).2) from rfl)
                  have HTall := hide (show (tu g k Xs Ys) = ((tu g k Xs Ys).1, (tu g k Xs Ys).2) from rfl)
                  generalize hT1 : (tu g k Xs Ys).1 = T1 at *
                  generalize hT2 : (tu g k Xs Ys).2 = T2 at *
                  have HTa := hide hT1
                  have HTb := hide hT2
                  clear hT1 hT2
                  have A1 : PlusIs x' y' T1 T2 (x' + T1) (y' + T2) := fun V => plus_any _ _ _ _ V (by unfold bd; omega) (by unfold bd; omega) (by unfold bd; omega) (by unfold bd; omega)
                  have A2 := sq22 g (x' + T1) (y' + T2) (unhide Hg) (by omega) (by omega)
                  have A3 := sq22 g x' y' (unhide Hg) (by omega) (by omega)
                  have A4 : RTurnIs g T1 T2 (-T2) (tq g T1 T2) := fun V => rturned_any g T1 T2 (unhide Hg) V (by unfold bd; omega) (by unfold bd; omega)
                  have q1 := hR.2.1.2.1
                  have q2 := hT.2.1
                  clear pT hnt
                  generalize hcx : x' + T1 = cx at *
                  generalize hcy : y' + T2 = cy at *
                  go_wp2_with fail
                  clear q1 q2
                  refine (A1 _).mono ?_
                  rintro e w4 ⟨rfl, hb⟩
                  have hR4 := (hR.keep hb).keep (bal (o := .cells #[.int .i64 cx, .int .i64 cy] 23) (Below.refl _ _))
                  have hO4 := (hO.keep hb).alloc (.cells #[.int .i64 cx, .int .i64 cy] 23)
                  have hT4 := (hT.keep hb).alloc (.cells #[.int .i64 cx, .int .i64 cy] 23)
                  have hC4 := Own.new w4 cx cy 23
                  clear hR hO hT hb
                  go_wp2_with fail
                  generalize w4.alloc (.cells #[.int .i64 cx, .int .i64 cy] 23) = w5 at *
                  generalize w4.heap.size = bc at *
                  have l1 := hC4.1
                  have l2 := hR4.2.1.1
                  generalize hnc : nn g cx cy = nc at *
                  generalize hna : nn g x' y' = na at *
                  by_cases hlt : nc < na
                  · have HLT := hide hlt
                    go_region_held3 (fun V => S2 w5 bc cx cy W.heap.size x' y' V)
                      (first | exact S2.init hC4 hR4.2.1 | exact S2.keep l1 l2 (by assumption) hb)
                      (first
                        | (go_at_call_of 33 (Value.agg #[Value.int IntKind.i64 cx, Value.int IntKind.i64 cy]); refine (A2 _).mono ?_; rintro e w6 ⟨rfl, hb⟩)
                        | (go_at_call_of 33 (Value.agg #[Value.int IntKind.i64 x', Value.int IntKind.i64 y']); refine (A3 _).mono ?_; rintro e w6 ⟨rfl, hb⟩))
                    obtain ⟨hS, _⟩ := (by assumption : S2 w5 bc cx cy W.heap.size x' y' _)
                    have hR6 := hR4.keep hS
                    have hO6 := hO4.keep hS
                    have hC6 := hC4.keep hS
                    clear hR4 hO4 hT4 hC4 hS A1 A2 A3 A4
                    have hR7 := hR6.setA cx cy
                    have hO7 := (hO6.far (c := W.heap.size) (o := 0) (v := .int .i64 cx) (by omega)).far (c := W.heap.size) (o := 1) (v := .int .i64 cy) (by omega)
                    have HC7 := hide (show Cg g bx b ax ay cx cy by rw [← hcx, ← hcy]; exact (unhide HC).step (unhide HD))
                    have hMx := hide (show nn g cx cy ≤ Mx by rw [hnc]; have := unhide HLT; have := unhide HM; omega)
                    have q1 := hC6.2.1
                    have q2 := hR6.2.1.2
                    have ne1 : bs ≠ W.heap.size := by omega
                    have ne2 : W.heap.size ≠ bs := by omega
                    rcases j with _ | j
                    · have eX := unhide HXj
                      have eY := unhide HYj
                      rw [pw_zero, Int.one_mul] at eX eY
                      subst eX eY
                      have hEnd := hide (outer_end (ag := true) (unhide HRm) hR7 (unhide HC7) (unhide hMx) (Or.inl ⟨rfl, by rw [hnc, hna]; exact unhide HLT⟩))
                      have q3 := hO6.2.1
                      have q4 := hR6.2.2.1.2.1
                      go_wp2_with fail
                      first
                        | exact unhide hEnd
                        | (rw [hnb] at hEnd; exact unhide hEnd)
                        | (rw [hna] at hEnd; exact unhide hEnd)
                    · have hx1 : Xs.tdiv 2 = pw j * bx := by rw [← unhide HXj]; exact half_step j bx
                      have hy1 : Ys.tdiv 2 = pw j * b := by rw [← unhide HYj]; exact half_step j b
                      have hnq := hide (show ns = 4 * nn g (pw j * bx) (pw j * b) by rw [← hns, ← unhide HXj, ← unhide HYj, nn_scale, nn_scale, pw_succ]; grind)
                      have hnp := hide (nn_nonneg g (pw j * bx) (pw j * b))
                      have hnp1 := hide (show 1 ≤ nn g (pw j * bx) (pw j * b) by
                        apply nn_pos
                        rintro ⟨h1, h2⟩
                        have h3 := pw_pos j
                        refine unhide Hne ⟨?_, ?_⟩
                        · rcases Int.mul_eq_zero.1 h1 with h | h
                          · omega
                          · exact h
                        · rcases Int.mul_eq_zero.1 h2 with h | h
                          · omega
                          · exact h)
                      have hb1 : -4194304 ≤ pw j * bx ∧ pw j * bx ≤ 4194304 := by
                        have h1 := unhide HXj
                        rw [pw_succ, Int.mul_assoc] at h1
                        omega
                      have hb2 : -4194304 ≤ pw j * b ∧ pw j * b ≤ 4194304 := by
                        have h1 := unhide HYj
                        rw [pw_succ, Int.mul_assoc] at h1
                        omega
                      have hw1 : IntKind.i64.wrap (Xs.tdiv 2) = pw j * bx := by rw [hx1]; exact (Go.IntWalk.i64_left _).trans (Go.IntWalk.wrap64_in _ (by omega))
                      have hw2 : IntKind.i64.wrap (Ys.tdiv 2) = pw j * b := by rw [hy1]; exact (Go.IntWalk.i64_left _).trans (Go.IntWalk.wrap64_in _ (by omega))
                      have hneq : ¬ (Xs = bx ∧ Ys = b) := by
                        rintro ⟨h1, h2⟩
                        apply unhide Hne
                        refine ⟨?_, ?_⟩
                        · by_cases h : bx = 0
                          · exact h
                          · exact absurd ((unhide HXj).trans h1) (step_ne j bx h)
                        · by_cases h : b = 0
                          · exact h
                          · exact absurd ((unhide HYj).trans h2) (step_ne j b h)
                      have q3 := hO6.2.1
                      have q5 := hO6.2.2
                      have q4 := hR6.2.2.1.2.1
                      generalize hXh : pw j * bx = Xh at *
                      generalize hYh : pw j * b = Yh at *
                      have HXh := hide hXh
                      have HYh := hide hYh
                      clear hXh hYh
                      have hR8 := hR7.far bs (by omega) Xh Yh
                      have hO8 := hO7.set Xh Yh
                      by_cases hz : Xs = bx
                      · have hz2 : (Ys == b) = false := by simp; exact fun h => hneq ⟨hz, h⟩
                        have hz1 : (Xs == bx) = true := by simp [hz]
                        clear hz hneq
                        go_wp2_with fail
                        subst hna
                        go_roundw
                        case rel => exact ⟨j, cx, cy, true, rfl, hR8, by rw [unhide HXh, unhide HYh]; exact hO8, by rw [unhide HXh, unhide HYh]; have := unhide hnq; have := unhide hnp; have := unhide HMs; omega, unhide HC7, Or.inr ⟨rfl, by rw [hnc]; have := unhide HLT; omega⟩⟩
                        case measure => 
                            rw [cellInt_of hO8.2.1.1, cellInt_of hO8.2.1.2, cellInt_of (unhide HOp).2.1.1, cellInt_of (unhide HOp).2.1.2, hns]
                            have := unhide hnq
                            have := unhide hnp1
                            omega
                      · have hz1 : (Xs == bx) = false := by simp [hz]
                        go_wp2_with fail
                        subst hna
                        go_roundw
                        case rel => exact ⟨j, cx, cy, true, rfl, hR8, by rw [unhide HXh, unhide HYh]; exact hO8, by rw [unhide HXh, unhide HYh]; have := unhide hnq; have := unhide hnp; have := unhide HMs; omega, unhide HC7, Or.inr ⟨rfl, by rw [hnc]; have := unhide HLT; omega⟩⟩
                        case measure => 
                            rw [cellInt_of hO8.2.1.1, cellInt_of hO8.2.1.2, cellInt_of (unhide HOp).2.1.1, cellInt_of (unhide HOp).2.1.2, hns]
                            have := unhide hnq
                            have := unhide hnp1
                            omega
                  · have hlt2 : decide (nc < na) = false := by simp; omega
                    have Hall2 := hide (show ∀ i, i < k + 1 → nn g x' y' ≤ nn g (x' + (tu g i Xs Ys).1) (y' + (tu g i Xs Ys).2) from fun i hi => by
                      by_cases e : i = k
                      · rw [e, unhide HTa, unhide HTb, hcx, hcy, hnc, hna]; omega
                      · have := unhide Hall i (by omega)
                        rw [hna]; exact this)
                    go_region_held3 (fun V => S2 w5 bc cx cy W.heap.size x' y' V)
                      (first | exact S2.init hC4 hR4.2.1 | exact S2.keep l1 l2 (by assumption) hb)
                      (first
                        | (go_at_call_of 33 (Value.agg #[Value.int IntKind.i64 cx, Value.int IntKind.i64 cy]); refine (A2 _).mono ?_; rintro e w6 ⟨rfl, hb⟩)
                        | (go_at_call_of 33 (Value.agg #[Value.int IntKind.i64 x', Value.int IntKind.i64 y']); refine (A3 _).mono ?_; rintro e w6 ⟨rfl, hb⟩))
                    obtain ⟨hS, _⟩ := (by assumption : S2 w5 bc cx cy W.heap.size x' y' _)
                    have hR6 := hR4.keep hS
                    have hO6 := hO4.keep hS
                    have hT6 := hT4.keep hS
                    clear hR4 hO4 hT4 hC4 hS A1 A2 A3
                    have q := hT6.2.1
                    go_wp2_with fail
                    clear q
                    refine (A4 _).mono ?_
                    rintro e w7 ⟨rfl, hb⟩
                    have hR7 := hR6.keep hb
                    have hO7 := hO6.keep hb
                    have hT7 := hT6.keep hb
                    clear hR6 hO6 hT6 hb
                    have q := hT7.2
                    have hbt2 : W.heap.size + 1 + 1 < bt := by omega
                    go_wp2
                    subst hna
                    go_roundw
                    case rel => exact ⟨k + 1, by go_num, rfl, by omega, hR7.far bt hbt2 _ _, (hO7.far (by omega)).far (by omega), by rw [unhide HT1]; exact hT7.set _ _, unhide Hall2⟩
                    case measure => simp [intOf]; omega
                · have e : k = g := by omega
                  have cl : ¬ ((k : Int) < (g : Int)) := by omega
                  have HallG := hide (show ∀ i, i < g → nn g x' y' ≤ nn g (x' + (tu g i Xs Ys).1) (y' + (tu g i Xs Ys).2) from fun i hi => unhide Hall i (by omega))
                  clear e Hall
                  rcases j with _ | j
                  · have eX := unhide HXj
                    have eY := unhide HYj
                    rw [pw_zero, Int.one_mul] at eX eY
                    subst eX eY
                    have hless := rest_less g x' y' bx b (unhide Hg) (unhide Hne) (unhide HallG)
                    have hEnd := hide (outer_end (ag := false) (unhide HRm) hR (unhide HC) (unhide HM) (Or.inr ⟨rfl, hless⟩))
                    have q3 := hO.2.1
                    have q4 := hR.2.2.1.2.1
                    clear hless
                    go_wp2_with fail
                    first
                      | exact unhide hEnd
                      | (rw [hnb] at hEnd; exact unhide hEnd)
                  · have hx1 : Xs.tdiv 2 = pw j * bx := by rw [← unhide HXj]; exact half_step j bx
                    have hy1 : Ys.tdiv 2 = pw j * b := by rw [← unhide HYj]; exact half_step j b
                    have hnq := hide (show ns = 4 * nn g (pw j * bx) (pw j * b) by rw [← hns, ← unhide HXj, ← unhide HYj, nn_scale, nn_scale, pw_succ]; grind)
                    have hnp := hide (nn_nonneg g (pw j * bx) (pw j * b))
                    have hnp1 := hide (show 1 ≤ nn g (pw j * bx) (pw j * b) by
                      apply nn_pos
                      rintro ⟨h1, h2⟩
                      have h3 := pw_pos j
                      refine unhide Hne ⟨?_, ?_⟩
                      · rcases Int.mul_eq_zero.1 h1 with h | h
                        · omega
                        · exact h
                      · rcases Int.mul_eq_zero.1 h2 with h | h
                        · omega
                        · exact h)
                    have hb1 : -4194304 ≤ pw j * bx ∧ pw j * bx ≤ 4194304 := by
                      have h1 := unhide HXj
                      rw [pw_succ, Int.mul_assoc] at h1
                      omega
                    have hb2 : -4194304 ≤ pw j * b ∧ pw j * b ≤ 4194304 := by
                      have h1 := unhide HYj
                      rw [pw_succ, Int.mul_assoc] at h1
                      omega
                    have hw1 : IntKind.i64.wrap (Xs.tdiv 2) = pw j * bx := by rw [hx1]; exact (Go.IntWalk.i64_left _).trans (Go.IntWalk.wrap64_in _ (by omega))
                    have hw2 : IntKind.i64.wrap (Ys.tdiv 2) = pw j * b := by rw [hy1]; exact (Go.IntWalk.i64_left _).trans (Go.IntWalk.wrap64_in _ (by omega))
                    have hneq : ¬ (Xs = bx ∧ Ys = b) := by
                      rintro ⟨h1, h2⟩
                      apply unhide Hne
                      refine ⟨?_, ?_⟩
                      · by_cases h : bx = 0
                        · exact h
                        · exact absurd ((unhide HXj).trans h1) (step_ne j bx h)
                      · by_cases h : b = 0
                        · exact h
                        · exact absurd ((unhide HYj).trans h2) (step_ne j b h)
                    have q3 := hO.2.1
                    have q5 := hO.2.2
                    have q4 := hR.2.2.1.2.1
                    generalize hXh : pw j * bx = Xh at *
                    generalize hYh : pw j * b = Yh at *
                    have HXh := hide hXh
                    have HYh := hide hYh
                    clear hXh hYh
                    have hR8 := hR.far bs (by omega) Xh Yh
                    have hO8 := hO.set Xh Yh
                    by_cases hz : Xs = bx
                    · have hz2 : (Ys == b) = false := by simp; exact fun h => hneq ⟨hz, h⟩
                      have hz1 : (Xs == bx) = true := by simp [hz]
                      clear hz hneq
                      go_wp2_with fail
                      go_roundw
                      case rel => exact ⟨j, x', y', false, rfl, hR8, by rw [unhide HXh, unhide HYh]; exact hO8, by rw [unhide HXh, unhide HYh]; have := unhide hnq; have := unhide hnp; have := unhide HMs; omega, unhide HC, Or.inl ⟨rfl, rfl, rfl⟩⟩
                      case measure => 
                          rw [cellInt_of hO8.2.1.1, cellInt_of hO8.2.1.2, cellInt_of (unhide HOp).2.1.1, cellInt_of (unhide HOp).2.1.2, hns]
                          have := unhide hnq
                          have := unhide hnp1
                          omega
                    · have hz1 : (Xs == bx) = false := by simp [hz]
                      go_wp2_with fail
                      go_roundw
                      case rel => exact ⟨j, x', y', false, rfl, hR8, by rw [unhide HXh, unhide HYh]; exact hO8, by rw [unhide HXh, unhide HYh]; have := unhide hnq; have := unhide hnp; have := unhide HMs; omega, unhide HC, Or.inl ⟨rfl, rfl, rfl⟩⟩
                      case measure => 
                          rw [cellInt_of hO8.2.1.1, cellInt_of hO8.2.1.2, cellInt_of (unhide HOp).2.1.1, cellInt_of (unhide HOp).2.1.2, hns]
                          have := unhide hnq
                          have := unhide hnp1
                          omega
end Go.Proofs.Ytfopjkcnfngbpaa
