/-
  What Order of package plane, and the reference's Order and Inverse, answer, out of what they call, in plain variables.
-/
import Derived.Test.YtfopjkcnfngbpaaRefB
namespace Go.Proofs.Ytfopjkcnfngbpaa
open Go.RowKit

def OrderIs (F' : Nat) (g t : Int) (f : Bool) (x y n er : Int) : Prop := ∀ W : World, Calls Try.prog F' #[.int .i64 g, .agg #[.int .i64 t, .bool f, .int .i64 x, .int .i64 y]] W fun e w' => e = .returned (.tuple #[.int .i64 n, .int .i64 er]) ∧ Below W.heap.size W w'

theorem OwnM.set {W : World} {b : Nat} {t : Int} {f : Bool} {x y : Int} (h : OwnM W b t f x y) (t' : Int) (f' : Bool) (x' y' : Int) : OwnM ((((W.setCell ⟨b, 0, none⟩ (.int .i64 t')).setCell ⟨b, 1, none⟩ (.bool f')).setCell ⟨b, 2, none⟩ (.int .i64 x')).setCell ⟨b, 3, none⟩ (.int .i64 y')) b t' f' x' y' := by
  obtain ⟨h1, ⟨h2, h3, h4, h5⟩, h6, h7, h8, h9⟩ := h
  exact ⟨by simpa using h1, ⟨by simp [go_sem, h2], by simp [go_sem, h3], by simp [go_sem, h4], by simp [go_sem, h5]⟩, by simp [go_sem, h6], by simp [go_sem, h7], by simp [go_sem, h8], by simp [go_sem, h9]⟩

/-- the n-th of some moves moves nothing -/
def isId (xT : Nat → Int) (xF : Nat → Bool) (xX xY : Nat → Int) (n : Nat) : Prop := xT n = 0 ∧ xF n = false ∧ xX n = 0 ∧ xY n = 0
/-- r is the first from 1 to N that moves nothing; 0, where there is none -/
def firstId (xT : Nat → Int) (xF : Nat → Bool) (xX xY : Nat → Int) (N : Nat) (r : Int) : Prop :=
  (∃ n : Nat, 1 ≤ n ∧ n ≤ N ∧ r = n ∧ isId xT xF xX xY n ∧ ∀ m, 1 ≤ m → m < n → ¬ isId xT xF xX xY m) ∨ (r = 0 ∧ ∀ m, 1 ≤ m → m ≤ N → ¬ isId xT xF xX xY m)
theorem firstId_hit {xT : Nat → Int} {xF : Nat → Bool} {xX xY : Nat → Int} {N : Nat} {r : Int} (h : firstId xT xF xX xY N r) (k : Nat) (hk : k + 1 ≤ N) (hp : isId xT xF xX xY (k + 1)) (hn : ∀ m, 1 ≤ m → m ≤ k → ¬ isId xT xF xX xY m) : r = ((k + 1 : Nat) : Int) := by
  rcases h with ⟨n, h1, h2, h3, h4, h5⟩ | ⟨_, h2⟩
  · rw [h3]
    by_cases e : n = k + 1
    · rw [e]
    · by_cases l : n ≤ k
      · exact absurd h4 (hn n h1 l)
      · exact absurd hp (h5 (k + 1) (by omega) (by omega))
  · exact absurd hp (h2 (k + 1) (by omega) hk)
theorem firstId_none {xT : Nat → Int} {xF : Nat → Bool} {xX xY : Nat → Int} {N : Nat} {r : Int} (h : firstId xT xF xX xY N r) (hn : ∀ m, 1 ≤ m → m ≤ N → ¬ isId xT xF xX xY m) : r = 0 := by
  rcases h with ⟨n, h1, h2, _, h4, _⟩ | ⟨h, _⟩
  · exact absurd h4 (hn n h1 h2)
  · exact h
theorem notId_step {xT : Nat → Int} {xF : Nat → Bool} {xX xY : Nat → Int} {k : Nat} (hn : ∀ m, 1 ≤ m → m ≤ k → ¬ isId xT xF xX xY m) (h : ¬ isId xT xF xX xY (k + 1)) : ∀ m, 1 ≤ m → m ≤ k + 1 → ¬ isId xT xF xX xY m := fun m h1 h2 => by
  by_cases e : m = k + 1
  · rw [e]; exact h
  · exact hn m h1 (by omega)

set_option maxHeartbeats 1000000 in
theorem order_err (g t : Int) (f : Bool) (x y er : Int) (W1 : WrongIs g t f x y er) (hp : 1 ≤ er) : OrderIs 22 g t f x y 0 er := by
  intro w
  go_enter Try.func22, Try.ntmps22
  go_wp2_with fail
  refine (W1 _).mono ?_
  rintro e w1 ⟨rfl, hb⟩
  go_wp2
  go_ret2
  exact ⟨rfl, btrans (bal (Below.refl _ _)) hb⟩

set_option maxHeartbeats 1000000 in
theorem rorder_err (g t : Int) (f : Bool) (x y er : Int) (W1 : RWrongIs g t f x y er) (hp : 1 ≤ er) : OrderIs 23 g t f x y 0 er := by
  intro w
  go_enter Try.func23, Try.ntmps23
  go_wp2_with fail
  refine (W1 _).mono ?_
  rintro e w1 ⟨rfl, hb⟩
  go_wp2
  go_ret2
  exact ⟨rfl, btrans (bal (Below.refl _ _)) hb⟩

theorem ret2 {a b : Int} (h : a = b) : Ending.returned (.tuple #[.int .i64 a, .int .i64 0]) = .returned (.tuple #[.int .i64 b, .int .i64 0]) := by rw [h]

set_option maxRecDepth 100000 in
set_option maxHeartbeats 4000000 in
theorem order_ok (g : Nat) (t : Int) (f : Bool) (x y : Int) (xT : Nat → Int) (xF : Nat → Bool) (xX xY : Nat → Int) (r : Int) (hg : g ≤ 6) (W1 : WrongIs g t f x y 0) (h1 : Hid (xT 1 = t ∧ xF 1 = f ∧ xX 1 = x ∧ xY 1 = y))
    (C : Hid (∀ k, 1 ≤ k → k ≤ 6 → ComposedIs g t f x y (xT k) (xF k) (xX k) (xY k) (xT (k + 1)) (xF (k + 1)) (xX (k + 1)) (xY (k + 1)))) (R : Hid (firstId xT xF xX xY g r)) : OrderIs 22 g t f x y r 0 := by
  intro w
  go_enter Try.func22, Try.ntmps22
  go_wp2_with fail
  refine (W1 _).mono ?_
  rintro e w1 ⟨rfl, hb⟩
  have M1 := (OwnM.new w t f x y 31).keep hb
  have S1 := btrans (bal (Below.refl _ _)) hb
  have hab : w.heap.size < w1.heap.size := M1.1
  clear hb
  have q0 := M1.2.1
  go_wp2_with fail
  clear q0
  go_loopw [17] (fun i W => ∃ k : Nat, i = .int .i64 k ∧ k ≤ g ∧ Below w.heap.size w W ∧ w.heap.size < w1.heap.size ∧ OwnM W w.heap.size t f x y ∧ OwnM W w1.heap.size (xT (k + 1)) (xF (k + 1)) (xX (k + 1)) (xY (k + 1)) ∧ ∀ m, 1 ≤ m → m ≤ k → ¬ isId xT xF xX xY m) (fun i _ => g - (intOf i).toNat)
  case atStart => exact ⟨0, rfl, Nat.zero_le _, bal S1, hab, M1.alloc _, by rw [(unhide h1).1, (unhide h1).2.1, (unhide h1).2.2.1, (unhide h1).2.2.2]; exact OwnM.new w1 t f x y 31, fun m a b => by omega⟩
  case round =>
    clear M1 S1
    obtain ⟨k, rfl, hk, hbel, _, M, A, hn⟩ := hrel
    have Hn := hide hn
    clear hn
    by_cases hlt : k < g
    · have Ck := unhide C (k + 1) (by omega) (by omega)
      generalize hT : xT (k + 1) = Tn at *
      generalize hF : xF (k + 1) = Fn at *
      generalize hX : xX (k + 1) = Xn at *
      generalize hY : xY (k + 1) = Yn at *
      have HT := hide hT
      have HF := hide hF
      have HX := hide hX
      have HY := hide hY
      clear hT hF hX hY
      by_cases z1 : Tn = 0
      · subst z1
        cases Fn with
        | true =>
          have Hn2 := hide (notId_step (unhide Hn) (fun e => absurd ((unhide HF).symm.trans e.2.1) (by decide)))
          have q0 := M.2.1
          have q1 := A.2
          go_wp2_with fail
          clear q0 q1
          refine (Ck _).mono ?_
          rintro e w2 ⟨rfl, hb2⟩
          have M2 := M.keep hb2
          have A2 := A.keep hb2
          have hb3 := btrans hbel hb2
          clear M A hbel hb2
          have q1 := A2.2
          go_wp2
          go_roundw
          case rel => exact ⟨k + 1, by go_num, by omega, bset (bset (bset (bset hb3 (by dsimp only; omega)) (by dsimp only; omega)) (by dsimp only; omega)) (by dsimp only; omega), hab, (((M2.far (by omega)).far (by omega)).far (by omega)).far (by omega), A2.set _ _ _ _, unhide Hn2⟩
          case measure => simp [intOf]; omega
        | false =>
          by_cases z2 : Xn = 0
          · subst z2
            by_cases z3 : Yn = 0
            · subst z3
              have hr := hide (firstId_hit (unhide R) k (by omega) ⟨unhide HT, unhide HF, unhide HX, unhide HY⟩ (unhide Hn))
              have q1 := A.2.1
              go_wp2
              go_ret2
              exact ⟨ret2 (by rw [unhide hr]; go_num), hbel⟩
            · have z4 : (Yn == 0) = false := by simp [z3]
              have Z3 := hide z3
              clear z3
              have Hn2 := hide (notId_step (unhide Hn) (fun e => unhide Z3 ((unhide HY).symm.trans e.2.2.2)))
              have q0 := M.2.1
              have q1 := A.2
              go_wp2_with fail
              clear q0 q1
              refine (Ck _).mono ?_
              rintro e w2 ⟨rfl, hb2⟩
              have M2 := M.keep hb2
              have A2 := A.keep hb2
              have hb3 := btrans hbel hb2
              clear M A hbel hb2
              have q1 := A2.2
              go_wp2
              go_roundw
              case rel => exact ⟨k + 1, by go_num, by omega, bset (bset (bset (bset hb3 (by dsimp only; omega)) (by dsimp only; omega)) (by dsimp only; omega)) (by dsimp only; omega), hab, (((M2.far (by omega)).far (by omega)).far (by omega)).far (by omega), A2.set _ _ _ _, unhide Hn2⟩
              case measure => simp [intOf]; omega
          · have z4 : (Xn == 0) = false := by simp [z2]
            have Z2 := hide z2
            clear z2
            have Hn2 := hide (notId_step (unhide Hn) (fun e => unhide Z2 ((unhide HX).symm.trans e.2.2.1)))
            have q0 := M.2.1
            have q1 := A.2
            go_wp2_with fail
            clear q0 q1
            refine (Ck _).mono ?_
            rintro e w2 ⟨rfl, hb2⟩
            have M2 := M.keep hb2
            have A2 := A.keep hb2
            have hb3 := btrans hbel hb2
            clear M A hbel hb2
            have q1 := A2.2
            go_wp2
            go_roundw
            case rel => exact ⟨k + 1, by go_num, by omega, bset (bset (bset (bset hb3 (by dsimp only; omega)) (by dsimp only; omega)) (by dsimp only; omega)) (by dsimp only; omega), hab, (((M2.far (by omega)).far (by omega)).far (by omega)).far (by omega), A2.set _ _ _ _, unhide Hn2⟩
            case measure => simp [intOf]; omega
      · have z4 : (Tn == 0) = false := by simp [z1]
        have Z1 := hide z1
        clear z1
        have Hn2 := hide (notId_step (unhide Hn) (fun e => unhide Z1 ((unhide HT).symm.trans e.1)))
        have q0 := M.2.1
        have q1 := A.2
        go_wp2_with fail
        clear q0 q1
        refine (Ck _).mono ?_
        rintro e w2 ⟨rfl, hb2⟩
        have M2 := M.keep hb2
        have A2 := A.keep hb2
        have hb3 := btrans hbel hb2
        clear M A hbel hb2
        have q1 := A2.2
        go_wp2
        go_roundw
        case rel => exact ⟨k + 1, by go_num, by omega, bset (bset (bset (bset hb3 (by dsimp only; omega)) (by dsimp only; omega)) (by dsimp only; omega)) (by dsimp only; omega), hab, (((M2.far (by omega)).far (by omega)).far (by omega)).far (by omega), A2.set _ _ _ _, unhide Hn2⟩
        case measure => simp [intOf]; omega
    · have e : k = g := by omega
      subst e
      have cl : ¬ ((k : Int) < (k : Int)) := by omega
      have hr := hide (firstId_none (unhide R) (unhide Hn))
      go_wp2
      go_ret2
      exact ⟨ret2 (unhide hr).symm, hbel⟩

set_option maxRecDepth 100000 in
set_option maxHeartbeats 4000000 in
theorem rorder_ok (g : Int) (t : Int) (f : Bool) (x y : Int) (xT : Nat → Int) (xF : Nat → Bool) (xX xY : Nat → Int) (r : Int) (W1 : RWrongIs g t f x y 0) (h0 : Hid (xT 0 = 0 ∧ xF 0 = false ∧ xX 0 = 0 ∧ xY 0 = 0))
    (C : Hid (∀ k, k ≤ 6 → ThenIs g t f x y (xT k) (xF k) (xX k) (xY k) (xT (k + 1)) (xF (k + 1)) (xX (k + 1)) (xY (k + 1)))) (R : Hid (firstId xT xF xX xY 6 r)) : OrderIs 23 g t f x y r 0 := by
  intro w
  go_enter Try.func23, Try.ntmps23
  go_wp2_with fail
  refine (W1 _).mono ?_
  rintro e w1 ⟨rfl, hb⟩
  have M1 := (OwnM.new w t f x y 31).keep hb
  have S1 := btrans (bal (Below.refl _ _)) hb
  have hab : w.heap.size < w1.heap.size := M1.1
  clear hb
  go_wp2_with fail
  go_loopw [8] (fun i W => ∃ k : Nat, i = .int .i64 (k + 1) ∧ k ≤ 6 ∧ Below w.heap.size w W ∧ w.heap.size < w1.heap.size ∧ OwnM W w.heap.size t f x y ∧ OwnM W w1.heap.size (xT k) (xF k) (xX k) (xY k) ∧ ∀ m, 1 ≤ m → m ≤ k → ¬ isId xT xF xX xY m) (fun i _ => 8 - (intOf i).toNat)
  case atStart => exact ⟨0, rfl, Nat.zero_le _, bal S1, hab, M1.alloc _, by rw [(unhide h0).1, (unhide h0).2.1, (unhide h0).2.2.1, (unhide h0).2.2.2]; exact OwnM.new w1 0 false 0 0 31, fun m a b => by omega⟩
  case round =>
    clear M1 S1
    obtain ⟨k, rfl, hk, hbel, _, M, A, hn⟩ := hrel
    have Hn := hide hn
    clear hn
    by_cases hlt : k < 6
    · have Ck := unhide C k (by omega)
      generalize xT k = T0 at *
      generalize xF k = F0 at *
      generalize xX k = X0 at *
      generalize xY k = Y0 at *
      generalize hT : xT (k + 1) = Tn at *
      generalize hF : xF (k + 1) = Fn at *
      generalize hX : xX (k + 1) = Xn at *
      generalize hY : xY (k + 1) = Yn at *
      have HT := hide hT
      have HF := hide hF
      have HX := hide hX
      have HY := hide hY
      clear hT hF hX hY
      have q0 := M.2.1
      have q1 := A.2
      go_wp2_with fail
      clear q0 q1
      refine (Ck _).mono ?_
      rintro e w2 ⟨rfl, hb2⟩
      have M2 := M.keep hb2
      have A2 := A.keep hb2
      have hb3 := btrans hbel hb2
      clear M A hbel hb2
      by_cases z1 : Tn = 0
      · subst z1
        cases Fn with
        | true =>
          have Hn2 := hide (notId_step (unhide Hn) (fun e => absurd ((unhide HF).symm.trans e.2.1) (by decide)))
          have q1 := A2.2
          go_wp2
          go_roundw
          case rel => exact ⟨k + 1, by go_num, by omega, bset (bset (bset (bset hb3 (by dsimp only; omega)) (by dsimp only; omega)) (by dsimp only; omega)) (by dsimp only; omega), hab, (((M2.far (by omega)).far (by omega)).far (by omega)).far (by omega), by rw [unhide HT, unhide HF, unhide HX, unhide HY]; exact A2.set _ _ _ _, unhide Hn2⟩
          case measure => simp [intOf]; omega
        | false =>
          by_cases z2 : Xn = 0
          · subst z2
            by_cases z3 : Yn = 0
            · subst z3
              have hr := hide (firstId_hit (unhide R) k (by omega) ⟨unhide HT, unhide HF, unhide HX, unhide HY⟩ (unhide Hn))
              have q1 := A2.2
              go_wp2
              go_ret2
              exact ⟨ret2 (by rw [unhide hr]; go_num), bset (bset (bset (bset hb3 (by dsimp only; omega)) (by dsimp only; omega)) (by dsimp only; omega)) (by dsimp only; omega)⟩
            · have z4 : (Yn == 0) = false := by simp [z3]
              have Z3 := hide z3
              clear z3
              have Hn2 := hide (notId_step (unhide Hn) (fun e => unhide Z3 ((unhide HY).symm.trans e.2.2.2)))
              have q1 := A2.2
              go_wp2
              go_roundw
              case rel => exact ⟨k + 1, by go_num, by omega, bset (bset (bset (bset hb3 (by dsimp only; omega)) (by dsimp only; omega)) (by dsimp only; omega)) (by dsimp only; omega), hab, (((M2.far (by omega)).far (by omega)).far (by omega)).far (by omega), by rw [unhide HT, unhide HF, unhide HX, unhide HY]; exact A2.set _ _ _ _, unhide Hn2⟩
              case measure => simp [intOf]; omega
          · have z4 : (Xn == 0) = false := by simp [z2]
            have Z2 := hide z2
            clear z2
            have Hn2 := hide (notId_step (unhide Hn) (fun e => unhide Z2 ((unhide HX).symm.trans e.2.2.1)))
            have q1 := A2.2
            go_wp2
            go_roundw
            case rel => exact ⟨k + 1, by go_num, by omega, bset (bset (bset (bset hb3 (by dsimp only; omega)) (by dsimp only; omega)) (by dsimp only; omega)) (by dsimp only; omega), hab, (((M2.far (by omega)).far (by omega)).far (by omega)).far (by omega), by rw [unhide HT, unhide HF, unhide HX, unhide HY]; exact A2.set _ _ _ _, unhide Hn2⟩
            case measure => simp [intOf]; omega
      · have z4 : (Tn == 0) = false := by simp [z1]
        have Z1 := hide z1
        clear z1
        have Hn2 := hide (notId_step (unhide Hn) (fun e => unhide Z1 ((unhide HT).symm.trans e.1)))
        have q1 := A2.2
        go_wp2
        go_roundw
        case rel => exact ⟨k + 1, by go_num, by omega, bset (bset (bset (bset hb3 (by dsimp only; omega)) (by dsimp only; omega)) (by dsimp only; omega)) (by dsimp only; omega), hab, (((M2.far (by omega)).far (by omega)).far (by omega)).far (by omega), by rw [unhide HT, unhide HF, unhide HX, unhide HY]; exact A2.set _ _ _ _, unhide Hn2⟩
        case measure => simp [intOf]; omega
    · have e : k = 6 := by omega
      subst e
      have hr := hide (firstId_none (unhide R) (unhide Hn))
      go_wp2
      go_ret2
      exact ⟨ret2 (unhide hr).symm, hbel⟩

end Go.Proofs.Ytfopjkcnfngbpaa
