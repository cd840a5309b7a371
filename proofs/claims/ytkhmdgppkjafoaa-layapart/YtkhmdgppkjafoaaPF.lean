/-
  What is asked first; LayBound's walk.
-/
import Derived.Test.YtkhmdgppkjafoaaPE
namespace Go.Proofs.Ytkhmdgppkjafoaa
open Go.RowKit

theorem one_piece (W : World) : Ps (W.alloc (.cells #[.int .i64 2, .int .i64 5] 33)) (some ⟨W.heap.size, 0, none⟩) 1 (fun k => (((fun _ => 2 : Nat → Nat) k : Nat) : Int)) (fun k => (((fun _ => 5 : Nat → Nat) k : Nat) : Int)) :=
  .inr ⟨W.heap.size, 0, rfl, by simp, fun k hk => by obtain rfl : k = 0 := by omega
                                                     exact ⟨by simp [go_sem], by simp [go_sem]⟩⟩
theorem one_right : Rg 3 1 (fun _ => 2) (fun _ => 5) := ⟨by omega, by omega, fun _ _ => by omega⟩
set_option maxHeartbeats 1000000 in
theorem alive_any (W : World) : Calls Try.prog 11 #[] W fun e V => e = .returned (.bool true) ∧ Below W.heap.size W V := by
  have HC := hide (lay_ok 3 (some ⟨W.heap.size, 0, none⟩) 1 1 _ _ one_right _ (one_piece W))
  have Hb := hide (bnew W (.cells #[.int .i64 2, .int .i64 5] 33))
  go_enter Try.func11, Try.ntmps11
  go_wp2_with fail
  refine (unhide HC).mono ?_
  rintro e w1 ⟨b, g, rfl, hG, hp, hb1⟩
  have e1 : (shs 3 (fun _ => 2) (fun _ => 5) g 1).t = 5 := rfl
  rw [e1]
  have Hb2 := hide (btrans (unhide Hb) hb1)
  clear hG hp hb1 e1 HC Hb
  go_wp2
  go_ret
  exact ⟨rfl, unhide Hb2⟩

theorem wnat (x : Nat) (h : x ≤ 9223372036854775807) : wrap64 (x : Int) = (x : Int) := Go.IntWalk.wrap64_in _ (by omega)
/-- the greatest height of the first so many -/
def mo (h : Nat → Nat) : Nat → Nat
  | 0 => 0
  | n + 1 => if mo h n < h n then h n else mo h n
theorem mo_le (h : Nat → Nat) : ∀ n k, k < n → h k ≤ mo h n
  | 0, k, hk => by omega
  | n + 1, k, hk => by
    have := mo_le h n
    unfold mo
    by_cases e : k = n
    · subst e; split <;> omega
    · have h1 := this k (by omega)
      split <;> omega
theorem mo_max {h : Nat → Nat} {c : Nat} : ∀ n, (∀ k, k < n → h k ≤ c) → mo h n ≤ c
  | 0, _ => Nat.zero_le _
  | n + 1, hk => by
    have h1 := mo_max n (fun k k1 => hk k (by omega))
    have h2 := hk n (by omega)
    unfold mo
    split <;> omega
theorem ar_max {wide n : Nat} {w h : Nat → Nat} (r : Rg wide n w h) {k : Nat} (hk : k ≤ n) : sm (fun i => w i * h i) k ≤ 281474976710656 := by
  have h1 := sm_le (f := fun i => w i * h i) (c := 1048576 * 1048576) k (fun j hj => Nat.mul_le_mul (by have := r.each j (by omega); have := r.wide; omega) (r.each j (by omega)).2.2.2)
  have h2 := r.many
  have h3 : k * (1048576 * 1048576) ≤ 256 * (1048576 * 1048576) := Nat.mul_le_mul_right _ (by omega)
  omega

set_option maxRecDepth 100000 in
set_option maxHeartbeats 4000000 in
theorem bound_any (wide : Int) (q : Option Addr) (n cap : Nat) (a b : Nat → Int) (W : World) (hP : Ps W q n a b) : Calls Try.prog 5 #[.int .i64 wide, .slice q n cap] W fun e V => e = .returned (.bool true) ∧ Below W.heap.size W V := by
  by_cases he : wE wide n a b = 0
  · obtain ⟨wd, w, h, rfl, hE, r⟩ := wE_ok he
    have hP2 := hP.congr hE
    have HC := hide (fun V (hb : Below W.heap.size W V) => lay_ok wd q n cap w h r V (hP2.keep hb))
    have HP := hide hP2
    have Hr := hide r
    have hn := r.many
    have hw := r.wide
    clear he hE r hP hP2
    go_enter Try.func5, Try.ntmps5
    go_wp2_with fail
    refine (alive_any _).mono ?_
    rintro e w1 ⟨rfl, hb1⟩
    have Hb1 := hide hb1
    clear hb1
    go_wp2_with fail
    refine (unhide HC _ (unhide Hb1)).mono ?_
    rintro e w2 ⟨pb, g, rfl, hG, -, hb2⟩
    have Hb2 := hide (btrans (unhide Hb1) hb2)
    have Hbd := hide (lay_bound (M := mo h n) (unhide Hr) hG (mo_le h n))
    obtain ⟨t, ht⟩ : ∃ t, t = (shs wd w h g n).t := ⟨_, rfl⟩
    rw [← ht] at Hbd
    rw [← ht]
    have ht2 : t ≤ 268435456 := by rw [ht]; have := (gd_any (unhide Hr) hG n (Nat.le_refl _)).high.2; omega
    clear hG hb2 ht HC Hb1
    go_wp2
    go_loopw [8, 9, 25] (fun s m i wr => ∃ x : Nat, x ≤ n ∧ i = .int .i64 (x : Int) ∧ s = .int .i64 ((sm (fun i => w i * h i) x : Nat) : Int) ∧ m = .int .i64 ((mo h x : Nat) : Int) ∧ Below W.heap.size W wr) (fun _ _ i _ => n - (intOf i).toNat)
    case atStart => exact ⟨0, Nat.zero_le _, rfl, rfl, rfl, unhide Hb2⟩
    case round =>
      clear Hb2
      obtain ⟨x, hx, rfl, rfl, rfl, hb⟩ := hrel
      by_cases hlt : x < n
      · obtain ⟨ad0, oo, rfl, k0, k1⟩ := ((unhide HP).keep hb).at hlt
        have q0 : (x : Int) < (n : Int) := by omega
        have q1 : (0 : Int) ≤ (x : Int) := by omega
        have HB := hide (B2.new wr (w x : Int) (h x : Int) 33)
        have Hb1 := hide (bal (o := .cells #[.int .i64 (w x : Int), .int .i64 (h x : Int)] 33) hb)
        have Hea := hide ((unhide Hr).each x hlt)
        have Hs := hide (show sm (fun i => w i * h i) (x + 1) = sm (fun i => w i * h i) x + w x * h x from rfl)
        have Hm := hide (show mo h (x + 1) = if mo h x < h x then h x else mo h x from rfl)
        have Ha := hide (ar_max (unhide Hr) (show x + 1 ≤ n from hlt))
        clear hb
        obtain ⟨u, hu⟩ : ∃ u, u = w x := ⟨_, rfl⟩
        obtain ⟨v, hv⟩ : ∃ v, v = h x := ⟨_, rfl⟩
        rw [← hu] at k0
        rw [← hv] at k1
        rw [← hu, ← hv] at HB Hb1 Hs Hea
        rw [← hv] at Hm
        clear hu hv
        go_upto_region 10 with fail
        generalize wr.alloc (.cells #[.int .i64 (u : Int), .int .i64 (v : Int)] 33) = w3 at *
        generalize wr.heap.size = n11 at *
        clear k0 k1
        have i0 := (unhide HB).2.1
        have i1 := (unhide HB).2.2
        obtain ⟨A, hA⟩ : ∃ A, A = sm (fun i => w i * h i) x := ⟨_, rfl⟩
        obtain ⟨A', hA'⟩ : ∃ A', A' = sm (fun i => w i * h i) (x + 1) := ⟨_, rfl⟩
        obtain ⟨M, hM⟩ : ∃ M, M = mo h x := ⟨_, rfl⟩
        rw [← hA, ← hA'] at Hs
        rw [← hA'] at Ha
        rw [← hM] at Hm
        rw [← hA, ← hM]
        obtain ⟨z, hz⟩ : ∃ z, z = u * v := ⟨_, rfl⟩
        have hz1 : A + z = A' := by rw [hz]; exact (unhide Hs).symm
        have hA1 : A' ≤ 281474976710656 := unhide Ha
        have e1 : wrap64 ((u : Int) * (v : Int)) = (z : Int) := by rw [← Int.natCast_mul, ← hz]; exact wnat _ (by omega)
        have e2 : (A : Int) + (z : Int) = (A' : Int) := by omega
        have Hz := hide hz1
        have HA' := hide hA'
        clear hz hz1 hA hA' hM Hs Ha
        by_cases c : M < v
        · have c' : (M : Int) < (v : Int) := by omega
          go_wp2
          clear e1 e2
          go_roundw
          case rel => exact ⟨x + 1, by omega, by go_num, by rw [← unhide HA'], by rw [unhide Hm, if_pos c], unhide Hb1⟩
          case measure => simp [intOf]; omega
        · have c' : ¬ (M : Int) < (v : Int) := by omega
          go_wp2
          clear e1 e2
          go_roundw
          case rel => exact ⟨x + 1, by omega, by go_num, by rw [← unhide HA'], by rw [unhide Hm, if_neg c], unhide Hb1⟩
          case measure => simp [intOf]; omega
      · obtain rfl : n = x := by omega
        have cl : ¬ ((n : Int) < (n : Int)) := by omega
        have Hb := hide hb
        have HM := hide (mo_max (h := h) n (fun k hk => ((unhide Hr).each k hk).2.2.2))
        have Ha := hide (ar_max (unhide Hr) (Nat.le_refl n))
        clear hb
        generalize sm (fun i => w i * h i) n = A at *
        generalize mo h n = M at *
        obtain ⟨y, hy⟩ : ∃ y, y = t * wd := ⟨_, rfl⟩
        obtain ⟨m, hm⟩ : ∃ m, m = M * wd := ⟨_, rfl⟩
        have hy2 : y ≤ 281474976710656 := by rw [hy]; exact Nat.le_trans (Nat.mul_le_mul ht2 hw.2) (by decide)
        have hm2 : m ≤ 1099511627776 := by rw [hm]; exact Nat.le_trans (Nat.mul_le_mul (unhide HM) hw.2) (by decide)
        have e1 : wrap64 ((t : Int) * (wd : Int)) = (y : Int) := by rw [← Int.natCast_mul, ← hy]; exact wnat _ (by omega)
        have e3 : wrap64 ((M : Int) * (wd : Int)) = (m : Int) := by rw [← Int.natCast_mul, ← hm]; exact wnat _ (by omega)
        have Hbd2 := hide (show y ≤ 2 * A + m ∧ A ≤ y by have := unhide Hbd; rw [← hy, ← hm] at this; exact this)
        obtain ⟨A2, hA2⟩ : ∃ A2, A2 = 2 * A := ⟨_, rfl⟩
        obtain ⟨A3, hA3⟩ : ∃ A3, A3 = A2 + m := ⟨_, rfl⟩
        have hA1 : A ≤ 281474976710656 := unhide Ha
        have e4 : 2 * (A : Int) = (A2 : Int) := by omega
        have e5 : (A2 : Int) + (m : Int) = (A3 : Int) := by omega
        have f1 : (y : Int) ≤ (A3 : Int) := by have := unhide Hbd2; omega
        have f2 : (A : Int) ≤ (y : Int) := by have := unhide Hbd2; omega
        have f1' : decide ((y : Int) ≤ (A3 : Int)) = true := decide_eq_true f1
        have f2' : decide ((A : Int) ≤ (y : Int)) = true := decide_eq_true f2
        have b2 : (A2 : Int) ≤ 562949953421312 := by omega
        have b3 : (A3 : Int) ≤ 564049465049088 := by omega
        clear hy hm hA2 hA3 Hbd HM Ha hA1
        go_wp2
        go_ret
        exact ⟨ret_bool (by simp), unhide Hb⟩
  · have HC := hide (fun V (hb : Below W.heap.size W V) => lay_err wide q n cap a b V (hP.keep hb) he)
    generalize wE wide n a b = er at *
    have h1 : (er != 0) = true := by simpa using he
    clear hP he
    go_enter Try.func5, Try.ntmps5
    go_wp2_with fail
    refine (alive_any _).mono ?_
    rintro e w1 ⟨rfl, hb1⟩
    have Hb1 := hide hb1
    clear hb1
    go_wp2_with fail
    refine (unhide HC _ (unhide Hb1)).mono ?_
    rintro e w2 ⟨rfl, hb2⟩
    have Hb2 := hide (btrans (unhide Hb1) hb2)
    clear hb2 HC Hb1
    go_wp2
    go_ret
    exact ⟨rfl, unhide Hb2⟩
end Go.Proofs.Ytkhmdgppkjafoaa
