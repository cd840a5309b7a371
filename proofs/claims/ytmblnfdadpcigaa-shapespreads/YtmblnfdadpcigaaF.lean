/-
  The reference: Wrong, Ahead, Count, Spread.
-/
import Derived.Test.YtmblnfdadpcigaaD
namespace Go.Proofs.Ytmblnfdadpcigaa
open Go.RowKit

set_option maxRecDepth 100000 in
set_option maxHeartbeats 1000000 in
theorem rwrong_any (t m : Int) (er : Int) (he : er = if caB t m then 0 else 3) (W : World) : Calls Try.prog 15 #[.int .i64 t, .int .i64 m] W fun e w' => e = .returned (.int .i64 er) ∧ Below W.heap.size W w' := by
  have Hc := hide (caB_iff t m)
  by_cases c1 : t < 1
  · have d1 : decide (t < 1) = true := decide_eq_true c1
    rw [if_neg (fun h => by have := (unhide Hc).1 h; omega)] at he
    subst he
    go_enter Try.func15, Try.ntmps15
    go_wp2
    go_ret
    exact ⟨rfl, Below.refl _ _⟩
  · have d1 : decide (t < 1) = false := decide_eq_false c1
    by_cases c2 : 1048576 < t
    · have d2 : decide (1048576 < t) = true := decide_eq_true c2
      rw [if_neg (fun h => by have := (unhide Hc).1 h; omega)] at he
      subst he
      go_enter Try.func15, Try.ntmps15
      go_wp2
      go_ret
      exact ⟨rfl, Below.refl _ _⟩
    · have d2 : decide (1048576 < t) = false := decide_eq_false c2
      by_cases c3 : m < 0
      · have d3 : decide (m < 0) = true := decide_eq_true c3
        rw [if_neg (fun h => by have := (unhide Hc).1 h; omega)] at he
        subst he
        go_enter Try.func15, Try.ntmps15
        go_wp2
        go_ret
        exact ⟨rfl, Below.refl _ _⟩
      · have d3 : decide (m < 0) = false := decide_eq_false c3
        by_cases c4 : t < m
        · have d4 : decide (t < m) = true := decide_eq_true c4
          rw [if_neg (fun h => by have := (unhide Hc).1 h; omega)] at he
          subst he
          go_enter Try.func15, Try.ntmps15
          go_wp2
          go_ret
          exact ⟨rfl, Below.refl _ _⟩
        · have d4 : decide (t < m) = false := decide_eq_false c4
          rw [if_pos ((unhide Hc).2 (by omega))] at he
          subst he
          go_enter Try.func15, Try.ntmps15
          go_wp2
          go_ret
          exact ⟨rfl, Below.refl _ _⟩

theorem ah_nums (t m p x : Nat) (ht : 0 < t) (ht2 : t ≤ 1048576) (hm : m ≤ 1048576) (hp : p ≤ 1048576) (hx : x ≤ 1048576) : ∃ x2 x3 A m2 B : Nat, 2 * (x : Int) = (x2 : Int) ∧ (x2 : Int) + 1 = (x3 : Int) ∧ wrap64 ((x3 : Int) * (t : Int)) = (A : Int) ∧ 2 * (m : Int) = (m2 : Int) ∧ wrap64 ((m2 : Int) * (p : Int)) = (B : Int) ∧ (x2 : Int) ≤ 2097152 ∧ (x3 : Int) ≤ 2097153 ∧ (m2 : Int) ≤ 2097152 ∧ (A : Int) ≤ 2199024304128 ∧ (B : Int) ≤ 2199024304128 ∧ ((A : Int) < (B : Int) ↔ x < mb t m p) := by
  have h1 : (2 * x + 1) * t ≤ 2097153 * 1048576 := Nat.mul_le_mul (by omega) ht2
  have h2 : 2 * m * p ≤ 2097152 * 1048576 := Nat.mul_le_mul (by omega) hp
  have h3 := mb_lt t m p x ht
  refine ⟨2 * x, 2 * x + 1, (2 * x + 1) * t, 2 * m, 2 * m * p, by simp, by simp, ?_, by simp, ?_, by omega, by omega, by omega, by omega, by omega, by rw [h3]; omega⟩
  · rw [← Int.natCast_mul]; exact wnat _ (by omega)
  · rw [← Int.natCast_mul]; exact wnat _ (by omega)

set_option maxRecDepth 100000 in
set_option maxHeartbeats 2000000 in
theorem ahead_any (t m p : Nat) (ht : 0 < t) (ht2 : t ≤ 1048576) (hm : m ≤ t) (hp : p ≤ t) (W : World) :
    Calls Try.prog 18 #[.int .i64 t, .int .i64 m, .int .i64 p] W fun e w' => e = .returned (.int .i64 (mb t m p : Nat)) ∧ Below W.heap.size W w' := by
  have hle := mb_le t m p ht hp
  have HN := hide (fun (x : Nat) (hx : x ≤ 1048576) => ah_nums t m p x ht ht2 (by omega) (by omega) hx)
  generalize mb t m p = r at *
  go_enter Try.func18, Try.ntmps18
  go_wp2
  go_loopw [7] (fun i wr => ∃ x : Nat, x ≤ r ∧ i = .int .i64 x ∧ wr = W) (fun i _ => r - (intOf i).toNat)
  case atStart => exact ⟨0, Nat.zero_le _, rfl, rfl⟩
  case round =>
    obtain ⟨x, hx, rfl, rfl⟩ := hrel
    obtain ⟨x2, x3, A, m2, B, e1, e2, e3, e4, e5, b1, b2, b3, b4, b5, hiff⟩ := unhide HN x (by omega)
    by_cases hlt : x < r
    · have q0 : (x : Int) < (m : Int) := by omega
      have q0' : decide ((x : Int) < (m : Int)) = true := decide_eq_true q0
      have q1 : (A : Int) < (B : Int) := hiff.2 hlt
      clear hiff
      go_wp2
      clear e1 e2 e3 e4 e5
      go_roundw
      case rel => exact ⟨x + 1, by omega, by go_num, trivial⟩
      case measure => simp [intOf]; omega
    · obtain rfl : r = x := by omega
      have q1 : ¬ ((A : Int) < (B : Int)) := fun h => by have := hiff.1 h; omega
      clear hiff hlt
      by_cases q0 : (r : Int) < (m : Int)
      · have q0' : decide ((r : Int) < (m : Int)) = true := decide_eq_true q0
        go_wp2
        go_ret
        exact ⟨rfl, Below.refl _ _⟩
      · have q0' : decide ((r : Int) < (m : Int)) = false := decide_eq_false q0
        clear e1 e2 e3 e4 e5
        go_wp2
        go_ret
        exact ⟨rfl, Below.refl _ _⟩

set_option maxHeartbeats 1000000 in
theorem rcount_ok (t m p : Nat) (ht : 0 < t) (ht2 : t ≤ 1048576) (hm : m ≤ t) (hp : p ≤ t) (W : World) : AnsI 10 #[.int .i64 t, .int .i64 m, .int .i64 p] W (mb t m p : Nat) 0 := by
  unfold AnsI
  have HC := hide (fun V => rwrong_any t m 0 (by rw [if_pos ((caB_iff _ _).2 (by omega))]) V)
  have HM := hide (fun V => ahead_any t m p ht ht2 hm hp V)
  generalize mb t m p = r at *
  have c1 : ¬ ((p : Int) < 0) := by omega
  have c1' : decide ((p : Int) < 0) = false := decide_eq_false c1
  have c2 : ¬ ((t : Int) < (p : Int)) := by omega
  go_enter Try.func10, Try.ntmps10
  go_wp2_with fail
  refine (unhide HC _).mono ?_
  rintro e w1 ⟨rfl, hb1⟩
  go_wp2_with fail
  refine (unhide HM _).mono ?_
  rintro e w3 ⟨rfl, hb3⟩
  have Hb2 := hide (btrans hb1 hb3)
  clear hb3 hb1 HM HC
  go_wp2
  exact bodyPost_ret (v := .tuple #[.int .i64 (r : Int), .int .i64 0]) (by simp [results, Try.results10, go_sem]) rfl ⟨rfl, unhide Hb2⟩
set_option maxHeartbeats 1000000 in
theorem rcount_err (t m p : Int) (h : ¬ (caB t m = true ∧ wiB p 0 t = true)) (W : World) : AnsI 10 #[.int .i64 t, .int .i64 m, .int .i64 p] W 0 3 := by
  unfold AnsI
  cases h1 : caB t m with
  | false =>
    have HC := hide (fun V => rwrong_any t m 3 (by rw [h1]; rfl) V)
    clear h h1
    go_enter Try.func10, Try.ntmps10
    go_wp2_with fail
    refine (unhide HC _).mono ?_
    rintro e w1 ⟨rfl, hb1⟩
    go_wp2
    exact bodyPost_ret (v := .tuple #[.int .i64 0, .int .i64 3]) (by simp [results, Try.results10, go_sem]) rfl ⟨rfl, hb1⟩
  | true =>
    have HC := hide (fun V => rwrong_any t m 0 (by rw [h1]; rfl) V)
    have h2 : ¬ (0 ≤ p ∧ p ≤ t) := fun k => h ⟨h1, (wiB_iff _ _ _).2 k⟩
    clear h h1
    by_cases c1 : p < 0
    · have c1' : decide (p < 0) = true := decide_eq_true c1
      clear h2
      go_enter Try.func10, Try.ntmps10
      go_wp2_with fail
      refine (unhide HC _).mono ?_
      rintro e w1 ⟨rfl, hb1⟩
      go_wp2
      exact bodyPost_ret (v := .tuple #[.int .i64 0, .int .i64 3]) (by simp [results, Try.results10, go_sem]) rfl ⟨rfl, hb1⟩
    · have c1' : decide (p < 0) = false := decide_eq_false c1
      have c2 : t < p := by omega
      clear h2
      go_enter Try.func10, Try.ntmps10
      go_wp2_with fail
      refine (unhide HC _).mono ?_
      rintro e w1 ⟨rfl, hb1⟩
      go_wp2
      exact bodyPost_ret (v := .tuple #[.int .i64 0, .int .i64 3]) (by simp [results, Try.results10, go_sem]) rfl ⟨rfl, hb1⟩

/-- numbers, as a row has them -/
def fv (f : Nat → Int) (k : Nat) : List Value := (List.range k).map fun i => Value.int .i64 (f i)
theorem fv_succ (f : Nat → Int) (k : Nat) : fv f (k + 1) = fv f k ++ [.int .i64 (f k)] := by simp [fv, List.range_succ]
theorem fv_is {W : World} {B k cap : Nat} {q : Option Addr} {f : Nat → Int} (h : W.ownsRow B 3 1 (.slice q k cap) k (fv f k)) : Is W q k f := by
  rcases h.2 with ⟨hv, h0⟩ | ⟨g, c, cur, hv, _⟩
  · exact .inl h0
  · cases hv
    refine .inr ⟨g, rfl, (h.lt g rfl).2, fun j hj => ?_⟩
    rw [h.cellAt j (by omega)]
    simp [fv, hj]
theorem rs_nums (t m p : Nat) (ht : 0 < t) (ht2 : t ≤ 1048576) (hm : m ≤ t) (hp : p < t) : ∃ N m2 p1 B t2 N2 : Nat, N = (2 * mb t m p + 1) * t ∧ N2 = (2 * (mb t m p + 1) + 1) * t ∧ 2 * (m : Int) = (m2 : Int) ∧ (p : Int) + 1 = (p1 : Int) ∧ wrap64 ((m2 : Int) * (p1 : Int)) = (B : Int) ∧ 2 * (t : Int) = (t2 : Int) ∧ (N : Int) + (t2 : Int) = (N2 : Int) ∧ (N : Int) ≤ 2199024304128 ∧ (m2 : Int) ≤ 2097152 ∧ (p1 : Int) ≤ 1048576 ∧ (B : Int) ≤ 2199024304128 ∧ (t2 : Int) ≤ 2097152 ∧ (N2 : Int) ≤ 2199126401280 ∧ ((N : Int) < (B : Int) ↔ mb t m p < mb t m (p + 1)) := by
  have h0 := mb_le t m p ht (by omega)
  have h1 : (2 * mb t m p + 1) * t ≤ 2097153 * 1048576 := Nat.mul_le_mul (by omega) ht2
  have h2 : 2 * m * (p + 1) ≤ 2097152 * 1048576 := Nat.mul_le_mul (by omega) (by omega)
  have h3 := mb_lt t m (p + 1) (mb t m p) ht
  have h4 : (2 * (mb t m p + 1) + 1) * t = (2 * mb t m p + 1) * t + 2 * t := by rw [odd_mul, odd_mul, Nat.add_mul]; omega
  refine ⟨(2 * mb t m p + 1) * t, 2 * m, p + 1, 2 * m * (p + 1), 2 * t, _, rfl, rfl, by simp, by simp, ?_, by simp, by rw [h4]; simp, by omega, by omega, by omega, by omega, by omega, by omega, by rw [h3]; omega⟩
  · rw [← Int.natCast_mul]; exact wnat _ (by omega)

set_option maxRecDepth 100000 in
set_option maxHeartbeats 2000000 in
theorem rspread_ok (t m : Nat) (ht : 0 < t) (ht2 : t ≤ 1048576) (hm : m ≤ t) (W : World) : AnsN 7 #[.int .i64 t, .int .i64 m] W m (fun i => (sp t m i : Nat)) 0 := by
  unfold AnsN
  obtain ⟨i0, hi, hz0, hz1, hz2⟩ := info_parts info3
  have HC := hide (fun V => rwrong_any t m 0 (by rw [if_pos ((caB_iff _ _).2 (by omega))]) V)
  have HN := hide (fun (p : Nat) (hp : p < t) => rs_nums t m p ht ht2 hm hp)
  have HL := hide (fun (p : Nat) (hp : p ≤ t) => mb_le t m p ht hp)
  have HA := hide (mb_all t m ht)
  have HZ := hide (mb_zero t m ht)
  have HI := hide (fun (p : Nat) (h1 : 0 < m) h => sp_is t m p ht h1 h)
  have HT := hide (fun p => (⟨mb_mono t m p ht, mb_step t m p ht hm⟩ : _ ∧ _))
  have e0 : ((2 * mb t m 0 + 1) * t : Nat) = t := by rw [mb_zero t m ht]; omega
  have H0 := hide e0
  clear e0
  generalize sp t m = sq at *
  generalize mb t m = mq at *
  go_enter Try.func7, Try.ntmps7
  go_wp2_with fail
  refine (unhide HC _).mono ?_
  rintro e w1 ⟨rfl, hb1⟩
  have HB := hide hb1
  have hsw := hb1.size
  clear hb1 HC
  go_wp2
  go_loopw [7, 8, 9] (fun v nx i wr => ∃ (p k cp : Nat) (q : Option Addr), p ≤ t ∧ k = mq p ∧ i = .int .i64 p ∧ nx = .int .i64 ((2 * k + 1) * t : Nat) ∧ v = .slice q k cp ∧ wr.ownsRow W.heap.size 3 1 (.slice q k cp) k (fv (fun i => (sq i : Nat)) k) ∧ Below W.heap.size W wr) (fun _ _ i _ => t - (intOf i).toNat)
  case atStart => exact ⟨0, 0, 0, none, Nat.zero_le _, (unhide HZ).symm, rfl, by congr 1; have := unhide H0; rw [unhide HZ] at this; omega, rfl, World.ownsRow_nil _ _ _ _, unhide HB⟩
  case round =>
    obtain ⟨p, k, cp, q, hp, hk, rfl, rfl, rfl, hown, hb⟩ := hrel
    have hkm : k ≤ m := by rw [hk]; exact unhide HL p hp
    have Hk := hide hk
    clear hk
    by_cases hlt : p < t
    · have q0 : (p : Int) < (t : Int) := by omega
      have q0' : decide ((p : Int) < (t : Int)) = true := decide_eq_true q0
      obtain ⟨N, m2, p1, B, t2, N2, hN, hN2, e1, e2, e3, e4, e5, b1, b2, b3, b4, b5, b6, hiff⟩ := unhide HN p hlt
      rw [← unhide Hk] at hN hN2 hiff
      rw [← hN]
      have HN2 := hide hN2
      have HO := hide hown
      have Hb := hide hb
      have hsz := hb.size
      clear hN hN2 hown hb HB
      by_cases hkl : k < m
      · have q1 : (k : Int) < (m : Int) := by omega
        by_cases hyes : k < mq (p + 1)
        · have q2 : (N : Int) < (B : Int) := hiff.2 hyes
          have Hs := hide (show sq k = p by rw [unhide Hk]; exact unhide HI p (by omega) (by rw [← unhide Hk]; exact hyes))
          have Hk1 := hide (show k + 1 = mq (p + 1) by have := (unhide HT p).2; rw [← unhide Hk] at this; omega)
          clear hiff hyes
          have hown := unhide HO
          have hb := unhide Hb
          go_wp2_with (at_builtin; refine wpList_append_own _ rfl _ _ 22 rfl W.heap.size 3 i0 (.int .i64 0) 1 8 Try.underlying22 hi hz0 hz1 hz2 rfl (by decide) _ _ _ rfl (hown.alloc _) ⟨wr.heap.size, 0, none⟩ 1 1 [.int .i64 (p : Int)] rfl rfl (cell_one_new _ _ _) (by simp [Value.oneCell']) (by unfold maxLen; omega) (by omega) (by simp; omega) ?_)
          intro v' w4 hown' hgrow _
          have S6 := hide ((hb.alloc hsz (.cells #[.int .i64 (p : Int)] 3)).grown hgrow (by simp; omega) (fun k hk => (hown.lt k hk).1))
          obtain ⟨q2', cap', rfl⟩ := own_form hown'
          have HO2 := hide hown'
          clear hown hown' hgrow hb HO Hb
          go_wp2
          go_roundw
          case rel =>
            refine ⟨p + 1, k + 1, cap', q2', by omega, unhide Hk1, by go_num, by rw [unhide HN2], rfl, ?_, unhide S6⟩
            rw [fv_succ, unhide Hs]
            exact unhide HO2
          case measure => simp [intOf]; omega
        · have q2 : ¬ ((N : Int) < (B : Int)) := fun h => hyes (hiff.1 h)
          have Hk1 := hide (show k = mq (p + 1) by have := (unhide HT p).1; rw [← unhide Hk] at this; omega)
          have HNN := hide (show N = (2 * k + 1) * t by have := unhide HN2; rw [odd_mul, Nat.add_mul] at this; rw [odd_mul]; omega)
          clear hiff hyes
          go_wp2
          go_roundw
          case rel => exact ⟨p + 1, k, cp, q, by omega, unhide Hk1, by go_num, by rw [unhide HNN], rfl, unhide HO, unhide Hb⟩
          case measure => simp [intOf]; omega
      · have q1 : ¬ ((k : Int) < (m : Int)) := by omega
        obtain rfl : m = k := by omega
        clear hiff
        go_wp2
        exact bodyPost_ret (v := .tuple #[.slice q m cp, .int .i64 0]) (by simp [results, Try.results7, go_sem]) rfl (PN.mk _ _ (fv_is (unhide HO)) (unhide Hb))
    · have q0 : ¬ ((p : Int) < (t : Int)) := by omega
      have q0' : decide ((p : Int) < (t : Int)) = false := decide_eq_false q0
      have hpt : p = t := by omega
      obtain rfl : m = k := by rw [unhide Hk, hpt, unhide HA]
      have HO := hide hown
      have Hb := hide hb
      generalize (2 * m + 1) * t = N at *
      clear hown hb HB hpt
      go_wp2
      exact bodyPost_ret (v := .tuple #[.slice q m cp, .int .i64 0]) (by simp [results, Try.results7, go_sem]) rfl (PN.mk _ _ (fv_is (unhide HO)) (unhide Hb))
set_option maxHeartbeats 1000000 in
theorem rspread_err (t m : Int) (h : caB t m = false) (W : World) : AnsN 7 #[.int .i64 t, .int .i64 m] W 0 (fun _ => 0) 3 := by
  unfold AnsN
  have HC := hide (fun V => rwrong_any t m 3 (by rw [h]; rfl) V)
  clear h
  go_enter Try.func7, Try.ntmps7
  go_wp2_with fail
  refine (unhide HC _).mono ?_
  rintro e w1 ⟨rfl, hb1⟩
  go_wp2
  exact bodyPost_ret (v := .tuple #[.slice none 0 0, .int .i64 3]) (by simp [results, Try.results7, go_sem]) rfl (PN.mk _ _ (.inl rfl) hb1)
end Go.Proofs.Ytmblnfdadpcigaa
