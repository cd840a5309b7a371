/-
  The stable sort: the symmetric merge of one with many, of many with one.
-/
import Derived.Test.YtkhmdgppkjafoaaStB
namespace Go.Proofs.Ytkhmdgppkjafoaa
open Go.RowKit

def SymIs (E : El) (D : Nat → Prop) (K : Nat → Nat) (W0 : World) (b n cap B a m e : Nat) (g0 : Nat → Nat) (V : World) : Prop := Calls Try.prog 27 #[slV b n cap, .int .i64 a, .int .i64 m, .int .i64 e, cpV B] V fun x V' => x = .returned (.tuple #[]) ∧ ∃ g, SW E D W0 b n g V' ∧ Of a e g0 g ∧ Up K a e g

set_option maxRecDepth 100000 in
set_option maxHeartbeats 4000000 in
theorem sym_one {E : El} {D : Nat → Prop} {K : Nat → Nat} {W0 V : World} {b n cap B : Nat} {g : Nat → Nat} (hC : CmpIs E D K B W0 b) (h : SW E D W0 b n g V) (a m e : Nat) (ham : m = a + 1) (hme : m < e) (hen : e ≤ n) (hn : n ≤ 256)
    (hr : Up K m e g) (hv : ∀ j, m ≤ j → j < e → g a < g j) : SymIs E D K W0 b n cap B a m e g V := by
  unfold SymIs
  have Hh := hide h
  have HC := hide hC
  have Hv := hide hv
  have Hr := hide hr
  have Ham := hide ham
  have z0 : ((m : Int) - (a : Int) == 1) = true := by rw [ham]; simp; omega
  have hae : a < e := by omega
  have ham2 : a < m := by omega
  clear h hC hv hr ham
  go_enter Try.func27, Try.ntmps27
  go_wp2
  clear z0
  go_loopw [10, 11] (fun v u wr => ∃ i j : Nat, v = .int .i64 i ∧ u = .int .i64 j ∧ m ≤ i ∧ i ≤ j ∧ j ≤ e ∧ SW E D W0 b n g wr ∧ Hid ((∀ k, m ≤ k → k < i → lx K (g k) (g a)) ∧ ∀ k, j ≤ k → k < e → lx K (g a) (g k))) (fun v u _ => (intOf u).toNat - (intOf v).toNat)
  case atStart => exact ⟨m, e, rfl, rfl, Nat.le_refl _, by omega, Nat.le_refl _, unhide Hh, (⟨fun k k1 k2 => by omega, fun k k1 k2 => by omega⟩ : (∀ k, m ≤ k → k < m → lx K (g k) (g a)) ∧ ∀ k, e ≤ k → k < e → lx K (g a) (g k))⟩
  case round =>
    clear Hh
    obtain ⟨i, j, rfl, rfl, hi, hij, hj, hS, Hse⟩ := hrel
    by_cases hlt : i < j
    · have q0 : (i : Int) < (j : Int) := by omega
      obtain ⟨hh, hhh⟩ : ∃ x : Nat, x = (i + j) / 2 := ⟨_, rfl⟩
      have zh : ((i : Int) + (j : Int)) / 2 = (hh : Int) := by omega
      have b1 : i ≤ hh := by omega
      have b2 : hh < j := by omega
      obtain ⟨q1', q2', z, r1, r2, hz, HCz⟩ := SW.cmp (unhide HC) hS hh a (by omega) (by omega)
      have g1 : (hh : Int) < (n : Int) := by omega
      have g2 : (a : Int) < (n : Int) := by omega
      have g3 : (0 : Int) ≤ (hh : Int) := by omega
      have g4 : (0 : Int) ≤ (a : Int) := by omega
      have HS := hide hS
      clear hS hhh
      by_cases hneg : z < 0
      · have Hse2 := hide (show (∀ k, m ≤ k → k < hh + 1 → lx K (g k) (g a)) ∧ ∀ k, j ≤ k → k < e → lx K (g a) (g k) from ⟨fun k k1 k2 => by
          have e1 := lx_key (hz.1 hneg)
          by_cases c : k = hh
          · rw [c]; exact e1
          · exact lx_trans (unhide Hr k hh k1 (by omega) (by omega)) e1, (unhide Hse).2⟩)
        clear hz Hse
        go_wp2_with fail
        go_quiet (first | (go_at_call 21; exact Calls.quiet_of (unhide HCz _)))
        have HS2 := hide ((unhide HS).drewN nq)
        clear r1 r2 HCz HS
        generalize wr.drewN nq = w2 at *
        go_wp2
        go_roundw
        case rel => exact ⟨hh + 1, j, by go_num, rfl, by omega, by omega, hj, unhide HS2, unhide Hse2⟩
        case measure => simp [intOf]; omega
      · have Hse2 := hide (show (∀ k, m ≤ k → k < i → lx K (g k) (g a)) ∧ ∀ k, hh ≤ k → k < e → lx K (g a) (g k) from ⟨(unhide Hse).1, fun k k1 k2 => by
          have e1 : lx K (g a) (g hh) := lx_not (fun q => hneg (hz.2 q)) (unhide Hv hh (by omega) (by omega))
          by_cases c : k = hh
          · rw [c]; exact e1
          · exact lx_trans e1 (unhide Hr hh k (by omega) (by omega) k2)⟩)
        have hd : decide (z < 0) = false := by simpa using hneg
        clear hz Hse
        go_wp2_with fail
        go_quiet (first | (go_at_call 21; exact Calls.quiet_of (unhide HCz _)))
        have HS2 := hide ((unhide HS).drewN nq)
        clear r1 r2 HCz HS
        generalize wr.drewN nq = w2 at *
        go_wp2
        go_roundw
        case rel => exact ⟨i, hh, rfl, rfl, hi, by omega, by omega, unhide HS2, unhide Hse2⟩
        case measure => simp [intOf]; omega
    · obtain rfl : i = j := by omega
      have q0 : ¬ ((i : Int) < (i : Int)) := by omega
      obtain ⟨ip, hip⟩ : ∃ x : Nat, x = i - 1 := ⟨_, rfl⟩
      have zp : (i : Int) - 1 = (ip : Int) := by omega
      have hb1 : a ≤ ip := by omega
      have hb2 : ip < e := by omega
      have Hend := hide (show Of a e g (upC g a ip) ∧ Up K a e (upC g a ip) from ⟨upC_of g a ip e hb1 hb2, up1 (by rw [← unhide Ham]; exact unhide Hr) hb1 hb2 (fun k k1 k2 => (unhide Hse).1 k (by have := unhide Ham; omega) (by omega)) (fun k k1 k2 => (unhide Hse).2 k (by omega) k2)⟩)
      have HS := hide hS
      clear hS hip Hse
      go_wp2
      clear q0
      go_loopw [13] (fun v wr => ∃ k : Nat, v = .int .i64 k ∧ a ≤ k ∧ k ≤ ip ∧ SW E D W0 b n (upC g a k) wr) (fun v _ => ip - (intOf v).toNat)
      case atStart => exact ⟨a, rfl, Nat.le_refl _, hb1, by rw [upC_start]; exact unhide HS⟩
      case round =>
        clear HS
        obtain ⟨k, rfl, hk1, hk2, hS⟩ := hrel
        by_cases hlt : k < ip
        · have q1 : (k : Int) < (ip : Int) := by omega
          obtain ⟨kp, hkp⟩ : ∃ x : Nat, x = k + 1 := ⟨_, rfl⟩
          have zk : (k : Int) + 1 = (kp : Int) := by omega
          obtain ⟨q1', q2', r1, r2, r3, r4, r5, r6, hN⟩ := hS.two k kp (by omega) (by omega) (by omega)
          have HN := hide (show SW E D W0 b n (upC g a kp) ((wr.setCell ⟨b, k, none⟩ (.int .i64 q2')).setCell ⟨b, kp, none⟩ (.int .i64 q1')).drew by have e := upC_step g a k hk1; rw [← hkp] at e; rw [← e]; exact hN)
          have g1 : (k : Int) < (n : Int) := by omega
          have g2 : (kp : Int) < (n : Int) := by omega
          have g3 : (0 : Int) ≤ (k : Int) := by omega
          have g4 : (0 : Int) ≤ (kp : Int) := by omega
          have H1 := hide (show a ≤ kp ∧ kp ≤ ip ∧ k < kp by omega)
          clear hN hS hkp
          go_wp2_with fail
          go_region
          all_goals go_wp2
          go_roundw
          case rel => exact ⟨kp, rfl, (unhide H1).1, (unhide H1).2.1, unhide HN⟩
          case measure => have := unhide H1; simp [intOf]; omega
        · obtain rfl : ip = k := by omega
          have q1 : ¬ ((ip : Int) < (ip : Int)) := by omega
          have HS := hide hS
          clear hS
          go_wp2
          exact bodyPost_ret (v := .tuple #[]) (by simp [results, Try.results27, go_sem]) rfl ⟨rfl, _, unhide HS, unhide Hend⟩

set_option maxRecDepth 100000 in
set_option maxHeartbeats 4000000 in
theorem sym_last {E : El} {D : Nat → Prop} {K : Nat → Nat} {W0 V : World} {b n cap B : Nat} {g : Nat → Nat} (hC : CmpIs E D K B W0 b) (h : SW E D W0 b n g V) (a m e : Nat) (ham : a + 1 < m) (hme : e = m + 1) (hen : e ≤ n) (hn : n ≤ 256)
    (hl : Up K a m g) (hv : ∀ i, a ≤ i → i < m → g i < g m) : SymIs E D K W0 b n cap B a m e g V := by
  unfold SymIs
  have Hh := hide h
  have HC := hide hC
  have Hv := hide hv
  have Hl := hide hl
  have Hme := hide hme
  have z0 : ((m : Int) - (a : Int) == 1) = false := by simp; omega
  have z1 : ((e : Int) - (m : Int) == 1) = true := by simp; omega
  have hmn : m < n := by omega
  clear h hC hv hl hme
  go_enter Try.func27, Try.ntmps27
  go_wp2
  clear z0 z1
  go_loopw [14, 15] (fun v u wr => ∃ i j : Nat, v = .int .i64 i ∧ u = .int .i64 j ∧ a ≤ i ∧ i ≤ j ∧ j ≤ m ∧ SW E D W0 b n g wr ∧ Hid ((∀ k, a ≤ k → k < i → lx K (g k) (g m)) ∧ ∀ k, j ≤ k → k < m → lx K (g m) (g k))) (fun v u _ => (intOf u).toNat - (intOf v).toNat)
  case atStart => exact ⟨a, m, rfl, rfl, Nat.le_refl _, by omega, Nat.le_refl _, unhide Hh, (⟨fun k k1 k2 => by omega, fun k k1 k2 => by omega⟩ : (∀ k, a ≤ k → k < a → lx K (g k) (g m)) ∧ ∀ k, m ≤ k → k < m → lx K (g m) (g k))⟩
  case round =>
    clear Hh
    obtain ⟨i, j, rfl, rfl, hi, hij, hj, hS, Hse⟩ := hrel
    by_cases hlt : i < j
    · have q0 : (i : Int) < (j : Int) := by omega
      obtain ⟨hh, hhh⟩ : ∃ x : Nat, x = (i + j) / 2 := ⟨_, rfl⟩
      have zh : ((i : Int) + (j : Int)) / 2 = (hh : Int) := by omega
      have b1 : i ≤ hh := by omega
      have b2 : hh < j := by omega
      obtain ⟨q1', q2', z, r1, r2, hz, HCz⟩ := SW.cmp (unhide HC) hS m hh (by omega) (by omega)
      have g1 : (hh : Int) < (n : Int) := by omega
      have g2 : (m : Int) < (n : Int) := by omega
      have g3 : (0 : Int) ≤ (hh : Int) := by omega
      have g4 : (0 : Int) ≤ (m : Int) := by omega
      have HS := hide hS
      clear hS hhh
      by_cases hneg : z < 0
      · have Hse2 := hide (show (∀ k, a ≤ k → k < i → lx K (g k) (g m)) ∧ ∀ k, hh ≤ k → k < m → lx K (g m) (g k) from ⟨(unhide Hse).1, fun k k1 k2 => by
          have e1 := lx_key (hz.1 hneg)
          by_cases c : k = hh
          · rw [c]; exact e1
          · exact lx_trans e1 (unhide Hl hh k (by omega) (by omega) k2)⟩)
        have hd : decide (z < 0) = true := by simpa using hneg
        clear hz Hse
        go_wp2_with fail
        go_quiet (first | (go_at_call 21; exact Calls.quiet_of (unhide HCz _)))
        have HS2 := hide ((unhide HS).drewN nq)
        clear r1 r2 HCz HS
        generalize wr.drewN nq = w2 at *
        go_wp2
        go_roundw
        case rel => exact ⟨i, hh, rfl, rfl, hi, by omega, by omega, unhide HS2, unhide Hse2⟩
        case measure => simp [intOf]; omega
      · have Hse2 := hide (show (∀ k, a ≤ k → k < hh + 1 → lx K (g k) (g m)) ∧ ∀ k, j ≤ k → k < m → lx K (g m) (g k) from ⟨fun k k1 k2 => by
          have e1 : lx K (g hh) (g m) := lx_not (fun q => hneg (hz.2 q)) (unhide Hv hh (by omega) (by omega))
          by_cases c : k = hh
          · rw [c]; exact e1
          · exact lx_trans (unhide Hl k hh k1 (by omega) (by omega)) e1, (unhide Hse).2⟩)
        have hd : decide (z < 0) = false := by simpa using hneg
        clear hz Hse
        go_wp2_with fail
        go_quiet (first | (go_at_call 21; exact Calls.quiet_of (unhide HCz _)))
        have HS2 := hide ((unhide HS).drewN nq)
        clear r1 r2 HCz HS
        generalize wr.drewN nq = w2 at *
        go_wp2
        go_roundw
        case rel => exact ⟨hh + 1, j, by go_num, rfl, by omega, by omega, hj, unhide HS2, unhide Hse2⟩
        case measure => simp [intOf]; omega
    · obtain rfl : i = j := by omega
      have q0 : ¬ ((i : Int) < (i : Int)) := by omega
      have Hend := hide (show Of a e g (inC g m i) ∧ Up K a e (inC g m i) by
        rw [unhide Hme]
        exact ⟨inC_of g a m i hi hj, ins_up (unhide Hl) hi hj (unhide Hse).2 (by
          by_cases c : i = a
          · exact .inl c
          · exact .inr ((unhide Hse).1 (i - 1) (by omega) (by omega)))⟩)
      have HS := hide hS
      clear hS Hse
      go_wp2
      clear q0
      go_loopw [17] (fun v wr => ∃ k : Nat, v = .int .i64 k ∧ i ≤ k ∧ k ≤ m ∧ SW E D W0 b n (inC g m k) wr) (fun v _ => (intOf v).toNat - i)
      case atStart => exact ⟨m, rfl, hj, Nat.le_refl _, by rw [inC_start]; exact unhide HS⟩
      case round =>
        clear HS
        obtain ⟨k, rfl, hk1, hk2, hS⟩ := hrel
        by_cases hlt : i < k
        · have q1 : (i : Int) < (k : Int) := by omega
          obtain ⟨kp, hkp⟩ : ∃ x : Nat, x = k - 1 := ⟨_, rfl⟩
          have zk : (k : Int) - 1 = (kp : Int) := by omega
          obtain ⟨q1', q2', r1, r2, r3, r4, r5, r6, hN⟩ := hS.two k kp (by omega) (by omega) (by omega)
          have HN := hide (show SW E D W0 b n (inC g m kp) ((wr.setCell ⟨b, k, none⟩ (.int .i64 q2')).setCell ⟨b, kp, none⟩ (.int .i64 q1')).drew by have e := inC_step g m k (by omega) hk2; rw [← hkp] at e; rw [← e]; exact hN)
          have g1 : (k : Int) < (n : Int) := by omega
          have g2 : (kp : Int) < (n : Int) := by omega
          have g3 : (0 : Int) ≤ (k : Int) := by omega
          have g4 : (0 : Int) ≤ (kp : Int) := by omega
          have H1 := hide (show i ≤ kp ∧ kp ≤ m ∧ kp < k by omega)
          clear hN hS hkp
          go_wp2_with fail
          go_region
          all_goals go_wp2
          go_roundw
          case rel => exact ⟨kp, rfl, (unhide H1).1, (unhide H1).2.1, unhide HN⟩
          case measure => have := unhide H1; simp [intOf]; omega
        · obtain rfl : i = k := by omega
          have q1 : ¬ ((i : Int) < (i : Int)) := by omega
          have HS := hide hS
          clear hS
          go_wp2
          exact bodyPost_ret (v := .tuple #[]) (by simp [results, Try.results27, go_sem]) rfl ⟨rfl, _, unhide HS, unhide Hend⟩
end Go.Proofs.Ytkhmdgppkjafoaa
