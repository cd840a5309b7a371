/-
  TwillRuns: the law's walk.
-/
import Derived.Test.YtpefcpbkdofblaaLRunM
namespace Go.Proofs.Ytpefcpbkdofblaa
open Go.RowKit Go.Shelf

def RunIs (q : Option Addr) (n c : Nat) (mv : Int) (W : World) : Prop := Calls Try.prog 4 #[.slice q n c, .int .i64 mv] W fun r V => r = .returned (.bool true) ∧ Below W.heap.size W V

set_option maxHeartbeats 1000000 in
theorem runs_err (q : Option Addr) (n c : Nat) (mv : Int) (W : World) (er : Int) (hp : 1 ≤ er) (hT : ∀ V, Below W.heap.size W V → Calls Try.prog 6 #[.slice q n c, .int .i64 mv] V fun e V' => e = .returned (.tuple #[tr 0 0 none 0 0, .int .i64 er]) ∧ Below V.heap.size V V') : RunIs q n c mv W := by
  unfold RunIs
  have HA := hide (fun V => alive_any V)
  have HT := hide hT
  have hp' : (er != 0) = true := by simp; omega
  clear hT
  go_enter Try.func4, Try.ntmps4
  go_wp2_with fail
  refine (unhide HA _).mono ?_
  rintro r w1 ⟨rfl, hb⟩
  have HT1 := hide (unhide HT _ hb)
  have Hb := hide hb
  clear hb HT HA
  go_wp2_with fail
  refine (unhide HT1).mono ?_
  rintro r w2 ⟨rfl, hb2⟩
  have S := hide (bal (o := .cells #[.int .i64 0, .int .i64 0, .slice none 0 0] 25) (btrans (unhide Hb) hb2))
  clear hb2 Hb HT1
  go_wp2
  go_ret
  exact ⟨rfl, unhide S⟩

theorem max_if (M K : Nat) (h : ¬ (M : Int) < (K : Int)) : max M K = M := by omega
theorem max_if2 (M K : Nat) (h : (M : Int) < (K : Int)) : max M K = K := by omega

set_option maxRecDepth 100000 in
set_option maxHeartbeats 4000000 in
theorem runs_ok (q : Option Addr) (n c : Nat) (k : Nat → Nat) (mv : Nat) (W : World) (hq : Is W q n (fun i => (k i : Int))) (hr : Rr n k) (h1 : 1 ≤ mv) (h2 : mv < sN k n) : RunIs q n c mv W := by
  unfold RunIs
  have HA := hide (fun V => alive_any V)
  have HQ := hide hq
  obtain ⟨s, hs⟩ : ∃ s, s = sN k n := ⟨_, rfl⟩
  obtain ⟨ss, hss⟩ : ∃ ss, ss = s * s := ⟨_, rfl⟩
  have HT := hide (fun V (hV : Below W.heap.size W V) => twill_ok q n c k mv V (hq.keep hV) hr s hs h1 (by omega) ss hss)
  have hs2 : 2 ≤ s := by rw [hs]; exact hr.pos
  have hs64 : s ≤ 64 := by rw [hs]; exact hr.2.2.2.2
  have hn : n ≤ 16 := hr.2.2.1
  have Halong := hide (show lgM (wvF (upF k n) s mv) false s s = rmx k false n by rw [hs]; exact twill_along hr mv false)
  have Hup := hide (show mv = 1 → lgM (tuF (wvF (upF k n) s mv) s s) true s s = rmx k true n from fun e => by rw [e, hs]; exact twill_up hr true)
  have Hev := hide (show Nat.gcd s mv = 1 → evB (wvF (upF k n) s mv) s s = true from fun e => even_twill _ _ _ e)
  have Hrm := hide (show ∀ v x, x ≤ n → rmx k v x ≤ 64 from fun v x hx => rmx_le hr v x hx)
  have hss0 : 0 < ss := by rw [hss]; exact Nat.mul_pos (by omega) (by omega)
  have HAl := hide (fun V => alone_any s mv (by omega) hs64 (by omega) V)
  have hmv : mv < s := by omega
  generalize wvF (upF k n) s mv = F at *
  clear hq hr hs hss h2
  go_enter Try.func4, Try.ntmps4
  go_wp2_with fail
  refine (unhide HA _).mono ?_
  rintro r w1 ⟨rfl, hb⟩
  have HT1 := hide (unhide HT _ hb)
  have Hb := hide hb
  clear hb HT HA
  go_wp2_with fail
  refine (unhide HT1).mono ?_
  rintro r w2 ⟨q2, cp, rfl, ⟨hR, -⟩, hb2⟩
  have S2 := hide (bal (o := .cells #[.int .i64 s, .int .i64 s, .slice q2 ss cp] 25) (btrans (unhide Hb) hb2))
  have T2 := hide (Tb.new hR)
  clear hb2 Hb HT1 hR
  go_upto_if 28 with fail
  generalize w2.alloc (.cells #[.int .i64 s, .int .i64 s, .slice q2 ss cp] 25) = w3 at *
  generalize w2.heap.size = bx at *
  have HE := hide (even_ok (unhide T2).2)
  have HF := hide (fun V (hV : Below w3.heap.size w3 V) => floats_ok s s q2 ss cp F V ((unhide T2).2.keep hV) hss0)
  have m0 := (unhide T2).1.2
  generalize hevl : evB F s s = ev at *
  go_wp2_with fail
  refine (unhide HE).mono ?_
  rintro r w4 ⟨rfl, hb4⟩
  have HF1 := hide (unhide HF w4 hb4)
  rw [unhide Halong] at HF1
  have S4 := hide (btrans (unhide S2) hb4)
  have T4 := hide ((unhide T2).keep hb4)
  clear hb4 m0 HE HF S2 T2 hevl
  have m0 := (unhide T4).1.2
  go_wp2_with fail
  refine (unhide HF1).mono ?_
  rintro r w5 ⟨rfl, hb5⟩
  have SX := hide (btrans (unhide S4) hb5)
  have TX := hide ((unhide T4).keep hb5)
  clear hb5 m0 HF1 S4 T4
  go_wp2
  go_loopw [10, 46] (fun d i wr => ∃ x : Nat, x ≤ n ∧ i = .int .i64 x ∧ d = .int .i64 (rmx k false x : Nat) ∧ Below W.heap.size W wr ∧ Tb wr bx s s q2 ss cp F) (fun _ i _ => n - (intOf i).toNat)
  case atStart => exact ⟨0, Nat.zero_le _, rfl, rfl, unhide SX, unhide TX⟩
  case round =>
    clear SX TX
    obtain ⟨x, hx, rfl, rfl, hb, hT⟩ := hrel
    have hM := unhide Hrm false x hx
    have SX := hide hb
    have TX := hide hT
    by_cases hlt : x < n
    · obtain ⟨a, o, rfl, l1, k1⟩ := ((unhide HQ).keep hb).at hlt
      have q1 : (x : Int) < (n : Int) := by omega
      have q2' : (0 : Int) ≤ (x : Int) := by omega
      have Hst := hide (rmx_succ k false x)
      generalize rmx k false x = M at *
      generalize k x = kx at *
      clear hb hT
      by_cases hp : x % 2 = 1
      · have hp' : (x : Int) % 2 = 1 := by omega
        have Hs2 := hide (show rmx k false (x + 1) = max M kx by rw [unhide Hst, if_pos (by simp; omega)])
        clear Hst hp
        by_cases hg : (M : Int) < (kx : Int)
        · have Hs3 := hide (show rmx k false (x + 1) = kx by rw [unhide Hs2]; exact max_if2 M kx hg)
          clear Hs2
          go_wp2
          go_roundw
          case rel => exact ⟨x + 1, by omega, by go_num, by rw [unhide Hs3], unhide SX, unhide TX⟩
          case measure => simp [intOf]; omega
        · have Hs3 := hide (show rmx k false (x + 1) = M by rw [unhide Hs2]; exact max_if M kx hg)
          have hg' : decide ((M : Int) < (kx : Int)) = false := by simpa using hg
          clear Hs2
          go_wp2
          go_roundw
          case rel => exact ⟨x + 1, by omega, by go_num, by rw [unhide Hs3], unhide SX, unhide TX⟩
          case measure => simp [intOf]; omega
      · have hp' : (x : Int) % 2 = 0 := by omega
        have Hs3 := hide (show rmx k false (x + 1) = M by rw [unhide Hst, if_neg (by simp; omega)]; exact Nat.max_eq_left (Nat.zero_le _))
        clear Hst hp
        go_wp2
        go_roundw
        case rel => exact ⟨x + 1, by omega, by go_num, by rw [unhide Hs3], unhide SX, unhide TX⟩
        case measure => simp [intOf]; omega
    · obtain rfl : n = x := by omega
      have cl : ¬ ((n : Int) < (n : Int)) := by omega
      clear hb hT
      generalize rmx k false n = M at *
      have hMM : ((M : Int) != (M : Int)) = false := by simp
      have m0 := (unhide TX).1.2
      have HAl2 := hide (unhide HAl wr)
      generalize hgd : decide (Nat.gcd s mv = 1) = gd at *
      go_wp2_with fail
      refine (unhide HAl2).mono ?_
      rintro r w6 ⟨rfl, hb6⟩
      have S6 := hide (btrans (unhide SX) hb6)
      have T6 := hide ((unhide TX).keep hb6)
      clear hb6 m0 HAl2 SX TX hMM
      cases gd
      · clear hgd
        go_wp2
        go_ret
        exact ⟨rfl, unhide S6⟩
      · have hevt := unhide Hev (by simpa using hgd)
        clear hgd
        subst hevt
        by_cases hone : mv = 1
        · have hone' : ((mv : Int) == 1) = true := by simp [hone]
          have HF2 := hide (floats_ok s s q2 ss cp F w6 (unhide T6).2 hss0)
          rw [unhide Hup hone] at HF2
          have m0 := (unhide T6).1.2
          clear hone
          go_wp2_with fail
          refine (unhide HF2).mono ?_
          rintro r w7 ⟨rfl, hb7⟩
          have SX := hide (btrans (unhide S6) hb7)
          have TX := hide ((unhide T6).keep hb7)
          clear hb7 m0 HF2 S6 T6
          go_wp2
          go_loopw [16, 79] (fun d i wr => ∃ x : Nat, x ≤ n ∧ i = .int .i64 x ∧ d = .int .i64 (rmx k true x : Nat) ∧ Below W.heap.size W wr ∧ Tb wr bx s s q2 ss cp F) (fun _ i _ => n - (intOf i).toNat)
          case atStart => exact ⟨0, Nat.zero_le _, rfl, rfl, unhide SX, unhide TX⟩
          case round =>
            clear SX TX
            obtain ⟨x, hx, rfl, rfl, hb, hT⟩ := hrel
            have hM := unhide Hrm true x hx
            have SX := hide hb
            have TX := hide hT
            by_cases hlt : x < n
            · obtain ⟨a, o, rfl, l1, k1⟩ := ((unhide HQ).keep hb).at hlt
              have q1 : (x : Int) < (n : Int) := by omega
              have q2' : (0 : Int) ≤ (x : Int) := by omega
              have Hst := hide (rmx_succ k true x)
              generalize rmx k true x = M at *
              generalize k x = kx at *
              clear hb hT
              by_cases hp : x % 2 = 0
              · have hp' : (x : Int) % 2 = 0 := by omega
                have Hs2 := hide (show rmx k true (x + 1) = max M kx by rw [unhide Hst, if_pos (by simp; omega)])
                clear Hst hp
                by_cases hg : (M : Int) < (kx : Int)
                · have Hs3 := hide (show rmx k true (x + 1) = kx by rw [unhide Hs2]; exact max_if2 M kx hg)
                  clear Hs2
                  go_wp2
                  go_roundw
                  case rel => exact ⟨x + 1, by omega, by go_num, by rw [unhide Hs3], unhide SX, unhide TX⟩
                  case measure => simp [intOf]; omega
                · have Hs3 := hide (show rmx k true (x + 1) = M by rw [unhide Hs2]; exact max_if M kx hg)
                  have hg' : decide ((M : Int) < (kx : Int)) = false := by simpa using hg
                  clear Hs2
                  go_wp2
                  go_roundw
                  case rel => exact ⟨x + 1, by omega, by go_num, by rw [unhide Hs3], unhide SX, unhide TX⟩
                  case measure => simp [intOf]; omega
              · have hp' : (x : Int) % 2 = 1 := by omega
                have Hs3 := hide (show rmx k true (x + 1) = M by rw [unhide Hst, if_neg (by simp; omega)]; exact Nat.max_eq_left (Nat.zero_le _))
                clear Hst hp
                go_wp2
                go_roundw
                case rel => exact ⟨x + 1, by omega, by go_num, by rw [unhide Hs3], unhide SX, unhide TX⟩
                case measure => simp [intOf]; omega
            · obtain rfl : n = x := by omega
              have cl : ¬ ((n : Int) < (n : Int)) := by omega
              clear hb hT
              generalize rmx k true n = M2 at *
              have hMM2 : ((M2 : Int) != (M2 : Int)) = false := by simp
              go_wp2
              go_ret
              exact ⟨rfl, unhide SX⟩
        · have hone' : ((mv : Int) == 1) = false := by simp; omega
          clear hone
          go_wp2
          go_ret
          exact ⟨rfl, unhide S6⟩

theorem runs_any (q : Option Addr) (n c : Nat) (r : Nat → Int) (mv : Int) (W : World) (hq : Is W q n r) : RunIs q n c mv W := by
  rcases rE_cases n r with h | h | h | h
  · obtain ⟨k, hk, hr⟩ := rE_right h
    have hq' : Is W q n (fun i => (k i : Int)) := hq.congr hk
    by_cases hm : 1 ≤ mv ∧ mv < (sN k n : Int)
    · obtain ⟨m', rfl⟩ := Int.eq_ofNat_of_zero_le (show 0 ≤ mv by omega)
      exact runs_ok q n c k m' W hq' hr (by omega) (by omega)
    · exact runs_err q n c mv W 3 (by omega) (fun V hV => twill_err2 q n c k mv V (hq'.keep hV) hr hm)
  · exact runs_err q n c mv W 3 (by omega) (fun V hV => twill_err1 q n c r mv V (hq.keep hV) 3 h (by omega))
  · exact runs_err q n c mv W 4 (by omega) (fun V hV => twill_err1 q n c r mv V (hq.keep hV) 4 h (by omega))
  · exact runs_err q n c mv W 5 (by omega) (fun V hV => twill_err1 q n c r mv V (hq.keep hV) 5 h (by omega))
end Go.Proofs.Ytpefcpbkdofblaa
