/-
  The stable sort: the symmetric merge.
-/
import Derived.Test.YtkhmdgppkjafoaaStC
namespace Go.Proofs.Ytkhmdgppkjafoaa
open Go.RowKit

set_option maxRecDepth 100000 in
set_option maxHeartbeats 8000000 in
theorem sym_many {E : El} {D : Nat → Prop} {K : Nat → Nat} {W0 V : World} {b n cap B : Nat} {g : Nat → Nat} (hC : CmpIs E D K B W0 b) (h : SW E D W0 b n g V) (a m e : Nat) (ham : a + 1 < m) (hme : m + 1 < e) (hen : e ≤ n) (hn : n ≤ 256)
    (hl : Up K a m g) (hr : Up K m e g) (hv : ∀ i j, a ≤ i → i < m → m ≤ j → j < e → g i < g j)
    (ih : ∀ (a' m' e' : Nat) (g' : Nat → Nat) (V' : World), e' - a' < e - a → a' < m' → m' < e' → e' ≤ n → SW E D W0 b n g' V' → Up K a' m' g' → Up K m' e' g' → (∀ i j, a' ≤ i → i < m' → m' ≤ j → j < e' → g' i < g' j) → SymIs E D K W0 b n cap B a' m' e' g' V') : SymIs E D K W0 b n cap B a m e g V := by
  unfold SymIs
  have Hh := hide h
  have HC := hide hC
  have Hv := hide hv
  have Hl := hide hl
  have Hr := hide hr
  have HI := hide ih
  have z0 : ((m : Int) - (a : Int) == 1) = false := by simp; omega
  have z1 : ((e : Int) - (m : Int) == 1) = false := by simp; omega
  obtain ⟨mid, hmid⟩ : ∃ x : Nat, x = (a + e) / 2 := ⟨_, rfl⟩
  have z2 : ((a : Int) + (e : Int)) / 2 = (mid : Int) := by omega
  obtain ⟨nn, hnn⟩ : ∃ x : Nat, x = mid + m := ⟨_, rfl⟩
  have z3 : (mid : Int) + (m : Int) = (nn : Int) := by omega
  obtain ⟨p, hp⟩ : ∃ x : Nat, x = nn - 1 := ⟨_, rfl⟩
  have z4 : (nn : Int) - 1 = (p : Int) := by omega
  have bmid : a < mid ∧ mid < e ∧ 2 * mid ≤ a + e ∧ a + e ≤ 2 * mid + 1 := by omega
  obtain ⟨lo, hi, hlohi⟩ : ∃ lo hi : Nat, (lo = a ∧ hi = m ∧ m ≤ mid) ∨ (lo + e = mid + m ∧ hi = mid ∧ mid < m) := by
    by_cases c : m ≤ mid
    · exact ⟨a, m, .inl ⟨rfl, rfl, c⟩⟩
    · exact ⟨mid + m - e, mid, .inr ⟨by omega, rfl, by omega⟩⟩
  have Hlohi := hide hlohi
  have bnn : nn ≤ 512 := by omega
  have Hnn := hide hnn
  have Hp := hide hp
  have hlo : a ≤ lo ∧ lo ≤ hi ∧ hi ≤ m ∧ hi ≤ mid := by omega
  have Hpc := hide (show ∀ c, lo ≤ c → c < hi → c < m ∧ c ≤ p ∧ m ≤ p - c ∧ p - c < e from fun c c1 c2 => by omega)
  have Hbm := hide bmid
  have bmid2 : mid ≤ 256 := by omega
  clear h hC hv hl hr hmid hnn hp ih bmid
  go_enter Try.func27, Try.ntmps27
  rcases hlohi with ⟨hlo1, hlo2, hmm⟩ | ⟨hlo1, hlo2, hmm⟩
  · have c1 : ¬ ((mid : Int) < (m : Int)) := by omega
    have Hst := hide (show lo = a ∧ hi = m from ⟨hlo1, hlo2⟩)
    clear hlo1 hlo2
    go_wp2
    clear z0 z1 z2 z3 z4 c1
    go_loopw [20, 21] (fun v u wr => ∃ st r : Nat, v = .int .i64 st ∧ u = .int .i64 r ∧ lo ≤ st ∧ st ≤ r ∧ r ≤ hi ∧ SW E D W0 b n g wr ∧ Hid ((st = lo ∨ ¬ K (g (nn - st)) < K (g (st - 1))) ∧ (r = hi ∨ K (g (p - r)) < K (g r)))) (fun v u _ => (intOf u).toNat - (intOf v).toNat)
    case atStart =>
      have Hs2 := unhide Hst
      exact ⟨a, m, rfl, rfl, by omega, by omega, by omega, unhide Hh, (⟨.inl (by omega), .inl (by omega)⟩ : (a = lo ∨ ¬ K (g (nn - a)) < K (g (a - 1))) ∧ (m = hi ∨ K (g (p - m)) < K (g m)))⟩
    case round =>
      clear Hh
      obtain ⟨st, r, rfl, rfl, hst1, hst2, hst3, hS, Hse⟩ := hrel
      have HS := hide hS
      by_cases hlt : st < r
      · have q0 : (st : Int) < (r : Int) := by omega
        obtain ⟨c, hc⟩ : ∃ x : Nat, x = (st + r) / 2 := ⟨_, rfl⟩
        have zh : ((st : Int) + (r : Int)) / 2 = (c : Int) := by omega
        have b1 : st ≤ c := by omega
        have b2 : c < r := by omega
        obtain ⟨k1, k2, k3, k4⟩ := unhide Hpc c (by omega) (by omega)
        obtain ⟨pc, hpc⟩ : ∃ x : Nat, x = p - c := ⟨_, rfl⟩
        have zp : (p : Int) - (c : Int) = (pc : Int) := by omega
        obtain ⟨q1', q2', z, r1, r2, hz, HCz⟩ := SW.cmp (unhide HC) hS pc c (by omega) (by omega)
        have g1 : (c : Int) < (n : Int) := by omega
        have g2 : (pc : Int) < (n : Int) := by omega
        have g3 : (0 : Int) ≤ (c : Int) := by omega
        have g4 : (0 : Int) ≤ (pc : Int) := by omega
        have g5 : p ≤ 512 := by have := unhide Hp; omega
        rw [hpc] at hz
        clear hS hc k1 k2 k3 k4 hpc
        by_cases hneg : z < 0
        · have Hse2 := hide (show (st = lo ∨ ¬ K (g (nn - st)) < K (g (st - 1))) ∧ (c = hi ∨ K (g (p - c)) < K (g c)) from ⟨(unhide Hse).1, .inr (hz.1 hneg)⟩)
          have hd : decide (z < 0) = true := by simpa using hneg
          clear hz Hse
          go_wp2_with fail
          go_quiet (first | (go_at_call 21; exact Calls.quiet_of (unhide HCz _)))
          have HS2 := hide ((unhide HS).drewN nq)
          clear r1 r2 HCz HS
          generalize wr.drewN nq = w2 at *
          go_wp2
          go_roundw
          case rel => exact ⟨st, c, rfl, rfl, hst1, by omega, by omega, unhide HS2, unhide Hse2⟩
          case measure => simp [intOf]; omega
        · have Hse2 := hide (show (c + 1 = lo ∨ ¬ K (g (nn - (c + 1))) < K (g (c + 1 - 1))) ∧ (r = hi ∨ K (g (p - r)) < K (g r)) from ⟨.inr (by
            have e1 : nn - (c + 1) = p - c := by have := unhide Hp; omega
            rw [e1, Nat.add_sub_cancel]; exact fun q => hneg (hz.2 q)), (unhide Hse).2⟩)
          have hd : decide (z < 0) = false := by simpa using hneg
          clear hz Hse
          go_wp2_with fail
          go_quiet (first | (go_at_call 21; exact Calls.quiet_of (unhide HCz _)))
          have HS2 := hide ((unhide HS).drewN nq)
          clear r1 r2 HCz HS
          generalize wr.drewN nq = w2 at *
          go_wp2
          go_roundw
          case rel => exact ⟨c + 1, r, by go_num, rfl, by omega, by omega, hst3, unhide HS2, unhide Hse2⟩
          case measure => simp [intOf]; omega
      · obtain rfl : st = r := by omega
        have q0 : ¬ ((st : Int) < (st : Int)) := by omega
        have Hsp := hide (search_end (K := K) (g := g) (a := a) (m := m) (b := e) (mid := mid) (st := st) (lo := lo) (hi := hi) (unhide Hl) (unhide Hr) (unhide Hv) (unhide Hlohi) hlo.1 hst1 hst3 (by have := unhide Hbm; omega) (by omega) (by omega) (by have := unhide Hbm; omega)
          (by have := (unhide Hse).1; rw [unhide Hnn] at this; exact this) (by have := (unhide Hse).2; rw [unhide Hp, unhide Hnn] at this; exact this))
        have Hhalf := hide (half_of (unhide Hl) (unhide Hr) (unhide Hv) (unhide Hsp).1 (unhide Hsp).2.1 (unhide Hsp).2.2.1 (unhide Hsp).2.2.2.1 (unhide Hsp).2.2.2.2.1 (unhide Hsp).2.2.2.2.2.1 (unhide Hsp).2.2.2.2.2.2)
        obtain ⟨en, hen2⟩ : ∃ x : Nat, x = mid + m - st := ⟨_, rfl⟩
        rw [← hen2] at Hhalf
        have fc : a ≤ st ∧ st ≤ m ∧ m ≤ en ∧ en ≤ e ∧ st + en = mid + m := by have := unhide Hsp; omega
        have ze : (nn : Int) - (st : Int) = (en : Int) := by have := unhide Hnn; omega
        have bb := unhide Hbm
        have Hro := hide (show ∀ (h1 : st < m) (h2 : m < en), Calls Try.prog 28 #[slV b n cap, .int .i64 st, .int .i64 m, .int .i64 en, cpV B] wr fun x V' => x = .returned (.tuple #[]) ∧ SW E D W0 b n (roR g st m en) V' from fun h1 h2 => rot_any hS st m en h1 h2 (by omega) hn)
        have Hid0 := hide (show (st = m ∨ m = en) → SW E D W0 b n (roR g st m en) wr from fun hq => by rw [roR_idle g st m en (by omega) (by omega) hq]; exact hS)
        have Hfc := hide fc
        have Hbb := hide bb
        have Hnum := hide (show a + 1 < m ∧ m + 1 < e ∧ e ≤ n from ⟨ham, hme, hen⟩)
        clear hS HS hen2 Hse Hsp Hl Hr Hv HC Hlohi Hpc bb hlo hst1 hst3 hst2 hlt ham hme hen Hst Hp Hnn Hbm fc hmm
        generalize roR g st m en = g1 at *
        by_cases cA : st = m
        · by_cases cB : st < mid
          · have fc := unhide Hfc
            have bb := unhide Hbb
            have nu := unhide Hnum
            have f1 : ¬ ((st : Int) < (m : Int)) := by omega
            have f1d : decide ((st : Int) < (m : Int)) = false := by simp; omega
            have f3 : (a : Int) < (st : Int) := by omega
            have f4 : (st : Int) < (mid : Int) := by omega
            have f5 : ¬ ((mid : Int) < (en : Int)) := by omega
            have f5d : decide ((mid : Int) < (en : Int)) = false := by simp; omega
            have Hcc := hide (show st = m ∧ st < mid from ⟨cA, cB⟩)
            clear fc bb nu cA cB
            have HS1 := hide (unhide Hid0 (by have k1 := unhide Hfc; have k2 := unhide Hbb; have k3 := unhide Hnum; have k4 := unhide Hcc; omega))
            have HM1 := hide (unhide HI a st mid g1 wr (by have k1 := unhide Hfc; have k2 := unhide Hbb; have k3 := unhide Hnum; have k4 := unhide Hcc; omega) (by have k1 := unhide Hfc; have k2 := unhide Hbb; have k3 := unhide Hnum; have k4 := unhide Hcc; omega) (by have k1 := unhide Hfc; have k2 := unhide Hbb; have k3 := unhide Hnum; have k4 := unhide Hcc; omega) (by have k1 := unhide Hfc; have k2 := unhide Hbb; have k3 := unhide Hnum; have k4 := unhide Hcc; omega) (unhide HS1) (unhide Hhalf).u1 (unhide Hhalf).u2 (unhide Hhalf).v1)
            go_wp2_with fail
            refine (unhide HM1).mono ?_
            rintro x w2 ⟨rfl, g2, hS2, hp1⟩
            have HS2 := hide hS2
            have Hp1 := hide hp1
            clear hS2 hp1 HM1
            have Hu3 := hide (show Up K mid en g2 from (unhide Hhalf).u3.congr fun i h1 _ => (unhide Hp1).1.1 i (.inr h1))
            have Hu4 := hide (show Up K en e g2 from (unhide Hhalf).u4.congr fun i h1 _ => (unhide Hp1).1.1 i (.inr (by have k1 := unhide Hfc; have k2 := unhide Hbb; have k3 := unhide Hnum; have k4 := unhide Hcc; omega)))
            have Hp2 := hide (show Of mid e g2 g2 ∧ Up K mid e g2 from ⟨Of.refl _ _ _, (by have := unhide Hu4; rw [show en = mid by have k1 := unhide Hfc; have k2 := unhide Hbb; have k3 := unhide Hnum; have k4 := unhide Hcc; omega] at this; exact this)⟩)
            have HS3 := HS2
            have Hend := hide (half_join (unhide Hhalf) (by have k1 := unhide Hfc; have k2 := unhide Hbb; have k3 := unhide Hnum; have k4 := unhide Hcc; omega) (by have k1 := unhide Hfc; have k2 := unhide Hbb; have k3 := unhide Hnum; have k4 := unhide Hcc; omega) (unhide Hp1).1 (unhide Hp1).2 (unhide Hp2).1 (unhide Hp2).2)
            go_wp2
            go_end0
            exact ⟨rfl, _, unhide HS3, unhide Hend⟩
          · have fc := unhide Hfc
            have bb := unhide Hbb
            have nu := unhide Hnum
            have f1 : ¬ ((st : Int) < (m : Int)) := by omega
            have f1d : decide ((st : Int) < (m : Int)) = false := by simp; omega
            have f3 : (a : Int) < (st : Int) := by omega
            have f4 : ¬ ((st : Int) < (mid : Int)) := by omega
            have f5 : ¬ ((mid : Int) < (en : Int)) := by omega
            have f5d : decide ((mid : Int) < (en : Int)) = false := by simp; omega
            have Hcc := hide (show st = m ∧ ¬ st < mid from ⟨cA, cB⟩)
            clear fc bb nu cA cB
            have HS1 := hide (unhide Hid0 (by have k1 := unhide Hfc; have k2 := unhide Hbb; have k3 := unhide Hnum; have k4 := unhide Hcc; omega))
            have Hp1 := hide (show Of a mid g1 g1 ∧ Up K a mid g1 from ⟨Of.refl _ _ _, (by have := (unhide Hhalf).u1; rw [show st = mid by have k1 := unhide Hfc; have k2 := unhide Hbb; have k3 := unhide Hnum; have k4 := unhide Hcc; omega] at this; exact this)⟩)
            have HS2 := HS1
            have Hu3 := hide (show Up K mid en g1 from (unhide Hhalf).u3.congr fun i h1 _ => (unhide Hp1).1.1 i (.inr h1))
            have Hu4 := hide (show Up K en e g1 from (unhide Hhalf).u4.congr fun i h1 _ => (unhide Hp1).1.1 i (.inr (by have k1 := unhide Hfc; have k2 := unhide Hbb; have k3 := unhide Hnum; have k4 := unhide Hcc; omega)))
            have Hp2 := hide (show Of mid e g1 g1 ∧ Up K mid e g1 from ⟨Of.refl _ _ _, (by have := unhide Hu4; rw [show en = mid by have k1 := unhide Hfc; have k2 := unhide Hbb; have k3 := unhide Hnum; have k4 := unhide Hcc; omega] at this; exact this)⟩)
            have HS3 := HS2
            have Hend := hide (half_join (unhide Hhalf) (by have k1 := unhide Hfc; have k2 := unhide Hbb; have k3 := unhide Hnum; have k4 := unhide Hcc; omega) (by have k1 := unhide Hfc; have k2 := unhide Hbb; have k3 := unhide Hnum; have k4 := unhide Hcc; omega) (unhide Hp1).1 (unhide Hp1).2 (unhide Hp2).1 (unhide Hp2).2)
            go_wp2
            go_end0
            exact ⟨rfl, _, unhide HS3, unhide Hend⟩
        · by_cases cA2 : m < en
          · by_cases cB : a < st
            · by_cases cC : en < e
              · have fc := unhide Hfc
                have bb := unhide Hbb
                have nu := unhide Hnum
                have f1 : (st : Int) < (m : Int) := by omega
                have f2 : (m : Int) < (en : Int) := by omega
                have f3 : (a : Int) < (st : Int) := by omega
                have f4 : (st : Int) < (mid : Int) := by omega
                have f5 : (mid : Int) < (en : Int) := by omega
                have f6 : (en : Int) < (e : Int) := by omega
                have Hcc := hide (show ¬ st = m ∧ m < en ∧ a < st ∧ en < e from ⟨cA, cA2, cB, cC⟩)
                clear fc bb nu cA cA2 cB cC
                have HR1 := hide (unhide Hro (by have k1 := unhide Hfc; have k2 := unhide Hbb; have k3 := unhide Hnum; have k4 := unhide Hcc; omega) (by have k1 := unhide Hfc; have k2 := unhide Hbb; have k3 := unhide Hnum; have k4 := unhide Hcc; omega))
                go_wp2_with fail
                refine (unhide HR1).mono ?_
                rintro x w1 ⟨rfl, hS1⟩
                have HS1 := hide hS1
                clear hS1 HR1
                have HM1 := hide (unhide HI a st mid g1 w1 (by have k1 := unhide Hfc; have k2 := unhide Hbb; have k3 := unhide Hnum; have k4 := unhide Hcc; omega) (by have k1 := unhide Hfc; have k2 := unhide Hbb; have k3 := unhide Hnum; have k4 := unhide Hcc; omega) (by have k1 := unhide Hfc; have k2 := unhide Hbb; have k3 := unhide Hnum; have k4 := unhide Hcc; omega) (by have k1 := unhide Hfc; have k2 := unhide Hbb; have k3 := unhide Hnum; have k4 := unhide Hcc; omega) (unhide HS1) (unhide Hhalf).u1 (unhide Hhalf).u2 (unhide Hhalf).v1)
                go_wp2_with fail
                refine (unhide HM1).mono ?_
                rintro x w2 ⟨rfl, g2, hS2, hp1⟩
                have HS2 := hide hS2
                have Hp1 := hide hp1
                clear hS2 hp1 HM1
                have Hu3 := hide (show Up K mid en g2 from (unhide Hhalf).u3.congr fun i h1 _ => (unhide Hp1).1.1 i (.inr h1))
                have Hu4 := hide (show Up K en e g2 from (unhide Hhalf).u4.congr fun i h1 _ => (unhide Hp1).1.1 i (.inr (by have k1 := unhide Hfc; have k2 := unhide Hbb; have k3 := unhide Hnum; have k4 := unhide Hcc; omega)))
                have Hv2 := hide (show ∀ i j, mid ≤ i → i < en → en ≤ j → j < e → g2 i < g2 j from fun i j i1 i2 j1 j2 => by rw [(unhide Hp1).1.1 i (.inr i1), (unhide Hp1).1.1 j (.inr (by have k1 := unhide Hfc; have k2 := unhide Hbb; have k3 := unhide Hnum; have k4 := unhide Hcc; omega))]; exact (unhide Hhalf).v2 i j i1 i2 j1 j2)
                have HM2 := hide (unhide HI mid en e g2 w2 (by have k1 := unhide Hfc; have k2 := unhide Hbb; have k3 := unhide Hnum; have k4 := unhide Hcc; omega) (by have k1 := unhide Hfc; have k2 := unhide Hbb; have k3 := unhide Hnum; have k4 := unhide Hcc; omega) (by have k1 := unhide Hfc; have k2 := unhide Hbb; have k3 := unhide Hnum; have k4 := unhide Hcc; omega) (by have k1 := unhide Hfc; have k2 := unhide Hbb; have k3 := unhide Hnum; have k4 := unhide Hcc; omega) (unhide HS2) (unhide Hu3) (unhide Hu4) (unhide Hv2))
                go_wp2_with fail
                refine (unhide HM2).mono ?_
                rintro x w3 ⟨rfl, g3, hS3, hp2⟩
                have HS3 := hide hS3
                have Hp2 := hide hp2
                clear hS3 hp2 HM2
                have Hend := hide (half_join (unhide Hhalf) (by have k1 := unhide Hfc; have k2 := unhide Hbb; have k3 := unhide Hnum; have k4 := unhide Hcc; omega) (by have k1 := unhide Hfc; have k2 := unhide Hbb; have k3 := unhide Hnum; have k4 := unhide Hcc; omega) (unhide Hp1).1 (unhide Hp1).2 (unhide Hp2).1 (unhide Hp2).2)
                go_wp2
                go_end0
                exact ⟨rfl, _, unhide HS3, unhide Hend⟩
              · have fc := unhide Hfc
                have bb := unhide Hbb
                have nu := unhide Hnum
                have f1 : (st : Int) < (m : Int) := by omega
                have f2 : (m : Int) < (en : Int) := by omega
                have f3 : (a : Int) < (st : Int) := by omega
                have f4 : (st : Int) < (mid : Int) := by omega
                have f5 : (mid : Int) < (en : Int) := by omega
                have f6 : ¬ ((en : Int) < (e : Int)) := by omega
                have Hcc := hide (show ¬ st = m ∧ m < en ∧ a < st ∧ ¬ en < e from ⟨cA, cA2, cB, cC⟩)
                clear fc bb nu cA cA2 cB cC
                have HR1 := hide (unhide Hro (by have k1 := unhide Hfc; have k2 := unhide Hbb; have k3 := unhide Hnum; have k4 := unhide Hcc; omega) (by have k1 := unhide Hfc; have k2 := unhide Hbb; have k3 := unhide Hnum; have k4 := unhide Hcc; omega))
                go_wp2_with fail
                refine (unhide HR1).mono ?_
                rintro x w1 ⟨rfl, hS1⟩
                have HS1 := hide hS1
                clear hS1 HR1
                have HM1 := hide (unhide HI a st mid g1 w1 (by have k1 := unhide Hfc; have k2 := unhide Hbb; have k3 := unhide Hnum; have k4 := unhide Hcc; omega) (by have k1 := unhide Hfc; have k2 := unhide Hbb; have k3 := unhide Hnum; have k4 := unhide Hcc; omega) (by have k1 := unhide Hfc; have k2 := unhide Hbb; have k3 := unhide Hnum; have k4 := unhide Hcc; omega) (by have k1 := unhide Hfc; have k2 := unhide Hbb; have k3 := unhide Hnum; have k4 := unhide Hcc; omega) (unhide HS1) (unhide Hhalf).u1 (unhide Hhalf).u2 (unhide Hhalf).v1)
                go_wp2_with fail
                refine (unhide HM1).mono ?_
                rintro x w2 ⟨rfl, g2, hS2, hp1⟩
                have HS2 := hide hS2
                have Hp1 := hide hp1
                clear hS2 hp1 HM1
                have Hu3 := hide (show Up K mid en g2 from (unhide Hhalf).u3.congr fun i h1 _ => (unhide Hp1).1.1 i (.inr h1))
                have Hu4 := hide (show Up K en e g2 from (unhide Hhalf).u4.congr fun i h1 _ => (unhide Hp1).1.1 i (.inr (by have k1 := unhide Hfc; have k2 := unhide Hbb; have k3 := unhide Hnum; have k4 := unhide Hcc; omega)))
                have Hp2 := hide (show Of mid e g2 g2 ∧ Up K mid e g2 from ⟨Of.refl _ _ _, (by have := unhide Hu3; rw [show en = e by have k1 := unhide Hfc; have k2 := unhide Hbb; have k3 := unhide Hnum; have k4 := unhide Hcc; omega] at this; exact this)⟩)
                have HS3 := HS2
                have Hend := hide (half_join (unhide Hhalf) (by have k1 := unhide Hfc; have k2 := unhide Hbb; have k3 := unhide Hnum; have k4 := unhide Hcc; omega) (by have k1 := unhide Hfc; have k2 := unhide Hbb; have k3 := unhide Hnum; have k4 := unhide Hcc; omega) (unhide Hp1).1 (unhide Hp1).2 (unhide Hp2).1 (unhide Hp2).2)
                go_wp2
                go_end0
                exact ⟨rfl, _, unhide HS3, unhide Hend⟩
            · by_cases cC : en < e
              · have fc := unhide Hfc
                have bb := unhide Hbb
                have nu := unhide Hnum
                have f1 : (st : Int) < (m : Int) := by omega
                have f2 : (m : Int) < (en : Int) := by omega
                have f3 : ¬ ((a : Int) < (st : Int)) := by omega
                have f3d : decide ((a : Int) < (st : Int)) = false := by simp; omega
                have f5 : (mid : Int) < (en : Int) := by omega
                have f6 : (en : Int) < (e : Int) := by omega
                have Hcc := hide (show ¬ st = m ∧ m < en ∧ ¬ a < st ∧ en < e from ⟨cA, cA2, cB, cC⟩)
                clear fc bb nu cA cA2 cB cC
                have HR1 := hide (unhide Hro (by have k1 := unhide Hfc; have k2 := unhide Hbb; have k3 := unhide Hnum; have k4 := unhide Hcc; omega) (by have k1 := unhide Hfc; have k2 := unhide Hbb; have k3 := unhide Hnum; have k4 := unhide Hcc; omega))
                go_wp2_with fail
                refine (unhide HR1).mono ?_
                rintro x w1 ⟨rfl, hS1⟩
                have HS1 := hide hS1
                clear hS1 HR1
                have Hp1 := hide (show Of a mid g1 g1 ∧ Up K a mid g1 from ⟨Of.refl _ _ _, (by have := (unhide Hhalf).u2; rw [show st = a by have k1 := unhide Hfc; have k2 := unhide Hbb; have k3 := unhide Hnum; have k4 := unhide Hcc; omega] at this; exact this)⟩)
                have HS2 := HS1
                have Hu3 := hide (show Up K mid en g1 from (unhide Hhalf).u3.congr fun i h1 _ => (unhide Hp1).1.1 i (.inr h1))
                have Hu4 := hide (show Up K en e g1 from (unhide Hhalf).u4.congr fun i h1 _ => (unhide Hp1).1.1 i (.inr (by have k1 := unhide Hfc; have k2 := unhide Hbb; have k3 := unhide Hnum; have k4 := unhide Hcc; omega)))
                have Hv2 := hide (show ∀ i j, mid ≤ i → i < en → en ≤ j → j < e → g1 i < g1 j from fun i j i1 i2 j1 j2 => by rw [(unhide Hp1).1.1 i (.inr i1), (unhide Hp1).1.1 j (.inr (by have k1 := unhide Hfc; have k2 := unhide Hbb; have k3 := unhide Hnum; have k4 := unhide Hcc; omega))]; exact (unhide Hhalf).v2 i j i1 i2 j1 j2)
                have HM2 := hide (unhide HI mid en e g1 w1 (by have k1 := unhide Hfc; have k2 := unhide Hbb; have k3 := unhide Hnum; have k4 := unhide Hcc; omega) (by have k1 := unhide Hfc; have k2 := unhide Hbb; have k3 := unhide Hnum; have k4 := unhide Hcc; omega) (by have k1 := unhide Hfc; have k2 := unhide Hbb; have k3 := unhide Hnum; have k4 := unhide Hcc; omega) (by have k1 := unhide Hfc; have k2 := unhide Hbb; have k3 := unhide Hnum; have k4 := unhide Hcc; omega) (unhide HS2) (unhide Hu3) (unhide Hu4) (unhide Hv2))
                go_wp2_with fail
                refine (unhide HM2).mono ?_
                rintro x w3 ⟨rfl, g3, hS3, hp2⟩
                have HS3 := hide hS3
                have Hp2 := hide hp2
                clear hS3 hp2 HM2
                have Hend := hide (half_join (unhide Hhalf) (by have k1 := unhide Hfc; have k2 := unhide Hbb; have k3 := unhide Hnum; have k4 := unhide Hcc; omega) (by have k1 := unhide Hfc; have k2 := unhide Hbb; have k3 := unhide Hnum; have k4 := unhide Hcc; omega) (unhide Hp1).1 (unhide Hp1).2 (unhide Hp2).1 (unhide Hp2).2)
                go_wp2
                go_end0
                exact ⟨rfl, _, unhide HS3, unhide Hend⟩
              · have fc := unhide Hfc
                have bb := unhide Hbb
                have nu := unhide Hnum
                have f1 : (st : Int) < (m : Int) := by omega
                have f2 : (m : Int) < (en : Int) := by omega
                have f3 : ¬ ((a : Int) < (st : Int)) := by omega
                have f3d : decide ((a : Int) < (st : Int)) = false := by simp; omega
                have f5 : (mid : Int) < (en : Int) := by omega
                have f6 : ¬ ((en : Int) < (e : Int)) := by omega
                have Hcc := hide (show ¬ st = m ∧ m < en ∧ ¬ a < st ∧ ¬ en < e from ⟨cA, cA2, cB, cC⟩)
                clear fc bb nu cA cA2 cB cC
                have HR1 := hide (unhide Hro (by have k1 := unhide Hfc; have k2 := unhide Hbb; have k3 := unhide Hnum; have k4 := unhide Hcc; omega) (by have k1 := unhide Hfc; have k2 := unhide Hbb; have k3 := unhide Hnum; have k4 := unhide Hcc; omega))
                go_wp2_with fail
                refine (unhide HR1).mono ?_
                rintro x w1 ⟨rfl, hS1⟩
                have HS1 := hide hS1
                clear hS1 HR1
                have Hp1 := hide (show Of a mid g1 g1 ∧ Up K a mid g1 from ⟨Of.refl _ _ _, (by have := (unhide Hhalf).u2; rw [show st = a by have k1 := unhide Hfc; have k2 := unhide Hbb; have k3 := unhide Hnum; have k4 := unhide Hcc; omega] at this; exact this)⟩)
                have HS2 := HS1
                have Hu3 := hide (show Up K mid en g1 from (unhide Hhalf).u3.congr fun i h1 _ => (unhide Hp1).1.1 i (.inr h1))
                have Hu4 := hide (show Up K en e g1 from (unhide Hhalf).u4.congr fun i h1 _ => (unhide Hp1).1.1 i (.inr (by have k1 := unhide Hfc; have k2 := unhide Hbb; have k3 := unhide Hnum; have k4 := unhide Hcc; omega)))
                have Hp2 := hide (show Of mid e g1 g1 ∧ Up K mid e g1 from ⟨Of.refl _ _ _, (by have := unhide Hu3; rw [show en = e by have k1 := unhide Hfc; have k2 := unhide Hbb; have k3 := unhide Hnum; have k4 := unhide Hcc; omega] at this; exact this)⟩)
                have HS3 := HS2
                have Hend := hide (half_join (unhide Hhalf) (by have k1 := unhide Hfc; have k2 := unhide Hbb; have k3 := unhide Hnum; have k4 := unhide Hcc; omega) (by have k1 := unhide Hfc; have k2 := unhide Hbb; have k3 := unhide Hnum; have k4 := unhide Hcc; omega) (unhide Hp1).1 (unhide Hp1).2 (unhide Hp2).1 (unhide Hp2).2)
                go_wp2
                go_end0
                exact ⟨rfl, _, unhide HS3, unhide Hend⟩
          · have fc := unhide Hfc
            have bb := unhide Hbb
            have nu := unhide Hnum
            have f1 : (st : Int) < (m : Int) := by omega
            have f2 : ¬ ((m : Int) < (en : Int)) := by omega
            have f3 : (a : Int) < (st : Int) := by omega
            have f4 : ¬ ((st : Int) < (mid : Int)) := by omega
            have f5 : (mid : Int) < (en : Int) := by omega
            have f6 : (en : Int) < (e : Int) := by omega
            have Hcc := hide (show ¬ st = m ∧ ¬ m < en from ⟨cA, cA2⟩)
            clear fc bb nu cA cA2
            have HS1 := hide (unhide Hid0 (by have k1 := unhide Hfc; have k2 := unhide Hbb; have k3 := unhide Hnum; have k4 := unhide Hcc; omega))
            have Hp1 := hide (show Of a mid g1 g1 ∧ Up K a mid g1 from ⟨Of.refl _ _ _, (by have := (unhide Hhalf).u1; rw [show st = mid by have k1 := unhide Hfc; have k2 := unhide Hbb; have k3 := unhide Hnum; have k4 := unhide Hcc; omega] at this; exact this)⟩)
            have HS2 := HS1
            have Hu3 := hide (show Up K mid en g1 from (unhide Hhalf).u3.congr fun i h1 _ => (unhide Hp1).1.1 i (.inr h1))
            have Hu4 := hide (show Up K en e g1 from (unhide Hhalf).u4.congr fun i h1 _ => (unhide Hp1).1.1 i (.inr (by have k1 := unhide Hfc; have k2 := unhide Hbb; have k3 := unhide Hnum; have k4 := unhide Hcc; omega)))
            have Hv2 := hide (show ∀ i j, mid ≤ i → i < en → en ≤ j → j < e → g1 i < g1 j from fun i j i1 i2 j1 j2 => by rw [(unhide Hp1).1.1 i (.inr i1), (unhide Hp1).1.1 j (.inr (by have k1 := unhide Hfc; have k2 := unhide Hbb; have k3 := unhide Hnum; have k4 := unhide Hcc; omega))]; exact (unhide Hhalf).v2 i j i1 i2 j1 j2)
            have HM2 := hide (unhide HI mid en e g1 wr (by have k1 := unhide Hfc; have k2 := unhide Hbb; have k3 := unhide Hnum; have k4 := unhide Hcc; omega) (by have k1 := unhide Hfc; have k2 := unhide Hbb; have k3 := unhide Hnum; have k4 := unhide Hcc; omega) (by have k1 := unhide Hfc; have k2 := unhide Hbb; have k3 := unhide Hnum; have k4 := unhide Hcc; omega) (by have k1 := unhide Hfc; have k2 := unhide Hbb; have k3 := unhide Hnum; have k4 := unhide Hcc; omega) (unhide HS2) (unhide Hu3) (unhide Hu4) (unhide Hv2))
            go_wp2_with fail
            refine (unhide HM2).mono ?_
            rintro x w3 ⟨rfl, g3, hS3, hp2⟩
            have HS3 := hide hS3
            have Hp2 := hide hp2
            clear hS3 hp2 HM2
            have Hend := hide (half_join (unhide Hhalf) (by have k1 := unhide Hfc; have k2 := unhide Hbb; have k3 := unhide Hnum; have k4 := unhide Hcc; omega) (by have k1 := unhide Hfc; have k2 := unhide Hbb; have k3 := unhide Hnum; have k4 := unhide Hcc; omega) (unhide Hp1).1 (unhide Hp1).2 (unhide Hp2).1 (unhide Hp2).2)
            go_wp2
            go_end0
            exact ⟨rfl, _, unhide HS3, unhide Hend⟩
  · have c1 : (mid : Int) < (m : Int) := by omega
    have z5 : (nn : Int) - (e : Int) = (lo : Int) := by have := unhide Hnn; omega
    have Hst := hide (show lo = lo ∧ hi = mid from ⟨rfl, hlo2⟩)
    clear hlo1 hlo2
    go_wp2
    clear z0 z1 z2 z3 z4 z5 c1
    go_loopw [20, 21] (fun v u wr => ∃ st r : Nat, v = .int .i64 st ∧ u = .int .i64 r ∧ lo ≤ st ∧ st ≤ r ∧ r ≤ hi ∧ SW E D W0 b n g wr ∧ Hid ((st = lo ∨ ¬ K (g (nn - st)) < K (g (st - 1))) ∧ (r = hi ∨ K (g (p - r)) < K (g r)))) (fun v u _ => (intOf u).toNat - (intOf v).toNat)
    case atStart =>
      have Hs2 := unhide Hst
      exact ⟨lo, mid, rfl, rfl, by omega, by omega, by omega, unhide Hh, (⟨.inl (by omega), .inl (by omega)⟩ : (lo = lo ∨ ¬ K (g (nn - lo)) < K (g (lo - 1))) ∧ (mid = hi ∨ K (g (p - mid)) < K (g mid)))⟩
    case round =>
      clear Hh
      obtain ⟨st, r, rfl, rfl, hst1, hst2, hst3, hS, Hse⟩ := hrel
      have HS := hide hS
      by_cases hlt : st < r
      · have q0 : (st : Int) < (r : Int) := by omega
        obtain ⟨c, hc⟩ : ∃ x : Nat, x = (st + r) / 2 := ⟨_, rfl⟩
        have zh : ((st : Int) + (r : Int)) / 2 = (c : Int) := by omega
        have b1 : st ≤ c := by omega
        have b2 : c < r := by omega
        obtain ⟨k1, k2, k3, k4⟩ := unhide Hpc c (by omega) (by omega)
        obtain ⟨pc, hpc⟩ : ∃ x : Nat, x = p - c := ⟨_, rfl⟩
        have zp : (p : Int) - (c : Int) = (pc : Int) := by omega
        obtain ⟨q1', q2', z, r1, r2, hz, HCz⟩ := SW.cmp (unhide HC) hS pc c (by omega) (by omega)
        have g1 : (c : Int) < (n : Int) := by omega
        have g2 : (pc : Int) < (n : Int) := by omega
        have g3 : (0 : Int) ≤ (c : Int) := by omega
        have g4 : (0 : Int) ≤ (pc : Int) := by omega
        have g5 : p ≤ 512 := by have := unhide Hp; omega
        rw [hpc] at hz
        clear hS hc k1 k2 k3 k4 hpc
        by_cases hneg : z < 0
        · have Hse2 := hide (show (st = lo ∨ ¬ K (g (nn - st)) < K (g (st - 1))) ∧ (c = hi ∨ K (g (p - c)) < K (g c)) from ⟨(unhide Hse).1, .inr (hz.1 hneg)⟩)
          have hd : decide (z < 0) = true := by simpa using hneg
          clear hz Hse
          go_wp2_with fail
          go_quiet (first | (go_at_call 21; exact Calls.quiet_of (unhide HCz _)))
          have HS2 := hide ((unhide HS).drewN nq)
          clear r1 r2 HCz HS
          generalize wr.drewN nq = w2 at *
          go_wp2
          go_roundw
          case rel => exact ⟨st, c, rfl, rfl, hst1, by omega, by omega, unhide HS2, unhide Hse2⟩
          case measure => simp [intOf]; omega
        · have Hse2 := hide (show (c + 1 = lo ∨ ¬ K (g (nn - (c + 1))) < K (g (c + 1 - 1))) ∧ (r = hi ∨ K (g (p - r)) < K (g r)) from ⟨.inr (by
            have e1 : nn - (c + 1) = p - c := by have := unhide Hp; omega
            rw [e1, Nat.add_sub_cancel]; exact fun q => hneg (hz.2 q)), (unhide Hse).2⟩)
          have hd : decide (z < 0) = false := by simpa using hneg
          clear hz Hse
          go_wp2_with fail
          go_quiet (first | (go_at_call 21; exact Calls.quiet_of (unhide HCz _)))
          have HS2 := hide ((unhide HS).drewN nq)
          clear r1 r2 HCz HS
          generalize wr.drewN nq = w2 at *
          go_wp2
          go_roundw
          case rel => exact ⟨c + 1, r, by go_num, rfl, by omega, by omega, hst3, unhide HS2, unhide Hse2⟩
          case measure => simp [intOf]; omega
      · obtain rfl : st = r := by omega
        have q0 : ¬ ((st : Int) < (st : Int)) := by omega
        have Hsp := hide (search_end (K := K) (g := g) (a := a) (m := m) (b := e) (mid := mid) (st := st) (lo := lo) (hi := hi) (unhide Hl) (unhide Hr) (unhide Hv) (unhide Hlohi) hlo.1 hst1 hst3 (by have := unhide Hbm; omega) (by omega) (by omega) (by have := unhide Hbm; omega)
          (by have := (unhide Hse).1; rw [unhide Hnn] at this; exact this) (by have := (unhide Hse).2; rw [unhide Hp, unhide Hnn] at this; exact this))
        have Hhalf := hide (half_of (unhide Hl) (unhide Hr) (unhide Hv) (unhide Hsp).1 (unhide Hsp).2.1 (unhide Hsp).2.2.1 (unhide Hsp).2.2.2.1 (unhide Hsp).2.2.2.2.1 (unhide Hsp).2.2.2.2.2.1 (unhide Hsp).2.2.2.2.2.2)
        obtain ⟨en, hen2⟩ : ∃ x : Nat, x = mid + m - st := ⟨_, rfl⟩
        rw [← hen2] at Hhalf
        have fc : a ≤ st ∧ st ≤ m ∧ m ≤ en ∧ en ≤ e ∧ st + en = mid + m := by have := unhide Hsp; omega
        have ze : (nn : Int) - (st : Int) = (en : Int) := by have := unhide Hnn; omega
        have bb := unhide Hbm
        have Hro := hide (show ∀ (h1 : st < m) (h2 : m < en), Calls Try.prog 28 #[slV b n cap, .int .i64 st, .int .i64 m, .int .i64 en, cpV B] wr fun x V' => x = .returned (.tuple #[]) ∧ SW E D W0 b n (roR g st m en) V' from fun h1 h2 => rot_any hS st m en h1 h2 (by omega) hn)
        have Hid0 := hide (show (st = m ∨ m = en) → SW E D W0 b n (roR g st m en) wr from fun hq => by rw [roR_idle g st m en (by omega) (by omega) hq]; exact hS)
        have Hfc := hide fc
        have Hbb := hide bb
        have Hnum := hide (show a + 1 < m ∧ m + 1 < e ∧ e ≤ n from ⟨ham, hme, hen⟩)
        clear hS HS hen2 Hse Hsp Hl Hr Hv HC Hlohi Hpc bb hlo hst1 hst3 hst2 hlt ham hme hen Hst Hp Hnn Hbm fc hmm
        generalize roR g st m en = g1 at *
        by_cases cA : st = m
        · by_cases cB : st < mid
          · have fc := unhide Hfc
            have bb := unhide Hbb
            have nu := unhide Hnum
            have f1 : ¬ ((st : Int) < (m : Int)) := by omega
            have f1d : decide ((st : Int) < (m : Int)) = false := by simp; omega
            have f3 : (a : Int) < (st : Int) := by omega
            have f4 : (st : Int) < (mid : Int) := by omega
            have f5 : ¬ ((mid : Int) < (en : Int)) := by omega
            have f5d : decide ((mid : Int) < (en : Int)) = false := by simp; omega
            have Hcc := hide (show st = m ∧ st < mid from ⟨cA, cB⟩)
            clear fc bb nu cA cB
            have HS1 := hide (unhide Hid0 (by have k1 := unhide Hfc; have k2 := unhide Hbb; have k3 := unhide Hnum; have k4 := unhide Hcc; omega))
            have HM1 := hide (unhide HI a st mid g1 wr (by have k1 := unhide Hfc; have k2 := unhide Hbb; have k3 := unhide Hnum; have k4 := unhide Hcc; omega) (by have k1 := unhide Hfc; have k2 := unhide Hbb; have k3 := unhide Hnum; have k4 := unhide Hcc; omega) (by have k1 := unhide Hfc; have k2 := unhide Hbb; have k3 := unhide Hnum; have k4 := unhide Hcc; omega) (by have k1 := unhide Hfc; have k2 := unhide Hbb; have k3 := unhide Hnum; have k4 := unhide Hcc; omega) (unhide HS1) (unhide Hhalf).u1 (unhide Hhalf).u2 (unhide Hhalf).v1)
            go_wp2_with fail
            refine (unhide HM1).mono ?_
            rintro x w2 ⟨rfl, g2, hS2, hp1⟩
            have HS2 := hide hS2
            have Hp1 := hide hp1
            clear hS2 hp1 HM1
            have Hu3 := hide (show Up K mid en g2 from (unhide Hhalf).u3.congr fun i h1 _ => (unhide Hp1).1.1 i (.inr h1))
            have Hu4 := hide (show Up K en e g2 from (unhide Hhalf).u4.congr fun i h1 _ => (unhide Hp1).1.1 i (.inr (by have k1 := unhide Hfc; have k2 := unhide Hbb; have k3 := unhide Hnum; have k4 := unhide Hcc; omega)))
            have Hp2 := hide (show Of mid e g2 g2 ∧ Up K mid e g2 from ⟨Of.refl _ _ _, (by have := unhide Hu4; rw [show en = mid by have k1 := unhide Hfc; have k2 := unhide Hbb; have k3 := unhide Hnum; have k4 := unhide Hcc; omega] at this; exact this)⟩)
            have HS3 := HS2
            have Hend := hide (half_join (unhide Hhalf) (by have k1 := unhide Hfc; have k2 := unhide Hbb; have k3 := unhide Hnum; have k4 := unhide Hcc; omega) (by have k1 := unhide Hfc; have k2 := unhide Hbb; have k3 := unhide Hnum; have k4 := unhide Hcc; omega) (unhide Hp1).1 (unhide Hp1).2 (unhide Hp2).1 (unhide Hp2).2)
            go_wp2
            go_end0
            exact ⟨rfl, _, unhide HS3, unhide Hend⟩
          · have fc := unhide Hfc
            have bb := unhide Hbb
            have nu := unhide Hnum
            have f1 : ¬ ((st : Int) < (m : Int)) := by omega
            have f1d : decide ((st : Int) < (m : Int)) = false := by simp; omega
            have f3 : (a : Int) < (st : Int) := by omega
            have f4 : ¬ ((st : Int) < (mid : Int)) := by omega
            have f5 : ¬ ((mid : Int) < (en : Int)) := by omega
            have f5d : decide ((mid : Int) < (en : Int)) = false := by simp; omega
            have Hcc := hide (show st = m ∧ ¬ st < mid from ⟨cA, cB⟩)
            clear fc bb nu cA cB
            have HS1 := hide (unhide Hid0 (by have k1 := unhide Hfc; have k2 := unhide Hbb; have k3 := unhide Hnum; have k4 := unhide Hcc; omega))
            have Hp1 := hide (show Of a mid g1 g1 ∧ Up K a mid g1 from ⟨Of.refl _ _ _, (by have := (unhide Hhalf).u1; rw [show st = mid by have k1 := unhide Hfc; have k2 := unhide Hbb; have k3 := unhide Hnum; have k4 := unhide Hcc; omega] at this; exact this)⟩)
            have HS2 := HS1
            have Hu3 := hide (show Up K mid en g1 from (unhide Hhalf).u3.congr fun i h1 _ => (unhide Hp1).1.1 i (.inr h1))
            have Hu4 := hide (show Up K en e g1 from (unhide Hhalf).u4.congr fun i h1 _ => (unhide Hp1).1.1 i (.inr (by have k1 := unhide Hfc; have k2 := unhide Hbb; have k3 := unhide Hnum; have k4 := unhide Hcc; omega)))
            have Hp2 := hide (show Of mid e g1 g1 ∧ Up K mid e g1 from ⟨Of.refl _ _ _, (by have := unhide Hu4; rw [show en = mid by have k1 := unhide Hfc; have k2 := unhide Hbb; have k3 := unhide Hnum; have k4 := unhide Hcc; omega] at this; exact this)⟩)
            have HS3 := HS2
            have Hend := hide (half_join (unhide Hhalf) (by have k1 := unhide Hfc; have k2 := unhide Hbb; have k3 := unhide Hnum; have k4 := unhide Hcc; omega) (by have k1 := unhide Hfc; have k2 := unhide Hbb; have k3 := unhide Hnum; have k4 := unhide Hcc; omega) (unhide Hp1).1 (unhide Hp1).2 (unhide Hp2).1 (unhide Hp2).2)
            go_wp2
            go_end0
            exact ⟨rfl, _, unhide HS3, unhide Hend⟩
        · by_cases cA2 : m < en
          · by_cases cB : a < st
            · by_cases cC : en < e
              · have fc := unhide Hfc
                have bb := unhide Hbb
                have nu := unhide Hnum
                have f1 : (st : Int) < (m : Int) := by omega
                have f2 : (m : Int) < (en : Int) := by omega
                have f3 : (a : Int) < (st : Int) := by omega
                have f4 : (st : Int) < (mid : Int) := by omega
                have f5 : (mid : Int) < (en : Int) := by omega
                have f6 : (en : Int) < (e : Int) := by omega
                have Hcc := hide (show ¬ st = m ∧ m < en ∧ a < st ∧ en < e from ⟨cA, cA2, cB, cC⟩)
                clear fc bb nu cA cA2 cB cC
                have HR1 := hide (unhide Hro (by have k1 := unhide Hfc; have k2 := unhide Hbb; have k3 := unhide Hnum; have k4 := unhide Hcc; omega) (by have k1 := unhide Hfc; have k2 := unhide Hbb; have k3 := unhide Hnum; have k4 := unhide Hcc; omega))
                go_wp2_with fail
                refine (unhide HR1).mono ?_
                rintro x w1 ⟨rfl, hS1⟩
                have HS1 := hide hS1
                clear hS1 HR1
                have HM1 := hide (unhide HI a st mid g1 w1 (by have k1 := unhide Hfc; have k2 := unhide Hbb; have k3 := unhide Hnum; have k4 := unhide Hcc; omega) (by have k1 := unhide Hfc; have k2 := unhide Hbb; have k3 := unhide Hnum; have k4 := unhide Hcc; omega) (by have k1 := unhide Hfc; have k2 := unhide Hbb; have k3 := unhide Hnum; have k4 := unhide Hcc; omega) (by have k1 := unhide Hfc; have k2 := unhide Hbb; have k3 := unhide Hnum; have k4 := unhide Hcc; omega) (unhide HS1) (unhide Hhalf).u1 (unhide Hhalf).u2 (unhide Hhalf).v1)
                go_wp2_with fail
                refine (unhide HM1).mono ?_
                rintro x w2 ⟨rfl, g2, hS2, hp1⟩
                have HS2 := hide hS2
                have Hp1 := hide hp1
                clear hS2 hp1 HM1
                have Hu3 := hide (show Up K mid en g2 from (unhide Hhalf).u3.congr fun i h1 _ => (unhide Hp1).1.1 i (.inr h1))
                have Hu4 := hide (show Up K en e g2 from (unhide Hhalf).u4.congr fun i h1 _ => (unhide Hp1).1.1 i (.inr (by have k1 := unhide Hfc; have k2 := unhide Hbb; have k3 := unhide Hnum; have k4 := unhide Hcc; omega)))
                have Hv2 := hide (show ∀ i j, mid ≤ i → i < en → en ≤ j → j < e → g2 i < g2 j from fun i j i1 i2 j1 j2 => by rw [(unhide Hp1).1.1 i (.inr i1), (unhide Hp1).1.1 j (.inr (by have k1 := unhide Hfc; have k2 := unhide Hbb; have k3 := unhide Hnum; have k4 := unhide Hcc; omega))]; exact (unhide Hhalf).v2 i j i1 i2 j1 j2)
                have HM2 := hide (unhide HI mid en e g2 w2 (by have k1 := unhide Hfc; have k2 := unhide Hbb; have k3 := unhide Hnum; have k4 := unhide Hcc; omega) (by have k1 := unhide Hfc; have k2 := unhide Hbb; have k3 := unhide Hnum; have k4 := unhide Hcc; omega) (by have k1 := unhide Hfc; have k2 := unhide Hbb; have k3 := unhide Hnum; have k4 := unhide Hcc; omega) (by have k1 := unhide Hfc; have k2 := unhide Hbb; have k3 := unhide Hnum; have k4 := unhide Hcc; omega) (unhide HS2) (unhide Hu3) (unhide Hu4) (unhide Hv2))
                go_wp2_with fail
                refine (unhide HM2).mono ?_
                rintro x w3 ⟨rfl, g3, hS3, hp2⟩
                have HS3 := hide hS3
                have Hp2 := hide hp2
                clear hS3 hp2 HM2
                have Hend := hide (half_join (unhide Hhalf) (by have k1 := unhide Hfc; have k2 := unhide Hbb; have k3 := unhide Hnum; have k4 := unhide Hcc; omega) (by have k1 := unhide Hfc; have k2 := unhide Hbb; have k3 := unhide Hnum; have k4 := unhide Hcc; omega) (unhide Hp1).1 (unhide Hp1).2 (unhide Hp2).1 (unhide Hp2).2)
                go_wp2
                go_end0
                exact ⟨rfl, _, unhide HS3, unhide Hend⟩
              · have fc := unhide Hfc
                have bb := unhide Hbb
                have nu := unhide Hnum
                have f1 : (st : Int) < (m : Int) := by omega
                have f2 : (m : Int) < (en : Int) := by omega
                have f3 : (a : Int) < (st : Int) := by omega
                have f4 : (st : Int) < (mid : Int) := by omega
                have f5 : (mid : Int) < (en : Int) := by omega
                have f6 : ¬ ((en : Int) < (e : Int)) := by omega
                have Hcc := hide (show ¬ st = m ∧ m < en ∧ a < st ∧ ¬ en < e from ⟨cA, cA2, cB, cC⟩)
                clear fc bb nu cA cA2 cB cC
                have HR1 := hide (unhide Hro (by have k1 := unhide Hfc; have k2 := unhide Hbb; have k3 := unhide Hnum; have k4 := unhide Hcc; omega) (by have k1 := unhide Hfc; have k2 := unhide Hbb; have k3 := unhide Hnum; have k4 := unhide Hcc; omega))
                go_wp2_with fail
                refine (unhide HR1).mono ?_
                rintro x w1 ⟨rfl, hS1⟩
                have HS1 := hide hS1
                clear hS1 HR1
                have HM1 := hide (unhide HI a st mid g1 w1 (by have k1 := unhide Hfc; have k2 := unhide Hbb; have k3 := unhide Hnum; have k4 := unhide Hcc; omega) (by have k1 := unhide Hfc; have k2 := unhide Hbb; have k3 := unhide Hnum; have k4 := unhide Hcc; omega) (by have k1 := unhide Hfc; have k2 := unhide Hbb; have k3 := unhide Hnum; have k4 := unhide Hcc; omega) (by have k1 := unhide Hfc; have k2 := unhide Hbb; have k3 := unhide Hnum; have k4 := unhide Hcc; omega) (unhide HS1) (unhide Hhalf).u1 (unhide Hhalf).u2 (unhide Hhalf).v1)
                go_wp2_with fail
                refine (unhide HM1).mono ?_
                rintro x w2 ⟨rfl, g2, hS2, hp1⟩
                have HS2 := hide hS2
                have Hp1 := hide hp1
                clear hS2 hp1 HM1
                have Hu3 := hide (show Up K mid en g2 from (unhide Hhalf).u3.congr fun i h1 _ => (unhide Hp1).1.1 i (.inr h1))
                have Hu4 := hide (show Up K en e g2 from (unhide Hhalf).u4.congr fun i h1 _ => (unhide Hp1).1.1 i (.inr (by have k1 := unhide Hfc; have k2 := unhide Hbb; have k3 := unhide Hnum; have k4 := unhide Hcc; omega)))
                have Hp2 := hide (show Of mid e g2 g2 ∧ Up K mid e g2 from ⟨Of.refl _ _ _, (by have := unhide Hu3; rw [show en = e by have k1 := unhide Hfc; have k2 := unhide Hbb; have k3 := unhide Hnum; have k4 := unhide Hcc; omega] at this; exact this)⟩)
                have HS3 := HS2
                have Hend := hide (half_join (unhide Hhalf) (by have k1 := unhide Hfc; have k2 := unhide Hbb; have k3 := unhide Hnum; have k4 := unhide Hcc; omega) (by have k1 := unhide Hfc; have k2 := unhide Hbb; have k3 := unhide Hnum; have k4 := unhide Hcc; omega) (unhide Hp1).1 (unhide Hp1).2 (unhide Hp2).1 (unhide Hp2).2)
                go_wp2
                go_end0
                exact ⟨rfl, _, unhide HS3, unhide Hend⟩
            · by_cases cC : en < e
              · have fc := unhide Hfc
                have bb := unhide Hbb
                have nu := unhide Hnum
                have f1 : (st : Int) < (m : Int) := by omega
                have f2 : (m : Int) < (en : Int) := by omega
                have f3 : ¬ ((a : Int) < (st : Int)) := by omega
                have f3d : decide ((a : Int) < (st : Int)) = false := by simp; omega
                have f5 : (mid : Int) < (en : Int) := by omega
                have f6 : (en : Int) < (e : Int) := by omega
                have Hcc := hide (show ¬ st = m ∧ m < en ∧ ¬ a < st ∧ en < e from ⟨cA, cA2, cB, cC⟩)
                clear fc bb nu cA cA2 cB cC
                have HR1 := hide (unhide Hro (by have k1 := unhide Hfc; have k2 := unhide Hbb; have k3 := unhide Hnum; have k4 := unhide Hcc; omega) (by have k1 := unhide Hfc; have k2 := unhide Hbb; have k3 := unhide Hnum; have k4 := unhide Hcc; omega))
                go_wp2_with fail
                refine (unhide HR1).mono ?_
                rintro x w1 ⟨rfl, hS1⟩
                have HS1 := hide hS1
                clear hS1 HR1
                have Hp1 := hide (show Of a mid g1 g1 ∧ Up K a mid g1 from ⟨Of.refl _ _ _, (by have := (unhide Hhalf).u2; rw [show st = a by have k1 := unhide Hfc; have k2 := unhide Hbb; have k3 := unhide Hnum; have k4 := unhide Hcc; omega] at this; exact this)⟩)
                have HS2 := HS1
                have Hu3 := hide (show Up K mid en g1 from (unhide Hhalf).u3.congr fun i h1 _ => (unhide Hp1).1.1 i (.inr h1))
                have Hu4 := hide (show Up K en e g1 from (unhide Hhalf).u4.congr fun i h1 _ => (unhide Hp1).1.1 i (.inr (by have k1 := unhide Hfc; have k2 := unhide Hbb; have k3 := unhide Hnum; have k4 := unhide Hcc; omega)))
                have Hv2 := hide (show ∀ i j, mid ≤ i → i < en → en ≤ j → j < e → g1 i < g1 j from fun i j i1 i2 j1 j2 => by rw [(unhide Hp1).1.1 i (.inr i1), (unhide Hp1).1.1 j (.inr (by have k1 := unhide Hfc; have k2 := unhide Hbb; have k3 := unhide Hnum; have k4 := unhide Hcc; omega))]; exact (unhide Hhalf).v2 i j i1 i2 j1 j2)
                have HM2 := hide (unhide HI mid en e g1 w1 (by have k1 := unhide Hfc; have k2 := unhide Hbb; have k3 := unhide Hnum; have k4 := unhide Hcc; omega) (by have k1 := unhide Hfc; have k2 := unhide Hbb; have k3 := unhide Hnum; have k4 := unhide Hcc; omega) (by have k1 := unhide Hfc; have k2 := unhide Hbb; have k3 := unhide Hnum; have k4 := unhide Hcc; omega) (by have k1 := unhide Hfc; have k2 := unhide Hbb; have k3 := unhide Hnum; have k4 := unhide Hcc; omega) (unhide HS2) (unhide Hu3) (unhide Hu4) (unhide Hv2))
                go_wp2_with fail
                refine (unhide HM2).mono ?_
                rintro x w3 ⟨rfl, g3, hS3, hp2⟩
                have HS3 := hide hS3
                have Hp2 := hide hp2
                clear hS3 hp2 HM2
                have Hend := hide (half_join (unhide Hhalf) (by have k1 := unhide Hfc; have k2 := unhide Hbb; have k3 := unhide Hnum; have k4 := unhide Hcc; omega) (by have k1 := unhide Hfc; have k2 := unhide Hbb; have k3 := unhide Hnum; have k4 := unhide Hcc; omega) (unhide Hp1).1 (unhide Hp1).2 (unhide Hp2).1 (unhide Hp2).2)
                go_wp2
                go_end0
                exact ⟨rfl, _, unhide HS3, unhide Hend⟩
              · have fc := unhide Hfc
                have bb := unhide Hbb
                have nu := unhide Hnum
                have f1 : (st : Int) < (m : Int) := by omega
                have f2 : (m : Int) < (en : Int) := by omega
                have f3 : ¬ ((a : Int) < (st : Int)) := by omega
                have f3d : decide ((a : Int) < (st : Int)) = false := by simp; omega
                have f5 : (mid : Int) < (en : Int) := by omega
                have f6 : ¬ ((en : Int) < (e : Int)) := by omega
                have Hcc := hide (show ¬ st = m ∧ m < en ∧ ¬ a < st ∧ ¬ en < e from ⟨cA, cA2, cB, cC⟩)
                clear fc bb nu cA cA2 cB cC
                have HR1 := hide (unhide Hro (by have k1 := unhide Hfc; have k2 := unhide Hbb; have k3 := unhide Hnum; have k4 := unhide Hcc; omega) (by have k1 := unhide Hfc; have k2 := unhide Hbb; have k3 := unhide Hnum; have k4 := unhide Hcc; omega))
                go_wp2_with fail
                refine (unhide HR1).mono ?_
                rintro x w1 ⟨rfl, hS1⟩
                have HS1 := hide hS1
                clear hS1 HR1
                have Hp1 := hide (show Of a mid g1 g1 ∧ Up K a mid g1 from ⟨Of.refl _ _ _, (by have := (unhide Hhalf).u2; rw [show st = a by have k1 := unhide Hfc; have k2 := unhide Hbb; have k3 := unhide Hnum; have k4 := unhide Hcc; omega] at this; exact this)⟩)
                have HS2 := HS1
                have Hu3 := hide (show Up K mid en g1 from (unhide Hhalf).u3.congr fun i h1 _ => (unhide Hp1).1.1 i (.inr h1))
                have Hu4 := hide (show Up K en e g1 from (unhide Hhalf).u4.congr fun i h1 _ => (unhide Hp1).1.1 i (.inr (by have k1 := unhide Hfc; have k2 := unhide Hbb; have k3 := unhide Hnum; have k4 := unhide Hcc; omega)))
                have Hp2 := hide (show Of mid e g1 g1 ∧ Up K mid e g1 from ⟨Of.refl _ _ _, (by have := unhide Hu3; rw [show en = e by have k1 := unhide Hfc; have k2 := unhide Hbb; have k3 := unhide Hnum; have k4 := unhide Hcc; omega] at this; exact this)⟩)
                have HS3 := HS2
                have Hend := hide (half_join (unhide Hhalf) (by have k1 := unhide Hfc; have k2 := unhide Hbb; have k3 := unhide Hnum; have k4 := unhide Hcc; omega) (by have k1 := unhide Hfc; have k2 := unhide Hbb; have k3 := unhide Hnum; have k4 := unhide Hcc; omega) (unhide Hp1).1 (unhide Hp1).2 (unhide Hp2).1 (unhide Hp2).2)
                go_wp2
                go_end0
                exact ⟨rfl, _, unhide HS3, unhide Hend⟩
          · have fc := unhide Hfc
            have bb := unhide Hbb
            have nu := unhide Hnum
            have f1 : (st : Int) < (m : Int) := by omega
            have f2 : ¬ ((m : Int) < (en : Int)) := by omega
            have f3 : (a : Int) < (st : Int) := by omega
            have f4 : ¬ ((st : Int) < (mid : Int)) := by omega
            have f5 : (mid : Int) < (en : Int) := by omega
            have f6 : (en : Int) < (e : Int) := by omega
            have Hcc := hide (show ¬ st = m ∧ ¬ m < en from ⟨cA, cA2⟩)
            clear fc bb nu cA cA2
            have HS1 := hide (unhide Hid0 (by have k1 := unhide Hfc; have k2 := unhide Hbb; have k3 := unhide Hnum; have k4 := unhide Hcc; omega))
            have Hp1 := hide (show Of a mid g1 g1 ∧ Up K a mid g1 from ⟨Of.refl _ _ _, (by have := (unhide Hhalf).u1; rw [show st = mid by have k1 := unhide Hfc; have k2 := unhide Hbb; have k3 := unhide Hnum; have k4 := unhide Hcc; omega] at this; exact this)⟩)
            have HS2 := HS1
            have Hu3 := hide (show Up K mid en g1 from (unhide Hhalf).u3.congr fun i h1 _ => (unhide Hp1).1.1 i (.inr h1))
            have Hu4 := hide (show Up K en e g1 from (unhide Hhalf).u4.congr fun i h1 _ => (unhide Hp1).1.1 i (.inr (by have k1 := unhide Hfc; have k2 := unhide Hbb; have k3 := unhide Hnum; have k4 := unhide Hcc; omega)))
            have Hv2 := hide (show ∀ i j, mid ≤ i → i < en → en ≤ j → j < e → g1 i < g1 j from fun i j i1 i2 j1 j2 => by rw [(unhide Hp1).1.1 i (.inr i1), (unhide Hp1).1.1 j (.inr (by have k1 := unhide Hfc; have k2 := unhide Hbb; have k3 := unhide Hnum; have k4 := unhide Hcc; omega))]; exact (unhide Hhalf).v2 i j i1 i2 j1 j2)
            have HM2 := hide (unhide HI mid en e g1 wr (by have k1 := unhide Hfc; have k2 := unhide Hbb; have k3 := unhide Hnum; have k4 := unhide Hcc; omega) (by have k1 := unhide Hfc; have k2 := unhide Hbb; have k3 := unhide Hnum; have k4 := unhide Hcc; omega) (by have k1 := unhide Hfc; have k2 := unhide Hbb; have k3 := unhide Hnum; have k4 := unhide Hcc; omega) (by have k1 := unhide Hfc; have k2 := unhide Hbb; have k3 := unhide Hnum; have k4 := unhide Hcc; omega) (unhide HS2) (unhide Hu3) (unhide Hu4) (unhide Hv2))
            go_wp2_with fail
            refine (unhide HM2).mono ?_
            rintro x w3 ⟨rfl, g3, hS3, hp2⟩
            have HS3 := hide hS3
            have Hp2 := hide hp2
            clear hS3 hp2 HM2
            have Hend := hide (half_join (unhide Hhalf) (by have k1 := unhide Hfc; have k2 := unhide Hbb; have k3 := unhide Hnum; have k4 := unhide Hcc; omega) (by have k1 := unhide Hfc; have k2 := unhide Hbb; have k3 := unhide Hnum; have k4 := unhide Hcc; omega) (unhide Hp1).1 (unhide Hp1).2 (unhide Hp2).1 (unhide Hp2).2)
            go_wp2
            go_end0
            exact ⟨rfl, _, unhide HS3, unhide Hend⟩

theorem sym_any {E : El} {D : Nat → Prop} {K : Nat → Nat} {W0 : World} {b n cap B : Nat} (hC : CmpIs E D K B W0 b) (hn : n ≤ 256) : ∀ (N a m e : Nat) (g : Nat → Nat) (V : World), e - a < N → a < m → m < e → e ≤ n → SW E D W0 b n g V → Up K a m g → Up K m e g → (∀ i j, a ≤ i → i < m → m ≤ j → j < e → g i < g j) → SymIs E D K W0 b n cap B a m e g V := by
  intro N
  induction N with
  | zero => intro a m e g V h; omega
  | succ N ih =>
    intro a m e g V hN ham hme hen h hl hr hv
    by_cases c1 : m = a + 1
    · exact sym_one hC h a m e c1 hme hen hn hr (fun j j1 j2 => hv a j (Nat.le_refl _) ham j1 j2)
    · by_cases c2 : e = m + 1
      · exact sym_last hC h a m e (by omega) c2 hen hn hl (fun i i1 i2 => hv i m i1 i2 (Nat.le_refl _) hme)
      · exact sym_many hC h a m e (by omega) (by omega) hen hn hl hr hv (fun a' m' e' g' V' h1 h2 h3 h4 h5 h6 h7 h8 => ih a' m' e' g' V' (by omega) h2 h3 h4 h5 h6 h7 h8)
end Go.Proofs.Ytkhmdgppkjafoaa
