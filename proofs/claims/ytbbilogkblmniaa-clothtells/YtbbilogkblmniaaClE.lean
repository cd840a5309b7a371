/-
  The law's free: its walk.
-/
import Derived.Test.YtbbilogkblmniaaClD
namespace Go.Proofs.Ytbbilogkblmniaa
open Go.RowKit

def FreeIs (W : World) (w h : Nat) (p : Option Addr) (n cap : Nat) (q : Option Addr) (k c : Nat) (v : Bool) : Prop := Calls Try.prog 15 #[tr w h p n cap, .slice q k c] W fun e V => e = .returned (.bool v) ∧ Below W.heap.size W V

set_option maxRecDepth 100000 in
set_option maxHeartbeats 4000000 in
theorem free_any {W : World} {w h : Nat} {p : Option Addr} {n cap : Nat} {f : Nat → Bool} (r : Rt W w h p n cap f) (q : Option Addr) (k c : Nat) (F : Nat → Int) (hF : Is W q k F) (hk : k ≤ maxLen) : FreeIs W w h p n cap q k c (freeB f w h F k) := by
  unfold FreeIs
  unfold maxLen at hk
  have hk' : k ≤ 9223372036854775807 := hk
  clear hk
  have hw := r.1
  have hh := r.2.1
  obtain ⟨i0, hi, hz0, hz1, hz2⟩ := info_parts info4
  obtain ⟨N, hN⟩ : ∃ N : Nat, N = w + h := ⟨_, rfl⟩
  have e1 : (w : Int) + (h : Int) = (N : Int) := by omega
  have hN128 : N ≤ 128 := by omega
  have hby : i0.bytes * N ≤ 281474976710656 := by rw [hz2]; omega
  have hml : N ≤ maxLen := by unfold maxLen; omega
  have HN := hide hN
  obtain ⟨V0, hV0⟩ : ∃ v, v = freeB f w h F k := ⟨_, rfl⟩
  rw [← hV0]
  have HV := hide hV0
  have e2 : wrap64 ((w : Int) + (h : Int)) = (N : Int) := by rw [e1]; exact Go.IntWalk.wrap64_in _ (by omega)
  have HT := hide (Tb.new r)
  have HF := hide (hF.keep (bal (o := .cells #[.int .i64 w, .int .i64 h, .slice p n cap] 24) (Below.refl W.heap.size W)))
  have B0 := hide (bal (o := .cells #[.int .i64 w, .int .i64 h, .slice p n cap] 24) (Below.refl W.heap.size W))
  clear r hF hV0 hN
  go_enter Try.func15, Try.ntmps15
  go_wp2_with (refine wpList_make_full _ rfl _ _ 22 rfl (W.heap.size + 1) 4 i0 _ 1 Try.underlying22 hi hz0 hz1 .i64 .i64 (N : Int) (N : Int) N rfl rfl rfl rfl hby hml (by simp) ?_)
  intro wm hown hgrow
  have S0 := (Below.refl _ (W.alloc (.cells #[.int .i64 w, .int .i64 h, .slice p n cap] 24))).grown hgrow (Nat.le_refl _) (fun k hk => by cases hk)
  have HR0 := hide (brow_made hown)
  have HS0 := hide S0
  clear S0 hown hgrow hi hz0 hz1 hz2 hby hml
  go_wp2
  clear e1 e2
  have hbi : (W.alloc (.cells #[.int .i64 w, .int .i64 h, .slice p n cap] 24)).heap.size = W.heap.size + 1 := by simp
  generalize W.alloc (.cells #[.int .i64 w, .int .i64 h, .slice p n cap] 24) = w0 at *
  generalize W.heap.size + 1 = bi at *
  have Hbi := hide hbi
  clear hbi
  have Hset := hide (show ∀ wr, Below w0.heap.size w0 wr → ∀ (o : Nat) (u : Value), Below w0.heap.size w0 (wr.setCell ⟨bi, o, none⟩ u) from fun wr hb o u => bset hb (by rw [unhide Hbi]; exact Nat.le_refl _))
  have Hout := hide (show ∀ wr, Below w0.heap.size w0 wr → Below W.heap.size W wr from fun wr hb => btrans (unhide B0) hb)
  clear Hbi B0
  go_loopw [19] (fun i wr => ∃ x : Nat, x ≤ k ∧ i = .int .i64 x ∧ (∀ j, j < x → 0 ≤ F j ∧ F j < (N : Int)) ∧ BRow wr bi N (inF F x) ∧ Below w0.heap.size w0 wr) (fun i _ => k - (intOf i).toNat)
  case atStart => exact ⟨0, Nat.zero_le _, rfl, fun j hj => by omega, by rw [inF_zero]; exact unhide HR0, unhide HS0⟩
  case round =>
    clear HR0 HS0
    obtain ⟨x, hx, rfl, hok, hR, hb⟩ := hrel
    have Hok := hide hok
    have HR := hide hR
    have Hb := hide hb
    clear hok hR hb
    by_cases hlt : x < k
    · have q1 : (x : Int) < (k : Int) := by omega
      have q2 : (0 : Int) ≤ (x : Int) := by omega
      obtain ⟨b1, o1, rfl, l1, c1⟩ := ((unhide HF).keep (unhide Hb)).at hlt
      by_cases hbad : 0 ≤ F x ∧ F x < (N : Int)
      · have Hok2 := hide (show ∀ j, j < x + 1 → 0 ≤ F j ∧ F j < (N : Int) from fun j hj => by
          by_cases e : j = x
          · subst e; exact hbad
          · exact unhide Hok j (by omega))
        obtain ⟨s, hs⟩ : ∃ s : Nat, F x = (s : Int) := ⟨(F x).toNat, by omega⟩
        have HRn := hide (show BRow (wr.setCell ⟨bi, s, none⟩ (.bool true)) bi N (inF F (x + 1)) by have := (unhide HR).set s true; rw [inF_succ F x s hs] at this; exact this)
        have Hbn := hide (unhide Hset wr (unhide Hb) s (.bool true))
        rw [hs] at c1 hbad
        have hsN : s < N := by omega
        have r1 := ((unhide HR).2 s hsN).1
        have r2 := ((unhide HR).2 s hsN).2
        have g1 : ¬ ((s : Int) < 0) := by omega
        have g1' : decide ((s : Int) < 0) = false := by simp
        have g2 : ¬ ((N : Int) ≤ (s : Int)) := by omega
        have g3 : (s : Int) < (N : Int) := by omega
        have g4 : (0 : Int) ≤ (s : Int) := by omega
        clear hbad hs HR Hb Hok
        go_wp2
        go_roundw
        case rel => exact ⟨x + 1, by omega, by go_num, unhide Hok2, unhide HRn, unhide Hbn⟩
        case measure => simp [intOf]; omega
      · have Hz := hide (show V0 = false by rw [unhide HV, freeB, ← unhide HN, okL_bad hlt hbad]; rfl)
        generalize F x = v at *
        by_cases hv : v < 0
        · have Hb' := hide (unhide Hout wr (unhide Hb))
          clear hbad HR Hok
          go_wp2
          go_ret
          exact ⟨ret_bool (unhide Hz).symm, unhide Hb'⟩
        · have hv' : decide (v < 0) = false := by simp; omega
          have hv2 : (N : Int) ≤ v := by omega
          have Hb' := hide (unhide Hout wr (unhide Hb))
          clear hbad HR Hok
          go_wp2
          go_ret
          exact ⟨ret_bool (unhide Hz).symm, unhide Hb'⟩
    · obtain rfl : k = x := by omega
      have cl : ¬ ((k : Int) < (k : Int)) := by omega
      have Hval := hide (show V0 = frB f w h (inF F k) by rw [unhide HV, freeB, ← unhide HN, okL_all (unhide Hok)]; rfl)
      clear Hok HV
      generalize inF F k = I at *
      go_wp2
      clear cl hx hlt
      go_loopw [8, 37] (fun cv i wr => ∃ a : Nat, a ≤ N ∧ i = .int .i64 a ∧ cv = .int .i64 ((cnI I a : Nat) : Int) ∧ Hid (∀ a', a' < a → ∀ b, b < N → I a' = false → I b = true → ab f w a' b = false) ∧ BRow wr bi N I ∧ Below w0.heap.size w0 wr) (fun _ i _ => N - (intOf i).toNat)
      case atStart => exact ⟨0, Nat.zero_le _, rfl, rfl, (fun a' ha' => by omega : ∀ a', a' < 0 → _), unhide HR, unhide Hb⟩
      case round =>
        clear HR Hb
        obtain ⟨a, ha, rfl, rfl, Hfr, hR, hb⟩ := hrel
        have HR := hide hR
        have Hb := hide hb
        have hcl := cnI_le I a
        clear hR hb
        by_cases hlt : a < N
        · have q1 : (a : Int) < (N : Int) := by omega
          have q2 : (0 : Int) ≤ (a : Int) := by omega
          have r1 := ((unhide HR).2 a hlt).1
          have Hcs := hide (cnI_succ I a)
          generalize cnI I a = ca at *
          cases hia : I a with
          | true =>
            rw [hia] at r1
            have Hc2 := hide (show cnI I (a + 1) = ca + 1 by rw [unhide Hcs, hia]; rfl)
            have Hf2 := hide (show ∀ a', a' < a + 1 → ∀ b, b < N → I a' = false → I b = true → ab f w a' b = false from fun a' ha' b hb' h1 h2 => by
              by_cases e : a' = a
              · subst e; rw [hia] at h1; cases h1
              · exact unhide Hfr a' (by omega) b hb' h1 h2)
            clear hia Hcs
            go_wp2
            go_roundw
            case rel => exact ⟨a + 1, by omega, by go_num, by rw [unhide Hc2]; go_num, unhide Hf2, unhide HR, unhide Hb⟩
            case measure => simp [intOf]; omega
          | false =>
            rw [hia] at r1
            have Hc2 := hide (show cnI I (a + 1) = ca by rw [unhide Hcs, hia]; rfl)
            have Hia := hide hia
            clear hia Hcs
            go_wp2
            clear r1
            go_loopw [48] (fun i wr => ∃ b : Nat, b ≤ N ∧ i = .int .i64 b ∧ Hid (∀ b', b' < b → I b' = true → ab f w a b' = false) ∧ BRow wr bi N I ∧ Below w0.heap.size w0 wr) (fun i _ => N - (intOf i).toNat)
            case atStart => exact ⟨0, Nat.zero_le _, rfl, (fun b' hb' => by omega : ∀ b', b' < 0 → _), unhide HR, unhide Hb⟩
            case round =>
              clear HR Hb
              obtain ⟨b, hbN, rfl, Hfb, hR, hb⟩ := hrel
              have HR := hide hR
              have Hb := hide hb
              clear hR hb
              by_cases hlb : b < N
              · have q3 : (b : Int) < (N : Int) := by omega
                have q4 : (0 : Int) ≤ (b : Int) := by omega
                have r3 := ((unhide HR).2 b hlb).1
                cases hib : I b with
                | false =>
                  rw [hib] at r3
                  have Hfn := hide (show ∀ b', b' < b + 1 → I b' = true → ab f w a b' = false from fun b' hb' h1 => by
                    by_cases e : b' = b
                    · subst e; rw [hib] at h1; cases h1
                    · exact unhide Hfb b' (by omega) h1)
                  clear hib
                  go_wp2
                  go_roundw
                  case rel => exact ⟨b + 1, by omega, by go_num, unhide Hfn, unhide HR, unhide Hb⟩
                  case measure => simp [intOf]; omega
                | true =>
                  rw [hib] at r3
                  obtain ⟨m1, m2, m3, m4⟩ := ((unhide HT).keep (unhide Hb)).1
                  have HL := hide (lies_any ((unhide HT).keep (unhide Hb)).2 a b (by rw [← unhide HN]; exact hlt) (by rw [← unhide HN]; exact hlb))
                  cases hv : ab f w a b with
                  | true =>
                    rw [hv] at HL
                    have Hz := hide (show V0 = false by rw [unhide Hval]; exact frB_bad (by rw [← unhide HN]; exact hlt) (by rw [← unhide HN]; exact hlb) (unhide Hia) hib hv)
                    clear hib hv
                    go_wp2_with fail
                    refine (unhide HL).mono ?_
                    rintro e w2 ⟨rfl, hb2⟩
                    have Hb' := hide (unhide Hout w2 (btrans (unhide Hb) hb2))
                    clear hb2 m1 m2 m3 m4 r3 HL
                    go_wp2
                    go_ret
                    exact ⟨ret_bool (unhide Hz).symm, unhide Hb'⟩
                  | false =>
                    rw [hv] at HL
                    have Hfn := hide (show ∀ b', b' < b + 1 → I b' = true → ab f w a b' = false from fun b' hb' h1 => by
                      by_cases e : b' = b
                      · subst e; exact hv
                      · exact unhide Hfb b' (by omega) h1)
                    clear hib hv
                    go_wp2_with fail
                    refine (unhide HL).mono ?_
                    rintro e w2 ⟨rfl, hb2⟩
                    have Hb' := hide (btrans (unhide Hb) hb2)
                    have HR' := hide ((unhide HR).keep hb2)
                    clear hb2 m1 m2 m3 m4 r3 HL Hb HR
                    go_wp2
                    go_roundw
                    case rel => exact ⟨b + 1, by omega, by go_num, unhide Hfn, unhide HR', unhide Hb'⟩
                    case measure => simp [intOf]; omega
              · obtain rfl : N = b := by omega
                have cl : ¬ ((N : Int) < (N : Int)) := by omega
                have Hf2 := hide (show ∀ a', a' < a + 1 → ∀ b, b < N → I a' = false → I b = true → ab f w a' b = false from fun a' ha' b hb' h1 h2 => by
                  by_cases e : a' = a
                  · subst e; exact unhide Hfb b hb' h2
                  · exact unhide Hfr a' (by omega) b hb' h1 h2)
                go_wp2
                go_roundw
                case rel => exact ⟨a + 1, by omega, by go_num, by rw [unhide Hc2], unhide Hf2, unhide HR, unhide Hb⟩
                case measure => simp [intOf]; omega
        · obtain rfl : N = a := by omega
          have cl : ¬ ((N : Int) < (N : Int)) := by omega
          have Hz := hide (show V0 = (decide (0 < cnI I N) && decide (cnI I N < N)) by
            rw [unhide Hval, frB_end (fun a' ha' b hb' => unhide Hfr a' (by rw [unhide HN]; exact ha') b (by rw [unhide HN]; exact hb')), ← unhide HN])
          have Hb' := hide (unhide Hout wr (unhide Hb))
          generalize cnI I N = ca at *
          by_cases h0 : 0 < ca
          · have g1 : (0 : Int) < (ca : Int) := by omega
            go_wp2
            go_ret
            exact ⟨ret_bool (by rw [unhide Hz]; simp [h0]), unhide Hb'⟩
          · have g1 : decide ((0 : Int) < (ca : Int)) = false := by simp; omega
            go_wp2
            go_ret
            exact ⟨ret_bool (by rw [unhide Hz]; simp [h0]), unhide Hb'⟩
end Go.Proofs.Ytbbilogkblmniaa
