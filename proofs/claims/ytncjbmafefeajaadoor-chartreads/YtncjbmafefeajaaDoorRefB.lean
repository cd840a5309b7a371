/-
  What Colour of the reference answers.
-/
import Derived.Test.YtncjbmafefeajaaDoorRefA
namespace Go.Proofs.YtncjbmafefeajaaDoor
open Go.RowKit

theorem st_signs (s : ByteArray) (p : Nat) (c k : Nat) (hc : c < 62) (hk : k < 62) (h : signAt s p = some ((c : Int), (sb c).length)) : st s p (sb k) = decide (k = c) := by
  by_cases e : k = c
  · subst e; rw [(st_sign s p k hk).2 h]; simp
  · have : st s p (sb k) ≠ true := by
      rw [ne_eq, st_sign s p k hk, h]
      intro hh
      have := (Prod.mk.inj (Option.some.inj hh)).1
      omega
    simp [e, this]
theorem st_none (s : ByteArray) (p k : Nat) (hk : k < 62) (h : signAt s p = none) : st s p (sb k) = false := by
  cases e : st s p (sb k)
  · rfl
  · rw [(st_sign s p k hk).1 e] at h; cases h
theorem sb_len (c : Nat) (hc : c < 62) : (sb c).length ≤ 3 ∧ sb (c : Nat) ≠ [] := by
  have h := decoded1 c hc
  exact ⟨h.2.2.1, fun e => by rw [e] at h; exact absurd h.2.1 (by decide)⟩

set_option maxHeartbeats 4000000 in
set_option maxRecDepth 100000 in
theorem rcolour_at (s : ByteArray) (c : Nat) (w : World) (hc : c ≤ 62) (hs : ∀ k, k < 62 → st s 0 (sb (k : Nat)) = decide (k = c)) (v l : Int) (h1 : c < 62 → v = c ∧ l = (sb c).length) (h2 : c = 62 → v = 0 ∧ l = 0) : Calls Tryd.prog 7 #[.string s] w fun e w' => e = .returned (.tuple #[.int .i64 v, .int .i64 l]) ∧ Below w.heap.size w w' := by
  have H1 := hide h1
  have H2 := hide h2
  clear h1 h2
  have HS := hide (signs_any w)
  have HT := hide (fun (k : Nat) (hk : k < 62) (w : World) => starts_any s 0 (sb k) w (by omega) (by have := sb_len k hk; omega) (sb_len k hk).2)
  have Hst := hide hs
  clear hs
  go_enter Tryd.func7, Tryd.ntmps7
  go_wp2_with fail
  refine (unhide HS).mono ?_
  rintro e w1 ⟨g, cap, rfl, hown, hbel⟩
  have HC := hide (fun (k : Nat) (hk : k < 62) => sign_cell hown hk)
  clear hown HS
  go_wp2
  go_loopw [8] (fun i wr => ∃ k : Nat, k ≤ c ∧ i = .int .i64 k ∧ wr = w1) (fun i _ => 62 - (intOf i).toNat)
  case atStart => exact ⟨0, Nat.zero_le _, rfl, rfl⟩
  case round =>
    obtain ⟨k, hk, rfl, rfl⟩ := hrel
    by_cases hlt : k < 62
    · have hcell := unhide HC k hlt
      have HT1 := hide (unhide HT k hlt wr)
      rw [unhide Hst k hlt] at HT1
      by_cases hkc : k = c
      · subst hkc
        rw [show decide (k = k) = true by simp] at HT1
        obtain ⟨rfl, rfl⟩ := unhide H1 hlt
        clear H1 H2
        have hz : (⟨(sb (k : Nat)).toArray⟩ : ByteArray).size = (sb (k : Nat)).length := rfl
        have hl3 := (sb_len k hlt).1
        rw [← hz] at hl3
        have Hz := hide hz
        clear hz HT HC Hst
        generalize (⟨(sb (k : Nat)).toArray⟩ : ByteArray) = t at *
        go_wp2_with fail
        refine (unhide HT1).mono ?_
        rintro e w2 ⟨rfl, rfl⟩
        go_wp2
        exact bodyPost_ret (v := .tuple #[.int .i64 k, .int .i64 t.size]) (by simp [results, Tryd.results7, go_sem]) rfl ⟨by rw [show t.size = _ from unhide Hz], hbel⟩
      · rw [show decide (k = c) = false by simp [hkc]] at HT1
        generalize (⟨(sb (k : Nat)).toArray⟩ : ByteArray) = t at *
        go_wp2_with fail
        refine (unhide HT1).mono ?_
        rintro e w2 ⟨rfl, rfl⟩
        go_wp2
        go_roundw
        case rel => exact ⟨k + 1, by omega, by go_num, trivial⟩
        case measure => simp [intOf]; omega
    · have e : k = 62 := by omega
      subst e
      have e62 : c = 62 := by omega
      obtain ⟨rfl, rfl⟩ := unhide H2 e62
      clear H1 H2
      go_wp2
      exact bodyPost_ret (v := .tuple #[.int .i64 0, .int .i64 0]) (by simp [results, Tryd.results7, go_sem]) rfl ⟨rfl, hbel⟩
theorem signAt_form (s : ByteArray) (p : Nat) (c : Int) (n : Nat) (h : signAt s p = some (c, n)) : ∃ k : Nat, k < 62 ∧ c = k ∧ n = (sb k).length := by
  have hr := signAt_range s p c n h
  have hn := (sign_sound s p c n h).2
  refine ⟨c.toNat, by omega, by omega, ?_⟩
  rw [show ((c.toNat : Nat) : Int) = c by omega]
  exact hn
theorem rcolour_any (s : ByteArray) (w : World) : Calls Tryd.prog 7 #[.string s] w fun e w' => e = .returned (.tuple #[.int .i64 (colP (Lib.decodeGo s).1 (Lib.decodeGo s).2).1, .int .i64 (colP (Lib.decodeGo s).1 (Lib.decodeGo s).2).2]) ∧ Below w.heap.size w w' := by
  have hd : dg s 0 = Lib.decodeGo s := by
    unfold dg
    congr 1
    cases s with
    | mk d => simp [ByteArray.ext_iff, ByteArray.size]
  cases h : signAt s 0 with
  | none =>
    refine rcolour_at s 62 w (by omega) (fun k hk => ?_) _ _ (fun h => by omega) (fun _ => ?_)
    · rw [st_none s 0 k hk h]; simp; omega
    · unfold signAt at h
      rw [hd] at h
      unfold colP
      split at h
      · cases h
      · rename_i e; rw [e]; exact ⟨rfl, rfl⟩
  | some x =>
    obtain ⟨c, n⟩ := x
    obtain ⟨k, hk, rfl, rfl⟩ := signAt_form s 0 c n h
    refine rcolour_at s k w (by omega) (fun j hj => st_signs s 0 k j hk hj h) _ _ (fun _ => ?_) (fun h => by omega)
    unfold signAt at h
    rw [hd] at h
    unfold colP
    split at h
    · rename_i c' e
      rw [e]
      obtain ⟨h1, h2⟩ := Prod.mk.inj (Option.some.inj h)
      exact ⟨h1, congrArg Int.ofNat h2⟩
    · cases h
end Go.Proofs.YtncjbmafefeajaaDoor
