/-
  What balance of package cards answers.
-/
import Derived.Test.YtkjicpbnkehimaaCdB
namespace Go.Proofs.Ytkjicpbnkehimaa
open Go.RowKit

theorem su_snoc (s : ByteArray) (k : Nat) (h : k < s.size) : su (s.data.toList.take (k + 1)) = su (s.data.toList.take k) + s[k].toNat := by
  have hk : k < s.data.toList.length := by simpa using h
  have e : su (s.data.toList.take (k + 1)) = su (s.data.toList.take k) + su [s.data.toList[k]] := by
    rw [← su_append, List.take_append_getElem hk]
  rw [e]
  simp only [su, Nat.add_zero]
  rfl
set_option maxHeartbeats 1000000 in
theorem balance_any (s : ByteArray) (hs : s.size ≤ maxLen) (W : World) : Calls Try.prog 19 #[.string s] W fun e w' => e = .returned (.int .u8 ((bl s.data.toList : Nat) : Int)) ∧ w' = W := by
  unfold maxLen at hs
  go_enter Try.func19, Try.ntmps19
  go_wp2
  go_loop [3, 7] (fun c i => ∃ k m : Nat, k ≤ s.size ∧ i = .int .i64 k ∧ c = .int .u8 m ∧ m = su (s.data.toList.take k) % 256) (fun _ i => s.size - (intOf i).toNat)
  case atStart => exact ⟨0, 0, Nat.zero_le _, rfl, rfl, rfl⟩
  case round =>
    obtain ⟨k, m, hk, rfl, rfl, hm⟩ := hrel
    have Hm := hide hm
    have m2 : (m : Int) ≤ 255 := by omega
    have m3 : (0 : Int) ≤ (m : Int) := by omega
    clear hm
    by_cases hlt : k < s.size
    · have hc := s[k].toNat_lt
      have Hs := hide (su_snoc s k hlt)
      go_wp2
      go_round
      case rel => exact ⟨k + 1, (m + s[k].toNat) % 256, by omega, by go_num, by go_num, by rw [unhide Hs, unhide Hm]; omega⟩
      case measure => simp [intOf]; omega
    · obtain rfl : k = s.size := by omega
      have cl : ¬ ((s.size : Int) < (s.size : Int)) := by omega
      have Hz := hide (show s.data.toList.take s.size = s.data.toList from List.take_of_length_le (Nat.le_of_eq rfl))
      go_wp2
      go_ret
      exact ⟨ret_u8 (by have h1 := unhide Hm; rw [unhide Hz] at h1; unfold bl; omega), rfl⟩
end Go.Proofs.Ytkjicpbnkehimaa
