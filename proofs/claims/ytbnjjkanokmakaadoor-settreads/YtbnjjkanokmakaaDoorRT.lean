/-
  The reference: Digits.
-/
import Derived.Test.YtbnjjkanokmakaaDoorSQ
namespace Go.Proofs.YtbnjjkanokmakaaDoor
open Go.RowKit

theorem enc_dig : ∀ d : Nat, d < 10 → Utf8.encode ((48 + d : Nat) : Int) = ⟨([UInt8.ofNat (48 + d)] : List UInt8).toArray⟩ := by
  have key : ∀ d : Nat, d < 10 → (Utf8.encode ((48 + d : Nat) : Int)).data = #[UInt8.ofNat (48 + d)] := by decide +kernel
  intro d hd
  have := key d hd
  cases h : Utf8.encode ((48 + d : Nat) : Int)
  rw [h] at this
  exact congrArg ByteArray.mk this
/-- what is written already, of a number from behind -/
def DgS (k n : Nat) (s : List UInt8) : Prop := if n = 0 then s = Lib.decDigits k else Lib.decDigits n ++ s = Lib.decDigits k
theorem DgS.next {k n : Nat} {s : List UInt8} (h : DgS k n s) (hn : n ≠ 0) : DgS k (n / 10) (UInt8.ofNat (48 + n % 10) :: s) := by
  unfold DgS at h ⊢
  rw [if_neg hn] at h
  by_cases h10 : n < 10
  · rw [if_pos (by omega), ← h, Lib.decDigits, dif_pos h10]
    rw [show n % 10 = n by omega]
    rfl
  · rw [if_neg (by omega), ← h, Lib.decDigits.eq_def n, dif_neg h10]
    simp
theorem DgS.len {k n : Nat} {s : List UInt8} (h : DgS k n s) : s.length ≤ (Lib.decDigits k).length := by
  unfold DgS at h
  split at h
  · rw [h]; exact Nat.le_refl _
  · rw [← h, List.length_append]; omega

set_option maxRecDepth 100000 in
set_option maxHeartbeats 2000000 in
theorem digits_any (k : Nat) (w : World) (hk : 1 ≤ k ∧ k ≤ 4096) : Calls Tryd.prog 37 #[.int .i64 (k : Int)] w fun e w' => e = .returned (.string ⟨(Lib.decDigits k).toArray⟩) ∧ w' = w := by
  have hl : (Lib.decDigits k).length ≤ 4097 := by rw [Lib.decDigits_length]; have := nd_le k; omega
  have Hl := hide hl
  clear hl
  go_enter Tryd.func37, Tryd.ntmps37
  go_wp2
  go_loop [0, 3] (fun i s => ∃ (n : Nat) (u : List UInt8) (sA : ByteArray), i = .int .i64 (n : Int) ∧ s = .string sA ∧ n ≤ k ∧ Hid (sA = ⟨u.toArray⟩ ∧ DgS k n u)) (fun i _ => (intOf i).toNat)
  case atStart => exact ⟨k, [], _, rfl, rfl, Nat.le_refl _, hide ⟨rfl, by unfold DgS; rw [if_neg (by omega), List.append_nil]⟩⟩
  case round =>
    obtain ⟨n, u, sA, rfl, rfl, hn, Hs⟩ := hrel
    by_cases h0 : 0 < n
    · obtain ⟨r, hr⟩ : ∃ r, r = n % 10 := ⟨_, rfl⟩
      obtain ⟨m, hm⟩ : ∃ m, m = n / 10 := ⟨_, rfl⟩
      obtain ⟨y, hy⟩ : ∃ y : Nat, y = 48 + r := ⟨_, rfl⟩
      have g0 : (0 : Int) < (n : Int) := by omega
      have e1 : (n : Int) % 10 = (r : Int) := by omega
      have e2 : (n : Int) / 10 = (m : Int) := by omega
      have e3 : (48 : Int) + (r : Int) = (y : Int) := by omega
      have e4 : IntKind.i32.wrap (y : Int) = (y : Int) := Go.IntWalk.i32_in _ (by omega)
      have hen := enc_dig r (by omega)
      rw [← hy] at hen
      have HN := hide (show DgS k m (UInt8.ofNat y :: u) from by rw [hm, hy, hr]; exact (unhide Hs).2.next (by omega))
      have HS := hide (show (⟨([UInt8.ofNat y] : List UInt8).toArray⟩ : ByteArray) ++ sA = ⟨(UInt8.ofNat y :: u).toArray⟩ from by rw [(unhide Hs).1, ba_app]; rfl)
      have hsz : ¬ 9223372036854775807 < (⟨([UInt8.ofNat y] : List UInt8).toArray⟩ : ByteArray).size + sA.size := by
        have := (unhide Hs).2.len
        have := unhide Hl
        rw [(unhide Hs).1, ba_size, ba_size]
        simp only [List.length_cons, List.length_nil]
        omega
      have hmk : m ≤ k := by omega
      have hmn : m < n := by omega
      clear hr hm hy
      generalize (⟨([UInt8.ofNat y] : List UInt8).toArray⟩ : ByteArray) = sD at *
      go_wp2
      go_round
      case rel => exact ⟨m, _, _, rfl, rfl, hmk, hide ⟨unhide HS, unhide HN⟩⟩
      case measure => simp [intOf]; omega
    · obtain rfl : n = 0 := by omega
      have HE := hide (show sA = ⟨(Lib.decDigits k).toArray⟩ from by have := unhide Hs; rw [this.1, show u = Lib.decDigits k from by simpa [DgS] using this.2])
      clear Hs
      go_wp2
      go_ret
      exact ⟨by rw [unhide HE]; rfl, rfl⟩
end Go.Proofs.YtbnjjkanokmakaaDoor
