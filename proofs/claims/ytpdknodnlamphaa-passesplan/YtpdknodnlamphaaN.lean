/-
  The document's name of a way to stand.
-/
import Derived.Test.YtpdknodnlamphaaL
namespace Go.Proofs.Ytpdknodnlamphaa
open Go.RowKit

/-- the name of so many needles -/
def nmS (f : Nat → Int) : Nat → ByteArray
  | 0 => ByteArray.empty
  | k + 1 => nmS f k ++ Utf8.encode (97 + f k)
theorem enc_nat : ∀ n : Nat, n < 12 → Utf8.encode (97 + (n : Int)) = ⟨#[UInt8.ofNat (97 + n)]⟩ := by decide +kernel
theorem enc_one {x : Int} (h : 0 ≤ x ∧ x ≤ 11) : Utf8.encode (97 + x) = ⟨#[UInt8.ofNat (97 + x.toNat)]⟩ := by
  have := enc_nat x.toNat (by omega)
  rw [show ((x.toNat : Nat) : Int) = x by omega] at this
  exact this
theorem nmS_eq {f : Nat → Int} : ∀ {k : Nat}, (∀ i, i < k → 0 ≤ f i ∧ f i ≤ 11) → nmS f k = ⟨((List.range k).map fun i => UInt8.ofNat (97 + (f i).toNat)).toArray⟩
  | 0, _ => rfl
  | k + 1, h => by
    unfold nmS
    rw [nmS_eq (fun i hi => h i (by omega)), enc_one (h k (by omega)), List.range_succ]
    apply ByteArray.ext
    simp
theorem nmS_size {f : Nat → Int} {k : Nat} (h : ∀ i, i < k → 0 ≤ f i ∧ f i ≤ 11) : (nmS f k).size = k := by
  rw [nmS_eq h]
  simp [ByteArray.size]
theorem sign_inj : ∀ a, a < 12 → ∀ b, b < 12 → UInt8.ofNat a = UInt8.ofNat b → a = b := by decide +kernel
theorem nmS_inj {f g : Nat → Int} {k : Nat} (hf : ∀ i, i < k → 0 ≤ f i ∧ f i ≤ 11) (hg : ∀ i, i < k → 0 ≤ g i ∧ g i ≤ 11) (h : nmS f k = nmS g k) : ∀ i, i < k → f i = g i := by
  intro i hi
  rw [nmS_eq hf, nmS_eq hg] at h
  have h1 := congrArg (fun b : ByteArray => b.data.toList[i]?) h
  simp [hi] at h1
  have h2 := sign_inj (f i).toNat (by have := hf i hi; omega) (g i).toNat (by have := hg i hi; omega) h1
  have := hf i hi
  have := hg i hi
  omega
theorem nmS_congr {f g : Nat → Int} : ∀ {k : Nat}, (∀ i, i < k → f i = g i) → nmS f k = nmS g k
  | 0, _ => rfl
  | k + 1, h => by
    unfold nmS
    rw [nmS_congr (fun i hi => h i (by omega)), h k (by omega)]

set_option maxRecDepth 100000 in
set_option maxHeartbeats 4000000 in
theorem rname_any (q : Option Addr) (n c : Nat) (f : Nat → Int) (W : World) (hq : Is W q n f) (hf : ∀ i, i < n → 0 ≤ f i ∧ f i ≤ 11) (hn5 : n ≤ 5) :
    Calls Try.prog 21 #[.slice q n c] W fun e w' => e = .returned (.string (nmS f n)) ∧ w' = W := by
  have Hq := hide hq
  clear hq
  go_enter Try.func21, Try.ntmps21
  go_wp2
  go_loop [3, 8] (fun s i => ∃ (k : Nat) (u : ByteArray), i = .int .i64 k ∧ s = .string u ∧ k ≤ n ∧ Hid (u = nmS f k)) (fun _ i => n - (intOf i).toNat)
  case atStart => exact ⟨0, _, rfl, rfl, Nat.zero_le _, hide rfl⟩
  case round =>
    obtain ⟨k, u, rfl, rfl, hk, hu⟩ := hrel
    by_cases hlt : k < n
    · obtain ⟨b, o, rfl, hc⟩ := (unhide Hq).at hlt
      have hfx := hf k hlt
      obtain ⟨y, hy⟩ : ∃ y, y = 97 + f k := ⟨_, rfl⟩
      have w0 : wrap64 (97 + f k) = y := by rw [hy]; exact Go.IntWalk.wrap64_in _ (by omega)
      have w1 : IntKind.i64.wrap (97 + f k) = y := by rw [hy]; exact Go.IntWalk.i64_in _ (by omega)
      have w2 : IntKind.i32.wrap y = y := Go.IntWalk.i32_in _ (by omega)
      have w3 : ¬ 9223372036854775807 < u.size + (Utf8.encode y).size := by
        have e1 : u.size = k := by rw [unhide hu]; exact nmS_size (fun i hi => hf i (by omega))
        have e2 : (Utf8.encode y).size = 1 := by rw [hy, enc_one hfx]; rfl
        omega
      have HU := hide (show u ++ Utf8.encode y = nmS f (k + 1) from by rw [unhide hu, hy]; rfl)
      have g1 : (k : Int) < (n : Int) := by omega
      have g3 : k + 1 ≤ n := hlt
      clear hfx hy
      generalize f k = x at *
      go_wp2
      go_round
      case rel => exact ⟨k + 1, _, by go_num, rfl, g3, HU⟩
      case measure => simp [intOf]; omega
    · obtain rfl : k = n := by omega
      have cl : ¬ ((k : Int) < (k : Int)) := by omega
      clear hlt
      go_wp2
      go_ret
      exact ⟨by rw [← unhide hu]; rfl, rfl⟩
end Go.Proofs.Ytpdknodnlamphaa
