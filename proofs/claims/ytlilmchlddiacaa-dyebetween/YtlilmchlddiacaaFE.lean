/-
  What Mix answers of anything; the laws' alive.
-/
import Derived.Test.YtlilmchlddiacaaFD
namespace Go.Proofs.Ytlilmchlddiacaa
open Go.RowKit Ieee

/-- what a mix is of anything -/
def MixIs (n : Nat) (d : Nat → Nat → Nat) (s : Nat → Nat) (p : Nat → Nat) (er : Int) : Prop :=
  (¬ (1 ≤ n ∧ n ≤ 64) ∧ p = (fun _ => 0) ∧ er = 5) ∨ ((1 ≤ n ∧ n ≤ 64) ∧ (∃ k, k < n ∧ (DpOk k d s ∨ k = 0) ∧ dpB (d k) (s k) = false) ∧ p = (fun _ => 0) ∧ er = 3) ∨ (DpOk n d s ∧ p = mxF d s n ∧ er = 0)
theorem first_bad (P : Nat → Bool) : ∀ n, (∀ k, k < n → P k = true) ∨ ∃ k, k < n ∧ (∀ j, j < k → P j = true) ∧ P k = false := by
  intro n
  induction n with
  | zero => exact .inl (fun k hk => by omega)
  | succ n ih =>
    rcases ih with h | ⟨k, hk, h1, h2⟩
    · cases hn : P n with
      | true => exact .inl (fun k hk => by rcases (show k < n ∨ k = n by omega) with h3 | rfl; exact h k h3; exact hn)
      | false => exact .inr ⟨n, by omega, h, hn⟩
    · exact .inr ⟨k, by omega, h1, h2⟩
theorem mix_split (n : Nat) (d : Nat → Nat → Nat) (s : Nat → Nat) : ∃ p er, MixIs n d s p er := by
  by_cases hn : 1 ≤ n ∧ n ≤ 64
  · rcases first_bad (fun k => dpB (d k) (s k)) n with h | ⟨k, hk, h1, h2⟩
    · exact ⟨_, _, .inr (.inr ⟨⟨hn.1, hn.2, h⟩, rfl, rfl⟩)⟩
    · refine ⟨_, _, .inr (.inl ⟨hn, ⟨k, hk, ?_, h2⟩, rfl, rfl⟩)⟩
      by_cases h0 : k = 0
      · exact .inr h0
      · exact .inl ⟨by omega, by omega, h1⟩
  · exact ⟨_, _, .inl ⟨hn, rfl, rfl⟩⟩
theorem mix_any {n : Nat} {d : Nat → Nat → Nat} {s : Nat → Nat} {p : Nat → Nat} {er : Int} (h : MixIs n d s p er) (cap : Nat) (q : Option Addr) (W : World) (hD : Dp W q n d s) : AnsM 7 #[.slice q n cap] W p er := by
  rcases h with ⟨h, rfl, rfl⟩ | ⟨hn, ⟨k, hk, h1, h2⟩, rfl, rfl⟩ | ⟨h, rfl, rfl⟩
  · exact mix_many n cap q h W
  · exact mix_bad n k cap q d s hn.1 hn.2 hk h1 h2 W hD
  · exact mix_ok n cap q d s h W hD

/-- the drop that the laws ask first -/
def aD : Nat → Nat → Nat := fun _ c => if c = 0 then 4607182418800017408 else 0
def aS : Nat → Nat := fun _ => 4607182418800017408
theorem a_ok : DpOk 1 aD aS := ⟨by omega, by omega, fun k _ => by show dpB (aD 0) (aS 0) = true; kernel_rfl⟩
theorem a_one : FloatKind.f64.format.order (mxF aD aS 1 0) 4607182418800017408 = some .eq := by kernel_rfl
theorem a_dp (W : World) : Dp (W.alloc (.cells #[.float .f64 4607182418800017408, .float .f64 0, .float .f64 0, .float .f64 4607182418800017408] 41)) (some ⟨W.heap.size, 0, none⟩) 1 aD aS := by
  refine .inr ⟨W.heap.size, 0, rfl, by simp, fun k hk => ?_⟩
  obtain rfl : k = 0 := by omega
  refine ⟨?_, ?_, ?_, ?_⟩ <;> simp [go_sem, aD, aS]

set_option maxRecDepth 100000 in
set_option maxHeartbeats 1000000 in
theorem alive_any (W : World) : Calls Try.prog 15 #[] W fun e w' => e = .returned (.bool true) ∧ Below W.heap.size W w' := by
  have HM := hide (mix_ok 1 1 (some ⟨W.heap.size, 0, none⟩) aD aS a_ok _ (a_dp W))
  have Hb0 := hide (bnew W (.cells #[.float .f64 4607182418800017408, .float .f64 0, .float .f64 0, .float .f64 4607182418800017408] 41))
  have h1 := a_one
  have hst := stF
  generalize mxF aD aS 1 = p at *
  go_enter Try.func15, Try.ntmps15
  go_wp2_with fail
  refine (unhide HM).mono ?_
  rintro e w1 ⟨rfl, hb1⟩
  have Hb := hide (btrans (unhide Hb0) hb1)
  clear hb1 HM Hb0
  go_upto_region 2 with fail
  have k0 := ((FR.new w1 p 26).2 0 (by omega)).1
  have Hb2 := hide (bal (o := .cells #[.float .f64 (p 0), .float .f64 (p 1), .float .f64 (p 2)] 26) (unhide Hb))
  generalize w1.alloc (.cells #[.float .f64 (p 0), .float .f64 (p 1), .float .f64 (p 2)] 26) = w2 at *
  generalize w1.heap.size = n1 at k0 ⊢
  go_wp2
  go_ret
  exact ⟨rfl, unhide Hb2⟩
end Go.Proofs.Ytlilmchlddiacaa
