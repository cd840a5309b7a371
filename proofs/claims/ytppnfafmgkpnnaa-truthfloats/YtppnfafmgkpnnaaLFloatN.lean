/-
  TruthFloats of anything.
-/
import Derived.Test.YtppnfafmgkpnnaaLFloat
namespace Go.Proofs.Ytppnfafmgkpnnaa
open Go.RowKit Go.Shelf

theorem flt_any (w h : Int) (p : Option Addr) (n cap : Nat) (f : Nat → Bool) (i : Int) (W : World) (hc : Bs W p n cap f) (_ : -9223372036854775808 ≤ i ∧ i ≤ 9223372036854775807) : FltIs w h p n cap i W := by
  by_cases e1 : wE w h n = 0
  · obtain ⟨w, h, rfl, rfl, r⟩ := rt_of hc e1
    by_cases e2 : n = 0
    · exact flt_err w h p n cap i W 5 (by omega) (fun V hV => floats_none w h p n cap f V (r.keep hV) e2)
    · obtain ⟨b, o, rfl⟩ : ∃ b o, p = some ⟨b, o, none⟩ := by
        rcases hc.2 with h0 | ⟨b, o, e, _⟩
        · exact absurd h0 e2
        · exact ⟨b, o, e⟩
      have hn := r.2.2.1
      obtain ⟨h1, h2⟩ := pos_of_lt (show 0 < w * h by omega)
      have h3 : 0 ≤ (if i < 0 then 0 else i) := by split <;> omega
      have h4 := Int.emod_lt_of_pos (if i < 0 then 0 else i) (b := (w : Int)) (by omega)
      have h5 := Int.emod_nonneg (if i < 0 then 0 else i) (b := (w : Int)) (by omega)
      refine flt_ok w h b o n cap f i ((if i < 0 then 0 else i) % (w : Int)).toNat W h1 h2 r (by omega) _ rfl ?_
      rw [Int.tmod_eq_emod_of_nonneg h3]
      omega
  · exact flt_err w h p n cap i W _ (wE_pos w h n e1) (fun V _ => floats_err w h p n cap V _ rfl (wE_pos w h n e1))
end Go.Proofs.Ytppnfafmgkpnnaa
