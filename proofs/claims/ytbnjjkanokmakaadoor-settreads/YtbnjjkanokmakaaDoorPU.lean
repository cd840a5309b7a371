/-
  A whole sett that is written is read, and one that is read is written so.
-/
import Derived.Test.YtbnjjkanokmakaaDoorPT
namespace Go.Proofs.YtbnjjkanokmakaaDoor
open Go.RowKit

theorem itoa_short : ((List.range 4097).all fun k => decide ((Lib.itoa (k : Int)).length ≤ 4)) = true := by decide +kernel
theorem stB_short {x : St} (h : Sw x) : (stB x).length ≤ 8 := by
  obtain ⟨k, hk⟩ : ∃ k : Nat, x.2 = (k : Int) := ⟨x.2.toNat, by have := h.2; omega⟩
  have := of_decide_eq_true (List.all_eq_true.1 itoa_short k (by simp; have := h.2; omega))
  have h2 := sb_len x.1
  unfold stB
  rw [List.length_append, hk]
  omega
theorem prL_short (l : List St) (h : ∀ x ∈ l, Sw x) : (prL l).length ≤ 9 * l.length := by
  induction l with
  | nil => simp [prL, Lib.join, List.intercalate]
  | cons x r ih =>
    cases r with
    | nil => rw [prL_one]; have := stB_short (h x (by simp)); simp; omega
    | cons y r =>
      rw [prL_cons, List.length_append, List.length_cons]
      have := stB_short (h x (by simp))
      have := ih (fun z hz => h z (by simp [hz]))
      simp at this ⊢
      omega
theorem sb_head : ∀ c : Nat, c < 62 → (sb (c : Int)).head? ≠ some 47 ∧ sb (c : Int) ≠ [] := by decide +kernel
theorem prL_head {l : List St} (h0 : l ≠ []) (h : ∀ x ∈ l, Sw x) : (prL l).head? ≠ some 47 := by
  cases l with
  | nil => exact absurd rfl h0
  | cons x r =>
    obtain ⟨k, hk⟩ : ∃ k : Nat, x.1 = (k : Int) := ⟨x.1.toNat, by have := (h x (by simp)).1; omega⟩
    have hs := sb_head k (by have := (h x (by simp)).1; omega)
    have key : ∀ t : List UInt8, (stB x ++ t).head? ≠ some 47 := by
      intro t
      unfold stB
      rw [hk]
      cases e : sb (k : Int) with
      | nil => exact absurd e hs.2
      | cons a b =>
        have := hs.1
        rw [e] at this
        simpa using this
    cases r with
    | nil => rw [prL_one]; simpa using key []
    | cons y r => rw [prL_cons]; exact key _
theorem rdE_ends {s : ByteArray} {p : Nat} {acc : List St} (h : rdS s = (0, p, acc)) : rdE s = if pvS s = true then (if by1 s p 47 = true then (if p + 1 < s.size then (2, p + 1) else (0, 0)) else (2, p)) else (if p < s.size then (2, p) else (0, 0)) := by
  unfold rdE
  rw [h, if_neg (by simp)]
theorem sw_of {pv : Bool} {l : List St} (h : Ok pv l) : ∀ x ∈ l, Sw x := by
  intro x hx
  obtain ⟨k, hk, rfl⟩ := List.mem_iff_getElem.1 hx
  have := h.each k hk
  unfold ca cb at this
  rw [getD_lt _ _ hk] at this
  exact this
/-- what is written is read -/
theorem read_print {pv : Bool} {l : List St} (h : wE pv l = 0) (s : ByteArray) (hs : byt s = prB pv l) : rE s = (0, 0) ∧ pvS s = pv ∧ (rdS s).2.2 = l := by
  have hO := ok_of h
  have hw := sw_of hO
  have h0 : l ≠ [] := fun e => by have := hO.few.1; rw [e] at this; simp at this
  have hlen := prL_short l hw
  have hsz := size_byt s
  have hfew := hO.few.2
  cases pv with
  | true =>
    have hs2 : byt s = 47 :: (prL l ++ [47]) := by rw [hs]; rfl
    rw [hs2, List.length_cons, List.length_append, List.length_singleton] at hsz
    have hp : pvS s = true := by
      unfold pvS
      rw [by1_of, List.drop_zero, hs2]
      rfl
    have hd1 : (byt s).drop 1 = prL l ++ [47] := by rw [hs2]; rfl
    have hr : rdS s = (0, 1 + (prL l).length, l) := by
      unfold rdS a0S
      rw [if_pos hp]
      exact rst_read [47] (nd_cons (by decide)) (by decide) l 1 [] h0 hw (by simpa using hfew) (by omega) hd1
    have hb : by1 s (1 + (prL l).length) 47 = true := by
      rw [by1_of, drop_of hd1]
      rfl
    have hE : rdE s = (0, 0) := by
      rw [rdE_ends hr, if_pos hp, if_pos hb, if_neg (by omega)]
    refine ⟨?_, hp, by rw [hr]⟩
    unfold rE
    rw [if_neg (by omega), hE, if_neg (by simp), hp, hr, h]
  | false =>
    have hs2 : byt s = prL l := by rw [hs]; rfl
    rw [hs2] at hsz
    have hp : pvS s = false := by
      unfold pvS
      rw [by1_of, List.drop_zero, hs2]
      exact decide_eq_false (prL_head h0 hw)
    have hr : rdS s = (0, 0 + (prL l).length, l) := by
      unfold rdS a0S
      rw [hp, if_neg (by decide)]
      exact rst_read [] nd_nil (by simp) l 0 [] h0 hw (by simpa using hfew) (by omega) (by rw [List.drop_zero, List.append_nil]; exact hs2)
    have hE : rdE s = (0, 0) := by
      rw [rdE_ends hr, hp, if_neg (by decide), if_neg (by omega)]
    refine ⟨?_, hp, by rw [hr]⟩
    unfold rE
    rw [if_neg (by omega), hE, if_neg (by simp), hp, hr, h]
theorem drop_end {s : ByteArray} {p : Nat} (h : ¬ p < s.size) : (byt s).drop p = [] := by
  apply List.drop_eq_nil_of_le
  rw [size_byt]
  omega
/-- what is read is written so -/
theorem print_read {s : ByteArray} (h : (rE s).1 = 0) : wE (pvS s) (rdS s).2.2 = 0 ∧ byt s = prB (pvS s) (rdS s).2.2 := by
  unfold rE at h
  by_cases hl : 65536 < s.size
  · rw [if_pos hl] at h; cases h
  · rw [if_neg hl] at h
    by_cases he : (rdE s).1 = 0
    · rw [if_neg (by simp [he])] at h
      refine ⟨h, ?_⟩
      obtain ⟨er, p, out, hr⟩ : ∃ er p out, rdS s = (er, p, out) := ⟨_, _, _, rfl⟩
      have h1 : er = 0 := by
        by_cases h2 : er = 0
        · exact h2
        · unfold rdE at he
          rw [hr, if_pos h2] at he
          exact he
      subst h1
      rw [rdE_ends hr] at he
      have hr2 := hr
      unfold rdS at hr2
      obtain ⟨l, k1, k2, k3, k4, k5⟩ := rst_write (s.size + 1) _ _ _ _ (by omega) (a0_le s) hr2
      rw [List.nil_append] at k2
      subst k2
      rw [hr]
      simp only
      unfold a0S at k4
      cases hp : pvS s with
      | true =>
        rw [hp, if_pos rfl] at he k4
        cases hb : by1 s p 47 with
        | false => rw [hb, if_neg (by decide)] at he; cases he
        | true =>
          rw [hb, if_pos rfl] at he
          by_cases hq : p + 1 < s.size
          · rw [if_pos hq] at he; cases he
          · have hlt := by1_lt hb
            have e1 : (byt s).drop p = [47] := by
              rw [drop_byt s _ hlt, drop_end hq]
              have h6 := of_decide_eq_true (by rw [by1_of] at hb; exact hb)
              rw [drop_byt s _ hlt] at h6
              rw [Option.some.inj h6]
            have hlt0 : 0 < s.size := by omega
            have e0 : byt s = 47 :: (byt s).drop 1 := by
              have h6 : by1 s 0 47 = true := hp
              rw [by1_of] at h6
              have h7 := of_decide_eq_true h6
              have h8 := drop_byt s 0 hlt0
              rw [h8] at h7
              rw [List.drop_zero, Nat.zero_add] at h8
              rw [Option.some.inj h7] at h8
              exact h8
            rw [e0, k4, e1]
            rfl
      | false =>
        rw [hp, if_neg (by decide)] at he k4
        by_cases hq : p < s.size
        · rw [if_pos hq] at he; cases he
        · rw [drop_end hq, List.append_nil, List.drop_zero] at k4
          rw [k4]
          rfl
    · rw [if_pos he] at h
      exact absurd h he
end Go.Proofs.YtbnjjkanokmakaaDoor
