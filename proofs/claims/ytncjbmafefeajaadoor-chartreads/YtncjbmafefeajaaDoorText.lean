/-
  Plain facts: which bytes a sign is read out of; a text that is read whole is the text that its rows are printed as, and the other way round.
-/
import Derived.Test.YtncjbmafefeajaaDoorReadE
namespace Go.Proofs.YtncjbmafefeajaaDoor
open Go.RowKit

/-- the bytes of a text -/
abbrev byt (s : ByteArray) : List UInt8 := s.data.toList
theorem size_byt (s : ByteArray) : (byt s).length = s.size := by cases s; simp [ByteArray.size]
theorem get_byt (s : ByteArray) (i : Nat) (b : UInt8) (h : (byt s)[i]? = some b) : s.get! i = b := by
  cases s with
  | mk d =>
    simp at h
    show d[i]! = b
    rw [getElem!_def, h]
theorem dg_at (s : ByteArray) (p : Nat) (h : p < s.size) : dg s p = Utf8.decode s p := by
  unfold dg Lib.decodeGo
  have hsz : (s.extract p s.size).size = s.size - p := by simp [ByteArray.size_extract]
  rw [if_neg (by omega), Lib.decode_at, Lib.decode_at, hsz]
  have g : ∀ k, (s.extract p s.size).get! k = s.get! (p + k) := by
    intro k
    cases s with
    | mk d =>
      have e : ((⟨d⟩ : ByteArray).extract p d.size).data = d.extract p d.size := by simp
      show (((⟨d⟩ : ByteArray).extract p d.size).data)[k]! = d[p + k]!
      rw [e, getElem!_def, getElem!_def, Array.getElem?_extract]
      by_cases hk : k < d.size - p
      · simp [hk]
      · have : d[p + k]? = none := Array.getElem?_eq_none (by omega)
        simp [hk, this]
  simp only [g, Nat.zero_add, Nat.add_zero, Nat.sub_zero]
theorem dg_end (s : ByteArray) (p : Nat) (h : ¬ p < s.size) : dg s p = (65533, 0) := by
  unfold dg Lib.decodeGo
  have hsz : (s.extract p s.size).size = s.size - p := by simp [ByteArray.size_extract]
  rw [if_pos (by omega)]
theorem grp_sg : ∀ c : Nat, c < 62 → grp (sg c) = some (c : Int) := by decide
theorem sg_grp (r c : Int) (h : grp r = some c) : sg c = r ∧ 0 ≤ c ∧ c ≤ 61 := by
  unfold grp at h
  repeat' split at h
  all_goals first
    | (have h := Option.some.inj h; subst h; refine ⟨?_, by omega, by omega⟩; unfold sg; repeat' split
       all_goals omega)
    | cases h
theorem drop_byt (s : ByteArray) (p : Nat) (h : p < s.size) : (byt s).drop p = s.get! p :: (byt s).drop (p + 1) := by
  have hl : p < (byt s).length := by rw [size_byt]; exact h
  rw [List.drop_eq_getElem_cons hl]
  congr 1
  exact (get_byt s p _ (List.getElem?_eq_getElem hl)).symm
theorem u8_of (x : Int) (b : UInt8) (h : x = b.toNat) : x.toNat.toUInt8 = b := by
  subst h
  simp
theorem sign_sound (s : ByteArray) (p : Nat) (c : Int) (n : Nat) (h : signAt s p = some (c, n)) : (byt s).drop p = sb c ++ (byt s).drop (p + n) ∧ n = (sb c).length := by
  unfold signAt at h
  split at h
  · rename_i c' hg
    obtain ⟨rfl, rfl⟩ := Prod.mk.inj (Option.some.inj h)
    by_cases hp : p < s.size
    · rw [dg_at s p hp, Lib.decode_at] at hg ⊢
      have l0 := UInt8.toNat_lt (s.get! p)
      have l1 := UInt8.toNat_lt (s.get! (p + 1))
      have l2 := UInt8.toNat_lt (s.get! (p + 2))
      have hsg := (sg_grp _ _ hg).1
      unfold sb Lib.encodeRune
      rw [hsg]
      clear hsg h
      unfold Lib.decodeN at hg ⊢
      split
      · rename_i h1
        rw [if_pos h1] at hg
        simp only
        rw [Lib.encodeRuneZ_one (by omega) (by omega), drop_byt s p hp]
        simp
      · rename_i h1
        rw [if_neg h1] at hg
        split
        · rename_i h2
          rw [if_pos h2] at hg
          split
          · rename_i h3
            simp only
            rw [Lib.encodeRuneZ_two (by omega) (by omega), drop_byt s p hp, drop_byt s (p + 1) (by omega)]
            simp only [List.map_cons, List.map_nil]
            rw [u8_of _ (s.get! p) (by omega), u8_of _ (s.get! (p + 1)) (by omega)]
            simp
          · rename_i h3
            rw [if_neg h3] at hg
            simp [grp] at hg
        · rename_i h2
          rw [if_neg h2] at hg
          split
          · rename_i h3
            rw [if_pos h3] at hg
            split
            · rename_i h4
              simp only
              rw [Lib.encodeRuneZ_three (by omega), drop_byt s p hp, drop_byt s (p + 1) (by omega), drop_byt s (p + 1 + 1) (by omega)]
              simp only [List.map_cons, List.map_nil]
              rw [u8_of _ (s.get! p) (by omega), u8_of _ (s.get! (p + 1)) (by omega), u8_of _ (s.get! (p + 1 + 1)) (by simp only [Nat.add_assoc, Nat.reduceAdd]; omega)]
              simp
            · rename_i h4
              rw [if_neg h4] at hg
              simp [grp] at hg
          · rename_i h3
            rw [if_neg h3] at hg
            exfalso
            split at hg
            · split at hg
              · have := (sg_grp _ _ hg)
                simp only at hg
                unfold grp at hg
                repeat' split at hg
                all_goals first | omega | cases hg
              · simp [grp] at hg
            · simp [grp] at hg
    · rw [dg_end s p hp] at hg
      simp [grp] at hg
  · cases h
theorem get_drop {s : ByteArray} {p : Nat} {b : UInt8} {t : List UInt8} (h : (byt s).drop p = b :: t) : p < s.size ∧ s.get! p = b ∧ (byt s).drop (p + 1) = t := by
  have hp : p < s.size := by
    rw [← size_byt]
    by_cases hl : p < (byt s).length
    · exact hl
    · rw [List.drop_eq_nil_of_le (by omega)] at h; cases h
  have := drop_byt s p hp
  rw [h] at this
  obtain ⟨h1, h2⟩ := List.cons.inj this
  exact ⟨hp, h1.symm, h2.symm⟩
theorem u8_nat (x : Int) (h : 0 ≤ x ∧ x < 256) : ((x.toNat.toUInt8).toNat : Int) = x := by
  have : x.toNat < 256 := by omega
  simp [Nat.mod_eq_of_lt this]
  omega
theorem sg_where (c : Int) (h : 0 ≤ c ∧ c ≤ 61) : (0 ≤ sg c ∧ sg c ≤ 127) ∨ (128 ≤ sg c ∧ sg c ≤ 2047) ∨ sg c = 9608 := by
  unfold sg
  repeat' split
  all_goals omega
theorem grp_sg' (c : Int) (h : 0 ≤ c ∧ c ≤ 61) : grp (sg c) = some c := by
  have := grp_sg c.toNat (by omega)
  rwa [show ((c.toNat : Nat) : Int) = c by omega] at this
theorem sign_complete (s : ByteArray) (p : Nat) (c : Int) (hc : 0 ≤ c ∧ c ≤ 61) (rest : List UInt8) (h : (byt s).drop p = sb c ++ rest) : signAt s p = some (c, (sb c).length) := by
  have hg := grp_sg' c hc
  have key : dg s p = ((sg c).toNat, (sb c).length) := by
    unfold sb Lib.encodeRune at h ⊢
    rcases sg_where c hc with hr | hr | hr
    · rw [Lib.encodeRuneZ_one hr.1 hr.2] at h ⊢
      simp only [List.map_cons, List.map_nil, List.cons_append, List.nil_append] at h
      obtain ⟨hp, e0, _⟩ := get_drop h
      have n0 := u8_nat (sg c) (by omega)
      rw [dg_at s p hp, Lib.decode_at, e0]
      unfold Lib.decodeN
      rw [if_pos (by omega)]
      simp only [List.map_cons, List.map_nil, List.length_cons, List.length_nil]
      exact Prod.ext (by simp only; omega) rfl
    · rw [Lib.encodeRuneZ_two hr.1 hr.2] at h ⊢
      simp only [List.map_cons, List.map_nil, List.cons_append, List.nil_append] at h
      obtain ⟨hp, e0, h1⟩ := get_drop h
      obtain ⟨hp1, e1, _⟩ := get_drop h1
      have n0 := u8_nat (192 + sg c / 64) (by omega)
      have n1 := u8_nat (128 + sg c % 64) (by omega)
      rw [dg_at s p hp, Lib.decode_at, e0, e1]
      unfold Lib.decodeN
      rw [if_neg (by omega), if_pos (by omega), if_pos (by omega)]
      simp only [List.map_cons, List.map_nil, List.length_cons, List.length_nil]
      exact Prod.ext (by simp only; omega) rfl
    · rw [hr] at h ⊢
      rw [Lib.encodeRuneZ_three (by omega)] at h ⊢
      simp only [List.map_cons, List.map_nil, List.cons_append, List.nil_append] at h
      obtain ⟨hp, e0, h1⟩ := get_drop h
      obtain ⟨hp1, e1, h2⟩ := get_drop h1
      obtain ⟨hp2, e2, _⟩ := get_drop h2
      have n0 : (s.get! p).toNat = 226 := by rw [e0]; decide
      have n1 : (s.get! (p + 1)).toNat = 150 := by rw [e1]; decide
      have n2 : (s.get! (p + 2)).toNat = 136 := by rw [show p + 2 = p + 1 + 1 from rfl, e2]; decide
      rw [dg_at s p hp, Lib.decode_at, n0, n1, n2]
      clear h h1 h2 e0 e1 e2
      unfold Lib.decodeN
      rw [if_neg (by omega), if_neg (by omega), if_pos (by omega), if_pos (by omega)]
      rfl
  have hr0 : 0 ≤ sg c := by rcases sg_where c hc with h | h | h <;> omega
  unfold signAt
  rw [key]
  simp only
  rw [show (((sg c).toNat : Nat) : Int) = sg c by omega, hg]
theorem sign_lf (s : ByteArray) (p : Nat) (rest : List UInt8) (h : (byt s).drop p = 10 :: rest) : signAt s p = none ∧ lf s p = true := by
  obtain ⟨hp, e0, _⟩ := get_drop h
  refine ⟨?_, ?_⟩
  · unfold signAt
    rw [dg_at s p hp, Lib.decode_at, e0]
    unfold Lib.decodeN
    rw [if_pos (by decide)]
    rfl
  · unfold lf
    have : (byt s)[p]? = some 10 := by
      have := congrArg (fun l => l[0]?) h
      simpa using this
    simp at this
    rw [this]; rfl
theorem lf_sound (s : ByteArray) (p : Nat) (h : lf s p = true) : (byt s).drop p = 10 :: (byt s).drop (p + 1) := by
  have hp := lf_lt h
  rw [drop_byt s p hp]
  congr 1
  unfold lf at h
  have h2 : s.data[p]? = some 10 := by simpa using h
  exact get_byt s p 10 (by simpa using h2)

/-! ### the head of a text -/
theorem grid_sound (s : ByteArray) (g : Int) (hg : g = 4 ∨ g = 6) (h : grid (Lib.decodeGo s).1 = g) : byt s = gridT g ++ (byt s).drop 3 ∧ (Lib.decodeGo s).2 = 3 := by
  have hr : ((Lib.decodeGo s).1 : Int) = if g = 4 then 9633 else 9651 := by
    unfold grid at h
    rcases hg with rfl | rfl
    · repeat' split at h
      all_goals first | omega | (rename_i x; simp [x])
    · repeat' split at h
      all_goals first | omega | (rename_i x; simp [x])
  have hz : s.size ≠ 0 := by
    intro e
    unfold Lib.decodeGo at hr
    rw [if_pos e] at hr
    rcases hg with rfl | rfl <;> simp at hr
  unfold Lib.decodeGo at hr ⊢
  rw [if_neg hz] at hr ⊢
  rw [Lib.decode_at] at hr ⊢
  have l0 := UInt8.toNat_lt (s.get! 0)
  have hrr : 9633 ≤ ((Lib.decodeN (s.size - 0) (s.get! 0).toNat (s.get! (0 + 1)).toNat (s.get! (0 + 2)).toNat (s.get! (0 + 3)).toNat).1 : Int) ∧ ((Lib.decodeN (s.size - 0) (s.get! 0).toNat (s.get! (0 + 1)).toNat (s.get! (0 + 2)).toNat (s.get! (0 + 3)).toNat).1 : Int) ≤ 9651 := by
    rw [hr]; split <;> omega
  unfold Lib.decodeN at hr hrr ⊢
  split at hr
  · rename_i h1
    rw [if_pos h1] at hrr
    simp only at hrr
    omega
  · rename_i h1
    rw [if_neg h1] at hrr ⊢
    split at hr
    · rename_i h2
      rw [if_pos h2] at hrr
      split at hrr
      · simp only at hrr
        omega
      · simp only at hrr
        omega
    · rename_i h2
      rw [if_neg h2] at hrr ⊢
      split at hr
      · rename_i h3
        rw [if_pos h3] at hrr ⊢
        split at hr
        · rename_i h4
          rw [if_pos h4]
          simp only at hr ⊢
          have d0 := drop_byt s 0 (by omega)
          have d1 := drop_byt s 1 (by omega)
          have d2 := drop_byt s 2 (by omega)
          simp only [List.drop_zero, Nat.zero_add, Nat.reduceAdd] at d0 d1 d2 hr h3 h4
          refine ⟨?_, trivial⟩
          rw [d0, d1, d2]
          rcases hg with rfl | rfl
          · rw [if_pos rfl] at hr
            rw [show s.get! 0 = 226 from UInt8.toNat_inj.1 (show (s.get! 0).toNat = 226 by omega), show s.get! 1 = 150 from UInt8.toNat_inj.1 (show (s.get! 1).toNat = 150 by omega), show s.get! 2 = 161 from UInt8.toNat_inj.1 (show (s.get! 2).toNat = 161 by omega)]
            rfl
          · rw [if_neg (by decide)] at hr
            rw [show s.get! 0 = 226 from UInt8.toNat_inj.1 (show (s.get! 0).toNat = 226 by omega), show s.get! 1 = 150 from UInt8.toNat_inj.1 (show (s.get! 1).toNat = 150 by omega), show s.get! 2 = 179 from UInt8.toNat_inj.1 (show (s.get! 2).toNat = 179 by omega)]
            rfl
        · rename_i h4
          rw [if_neg h4] at hrr
          simp only at hrr
          omega
      · rename_i h3
        rw [if_neg h3] at hrr
        split at hrr
        · split at hrr
          · simp only at hrr
            omega
          · simp only at hrr
            omega
        · simp only at hrr
          omega
theorem grid_complete (s : ByteArray) (g : Int) (hg : g = 4 ∨ g = 6) (rest : List UInt8) (h : byt s = gridT g ++ rest) : grid (Lib.decodeGo s).1 = g ∧ (Lib.decodeGo s).2 = 3 := by
  have key : ∀ (x : UInt8), 128 ≤ x.toNat ∧ x.toNat ≤ 191 → byt s = [226, 150, x] ++ rest → Lib.decodeGo s = (8192 + 22 * 64 + x.toNat % 64, 3) := by
    intro x hx h
    obtain ⟨hp, e0, h1⟩ := get_drop (s := s) (p := 0) (b := 226) (t := 150 :: x :: rest) (by simpa using h)
    obtain ⟨hp1, e1, h2⟩ := get_drop h1
    obtain ⟨hp2, e2, _⟩ := get_drop h2
    simp only [Nat.zero_add, Nat.reduceAdd] at hp1 hp2 e1 e2
    unfold Lib.decodeGo
    rw [if_neg (by omega), Lib.decode_at]
    simp only [Nat.zero_add]
    rw [e0, e1, e2]
    have a0 : (226 : UInt8).toNat = 226 := rfl
    have a1 : (150 : UInt8).toNat = 150 := rfl
    rw [a0, a1]
    unfold Lib.decodeN
    rw [if_neg (by omega), if_neg (by omega), if_pos (by omega), if_pos (by omega)]
  rcases hg with rfl | rfl
  · have := key 161 (by decide) h
    rw [this]
    exact ⟨rfl, rfl⟩
  · have := key 179 (by decide) h
    rw [this]
    exact ⟨rfl, rfl⟩
end Go.Proofs.YtncjbmafefeajaaDoor
