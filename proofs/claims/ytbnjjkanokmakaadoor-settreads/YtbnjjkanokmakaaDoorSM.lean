/-
  Plain facts on signs: which bytes a colour is written as, and where a sign is read.
-/
import Derived.Test.YtbnjjkanokmakaaDoorBase
import Derived.Shelf.Unicode.DecodeAny
import Derived.Lib.RuneBytes
namespace Go.Proofs.YtbnjjkanokmakaaDoor
open Go.RowKit

/-- the sign of a colour -/
def sg (c : Int) : Int := if c < 0 then 63 else if c = 0 then 183 else if c = 1 then 9608 else if c < 12 then 48 + (c - 2) else if c < 29 then 945 + (c - 12) else if c < 36 then 963 + (c - 29) else if c < 62 then 97 + (c - 36) else 63
def gc : Nat → Int | 0 => 0 | 1 => 1 | 2 => 2 | 3 => 12 | 4 => 29 | _ => 36
def gm : Nat → Int | 0 => 1 | 1 => 1 | 2 => 10 | 3 => 17 | 4 => 7 | _ => 26
/-- the colour of a rune -/
def grp (r : Int) : Option Int := if r = 183 then some 0 else if r = 9608 then some 1 else if 48 ≤ r ∧ r ≤ 57 then some (r - 48 + 2) else if 945 ≤ r ∧ r ≤ 961 then some (r - 945 + 12) else if 963 ≤ r ∧ r ≤ 969 then some (r - 963 + 29) else if 97 ≤ r ∧ r ≤ 122 then some (r - 97 + 36) else none
def colP (r : Int) (n : Nat) : Int × Int := match grp r with | some c => (c, n) | none => (0, 0)
def gs : Nat → Int | 0 => 183 | 1 => 9608 | 2 => 48 | 3 => 945 | 4 => 963 | _ => 97
theorem colP_in (r : Int) (n k : Nat) (hk : k < 6) (h : gs k ≤ r ∧ r - gs k < gm k) : colP r n = (gc k + (r - gs k), (n : Int)) := by
  have e : grp r = some (gc k + (r - gs k)) := by
    have h6 : k = 0 ∨ k = 1 ∨ k = 2 ∨ k = 3 ∨ k = 4 ∨ k = 5 := by omega
    rcases h6 with rfl | rfl | rfl | rfl | rfl | rfl
    all_goals
      simp only [gs, gm, gc] at h ⊢
      unfold grp
      repeat' split
      all_goals first | (exfalso; omega) | exact congrArg some (by omega)
  unfold colP
  rw [e]
theorem colP_out (r : Int) (n : Nat) (h : ∀ j, j < 6 → ¬ (gs j ≤ r ∧ r - gs j < gm j)) : colP r n = (0, 0) := by
  have n0 := h 0 (by omega)
  have n1 := h 1 (by omega)
  have n2 := h 2 (by omega)
  have n3 := h 3 (by omega)
  have n4 := h 4 (by omega)
  have n5 := h 5 (by omega)
  simp only [gs, gm] at n0 n1 n2 n3 n4 n5
  unfold colP
  have : grp r = none := by
    unfold grp
    repeat' split
    all_goals first | rfl | (exfalso; omega)
  rw [this]
theorem decoded_le (t : ByteArray) : (Lib.decodeGo t).1 ≤ 1114111 ∧ (Lib.decodeGo t).2 ≤ 4 := by
  unfold Lib.decodeGo
  split
  · omega
  · rw [Lib.decode_at]
    have := UInt8.toNat_lt (t.get! 0)
    unfold Lib.decodeN
    repeat' split
    all_goals (simp only; omega)
/-- the bytes of a colour's sign -/
def sb (c : Int) : List UInt8 := Lib.encodeRune (sg c)
def dg (s : ByteArray) (p : Nat) : Nat × Nat := Lib.decodeGo (s.extract p s.size)
/-- the sign at a place: its colour, and how many bytes it has -/
def signAt (s : ByteArray) (p : Nat) : Option (Int × Nat) := match grp (dg s p).1 with | some c => some (c, (dg s p).2) | none => none
theorem signAt_range (s : ByteArray) (p : Nat) (c : Int) (n : Nat) (h : signAt s p = some (c, n)) : 1 ≤ n ∧ p + n ≤ s.size ∧ 0 ≤ c ∧ c ≤ 61 := by
  unfold signAt at h
  split at h
  · rename_i c' hc
    simp at h
    obtain ⟨rfl, rfl⟩ := h
    have hr : (dg s p).1 ≠ 65533 := fun e => by rw [e] at hc; simp [grp] at hc
    have hc2 : 0 ≤ c' ∧ c' ≤ 61 := by
      unfold grp at hc
      repeat' split at hc
      all_goals (first | (simp at hc; omega) | cases hc)
    refine ⟨?_, ?_, hc2⟩
    · unfold dg Lib.decodeGo at hr ⊢
      split at hr
      · exact absurd rfl hr
      · rename_i hz
        rw [if_neg hz, Lib.decode_at]
        unfold Lib.decodeN
        repeat' split
        all_goals simp
    · unfold dg Lib.decodeGo at hr ⊢
      split at hr
      · exact absurd rfl hr
      · rename_i hz
        rw [if_neg hz]
        have hsz : (s.extract p s.size).size = s.size - p := by simp [ByteArray.size_extract]
        rw [hsz] at hz
        have : (Utf8.decode (s.extract p s.size) 0).2 ≤ s.size - p := by
          rw [Lib.decode_at, hsz]
          unfold Lib.decodeN
          repeat' split
          all_goals (simp only; omega)
        omega
  · cases h
/-- the bytes of a text -/
abbrev byt (s : ByteArray) : List UInt8 := s.data.toList
theorem size_byt (s : ByteArray) : (byt s).length = s.size := by cases s; simp [ByteArray.size]
theorem get_byt (s : ByteArray) (i : Nat) (b : UInt8) (h : (byt s)[i]? = some b) : s.get! i = b := by
  cases s with
  | mk d =>
    simp at h
    show d[i]! = b
    rw [getElem!_def, h]
theorem dg_at (s : ByteArray) (p : Nat) (h : p < s.size) : dg s p = Utf8.decode s p := by
  unfold dg Lib.decodeGo
  have hsz : (s.extract p s.size).size = s.size - p := by simp [ByteArray.size_extract]
  rw [if_neg (by omega), Lib.decode_at, Lib.decode_at, hsz]
  have g : ∀ k, (s.extract p s.size).get! k = s.get! (p + k) := by
    intro k
    cases s with
    | mk d =>
      have e : ((⟨d⟩ : ByteArray).extract p d.size).data = d.extract p d.size := by simp
      show (((⟨d⟩ : ByteArray).extract p d.size).data)[k]! = d[p + k]!
      rw [e, getElem!_def, getElem!_def, Array.getElem?_extract]
      by_cases hk : k < d.size - p
      · simp [hk]
      · have : d[p + k]? = none := Array.getElem?_eq_none (by omega)
        simp [hk, this]
  simp only [g, Nat.zero_add, Nat.add_zero, Nat.sub_zero]
theorem dg_end (s : ByteArray) (p : Nat) (h : ¬ p < s.size) : dg s p = (65533, 0) := by
  unfold dg Lib.decodeGo
  have hsz : (s.extract p s.size).size = s.size - p := by simp [ByteArray.size_extract]
  rw [if_pos (by omega)]
theorem grp_sg : ∀ c : Nat, c < 62 → grp (sg c) = some (c : Int) := by decide
theorem sg_grp (r c : Int) (h : grp r = some c) : sg c = r ∧ 0 ≤ c ∧ c ≤ 61 := by
  unfold grp at h
  repeat' split at h
  all_goals first
    | (have h := Option.some.inj h; subst h; refine ⟨?_, by omega, by omega⟩; unfold sg; repeat' split
       all_goals omega)
    | cases h
theorem drop_byt (s : ByteArray) (p : Nat) (h : p < s.size) : (byt s).drop p = s.get! p :: (byt s).drop (p + 1) := by
  have hl : p < (byt s).length := by rw [size_byt]; exact h
  rw [List.drop_eq_getElem_cons hl]
  congr 1
  exact (get_byt s p _ (List.getElem?_eq_getElem hl)).symm
theorem u8_of (x : Int) (b : UInt8) (h : x = b.toNat) : x.toNat.toUInt8 = b := by
  subst h
  simp
theorem sign_sound (s : ByteArray) (p : Nat) (c : Int) (n : Nat) (h : signAt s p = some (c, n)) : (byt s).drop p = sb c ++ (byt s).drop (p + n) ∧ n = (sb c).length := by
  unfold signAt at h
  split at h
  · rename_i c' hg
    obtain ⟨rfl, rfl⟩ := Prod.mk.inj (Option.some.inj h)
    by_cases hp : p < s.size
    · rw [dg_at s p hp, Lib.decode_at] at hg ⊢
      have l0 := UInt8.toNat_lt (s.get! p)
      have l1 := UInt8.toNat_lt (s.get! (p + 1))
      have l2 := UInt8.toNat_lt (s.get! (p + 2))
      have hsg := (sg_grp _ _ hg).1
      unfold sb Lib.encodeRune
      rw [hsg]
      clear hsg h
      unfold Lib.decodeN at hg ⊢
      split
      · rename_i h1
        rw [if_pos h1] at hg
        simp only
        rw [Lib.encodeRuneZ_one (by omega) (by omega), drop_byt s p hp]
        simp
      · rename_i h1
        rw [if_neg h1] at hg
        split
        · rename_i h2
          rw [if_pos h2] at hg
          split
          · rename_i h3
            simp only
            rw [Lib.encodeRuneZ_two (by omega) (by omega), drop_byt s p hp, drop_byt s (p + 1) (by omega)]
            simp only [List.map_cons, List.map_nil]
            rw [u8_of _ (s.get! p) (by omega), u8_of _ (s.get! (p + 1)) (by omega)]
            simp
          · rename_i h3
            rw [if_neg h3] at hg
            simp [grp] at hg
        · rename_i h2
          rw [if_neg h2] at hg
          split
          · rename_i h3
            rw [if_pos h3] at hg
            split
            · rename_i h4
              simp only
              rw [Lib.encodeRuneZ_three (by omega), drop_byt s p hp, drop_byt s (p + 1) (by omega), drop_byt s (p + 1 + 1) (by omega)]
              simp only [List.map_cons, List.map_nil]
              rw [u8_of _ (s.get! p) (by omega), u8_of _ (s.get! (p + 1)) (by omega), u8_of _ (s.get! (p + 1 + 1)) (by simp only [Nat.add_assoc, Nat.reduceAdd]; omega)]
              simp
            · rename_i h4
              rw [if_neg h4] at hg
              simp [grp] at hg
          · rename_i h3
            rw [if_neg h3] at hg
            exfalso
            split at hg
            · split at hg
              · have := (sg_grp _ _ hg)
                simp only at hg
                unfold grp at hg
                repeat' split at hg
                all_goals first | omega | cases hg
              · simp [grp] at hg
            · simp [grp] at hg
    · rw [dg_end s p hp] at hg
      simp [grp] at hg
  · cases h
theorem get_drop {s : ByteArray} {p : Nat} {b : UInt8} {t : List UInt8} (h : (byt s).drop p = b :: t) : p < s.size ∧ s.get! p = b ∧ (byt s).drop (p + 1) = t := by
  have hp : p < s.size := by
    rw [← size_byt]
    by_cases hl : p < (byt s).length
    · exact hl
    · rw [List.drop_eq_nil_of_le (by omega)] at h; cases h
  have := drop_byt s p hp
  rw [h] at this
  obtain ⟨h1, h2⟩ := List.cons.inj this
  exact ⟨hp, h1.symm, h2.symm⟩
theorem u8_nat (x : Int) (h : 0 ≤ x ∧ x < 256) : ((x.toNat.toUInt8).toNat : Int) = x := by
  have : x.toNat < 256 := by omega
  simp [Nat.mod_eq_of_lt this]
  omega
theorem sg_where (c : Int) (h : 0 ≤ c ∧ c ≤ 61) : (0 ≤ sg c ∧ sg c ≤ 127) ∨ (128 ≤ sg c ∧ sg c ≤ 2047) ∨ sg c = 9608 := by
  unfold sg
  repeat' split
  all_goals omega
theorem grp_sg' (c : Int) (h : 0 ≤ c ∧ c ≤ 61) : grp (sg c) = some c := by
  have := grp_sg c.toNat (by omega)
  rwa [show ((c.toNat : Nat) : Int) = c by omega] at this
theorem sign_complete (s : ByteArray) (p : Nat) (c : Int) (hc : 0 ≤ c ∧ c ≤ 61) (rest : List UInt8) (h : (byt s).drop p = sb c ++ rest) : signAt s p = some (c, (sb c).length) := by
  have hg := grp_sg' c hc
  have key : dg s p = ((sg c).toNat, (sb c).length) := by
    unfold sb Lib.encodeRune at h ⊢
    rcases sg_where c hc with hr | hr | hr
    · rw [Lib.encodeRuneZ_one hr.1 hr.2] at h ⊢
      simp only [List.map_cons, List.map_nil, List.cons_append, List.nil_append] at h
      obtain ⟨hp, e0, _⟩ := get_drop h
      have n0 := u8_nat (sg c) (by omega)
      rw [dg_at s p hp, Lib.decode_at, e0]
      unfold Lib.decodeN
      rw [if_pos (by omega)]
      simp only [List.map_cons, List.map_nil, List.length_cons, List.length_nil]
      exact Prod.ext (by simp only; omega) rfl
    · rw [Lib.encodeRuneZ_two hr.1 hr.2] at h ⊢
      simp only [List.map_cons, List.map_nil, List.cons_append, List.nil_append] at h
      obtain ⟨hp, e0, h1⟩ := get_drop h
      obtain ⟨hp1, e1, _⟩ := get_drop h1
      have n0 := u8_nat (192 + sg c / 64) (by omega)
      have n1 := u8_nat (128 + sg c % 64) (by omega)
      rw [dg_at s p hp, Lib.decode_at, e0, e1]
      unfold Lib.decodeN
      rw [if_neg (by omega), if_pos (by omega), if_pos (by omega)]
      simp only [List.map_cons, List.map_nil, List.length_cons, List.length_nil]
      exact Prod.ext (by simp only; omega) rfl
    · rw [hr] at h ⊢
      rw [Lib.encodeRuneZ_three (by omega)] at h ⊢
      simp only [List.map_cons, List.map_nil, List.cons_append, List.nil_append] at h
      obtain ⟨hp, e0, h1⟩ := get_drop h
      obtain ⟨hp1, e1, h2⟩ := get_drop h1
      obtain ⟨hp2, e2, _⟩ := get_drop h2
      have n0 : (s.get! p).toNat = 226 := by rw [e0]; decide
      have n1 : (s.get! (p + 1)).toNat = 150 := by rw [e1]; decide
      have n2 : (s.get! (p + 2)).toNat = 136 := by rw [show p + 2 = p + 1 + 1 from rfl, e2]; decide
      rw [dg_at s p hp, Lib.decode_at, n0, n1, n2]
      clear h h1 h2 e0 e1 e2
      unfold Lib.decodeN
      rw [if_neg (by omega), if_neg (by omega), if_pos (by omega), if_pos (by omega)]
      rfl
  have hr0 : 0 ≤ sg c := by rcases sg_where c hc with h | h | h <;> omega
  unfold signAt
  rw [key]
  simp only
  rw [show (((sg c).toNat : Nat) : Int) = sg c by omega, hg]
/-- a text stands at a place of another one -/
def st (s : ByteArray) (p : Nat) (t : List UInt8) : Bool := t.isPrefixOf ((byt s).drop p)
theorem st_yes (s : ByteArray) (p : Nat) (t : List UInt8) (h : p + t.length ≤ s.size) : ((s.extract p (p + t.length)).toList == (⟨t.toArray⟩ : ByteArray).toList) = st s p t := by
  have e : (s.extract p (p + t.length)).toList = ((byt s).drop p).take t.length := by
    rw [ByteArray.toList_eq]
    cases s with
    | mk d => simp [Array.toList_extract, List.extract]
  have e2 : (⟨t.toArray⟩ : ByteArray).toList = t := by rw [ByteArray.toList_eq]
  rw [e, e2, Bool.eq_iff_iff]
  unfold st
  rw [List.isPrefixOf_iff_prefix, List.prefix_iff_eq_take]
  simp
  exact eq_comm
theorem st_no (s : ByteArray) (p : Nat) (t : List UInt8) (ht : t ≠ []) (h : ¬ p + t.length ≤ s.size) : st s p t = false := by
  cases e : st s p t
  · rfl
  · exfalso
    unfold st at e
    rw [List.isPrefixOf_iff_prefix] at e
    have := e.length_le
    rw [List.length_drop, size_byt] at this
    have : t.length ≠ 0 := fun hh => ht (List.length_eq_zero_iff.1 hh)
    omega
/-- a sign stands at a place just where it is read there -/
theorem st_sign (s : ByteArray) (p : Nat) (c : Nat) (hc : c < 62) : st s p (sb c) = true ↔ signAt s p = some ((c : Int), (sb c).length) := by
  unfold st
  rw [List.isPrefixOf_iff_prefix]
  constructor
  · rintro ⟨r, h⟩
    exact sign_complete s p c (by omega) r h.symm
  · intro h
    exact ⟨_, (sign_sound s p c _ h).1.symm⟩
end Go.Proofs.YtbnjjkanokmakaaDoor
