/-
  The mathematics of reading: digits, stripes one behind the other, a whole sett.
-/
import Derived.Test.YtbnjjkanokmakaaDoorSP
namespace Go.Proofs.YtbnjjkanokmakaaDoor
open Go.RowKit

def isD (b : UInt8) : Bool := decide (48 ≤ b.toNat) && decide (b.toNat ≤ 57)
/-- what digits say -/
def num (acc : Nat) (l : List UInt8) : Nat := l.foldl (fun a c => a * 10 + (c.toNat - 48)) acc
theorem num_cons (acc : Nat) (c : UInt8) (r : List UInt8) : num acc (c :: r) = num (acc * 10 + (c.toNat - 48)) r := by
  unfold num
  rw [List.foldl_cons]
theorem num_nil (acc : Nat) : num acc [] = acc := by unfold num; rw [List.foldl_nil]
theorem num_ge (l : List UInt8) : ∀ acc, acc ≤ num acc l := by
  induction l with
  | nil => intro acc; rw [num_nil]; exact Nat.le_refl _
  | cons c r ih =>
    intro acc
    have h := ih (acc * 10 + (c.toNat - 48))
    rw [num_cons]
    generalize c.toNat - 48 = y at *
    generalize num (acc * 10 + y) r = z at *
    omega
theorem parse_step (acc : Nat) (c : UInt8) (r : List UInt8) (hc : 48 ≤ c.toNat ∧ c.toNat ≤ 57) (h : Lib.parseUint10 (acc * 10 + (c.toNat - 48)) r = .ok (num (acc * 10 + (c.toNat - 48)) r) ∨ Lib.parseUint10 (acc * 10 + (c.toNat - 48)) r = .range ∧ 4096 < num (acc * 10 + (c.toNat - 48)) r) :
    Lib.parseUint10 acc (c :: r) = .ok (num acc (c :: r)) ∨ Lib.parseUint10 acc (c :: r) = .range ∧ 4096 < num acc (c :: r) := by
  have hge := num_ge r (acc * 10 + (c.toNat - 48))
  rw [num_cons, Lib.parseUint10, if_pos hc]
  generalize num (acc * 10 + (c.toNat - 48)) r = z at *
  generalize c.toNat - 48 = y at *
  split
  · rename_i h2
    refine Or.inr ⟨rfl, ?_⟩
    omega
  · split
    · rename_i h3
      refine Or.inr ⟨rfl, ?_⟩
      omega
    · exact h
theorem parse_num (l : List UInt8) (h : l.all isD = true) : ∀ acc, Lib.parseUint10 acc l = .ok (num acc l) ∨ Lib.parseUint10 acc l = .range ∧ 4096 < num acc l := by
  induction l with
  | nil => intro acc; rw [num_nil]; exact Or.inl rfl
  | cons c r ih =>
    intro acc
    rw [List.all_cons, Bool.and_eq_true] at h
    have hc : 48 ≤ c.toNat ∧ c.toNat ≤ 57 := by
      have := h.1
      unfold isD at this
      rw [Bool.and_eq_true, decide_eq_true_eq, decide_eq_true_eq] at this
      exact this
    exact parse_step acc c r hc (ih h.2 _)
theorem signless_num (z : Nat) : Lib.signless (.ok z) = .ok ((z : Nat) : Int) ∨ Lib.signless (.ok z) = .range ∧ 4096 < z := by
  unfold Lib.signless
  by_cases h3 : 9223372036854775808 ≤ z
  · exact Or.inr ⟨if_pos h3, by omega⟩
  · exact Or.inl (if_neg h3)
theorem atoi_num (c : UInt8) (r : List UInt8) (h : (c :: r).all isD = true) : Lib.atoiAll (c :: r) = .ok ((num 0 (c :: r) : Nat) : Int) ∨ Lib.atoiAll (c :: r) = .range ∧ 4096 < num 0 (c :: r) := by
  have hc : 48 ≤ c.toNat ∧ c.toNat ≤ 57 := by
    rw [List.all_cons, Bool.and_eq_true] at h
    have := h.1
    unfold isD at this
    rw [Bool.and_eq_true, decide_eq_true_eq, decide_eq_true_eq] at this
    exact this
  rw [Lib.atoiAll_plain c r (by omega) (by omega)]
  unfold Lib.parseMag
  rw [if_neg (by simp)]
  rcases parse_num (c :: r) h 0 with h1 | ⟨h1, h2⟩
  · rw [h1]
    exact signless_num _
  · rw [h1]
    exact Or.inr ⟨rfl, h2⟩

/-- the digits that stand at a place -/
def dgs (s : ByteArray) (p : Nat) : List UInt8 := ((byt s).drop p).takeWhile isD
theorem dgs_len (s : ByteArray) (p : Nat) (h : p ≤ s.size) : p + (dgs s p).length ≤ s.size := by
  have h1 : (dgs s p).length ≤ ((byt s).drop p).length := (List.takeWhile_sublist _).length_le
  rw [List.length_drop, size_byt] at h1
  omega
theorem dgs_all (s : ByteArray) (p : Nat) : (dgs s p).all isD = true := by
  unfold dgs
  rw [List.all_eq_true]
  have key : ∀ l : List UInt8, ∀ x ∈ l.takeWhile isD, isD x = true := fun l => by
    induction l with
    | nil => intro x hx; simp at hx
    | cons a r ih =>
      intro x hx
      rw [List.takeWhile_cons] at hx
      split at hx
      · rename_i ha
        rcases List.mem_cons.1 hx with h | h
        · rw [h]; exact ha
        · exact ih x h
      · simp at hx
  exact fun x hx => key _ x hx
/-- what is wrong with a count -/
def cE (d : List UInt8) : Int := if d = [] ∨ d.head? = some 48 then 2 else if 4096 < num 0 d then 3 else 0
/-- a byte stands at a place -/
def by1 (s : ByteArray) (p : Nat) (b : UInt8) : Bool := decide ((byt s)[p]? = some b)
theorem by1_lt {s : ByteArray} {p : Nat} {b : UInt8} (h : by1 s p b = true) : p < s.size := by
  have h1 := of_decide_eq_true h
  have := (List.getElem?_eq_some_iff.1 h1).1
  rwa [size_byt] at this
/-- what is wrong with a stripe, and where -/
def spE (s : ByteArray) (p : Nat) : Int × Nat := match signAt s p with
  | none => (2, p)
  | some (_, n) => (cE (dgs s (p + n)), p + n)
/-- the stripe, and the place behind it -/
def spV (s : ByteArray) (p : Nat) : St × Nat := match signAt s p with
  | none => ((0, 0), p)
  | some (c, n) => ((c, (num 0 (dgs s (p + n)) : Nat)), p + n + (dgs s (p + n)).length)
theorem sp_at {s : ByteArray} {p : Nat} (h : (spE s p).1 = 0) : p + 2 ≤ (spV s p).2 ∧ (spV s p).2 ≤ s.size := by
  unfold spE at h
  unfold spV
  cases e : signAt s p with
  | none => rw [e] at h; cases h
  | some x =>
    obtain ⟨c, n⟩ := x
    rw [e] at h
    simp only at h ⊢
    obtain ⟨h1, h2, -⟩ := signAt_range s p c n e
    have h3 := dgs_len s (p + n) h2
    have h4 : dgs s (p + n) ≠ [] := by rintro h4; rw [h4] at h; simp [cE] at h
    have h5 : (dgs s (p + n)).length ≠ 0 := fun e => h4 (List.eq_nil_of_length_eq_zero e)
    omega
theorem spE_at (s : ByteArray) (p : Nat) (h : p ≤ s.size) : (spE s p).2 ≤ s.size := by
  unfold spE
  cases e : signAt s p with
  | none => exact h
  | some x =>
    obtain ⟨c, n⟩ := x
    exact (signAt_range s p c n e).2.1
theorem cE_range (d : List UInt8) : cE d = 0 ∨ cE d = 2 ∨ cE d = 3 := by 
  unfold cE
  repeat' split
  all_goals decide
theorem spE_range (s : ByteArray) (p : Nat) : (spE s p).1 = 0 ∨ (spE s p).1 = 2 ∨ (spE s p).1 = 3 := by
  unfold spE
  cases signAt s p with
  | none => simp
  | some x => exact cE_range _
/-- stripes one behind the other, with a space between two: what is wrong, where it ends, the stripes -/
def rdL (s : ByteArray) : Nat → Nat → List St → Int × Nat × List St
  | 0, p, acc => (0, p, acc)
  | f + 1, p, acc =>
    if (spE s p).1 ≠ 0 then ((spE s p).1, (spE s p).2, acc)
    else if acc.length = 256 then (5, p, acc)
    else if by1 s (spV s p).2 32 = true then rdL s f ((spV s p).2 + 1) (acc ++ [(spV s p).1])
    else (0, (spV s p).2, acc ++ [(spV s p).1])
theorem rdL_fuel (s : ByteArray) : ∀ (f g p : Nat) (acc : List St), p ≤ s.size → s.size < p + f → s.size < p + g → rdL s f p acc = rdL s g p acc := by
  intro f
  induction f with
  | zero => intro g p acc h1 h2; omega
  | succ f ih =>
    intro g p acc h1 h2 h3
    obtain ⟨g, rfl⟩ : ∃ g', g = g' + 1 := ⟨g - 1, by omega⟩
    unfold rdL
    split
    · rfl
    · rename_i he
      split
      · rfl
      · split
        · rename_i hb
          have h4 := sp_at (Classical.not_not.1 he)
          have h5 := by1_lt hb
          exact ih g _ _ (by omega) (by omega) (by omega)
        · rfl
/-- what is read from a place on -/
def rst (s : ByteArray) (p : Nat) (acc : List St) : Int × Nat × List St := rdL s (s.size + 1 - p) p acc
theorem rst_bad {s : ByteArray} {p : Nat} {acc : List St} (h : p ≤ s.size) (he : (spE s p).1 ≠ 0) : rst s p acc = ((spE s p).1, (spE s p).2, acc) := by
  unfold rst
  rw [show s.size + 1 - p = s.size - p + 1 by omega, rdL, if_pos he]
theorem rst_many {s : ByteArray} {p : Nat} {acc : List St} (h : p ≤ s.size) (he : (spE s p).1 = 0) (hl : acc.length = 256) : rst s p acc = (5, p, acc) := by
  unfold rst
  rw [show s.size + 1 - p = s.size - p + 1 by omega, rdL, if_neg (by simp [he]), if_pos hl]
theorem rst_next {s : ByteArray} {p : Nat} {acc : List St} (h : p ≤ s.size) (he : (spE s p).1 = 0) (hl : acc.length ≠ 256) (hb : by1 s (spV s p).2 32 = true) : rst s p acc = rst s ((spV s p).2 + 1) (acc ++ [(spV s p).1]) := by
  have h4 := sp_at he
  have h5 := by1_lt hb
  unfold rst
  rw [show s.size + 1 - p = s.size - p + 1 by omega, rdL, if_neg (by simp [he]), if_neg hl, if_pos hb]
  exact rdL_fuel s _ _ _ _ (by omega) (by omega) (by omega)
theorem rst_end {s : ByteArray} {p : Nat} {acc : List St} (h : p ≤ s.size) (he : (spE s p).1 = 0) (hl : acc.length ≠ 256) (hb : by1 s (spV s p).2 32 = false) : rst s p acc = (0, (spV s p).2, acc ++ [(spV s p).1]) := by
  unfold rst
  rw [show s.size + 1 - p = s.size - p + 1 by omega, rdL, if_neg (by simp [he]), if_neg hl, if_neg (by simp [hb])]
/-- there and back -/
def pvS (s : ByteArray) : Bool := by1 s 0 47
def a0S (s : ByteArray) : Nat := if pvS s = true then 1 else 0
theorem a0_le (s : ByteArray) : a0S s ≤ s.size := by
  unfold a0S
  split
  · rename_i h; have := by1_lt h; omega
  · omega
def rdS (s : ByteArray) : Int × Nat × List St := rst s (a0S s) []
/-- what is wrong with a text, and where, but for what is wrong with its sett -/
def rdE (s : ByteArray) : Int × Nat := if (rdS s).1 ≠ 0 then ((rdS s).1, (rdS s).2.1) else if pvS s = true then (if by1 s (rdS s).2.1 47 = true then (if (rdS s).2.1 + 1 < s.size then (2, (rdS s).2.1 + 1) else (0, 0)) else (2, (rdS s).2.1)) else (if (rdS s).2.1 < s.size then (2, (rdS s).2.1) else (0, 0))
/-- what is wrong with a text, and where -/
def rE (s : ByteArray) : Int × Nat := if 65536 < s.size then (4, 0) else if (rdE s).1 ≠ 0 then rdE s else (wE (pvS s) (rdS s).2.2, 0)
end Go.Proofs.YtbnjjkanokmakaaDoor
