/-
  What is written is read.
-/
import Derived.Test.YtbnjjkanokmakaaDoorPM
namespace Go.Proofs.YtbnjjkanokmakaaDoor
open Go.RowKit

/-- digits without noughts ahead -/
def Dz (d : List UInt8) : Prop := d.all isD = true ∧ d ≠ [] ∧ d.head? ≠ some 48
theorem itoa_all : ((List.range 4097).all fun k => k == 0 || ((Lib.itoa (k : Int)).all isD && decide ((Lib.itoa (k : Int)) ≠ []) && decide ((Lib.itoa (k : Int)).head? ≠ some 48) && num 0 (Lib.itoa (k : Int)) == k)) = true := by decide +kernel
theorem itoa_dz (k : Nat) (h : 1 ≤ k ∧ k ≤ 4096) : Dz (Lib.itoa (k : Int)) ∧ num 0 (Lib.itoa (k : Int)) = k := by
  have := List.all_eq_true.1 itoa_all k (by simp; omega)
  have h0 : (k == 0) = false := by simp; omega
  rw [h0] at this
  simp only [Bool.false_or, Bool.and_eq_true, decide_eq_true_eq, beq_iff_eq] at this
  exact ⟨⟨this.1.1.1, this.1.1.2, this.1.2⟩, this.2⟩
theorem num_snoc (a : Nat) (l : List UInt8) (c : UInt8) : num a (l ++ [c]) = num a l * 10 + (c.toNat - 48) := by
  unfold num
  rw [List.foldl_append]
  rfl
theorem isD_lt {c : UInt8} (h : isD c = true) : 48 ≤ c.toNat ∧ c.toNat ≤ 57 := by
  unfold isD at h
  rw [Bool.and_eq_true, decide_eq_true_eq, decide_eq_true_eq] at h
  exact h
theorem num_pos {d : List UInt8} (h : Dz d) : 1 ≤ num 0 d := by
  obtain ⟨h1, h2, h3⟩ := h
  cases d with
  | nil => exact absurd rfl h2
  | cons c r =>
    rw [List.all_cons, Bool.and_eq_true] at h1
    have h4 := isD_lt h1.1
    have h5 : c.toNat ≠ 48 := fun e => h3 (by
      have : c = 48 := UInt8.toNat_inj.1 e
      rw [this]
      rfl)
    have := num_ge r (0 * 10 + (c.toNat - 48))
    rw [num_cons]
    omega
theorem dz_front {l : List UInt8} {c : UInt8} (h : Dz (l ++ [c])) : isD c = true ∧ (l = [] ∨ Dz l) := by
  obtain ⟨h1, h2, h3⟩ := h
  rw [List.all_append, Bool.and_eq_true] at h1
  refine ⟨by simpa using h1.2, ?_⟩
  cases l with
  | nil => exact .inl rfl
  | cons a r => exact .inr ⟨h1.1, by simp, by simpa using h3⟩
theorem dig_inj : ∀ (n : Nat) (d e : List UInt8), d.length ≤ n → Dz d → Dz e → num 0 d = num 0 e → d = e := by
  intro n
  induction n with
  | zero => intro d e hl hd; exact absurd (List.eq_nil_of_length_eq_zero (by omega)) hd.2.1
  | succ n ih =>
    intro d e hl hd he hn
    rcases List.eq_nil_or_concat d with rfl | ⟨d', c, rfl⟩
    · exact absurd rfl hd.2.1
    rcases List.eq_nil_or_concat e with rfl | ⟨e', b, rfl⟩
    · exact absurd rfl he.2.1
    rw [List.concat_eq_append] at hl hd hn ⊢
    rw [List.concat_eq_append] at he hn ⊢
    obtain ⟨hc, hd'⟩ := dz_front hd
    obtain ⟨hb, he'⟩ := dz_front he
    rw [num_snoc, num_snoc] at hn
    have hc' := isD_lt hc
    have hb' := isD_lt hb
    have e1 : c = b := UInt8.toNat_inj.1 (by omega)
    have e2 : num 0 d' = num 0 e' := by omega
    subst e1
    have e3 : d' = e' := by
      rcases hd' with rfl | hd'
      · rcases he' with rfl | he'
        · rfl
        · have := num_pos he'
          rw [num_nil] at e2
          omega
      · rcases he' with rfl | he'
        · have := num_pos hd'
          rw [num_nil] at e2
          omega
        · exact ih d' e' (by simp at hl; omega) hd' he' e2
    rw [e3]
theorem dz_itoa {d : List UInt8} (h : Dz d) (hk : num 0 d ≤ 4096) : d = Lib.itoa ((num 0 d : Nat) : Int) := by
  obtain ⟨h1, h2⟩ := itoa_dz (num 0 d) ⟨num_pos h, hk⟩
  exact dig_inj d.length d _ (Nat.le_refl _) h h1 h2.symm
/-- no digit comes first -/
def Nd (r : List UInt8) : Prop := ∀ c t, r = c :: t → isD c = false
theorem take_dig {d r : List UInt8} (h : d.all isD = true) (hr : Nd r) : (d ++ r).takeWhile isD = d := by
  induction d with
  | nil =>
    cases r with
    | nil => rfl
    | cons c t => rw [List.nil_append, List.takeWhile_cons, hr c t rfl]; rfl
  | cons a d ih =>
    rw [List.all_cons, Bool.and_eq_true] at h
    rw [List.cons_append, List.takeWhile_cons, h.1]
    simp [ih h.2]
theorem drop_of {s : ByteArray} {p : Nat} {a b : List UInt8} (h : (byt s).drop p = a ++ b) : (byt s).drop (p + a.length) = b := by
  rw [← List.drop_drop, h, List.drop_left]
theorem by1_of {s : ByteArray} {p : Nat} (b : UInt8) : by1 s p b = decide (((byt s).drop p).head? = some b) := by
  unfold by1
  rw [List.head?_drop]
/-- a stripe that may be written -/
def Sw (x : St) : Prop := (0 ≤ x.1 ∧ x.1 ≤ 61) ∧ 1 ≤ x.2 ∧ x.2 ≤ 4096
theorem sp_read {s : ByteArray} {p : Nat} {x : St} {r : List UInt8} (hx : Sw x) (h : (byt s).drop p = stB x ++ r) (hr : Nd r) : (spE s p).1 = 0 ∧ spV s p = (x, p + (stB x).length) := by
  obtain ⟨hc, hk⟩ := hx
  unfold stB at h
  rw [List.append_assoc] at h
  have h1 := sign_complete s p x.1 hc _ h
  have h2 := drop_of h
  obtain ⟨k, hk2⟩ : ∃ k : Nat, x.2 = (k : Int) := ⟨x.2.toNat, by omega⟩
  obtain ⟨⟨d1, d2, d3⟩, d4⟩ := itoa_dz k (by omega)
  rw [← hk2] at d1 d2 d3 d4
  have h3 : dgs s (p + (sb x.1).length) = Lib.itoa x.2 := by
    unfold dgs
    rw [h2]
    exact take_dig d1 hr
  have hE : spE s p = (cE (Lib.itoa x.2), p + (sb x.1).length) := by
    unfold spE
    rw [h1]
    simp only [h3]
  have hV : spV s p = ((x.1, ((num 0 (Lib.itoa x.2) : Nat) : Int)), p + (sb x.1).length + (Lib.itoa x.2).length) := by
    unfold spV
    rw [h1]
    simp only [h3]
  rw [hE, hV, d4, ← hk2]
  refine ⟨?_, ?_⟩
  · unfold cE
    rw [if_neg (by rintro (e | e); exact d2 e; exact d3 e), if_neg (by omega)]
  · unfold stB
    rw [List.length_append, Nat.add_assoc]
theorem sp_write {s : ByteArray} {p : Nat} (h : (spE s p).1 = 0) : Sw (spV s p).1 ∧ (byt s).drop p = stB (spV s p).1 ++ (byt s).drop (spV s p).2 := by
  unfold spE at h
  unfold spV
  cases e : signAt s p with
  | none => rw [e] at h; cases h
  | some x =>
    obtain ⟨c, n⟩ := x
    rw [e] at h
    simp only at h ⊢
    obtain ⟨r1, r2, r3, r4⟩ := signAt_range s p c n e
    obtain ⟨s1, s2⟩ := sign_sound s p c n e
    have hall := dgs_all s (p + n)
    have hdr : (byt s).drop (p + n) = dgs s (p + n) ++ (byt s).drop (p + n + (dgs s (p + n)).length) := by
      have h1 := List.takeWhile_append_dropWhile (p := isD) (l := (byt s).drop (p + n))
      have h2 : (byt s).drop (p + n) = dgs s (p + n) ++ ((byt s).drop (p + n)).dropWhile isD := h1.symm
      rw [drop_of h2]
      exact h2
    generalize dgs s (p + n) = d at *
    unfold cE at h
    split at h
    · cases h
    · rename_i hd
      split at h
      · cases h
      · rename_i hm
        have hz : Dz d := ⟨hall, fun e => hd (.inl e), fun e => hd (.inr e)⟩
        have hi := dz_itoa hz (by omega)
        have hp := num_pos hz
        refine ⟨⟨⟨r3, r4⟩, ?_, ?_⟩, ?_⟩
        · show 1 ≤ ((num 0 d : Nat) : Int)
          omega
        · show ((num 0 d : Nat) : Int) ≤ 4096
          omega
        · unfold stB
          simp only
          rw [← hi, s1, List.append_assoc, ← hdr]
theorem nd_nil : Nd [] := fun c t e => by cases e
theorem nd_cons {c : UInt8} {t : List UInt8} (h : isD c = false) : Nd (c :: t) := fun c' t' e => by cases e; exact h
/-- what is written is read -/
theorem rst_read {s : ByteArray} (r : List UInt8) (hr : Nd r) (h32 : r.head? ≠ some 32) : ∀ (l : List St) (p : Nat) (acc : List St), l ≠ [] → (∀ x ∈ l, Sw x) → acc.length + l.length ≤ 256 → p ≤ s.size → (byt s).drop p = prL l ++ r →
    rst s p acc = (0, p + (prL l).length, acc ++ l) := by
  intro l
  induction l with
  | nil => intro p acc h; exact absurd rfl h
  | cons x l ih =>
    intro p acc _ hw hn hp hb
    rw [List.length_cons] at hn
    have hl : acc.length ≠ 256 := by omega
    cases l with
    | nil =>
      rw [prL_one] at hb ⊢
      obtain ⟨e1, e2⟩ := sp_read (hw x (by simp)) hb hr
      have hat := sp_at e1
      have hb2 : by1 s (spV s p).2 32 = false := by
        rw [e2, by1_of, drop_of hb]
        exact decide_eq_false h32
      rw [rst_end hp e1 hl hb2, e2]
    | cons y l =>
      rw [prL_cons, List.append_assoc, List.cons_append] at hb
      obtain ⟨e1, e2⟩ := sp_read (hw x (by simp)) hb (nd_cons (by decide))
      have hat := sp_at e1
      have h3 := drop_of hb
      have hb2 : by1 s (spV s p).2 32 = true := by
        rw [e2, by1_of, h3]
        rfl
      have hlt := by1_lt hb2
      rw [rst_next hp e1 hl hb2, e2]
      rw [e2] at hlt
      have h4 : (byt s).drop (p + (stB x).length + 1) = prL (y :: l) ++ r := by
        rw [← List.drop_drop, h3]
        rfl
      rw [ih (p + (stB x).length + 1) (acc ++ [x]) (by simp) (fun z hz => hw z (by simp [hz])) (by simp at hn ⊢; omega) hlt h4, prL_cons]
      simp only [List.length_append, List.length_cons, List.append_assoc, List.singleton_append, Prod.mk.injEq, true_and, and_true]
      omega
/-- what is read is written so -/
theorem rst_write {s : ByteArray} : ∀ (f p : Nat) (acc : List St) (q : Nat) (out : List St), s.size < p + f → p ≤ s.size → rst s p acc = (0, q, out) → ∃ l, l ≠ [] ∧ out = acc ++ l ∧ (∀ x ∈ l, Sw x) ∧ (byt s).drop p = prL l ++ (byt s).drop q ∧ q ≤ s.size := by
  intro f
  induction f with
  | zero => intro p acc q out h1 h2; omega
  | succ f ih =>
    intro p acc q out h1 h2 h3
    by_cases he : (spE s p).1 = 0
    · by_cases hl : acc.length = 256
      · rw [rst_many h2 he hl] at h3
        cases h3
      · have hat := sp_at he
        obtain ⟨w1, w2⟩ := sp_write he
        cases hb : by1 s (spV s p).2 32 with
        | false =>
          rw [rst_end h2 he hl hb] at h3
          obtain ⟨-, h4⟩ := Prod.mk.inj h3
          obtain ⟨rfl, rfl⟩ := Prod.mk.inj h4
          exact ⟨[(spV s p).1], by simp, rfl, by simpa using w1, by rw [prL_one]; exact w2, hat.2⟩
        | true =>
          rw [rst_next h2 he hl hb] at h3
          have hlt := by1_lt hb
          obtain ⟨l, k1, k2, k3, k4, k5⟩ := ih _ _ _ _ (by omega) (by omega) h3
          refine ⟨(spV s p).1 :: l, by simp, by rw [k2]; simp, ?_, ?_, k5⟩
          · intro x hx
            rcases List.mem_cons.1 hx with rfl | hx
            · exact w1
            · exact k3 x hx
          · have h5 : (byt s).drop (spV s p).2 = 32 :: (byt s).drop ((spV s p).2 + 1) := by
              rw [drop_byt s _ hlt]
              have h6 := of_decide_eq_true (by rw [by1_of] at hb; exact hb)
              rw [drop_byt s _ hlt] at h6
              rw [Option.some.inj h6]
            cases l with
            | nil => exact absurd rfl k1
            | cons y l =>
              rw [w2, h5, k4, prL_cons]
              simp
    · rw [rst_bad h2 he] at h3
      exact absurd (congrArg Prod.fst h3) he
end Go.Proofs.YtbnjjkanokmakaaDoor
