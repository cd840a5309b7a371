/-
  The mathematics of a knitting machine: what is wrong with a stitch, what it does, whole scripts.
-/
import Derived.Test.YtancniamgfppiaaBase
namespace Go.Proofs.Ytancniamgfppiaa

/-- a stitch -/
structure Sx where
  dk : Int
  bed : Int
  ndl : Int
  car : Int
  tt : Int
/-- a machine -/
structure St where
  on : Nat → Nat → List Nat
  rack : Int
  loops : List (Int × List Nat)
  loose : List Nat
  done : Nat
/-- what is told of it -/
structure Kn where
  loops : List (Int × List Nat)
  front : List (List Nat)
  back : List (List Nat)
  loose : List Nat
  rack : Int

/-- one needle holds something else -/
def upd (f : Nat → Nat → List Nat) (b n : Nat) (xs : List Nat) : Nat → Nat → List Nat := fun b' n' => if b' = b ∧ n' = n then xs else f b' n'
theorem upd_same (f : Nat → Nat → List Nat) (b n : Nat) (xs : List Nat) : upd f b n xs b n = xs := by simp [upd]
theorem upd_other (f : Nat → Nat → List Nat) {b n b' n' : Nat} (xs : List Nat) (h : ¬ (b' = b ∧ n' = n)) : upd f b n xs b' n' = f b' n' := by simp only [upd, if_neg h]
def s0 : St := ⟨fun _ _ => [], 0, [], [], 0⟩
def tell (N : Nat) (s : St) : Kn := ⟨s.loops, (List.range N).map (s.on 0), (List.range N).map (s.on 1), s.loose, s.rack⟩
def k0 : Kn := ⟨[], [], [], [], 0⟩

/-- is there such a needle? -/
def hasB (N : Nat) (b n : Int) : Bool := decide (0 ≤ b) && (decide (b < 2) && (decide (0 ≤ n) && decide (n < N)))
theorem hasB_iff (N : Nat) (b n : Int) : hasB N b n = true ↔ 0 ≤ b ∧ b < 2 ∧ 0 ≤ n ∧ n < N := by simp [hasB]
/-- which one faces it -/
def fcB (b : Nat) : Nat := if b = 0 then 1 else 0
def fcN (rack : Int) (b : Nat) (n : Int) : Int := if b = 0 then n - rack else n + rack
def usB (d : Int) : Bool := d == 1 || (d == 2 || d == 3)
def neB (d : Int) : Bool := d == 1 || (d == 4 || d == 5)
/-- how many loops a needle would hold -/
def whN (s : St) (d : Int) (b n : Nat) : Nat := if d = 2 then (s.on b n).length + 1 else if d = 4 then (s.on (fcB b) (fcN s.rack b n).toNat).length + (s.on b n).length else 0
def wnE (N : Nat) (s : St) (d : Int) (b n : Nat) : Int := if d = 4 ∧ hasB N (fcB b) (fcN s.rack b n) = false then 3 else if neB d = true ∧ (s.on b n).length = 0 then 6 else if 8 < whN s d b n then 5 else 0
def raE (t : Int) : Int := if t < -4 ∨ 4 < t then 3 else 0
/-- why a stitch is refused -/
def wrE (N : Nat) (s : St) (x : Sx) : Int :=
  if x.dk < 1 ∨ 6 < x.dk then 1 else if 4096 ≤ s.done then 4 else if x.dk = 6 then raE x.tt else if hasB N x.bed x.ndl = false then 3
  else if usB x.dk = true ∧ (x.car < 0 ∨ 8 ≤ x.car) then 3 else wnE N s x.dk x.bed.toNat x.ndl.toNat
/-- what a stitch does, but for counting it -/
def doX (s : St) (x : Sx) : St :=
  if x.dk = 1 then { s with on := upd s.on x.bed.toNat x.ndl.toNat [s.loops.length], loops := s.loops ++ [(x.car, s.on x.bed.toNat x.ndl.toNat)] }
  else if x.dk = 2 then { s with on := upd s.on x.bed.toNat x.ndl.toNat (s.on x.bed.toNat x.ndl.toNat ++ [s.loops.length]), loops := s.loops ++ [(x.car, [])] }
  else if x.dk = 4 then { s with on := upd (upd s.on x.bed.toNat x.ndl.toNat []) (fcB x.bed.toNat) (fcN s.rack x.bed.toNat x.ndl).toNat (s.on (fcB x.bed.toNat) (fcN s.rack x.bed.toNat x.ndl).toNat ++ s.on x.bed.toNat x.ndl.toNat) }
  else if x.dk = 5 then { s with on := upd s.on x.bed.toNat x.ndl.toNat [], loose := s.loose ++ s.on x.bed.toNat x.ndl.toNat }
  else if x.dk = 6 then { s with rack := x.tt }
  else s
def cnt (s : St) : St := { s with done := s.done + 1 }
def doS (s : St) (x : Sx) : St := cnt (doX s x)

/-- what the numbers keep to -/
def Iv (s : St) : Prop := s.done ≤ 4096 ∧ s.loops.length ≤ s.done ∧ s.loose.length ≤ 8 * s.done ∧ (∀ b n, (s.on b n).length ≤ 8) ∧ -4 ≤ s.rack ∧ s.rack ≤ 4
theorem Iv.zero : Iv s0 := ⟨by simp [s0], by simp [s0], by simp [s0], fun b n => by simp [s0], by simp [s0], by simp [s0]⟩

/-- what a stitch that is not refused is like -/
theorem wrE_zero {N : Nat} {s : St} {x : Sx} (h : wrE N s x = 0) : 1 ≤ x.dk ∧ x.dk ≤ 6 ∧ s.done < 4096 ∧ (x.dk = 6 → -4 ≤ x.tt ∧ x.tt ≤ 4) ∧
    (x.dk ≠ 6 → ∃ b n : Nat, x.bed = b ∧ x.ndl = n ∧ b < 2 ∧ n < N ∧ (usB x.dk = true → 0 ≤ x.car ∧ x.car < 8) ∧ wnE N s x.dk b n = 0) := by
  unfold wrE at h
  by_cases h1 : x.dk < 1 ∨ 6 < x.dk
  · rw [if_pos h1] at h; omega
  rw [if_neg h1] at h
  by_cases h2 : 4096 ≤ s.done
  · rw [if_pos h2] at h; omega
  rw [if_neg h2] at h
  refine ⟨by omega, by omega, by omega, fun e => ?_, fun e => ?_⟩
  · rw [if_pos e] at h
    unfold raE at h
    by_cases h3 : x.tt < -4 ∨ 4 < x.tt
    · rw [if_pos h3] at h; omega
    · omega
  · rw [if_neg e] at h
    cases h3 : hasB N x.bed x.ndl with
    | false => rw [h3, if_pos rfl] at h; omega
    | true =>
      rw [h3, if_neg (by simp)] at h
      have h4 := (hasB_iff _ _ _).1 h3
      by_cases h5 : usB x.dk = true ∧ (x.car < 0 ∨ 8 ≤ x.car)
      · rw [if_pos h5] at h; omega
      · rw [if_neg h5] at h
        refine ⟨x.bed.toNat, x.ndl.toNat, by omega, by omega, by omega, by omega, fun u => ?_, h⟩
        have : ¬ (x.car < 0 ∨ 8 ≤ x.car) := fun q => h5 ⟨u, q⟩
        omega
theorem wnE_zero {N : Nat} {s : St} {d : Int} {b n : Nat} (h : wnE N s d b n = 0) : (d = 4 → hasB N (fcB b) (fcN s.rack b n) = true) ∧ (neB d = true → (s.on b n).length ≠ 0) ∧ whN s d b n ≤ 8 := by
  unfold wnE at h
  by_cases h1 : d = 4 ∧ hasB N (fcB b) (fcN s.rack b n) = false
  · rw [if_pos h1] at h; omega
  rw [if_neg h1] at h
  by_cases h2 : neB d = true ∧ (s.on b n).length = 0
  · rw [if_pos h2] at h; omega
  rw [if_neg h2] at h
  by_cases h3 : 8 < whN s d b n
  · rw [if_pos h3] at h; omega
  refine ⟨fun e => ?_, fun e q => h2 ⟨e, q⟩, by omega⟩
  cases q : hasB N (fcB b) (fcN s.rack b n) with
  | true => rfl
  | false => exact absurd ⟨e, q⟩ h1
theorem upd_len {f : Nat → Nat → List Nat} {k b n : Nat} {xs : List Nat} (h : ∀ b n, (f b n).length ≤ k) (hx : xs.length ≤ k) : ∀ b' n', (upd f b n xs b' n').length ≤ k := by
  intro b' n'
  unfold upd
  split
  · exact hx
  · exact h b' n'
theorem Iv.next {N : Nat} {s : St} {x : Sx} (h : Iv s) (hw : wrE N s x = 0) : Iv (doS s x) := by
  obtain ⟨i1, i2, i3, i4, i5, i6⟩ := h
  obtain ⟨d1, d2, d3, d6, dn⟩ := wrE_zero hw
  unfold doS cnt doX
  by_cases e6 : x.dk = 6
  · obtain ⟨t1, t2⟩ := d6 e6
    rw [if_neg (by omega), if_neg (by omega), if_neg (by omega), if_neg (by omega), if_pos e6]
    exact ⟨by dsimp only; omega, by dsimp only; omega, by dsimp only; omega, i4, t1, t2⟩
  obtain ⟨b, n, hb, hn, b2, nN, -, hz⟩ := dn e6
  obtain ⟨z1, z2, z3⟩ := wnE_zero hz
  have eb : x.bed.toNat = b := by omega
  have en : x.ndl.toNat = n := by omega
  rw [eb, en, hn]
  have hb8 := i4 b n
  by_cases e1 : x.dk = 1
  · rw [if_pos e1]
    exact ⟨by dsimp only; omega, by simp; omega, by dsimp only; omega, upd_len i4 (by simp), i5, i6⟩
  rw [if_neg e1]
  by_cases e2 : x.dk = 2
  · rw [if_pos e2]
    refine ⟨by dsimp only; omega, by simp; omega, by dsimp only; omega, upd_len i4 ?_, i5, i6⟩
    unfold whN at z3
    rw [if_pos e2] at z3
    simp; omega
  rw [if_neg e2]
  by_cases e4 : x.dk = 4
  · rw [if_pos e4]
    refine ⟨by dsimp only; omega, by dsimp only; omega, by dsimp only; omega, upd_len (upd_len i4 (by simp)) ?_, i5, i6⟩
    unfold whN at z3
    rw [if_neg e2, if_pos e4] at z3
    simp; omega
  rw [if_neg e4]
  by_cases e5 : x.dk = 5
  · rw [if_pos e5]
    exact ⟨by dsimp only; omega, by dsimp only; omega, by simp; omega, upd_len i4 (by simp), i5, i6⟩
  rw [if_neg e5, if_neg e6]
  exact ⟨by dsimp only; omega, by dsimp only; omega, by dsimp only; omega, i4, i5, i6⟩

/-- a script, whatever is refused: what is told of each stitch; the machine -/
def knS (N : Nat) (sc : Nat → Sx) : Nat → St
  | 0 => s0
  | k + 1 => if wrE N (knS N sc k) (sc k) = 0 then doS (knS N sc k) (sc k) else knS N sc k
def erS (N : Nat) (sc : Nat → Sx) (k : Nat) : Int := wrE N (knS N sc k) (sc k)
theorem Iv.kn (N : Nat) (sc : Nat → Sx) (k : Nat) : Iv (knS N sc k) := by
  induction k with
  | zero => exact Iv.zero
  | succ k ih =>
    simp only [knS]
    split
    · rename_i h; exact ih.next h
    · exact ih
end Go.Proofs.Ytancniamgfppiaa
