/-
  TwillRuns: the mathematics: the longest runs of a twill are its runs.
-/
import Derived.Test.YtpefcpbkdofblaaTwE
namespace Go.Proofs.Ytpefcpbkdofblaa
open Go.RowKit Go.Shelf

/-- the longest of every other run -/
def rmx (k : Nat → Nat) (v : Bool) (n : Nat) : Nat := mxN (fun i => if decide (i % 2 = 0) = v then k i else 0) n
theorem Rr.pos {n : Nat} {k : Nat → Nat} (h : Rr n k) : 2 ≤ sN k n := by
  have h0 := h.2.2.2.1 0 (by have := h.1; omega)
  have h1 := h.2.2.2.1 1 (by have := h.1; omega)
  have := sN_mono k (show 2 ≤ n from h.1)
  simp [sN] at this
  omega
theorem Rr.first {n : Nat} {k : Nat → Nat} (h : Rr n k) : upF k n 0 = true := by
  have h0 := h.2.2.2.1 0 (by have := h.1; omega)
  have := upF_at k n 0 0 (by have := h.1; omega) (by simp [sN]) (by simp [sN]; omega)
  simpa using this
theorem Rr.last {n : Nat} {k : Nat → Nat} (h : Rr n k) : upF k n (sN k n - 1) = false := by
  have hn := h.1
  have h0 := h.2.2.2.1 (n - 1) (by omega)
  have e : sN k n = sN k (n - 1) + k (n - 1) := by
    have : n = (n - 1) + 1 := by omega
    rw [this]; rfl
  have := upF_at k n (n - 1) (sN k n - 1) (by omega) (by omega) (by rw [show n - 1 + 1 = n by omega]; omega)
  rw [this]
  have := h.2.1
  simp; omega
theorem run_max {n : Nat} {k : Nat → Nat} (h : Rr n k) (v : Bool) : IsLg (soF (upF k n) v) (sN k n) (rmx k v n) := by
  have hp := h.pos
  have hn := h.1
  have hall : allN (soF (upF k n) v) (sN k n) = false := by
    cases c : allN (soF (upF k n) v) (sN k n) with
    | false => rfl
    | true =>
      rw [allN_iff] at c
      have c0 := c 0 (by omega)
      have c1 := c (sN k n - 1) (by omega)
      unfold soF at c0 c1
      rw [h.first] at c0
      rw [h.last] at c1
      cases v <;> simp at c0 c1
  refine ⟨fun e => absurd (hall.symm.trans e) Bool.false_ne_true, fun _ => ⟨?_, ?_⟩⟩
  · unfold rmx
    rcases mxN_some (fun i => if decide (i % 2 = 0) = v then k i else 0) n with e | ⟨i, hi, e⟩
    · rw [e]; exact ⟨0, fun j hj => by omega⟩
    · rw [e]
      by_cases hv : decide (i % 2 = 0) = v
      · rw [if_pos hv]
        have hs := sN_mono k (show i + 1 ≤ n by omega)
        rw [show sN k (i + 1) = sN k i + k i from rfl] at hs
        refine ⟨sN k i, fun j hj => ?_⟩
        rw [Nat.mod_eq_of_lt (by omega)]
        unfold soF
        rw [upF_at k n i _ hi (by omega) (by rw [show sN k (i + 1) = sN k i + k i from rfl]; omega), hv]
        simp
      · rw [if_neg hv]; exact ⟨0, fun j hj => by omega⟩
  · intro hR
    obtain ⟨x, hx, hr⟩ := rn_first (by omega) hR
    generalize hL : rmx k v n + 1 = L at hr
    have hL0 : 0 < L := by omega
    have hw : x + L ≤ sN k n := by
      refine Classical.byContradiction fun hc => ?_
      have a1 := hr (sN k n - 1 - x) (by omega)
      have a2 := hr (sN k n - x) (by omega)
      rw [show x + (sN k n - 1 - x) = sN k n - 1 by omega, Nat.mod_eq_of_lt (by omega)] at a1
      rw [show x + (sN k n - x) = sN k n by omega, Nat.mod_self] at a2
      unfold soF at a1 a2
      rw [h.last] at a1
      rw [h.first] at a2
      cases v <;> simp at a1 a2
    obtain ⟨i, hi, l1, l2⟩ := run_of k n x hx
    have a0 := hr 0 hL0
    rw [Nat.add_zero, Nat.mod_eq_of_lt hx] at a0
    unfold soF at a0
    rw [upF_at k n i x hi l1 l2] at a0
    have hv : decide (i % 2 = 0) = v := by simpa using a0
    have hend : x + L ≤ sN k (i + 1) := by
      refine Classical.byContradiction fun hc => ?_
      have hi1 : i + 1 < n := by
        refine Classical.byContradiction fun hc2 => ?_
        have : i + 1 = n := by omega
        rw [this] at hc
        omega
      have hk1 := h.2.2.2.1 (i + 1) hi1
      have hs2 := sN_mono k (show i + 1 + 1 ≤ n by omega)
      have a1 := hr (sN k (i + 1) - x) (by omega)
      rw [show sN k (i + 1 + 1) = sN k (i + 1) + k (i + 1) from rfl] at hs2
      rw [show x + (sN k (i + 1) - x) = sN k (i + 1) by omega, Nat.mod_eq_of_lt (by omega)] at a1
      unfold soF at a1
      rw [upF_at k n (i + 1) _ hi1 (Nat.le_refl _) (by rw [show sN k (i + 1 + 1) = sN k (i + 1) + k (i + 1) from rfl]; omega), ← hv] at a1
      by_cases e : i % 2 = 0
      · have : ¬ (i + 1) % 2 = 0 := by omega
        simp [e, this] at a1
      · have : (i + 1) % 2 = 0 := by omega
        simp [e, this] at a1
    rw [show sN k (i + 1) = sN k i + k i from rfl] at hend
    have hm := mxN_le (fun i => if decide (i % 2 = 0) = v then k i else 0) n i hi
    rw [if_pos hv] at hm
    unfold rmx at hL
    omega
theorem lg_runs {n : Nat} {k : Nat → Nat} (h : Rr n k) (v : Bool) : lgI (soF (upF k n) v) (sN k n) = rmx k v n :=
  isLg_unique (lgI_is _ _ (by have := h.pos; omega)) (run_max h v)
theorem mxN_const (g : Nat → Nat) (c n : Nat) (hn : 0 < n) (h : ∀ y, y < n → g y = c) : mxN g n = c := by
  apply Nat.le_antisymm
  · exact mxN_bound _ _ _ fun y hy => by rw [h y hy]; exact Nat.le_refl _
  · have := mxN_le g n 0 hn
    rw [h 0 hn] at this
    exact this
/-- along each pick a twill has its runs -/
theorem twill_along {n : Nat} {k : Nat → Nat} (h : Rr n k) (m : Nat) (v : Bool) : lgM (wvF (upF k n) (sN k n) m) v (sN k n) (sN k n) = rmx k v n := by
  have hp := h.pos
  refine mxN_const _ _ _ (by omega) fun y _ => ?_
  rw [← lg_runs h v, ← lgI_moved (soF (upF k n) v) (sN k n) (sN k n - y * m % sN k n) (by omega)]
  refine lgI_congr (by omega) fun x hx => ?_
  show (wvF (upF k n) (sN k n) m (y * sN k n + x) == v) = (upF k n ((x + (sN k n - y * m % sN k n)) % sN k n) == v)
  rw [wv_at _ _ _ _ _ hx]
  rfl

/-- a row that goes round, at any whole number -/
def Pr (so : Nat → Bool) (s : Nat) (a : Int) : Bool := so (a % (s : Int)).toNat
theorem pr_nat (so : Nat → Bool) (s x : Nat) : Pr so s (x : Int) = so (x % s) := by
  unfold Pr
  rw [← Int.natCast_emod, Int.toNat_natCast]
theorem pr_mod (so : Nat → Bool) (s : Nat) (a b : Int) (h : a % (s : Int) = b % (s : Int)) : Pr so s a = Pr so s b := by
  unfold Pr; rw [h]
theorem rn_pr (so : Nat → Bool) (s L : Nat) (hs : 0 < s) : Rn so s L ↔ ∃ a : Int, ∀ i : Nat, i < L → Pr so s (a + i) = true := by
  constructor
  · rintro ⟨x, hx⟩
    refine ⟨x, fun i hi => ?_⟩
    rw [← Int.natCast_add, pr_nat]
    exact hx i hi
  · rintro ⟨a, ha⟩
    have h0 : 0 ≤ a % (s : Int) := Int.emod_nonneg _ (by omega)
    refine ⟨(a % (s : Int)).toNat, fun i hi => ?_⟩
    rw [← pr_nat so s]
    rw [pr_mod so s _ (a + i)]
    · exact ha i hi
    · rw [Int.natCast_add, Int.toNat_of_nonneg h0, Int.emod_add_emod]
theorem all_pr (so : Nat → Bool) (s : Nat) (hs : 0 < s) : allN so s = true ↔ ∀ a : Int, Pr so s a = true := by
  rw [allN_iff]
  constructor
  · intro h a
    have h0 : 0 ≤ a % (s : Int) := Int.emod_nonneg _ (by omega)
    have h1 : a % (s : Int) < (s : Int) := Int.emod_lt_of_pos _ (by omega)
    exact h _ (by omega)
  · intro h x hx
    have := h x
    rw [pr_nat, Nat.mod_eq_of_lt hx] at this
    exact this
theorem pr_turn (so : Nat → Bool) (s x : Nat) (hs : 0 < s) (a : Int) : Pr (fun y => so ((x + (s - y % s)) % s)) s a = Pr so s ((x : Int) - a) := by
  have h0 : 0 ≤ a % (s : Int) := Int.emod_nonneg _ (by omega)
  have h1 : a % (s : Int) < (s : Int) := Int.emod_lt_of_pos _ (by omega)
  show so ((x + (s - (a % (s : Int)).toNat % s)) % s) = _
  rw [← pr_nat so s]
  refine pr_mod so s _ _ ?_
  rw [Nat.mod_eq_of_lt (by omega)]
  have hd := Int.emod_add_mul_ediv a (s : Int)
  rw [show ((x + (s - (a % (s : Int)).toNat) : Nat) : Int) = (x : Int) - a + (s : Int) * (1 + a / (s : Int)) by
    rw [Int.mul_add, Int.mul_one]; omega, Int.add_mul_emod_self_left]
/-- read the other way round a row's longest run is as long -/
theorem lgI_turn (so : Nat → Bool) (s x : Nat) (hs : 0 < s) : lgI (fun y => so ((x + (s - y % s)) % s)) s = lgI so s := by
  have e2 : ∀ L, Rn (fun y => so ((x + (s - y % s)) % s)) s L ↔ Rn so s L := fun L => by
    rw [rn_pr _ _ _ hs, rn_pr _ _ _ hs]
    constructor
    · rintro ⟨a, ha⟩
      refine ⟨(x : Int) - a - (L : Int) + 1, fun i hi => ?_⟩
      have := ha (L - 1 - i) (by omega)
      rw [pr_turn so s x hs] at this
      rwa [show (x : Int) - (a + ((L - 1 - i : Nat) : Int)) = (x : Int) - a - (L : Int) + 1 + (i : Int) by omega] at this
    · rintro ⟨a, ha⟩
      refine ⟨(x : Int) - a - (L : Int) + 1, fun i hi => ?_⟩
      rw [pr_turn so s x hs]
      have := ha (L - 1 - i) (by omega)
      rwa [show a + ((L - 1 - i : Nat) : Int) = (x : Int) - ((x : Int) - a - (L : Int) + 1 + (i : Int)) by omega] at this
  have e : allN (fun y => so ((x + (s - y % s)) % s)) s = allN so s := by
    rw [Bool.eq_iff_iff, all_pr _ _ hs, all_pr _ _ hs]
    constructor
    · intro h a
      have := h ((x : Int) - a)
      rw [pr_turn so s x hs] at this
      rwa [show (x : Int) - ((x : Int) - a) = a by omega] at this
    · intro h a
      rw [pr_turn so s x hs]
      exact h _
  have k := lgI_is so s hs
  refine isLg_unique (lgI_is _ s hs) ⟨fun c => k.1 (by rw [← e]; exact c), fun c => ?_⟩
  rw [e2, e2]
  exact k.2 (by rw [← e]; exact c)
/-- and across, where its move is 1 -/
theorem twill_up {n : Nat} {k : Nat → Nat} (h : Rr n k) (v : Bool) : lgM (tuF (wvF (upF k n) (sN k n) 1) (sN k n) (sN k n)) v (sN k n) (sN k n) = rmx k v n := by
  have hp := h.pos
  refine mxN_const _ _ _ (by omega) fun x hx => ?_
  rw [← lg_runs h v, ← lgI_turn (soF (upF k n) v) (sN k n) x (by omega)]
  refine lgI_congr (by omega) fun y hy => ?_
  show (tuF (wvF (upF k n) (sN k n) 1) (sN k n) (sN k n) (x * sN k n + y) == v) = (upF k n ((x + (sN k n - y % sN k n)) % sN k n) == v)
  rw [tu_at_row _ _ _ _ _ hy, wv_at _ _ _ _ _ hx]
  unfold bk
  rw [Nat.mul_one]
theorem rmx_succ (k : Nat → Nat) (v : Bool) (x : Nat) : rmx k v (x + 1) = max (rmx k v x) (if decide (x % 2 = 0) = v then k x else 0) := rfl
theorem rmx_le {n : Nat} {k : Nat → Nat} (h : Rr n k) (v : Bool) (x : Nat) (hx : x ≤ n) : rmx k v x ≤ 64 := mxN_bound _ _ _ fun i hi => by
  split
  · have := sN_mono k (show i + 1 ≤ n by omega)
    rw [show sN k (i + 1) = sN k i + k i from rfl] at this
    have := h.2.2.2.2
    omega
  · omega
end Go.Proofs.Ytpefcpbkdofblaa
