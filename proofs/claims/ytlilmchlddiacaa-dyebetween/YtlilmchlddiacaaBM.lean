/-
  A mix lies between what is mixed: the least and the greatest of parts, and the slack.
-/
import Derived.Test.YtlilmchlddiacaaNM
namespace Go.Proofs.Ytlilmchlddiacaa
open Go.RowKit Ieee

def mn (x y : Nat) : Nat := match FloatKind.f64.format.order x y with
  | some .lt => x
  | some .gt => y
  | _ => if (FloatKind.f64.decode x).neg then x else y
def mxx (x y : Nat) : Nat := match FloatKind.f64.format.order x y with
  | some .lt => y
  | some .gt => x
  | _ => if (FloatKind.f64.decode x).neg then y else x
/-- a part: a number that is not below nought -/
def Pt (a : Nat) : Prop := Fi a ∧ (sg a = true → mv a = 0)
theorem ord3 {a b : Nat} (ha : Pt a) (hb : Pt b) : (FloatKind.f64.format.order a b = some .lt ∧ mv a < mv b) ∨ (FloatKind.f64.format.order a b = some .eq ∧ mv a = mv b) ∨ (FloatKind.f64.format.order a b = some .gt ∧ mv b < mv a) := by
  have e : FloatKind.f64.format.order a b = some (compare (sv a) (sv b)) := order_fi ha.1 hb.1
  rw [sv_of_zero ha.2, sv_of_zero hb.2] at e
  rcases cmp3 (mv a : Int) (mv b : Int) with h | h | h
  · exact .inl ⟨by rw [e, h.1], by omega⟩
  · exact .inr (.inl ⟨by rw [e, h.1], by omega⟩)
  · exact .inr (.inr ⟨by rw [e, h.1], by omega⟩)
theorem mn_ok {a b : Nat} (ha : Pt a) (hb : Pt b) : (∀ ts t w, (Builtin.min_ ts t #[.float .f64 a, .float .f64 b]).run Try.prog w = .ok (.float .f64 (mn a b)) w) ∧ Pt (mn a b) ∧ mv (mn a b) ≤ mv a ∧ mv (mn a b) ≤ mv b := by
  rcases ord3 ha hb with ⟨e, h⟩ | ⟨e, h⟩ | ⟨e, h⟩
  · have e2 : mn a b = a := by unfold mn; rw [e]
    rw [e2]
    exact ⟨fun ts t w => by simp [Builtin.min_, Builtin.min2, e], ha, Nat.le_refl _, by omega⟩
  · have e2 : mn a b = if (FloatKind.f64.decode a).neg then a else b := by unfold mn; rw [e]
    refine ⟨fun ts t w => by simp [Builtin.min_, Builtin.min2, e, e2], ?_⟩
    rw [e2]
    split
    · exact ⟨ha, Nat.le_refl _, by omega⟩
    · exact ⟨hb, by omega, Nat.le_refl _⟩
  · have e2 : mn a b = b := by unfold mn; rw [e]
    rw [e2]
    exact ⟨fun ts t w => by simp [Builtin.min_, Builtin.min2, e], hb, by omega, Nat.le_refl _⟩
theorem mx_ok {a b : Nat} (ha : Pt a) (hb : Pt b) : (∀ ts t w, (Builtin.max_ ts t #[.float .f64 a, .float .f64 b]).run Try.prog w = .ok (.float .f64 (mxx a b)) w) ∧ Pt (mxx a b) ∧ mv a ≤ mv (mxx a b) ∧ mv b ≤ mv (mxx a b) ∧ (mv (mxx a b) ≤ mv a ∨ mv (mxx a b) ≤ mv b) := by
  rcases ord3 ha hb with ⟨e, h⟩ | ⟨e, h⟩ | ⟨e, h⟩
  · have e2 : mxx a b = b := by unfold mxx; rw [e]
    rw [e2]
    exact ⟨fun ts t w => by simp [Builtin.max_, Builtin.max2, e], hb, by omega, Nat.le_refl _, .inr (Nat.le_refl _)⟩
  · have e2 : mxx a b = if (FloatKind.f64.decode a).neg then b else a := by unfold mxx; rw [e]
    refine ⟨fun ts t w => by simp [Builtin.max_, Builtin.max2, e, e2], ?_⟩
    rw [e2]
    split
    · exact ⟨hb, by omega, Nat.le_refl _, .inr (Nat.le_refl _)⟩
    · exact ⟨ha, Nat.le_refl _, by omega, .inl (Nat.le_refl _)⟩
  · have e2 : mxx a b = a := by unfold mxx; rw [e]
    rw [e2]
    exact ⟨fun ts t w => by simp [Builtin.max_, Builtin.max2, e], ha, Nat.le_refl _, by omega, .inl (Nat.le_refl _)⟩
/-- the least and the greatest so far -/
def loF (d : Nat → Nat → Nat) (c : Nat) : Nat → Nat
  | 0 => 4607182418800017408
  | x + 1 => mn (loF d c x) (d x c)
def hiF (d : Nat → Nat → Nat) (c : Nat) : Nat → Nat
  | 0 => 0
  | x + 1 => mxx (hiF d c x) (d x c)
theorem dp_pt {n : Nat} {d : Nat → Nat → Nat} {s : Nat → Nat} (h : DpOk n d s) (c : Nat) (hc : c < 3) (k : Nat) (hk : k < n) : Pt (d k c) ∧ mv (d k c) ≤ fO :=
  ⟨⟨(h.pt c hc k hk).1, (h.pt c hc k hk).2.1⟩, (h.pt c hc k hk).2.2.2⟩
theorem lo_ok {n : Nat} {d : Nat → Nat → Nat} {s : Nat → Nat} (h : DpOk n d s) (c : Nat) (hc : c < 3) : ∀ x, x ≤ n → Pt (loF d c x) ∧ mv (loF d c x) ≤ fO ∧ ∀ k, k < x → mv (loF d c x) ≤ mv (d k c) := by
  intro x
  induction x with
  | zero => exact fun _ => ⟨⟨word_one.1, fun e => by rw [show sg (loF d c 0) = false from word_one.2.1] at e; cases e⟩, Nat.le_of_eq (show mv (loF d c 0) = fO from word_one.2.2), fun k hk => by omega⟩
  | succ x ih =>
    intro hx
    obtain ⟨h1, h2, h3⟩ := ih (by omega)
    obtain ⟨-, k1, k2, k3⟩ := mn_ok h1 (dp_pt h c hc x (by omega)).1
    refine ⟨k1, Nat.le_trans k2 h2, fun k hk => ?_⟩
    rcases (show k < x ∨ k = x by omega) with h4 | rfl
    · exact Nat.le_trans k2 (h3 k h4)
    · exact k3
theorem hi_ok {n : Nat} {d : Nat → Nat → Nat} {s : Nat → Nat} (h : DpOk n d s) (c : Nat) (hc : c < 3) : ∀ x, x ≤ n → Pt (hiF d c x) ∧ mv (hiF d c x) ≤ fO ∧ ∀ k, k < x → mv (d k c) ≤ mv (hiF d c x) := by
  intro x
  induction x with
  | zero => exact fun _ => ⟨⟨word_nought.1, fun e => by rw [show sg (hiF d c 0) = false from word_nought.2.1] at e; cases e⟩, by rw [show mv (hiF d c 0) = 0 from word_nought.2.2]; exact Nat.zero_le _, fun k hk => by omega⟩
  | succ x ih =>
    intro hx
    obtain ⟨h1, h2, h3⟩ := ih (by omega)
    obtain ⟨p1, p2⟩ := dp_pt h c hc x (by omega)
    obtain ⟨-, k1, k2, k3, k4⟩ := mx_ok h1 p1
    refine ⟨k1, by rcases k4 with k4 | k4; exact Nat.le_trans k4 h2; exact Nat.le_trans k4 p2, fun k hk => ?_⟩
    rcases (show k < x ∨ k = x by omega) with h4 | rfl
    · exact Nat.le_trans (h3 k h4) k2
    · exact k3
theorem min_at {n : Nat} {d : Nat → Nat → Nat} {s : Nat → Nat} (h : DpOk n d s) (c : Nat) (hc : c < 3) (x : Nat) (hx : x < n) : ∀ ts t w, (Builtin.min_ ts t #[.float .f64 (loF d c x), .float .f64 (d x c)]).run Try.prog w = .ok (.float .f64 (loF d c (x + 1))) w :=
  (mn_ok (lo_ok h c hc x (by omega)).1 (dp_pt h c hc x hx).1).1
theorem max_at {n : Nat} {d : Nat → Nat → Nat} {s : Nat → Nat} (h : DpOk n d s) (c : Nat) (hc : c < 3) (x : Nat) (hx : x < n) : ∀ ts t w, (Builtin.max_ ts t #[.float .f64 (hiF d c x), .float .f64 (d x c)]).run Try.prog w = .ok (.float .f64 (hiF d c (x + 1))) w :=
  (mx_ok (hi_ok h c hc x (by omega)).1 (dp_pt h c hc x hx).1).1
theorem ge_run {m r : Nat} (fm : Fi m) (fr : Fi r) (h : sv r ≤ sv m) : (FloatKind.f64.format.order m r == some .gt || FloatKind.f64.format.order m r == some .eq) = true := by
  have e : FloatKind.f64.format.order m r = some (compare (sv m) (sv r)) := order_fi fm fr
  rcases cmp3 (sv m) (sv r) with k | k | k
  · omega
  · rw [e, k.1]; rfl
  · rw [e, k.1]; rfl
theorem le_run {m r : Nat} (fm : Fi m) (fr : Fi r) (h : sv m ≤ sv r) : (FloatKind.f64.format.order m r == some .lt || FloatKind.f64.format.order m r == some .eq) = true := by
  have e : FloatKind.f64.format.order m r = some (compare (sv m) (sv r)) := order_fi fm fr
  rcases cmp3 (sv m) (sv r) with k | k | k
  · rw [e, k.1]; rfl
  · rw [e, k.1]; rfl
  · omega
/-- what is asked of a part: the words r1, r2 are the least less the slack, the greatest and the slack -/
structure Bw (m lo hi r1 r2 : Nat) : Prop where
  sub : ∀ t w, (binOp .sub t (.float .f64 lo) (.float .f64 4427038433705197568)).run Try.prog w = .ok (.float .f64 r1) w
  ge : (FloatKind.f64.format.order m r1 == some .gt || FloatKind.f64.format.order m r1 == some .eq) = true
  add : ∀ t w, (binOp .add t (.float .f64 hi) (.float .f64 4427038433705197568)).run Try.prog w = .ok (.float .f64 r2) w
  le : (FloatKind.f64.format.order m r2 == some .lt || FloatKind.f64.format.order m r2 == some .eq) = true
theorem bw_at {n : Nat} {d : Nat → Nat → Nat} {s : Nat → Nat} (h : DpOk n d s) (c : Nat) (hc : c < 3) : ∃ r1 r2, Bw (mxF d s n c) (loF d c n) (hiF d c n) r1 r2 := by
  obtain ⟨l1, l2, l3⟩ := lo_ok h c hc n (Nat.le_refl _)
  obtain ⟨h1, h2, h3⟩ := hi_ok h c hc n (Nat.le_refl _)
  have hn := h.1
  have hx : ∀ i, i < n → PtOk (mv (loF d c n)) (mv (hiF d c n)) (d i c) := fun i hi => ⟨(h.pt c hc i hi).1, (h.pt c hc i hi).2.1, l3 i hi, h3 i hi⟩
  have hlh : mv (loF d c n) ≤ mv (hiF d c n) := Nat.le_trans (l3 0 (by omega)) (h3 0 (by omega))
  obtain ⟨m, m0, -, m2, m3, m4, m5⟩ := mix_part h.2.1 (by omega) h.sh hx h2
  have e : mxF d s n c = m := by
    show (double.div (smF d s n c) (TF s n)).getD 0 = m
    rw [show double.div (smF d s n c) (TF s n) = some m from m0]
    rfl
  rw [e]
  obtain ⟨r2, a0, -, a2, a3⟩ := mix_above h.2.1 (l := mv (loF d c n)) ⟨h1.1, h1.2, hlh, Nat.le_refl _⟩ rfl h2 m3 m4
  obtain ⟨r1, b0, -, b2, b3⟩ := mix_below h.2.1 (h := mv (hiF d c n)) ⟨l1.1, l1.2, Nat.le_refl _, hlh⟩ rfl l2 m3 m5
  exact ⟨r1, r2, fun t w => run_float_arith w .sub t .f64 _ _ _ b0, ge_run m2 b2 b3, fun t w => run_float_arith w .add t .f64 _ _ _ a0, le_run m2 a2 a3⟩
/-- what is nearest to one that is there -/
theorem near_self {n k K : Nat} {y : Nat → Nat → Nat} (hk : k < n) (hp : faB (y k) = true) (h : ∀ i, i < n → faB (y i) = true) (hN : IsNear n (fv y (y k)) K) : K ≤ k ∧ FloatKind.f64.format.order (zF (y K) (y k)) 0 = some .eq := by
  have hs : ∀ i, i < n → 0 ≤ fv y (y k) i := fun i hi => by
    unfold fv
    rw [sv_nonneg (fr_at (h i hi) hp).2.2.1]
    omega
  have hz : fv y (y k) k = 0 := by
    unfold fv
    rw [sv_nonneg (fr_at hp hp).2.2.1, (fr_at hp hp).2.2.2 (fun j _ => rfl)]
    rfl
  have h1 := hN.2.1 k hk
  have h2 := hs K hN.1
  refine ⟨?_, ?_⟩
  · rcases Nat.lt_or_ge k K with h3 | h3
    · have := hN.2.2 k h3
      omega
    · exact h3
  · have e : FloatKind.f64.format.order (zF (y K) (y k)) 0 = some (compare (fv y (y k) K) (sv 0)) := order_fi (fr_at (h K hN.1) hp).2.1 word_nought.1
    rw [e, show fv y (y k) K = 0 by omega, show sv 0 = 0 from by rw [sv_nonneg word_nought.2.1, word_nought.2.2]; rfl]
    simp [compare, compareOfLessAndEq]
end Go.Proofs.Ytlilmchlddiacaa
