/-
  Drops in memory; what each step of a mix is.
-/
import Derived.Test.YtlilmchlddiacaaFB
namespace Go.Proofs.Ytlilmchlddiacaa
open Go.RowKit Ieee

/-- drops in a slice -/
def Dp (W : World) (q : Option Addr) (n : Nat) (d : Nat → Nat → Nat) (s : Nat → Nat) : Prop := n = 0 ∨ ∃ b o, q = some ⟨b, o, none⟩ ∧ b < W.heap.size ∧ ∀ k, k < n → W.cell? ⟨b, o + k * 4, none⟩ = some (.float .f64 (d k 0)) ∧ W.cell? ⟨b, o + k * 4 + 1, none⟩ = some (.float .f64 (d k 1)) ∧ W.cell? ⟨b, o + k * 4 + 2, none⟩ = some (.float .f64 (d k 2)) ∧ W.cell? ⟨b, o + k * 4 + 3, none⟩ = some (.float .f64 (s k))
theorem Dp.keep {W V : World} {q : Option Addr} {n : Nat} {d : Nat → Nat → Nat} {s : Nat → Nat} (h : Dp W q n d s) (hb : Below W.heap.size W V) : Dp V q n d s := by
  rcases h with h | ⟨b, o, e, hl, hk⟩
  · exact .inl h
  · exact .inr ⟨b, o, e, Nat.lt_of_lt_of_le hl hb.size, fun k hkn => ⟨keepC hb hl (hk k hkn).1, keepC hb hl (hk k hkn).2.1, keepC hb hl (hk k hkn).2.2.1, keepC hb hl (hk k hkn).2.2.2⟩⟩
theorem Dp.at {W : World} {q : Option Addr} {n x : Nat} {d : Nat → Nat → Nat} {s : Nat → Nat} (h : Dp W q n d s) (hx : x < n) : ∃ b o, q = some ⟨b, o, none⟩ ∧ W.cell? ⟨b, o + x * 4, none⟩ = some (.float .f64 (d x 0)) ∧ W.cell? ⟨b, o + x * 4 + 1, none⟩ = some (.float .f64 (d x 1)) ∧ W.cell? ⟨b, o + x * 4 + 2, none⟩ = some (.float .f64 (d x 2)) ∧ W.cell? ⟨b, o + x * 4 + 3, none⟩ = some (.float .f64 (s x)) := by
  rcases h with h | ⟨b, o, e, hl, hk⟩
  · omega
  · exact ⟨b, o, e, hk x hx⟩
/-- dyes in a slice -/
def Dy (W : World) (q : Option Addr) (n : Nat) (d : Nat → Nat → Nat) : Prop := n = 0 ∨ ∃ b o, q = some ⟨b, o, none⟩ ∧ b < W.heap.size ∧ ∀ k, k < n → W.cell? ⟨b, o + k * 3, none⟩ = some (.float .f64 (d k 0)) ∧ W.cell? ⟨b, o + k * 3 + 1, none⟩ = some (.float .f64 (d k 1)) ∧ W.cell? ⟨b, o + k * 3 + 2, none⟩ = some (.float .f64 (d k 2))
theorem Dy.keep {W V : World} {q : Option Addr} {n : Nat} {d : Nat → Nat → Nat} (h : Dy W q n d) (hb : Below W.heap.size W V) : Dy V q n d := by
  rcases h with h | ⟨b, o, e, hl, hk⟩
  · exact .inl h
  · exact .inr ⟨b, o, e, Nat.lt_of_lt_of_le hl hb.size, fun k hkn => ⟨keepC hb hl (hk k hkn).1, keepC hb hl (hk k hkn).2.1, keepC hb hl (hk k hkn).2.2⟩⟩
theorem Dy.at {W : World} {q : Option Addr} {n x : Nat} {d : Nat → Nat → Nat} (h : Dy W q n d) (hx : x < n) : ∃ b o, q = some ⟨b, o, none⟩ ∧ W.cell? ⟨b, o + x * 3, none⟩ = some (.float .f64 (d x 0)) ∧ W.cell? ⟨b, o + x * 3 + 1, none⟩ = some (.float .f64 (d x 1)) ∧ W.cell? ⟨b, o + x * 3 + 2, none⟩ = some (.float .f64 (d x 2)) := by
  rcases h with h | ⟨b, o, e, hl, hk⟩
  · omega
  · exact ⟨b, o, e, hk x hx⟩
/-- a drop in its box -/
def BD (W : World) (b : Nat) (p : Nat → Nat) (s : Nat) : Prop := b < W.heap.size ∧ W.cell? ⟨b, 0, none⟩ = some (.float .f64 (p 0)) ∧ W.cell? ⟨b, 1, none⟩ = some (.float .f64 (p 1)) ∧ W.cell? ⟨b, 2, none⟩ = some (.float .f64 (p 2)) ∧ W.cell? ⟨b, 3, none⟩ = some (.float .f64 s)
theorem BD.keep {W V : World} {b : Nat} {p : Nat → Nat} {s : Nat} (h : BD W b p s) (hb : Below W.heap.size W V) : BD V b p s :=
  ⟨Nat.lt_of_lt_of_le h.1 hb.size, keepC hb h.1 h.2.1, keepC hb h.1 h.2.2.1, keepC hb h.1 h.2.2.2.1, keepC hb h.1 h.2.2.2.2⟩
theorem BD.kept {S : Nat → Prop} {W V : World} {b : Nat} {p : Nat → Nat} {s : Nat} (h : BD W b p s) (hK : Kept S W V) (hS : ¬ S b) : BD V b p s :=
  ⟨Nat.lt_of_lt_of_le h.1 hK.size, hK.cell h.1 hS h.2.1, hK.cell h.1 hS h.2.2.1, hK.cell h.1 hS h.2.2.2.1, hK.cell h.1 hS h.2.2.2.2⟩
theorem BD.new (W : World) (p : Nat → Nat) (s : Nat) (t : TypeId) : BD (W.alloc (.cells #[.float .f64 (p 0), .float .f64 (p 1), .float .f64 (p 2), .float .f64 s] t)) W.heap.size p s :=
  ⟨by simp, by simp [go_sem], by simp [go_sem], by simp [go_sem], by simp [go_sem]⟩

/-- may a drop be mixed? -/
def dpB (p : Nat → Nat) (s : Nat) : Bool := shB s && faB p
theorem unB_fi {x : Nat} (h : unB x = true) : Fi x ∧ (sg x = true → mv x = 0) ∧ mv x ≤ fO := by
  unfold unB geB leB at h
  rw [Bool.and_eq_true] at h
  exact part_fi h.1 h.2
theorem shB_fi {x : Nat} (h : shB x = true) : ShOk x := by
  unfold shB geB leB at h
  rw [Bool.and_eq_true] at h
  exact share_fi h.1 h.2
theorem faB_at {p : Nat → Nat} (h : faB p = true) (j : Nat) (hj : j < 3) : unB (p j) = true := by
  unfold faB at h
  rw [Bool.and_eq_true, Bool.and_eq_true] at h
  rcases (show j = 0 ∨ j = 1 ∨ j = 2 by omega) with rfl | rfl | rfl
  · exact h.1.1
  · exact h.1.2
  · exact h.2
/-- all drops may be mixed -/
def DpOk (n : Nat) (d : Nat → Nat → Nat) (s : Nat → Nat) : Prop := 1 ≤ n ∧ n ≤ 64 ∧ ∀ k, k < n → dpB (d k) (s k) = true
theorem DpOk.sh {n : Nat} {d : Nat → Nat → Nat} {s : Nat → Nat} (h : DpOk n d s) (k : Nat) (hk : k < n) : ShOk (s k) := by
  have := h.2.2 k hk
  unfold dpB at this
  rw [Bool.and_eq_true] at this
  exact shB_fi this.1
theorem DpOk.pt {n : Nat} {d : Nat → Nat → Nat} {s : Nat → Nat} (h : DpOk n d s) (c : Nat) (hc : c < 3) (k : Nat) (hk : k < n) : PtOk 0 fO (d k c) := by
  have := h.2.2 k hk
  unfold dpB at this
  rw [Bool.and_eq_true] at this
  obtain ⟨h1, h2, h3⟩ := unB_fi (faB_at this.2 c hc)
  exact ⟨h1, h2, Nat.zero_le _, h3⟩
/-- the sums of products, part by part -/
def smF (d : Nat → Nat → Nat) (s : Nat → Nat) (x : Nat) : Nat → Nat := fun c => SF s (fun k => d k c) x
def pdF (d : Nat → Nat → Nat) (s : Nat → Nat) (x : Nat) : Nat → Nat := fun c => pF s (fun k => d k c) x
/-- the mix -/
def mxF (d : Nat → Nat → Nat) (s : Nat → Nat) (n : Nat) : Nat → Nat := fun c => (double.div (smF d s n c) (TF s n)).getD 0
theorem DpOk.step {n : Nat} {d : Nat → Nat → Nat} {s : Nat → Nat} (h : DpOk n d s) (x : Nat) (hx : x < n) :
    (∀ j, j < 3 → floatBits .mul .f64 (s x) (d x j) = some (pdF d s x j)) ∧ (∀ j, j < 3 → floatBits .add .f64 (smF d s x j) (pdF d s x j) = some (smF d s (x + 1) j)) ∧ floatBits .add .f64 (TF s x) (s x) = some (TF s (x + 1)) := by
  refine ⟨fun j hj => ?_, fun j hj => ?_, ?_⟩
  · exact (mix_steps h.2.1 h.sh (h.pt j hj) (Nat.le_refl _) x hx).1
  · exact (mix_steps h.2.1 h.sh (h.pt j hj) (Nat.le_refl _) x hx).2.1
  · exact (mix_steps h.2.1 h.sh (h.pt 0 (by omega)) (Nat.le_refl _) x hx).2.2.1
theorem DpOk.last {n : Nat} {d : Nat → Nat → Nat} {s : Nat → Nat} (h : DpOk n d s) (j : Nat) (hj : j < 3) : floatBits .quo .f64 (smF d s n j) (TF s n) = some (mxF d s n j) := by
  obtain ⟨m, hm, -⟩ := mix_part h.2.1 (by have := h.1; omega) h.sh (h.pt j hj) (Nat.le_refl _)
  show double.div (smF d s n j) (TF s n) = some ((double.div (smF d s n j) (TF s n)).getD 0)
  rw [show double.div (smF d s n j) (TF s n) = some m from hm]
  rfl
theorem smF_zero (d : Nat → Nat → Nat) (s : Nat → Nat) : smF d s 0 = fun _ => 0 := rfl
end Go.Proofs.Ytlilmchlddiacaa
