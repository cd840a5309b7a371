/-
  A picture: a chart and its threads' colours. Which threads cross one; the cell where two cross.
-/
import Derived.Test.YtbmgjoocpbikkaaTh
import Derived.Test.YtbmgjoocpbikkaaEM
namespace Go.Proofs.Ytbmgjoocpbikkaa
open Go.RowKit

/-- a picture, as the calls take it -/
abbrev pcV (w h : Nat) (p : Option Addr) (n cap cb K : Nat) : Value := .agg #[.int .i64 4, .int .i64 w, .int .i64 h, .slice p n cap, .slice (some ⟨cb, 0, none⟩) K K]
/-- its cells in a box -/
abbrev pcC (w h : Nat) (p : Option Addr) (n cap cb K : Nat) : Array Value := #[.int .i64 4, .int .i64 w, .int .i64 h, .slice p n cap, .slice (some ⟨cb, 0, none⟩) K K]
/-- a picture in a box -/
def OwnP (W : World) (b w h : Nat) (p : Option Addr) (n cap cb K : Nat) : Prop := b < W.heap.size ∧ W.cell? ⟨b, 0, none⟩ = some (.int .i64 4) ∧ W.cell? ⟨b, 1, none⟩ = some (.int .i64 w) ∧ W.cell? ⟨b, 2, none⟩ = some (.int .i64 h) ∧ W.cell? ⟨b, 3, none⟩ = some (.slice p n cap) ∧ W.cell? ⟨b, 4, none⟩ = some (.slice (some ⟨cb, 0, none⟩) K K)
theorem OwnP.keep {W V : World} {b w h : Nat} {p : Option Addr} {n cap cb K : Nat} (k : OwnP W b w h p n cap cb K) (hb : Below W.heap.size W V) : OwnP V b w h p n cap cb K :=
  ⟨Nat.lt_of_lt_of_le k.1 hb.size, keepC hb k.1 k.2.1, keepC hb k.1 k.2.2.1, keepC hb k.1 k.2.2.2.1, keepC hb k.1 k.2.2.2.2.1, keepC hb k.1 k.2.2.2.2.2⟩
theorem OwnP.but {S : Nat → Prop} {W V : World} {b w h : Nat} {p : Option Addr} {n cap cb K : Nat} (k : OwnP W b w h p n cap cb K) (hb : Kept S W V) (hS : ¬ S b) : OwnP V b w h p n cap cb K :=
  ⟨Nat.lt_of_lt_of_le k.1 hb.size, hb.cell k.1 hS k.2.1, hb.cell k.1 hS k.2.2.1, hb.cell k.1 hS k.2.2.2.1, hb.cell k.1 hS k.2.2.2.2.1, hb.cell k.1 hS k.2.2.2.2.2⟩
theorem OwnP.new (W : World) (w h : Nat) (p : Option Addr) (n cap cb K : Nat) (t : TypeId) : OwnP (W.alloc (.cells (pcC w h p n cap cb K) t)) W.heap.size w h p n cap cb K :=
  ⟨by simp, by simp [go_sem], by simp [go_sem], by simp [go_sem], by simp [go_sem], by simp [go_sem]⟩
/-- the sides of a picture and its cells -/
def Sq (W : World) (w h : Nat) (p : Option Addr) (n cb : Nat) (px : Nat → Int) : Prop := (1 ≤ w ∧ w ≤ 64) ∧ (1 ≤ h ∧ h ≤ 64) ∧ n = w * h ∧ T.Is W p n px ∧ (∀ a, p = some a → a.block ≠ cb) ∧ ∀ k, k < n → 0 ≤ px k ∧ px k ≤ 61
theorem Sq.keep {W V : World} {w h : Nat} {p : Option Addr} {n cb : Nat} {px : Nat → Int} (k : Sq W w h p n cb px) (hb : Below W.heap.size W V) : Sq V w h p n cb px := ⟨k.1, k.2.1, k.2.2.1, k.2.2.2.1.keep hb, k.2.2.2.2⟩
theorem Sq.but {W V : World} {w h : Nat} {p : Option Addr} {n cb : Nat} {px : Nat → Int} (k : Sq W w h p n cb px) (hb : Kept (fun i => i = cb) W V) : Sq V w h p n cb px := ⟨k.1, k.2.1, k.2.2.1, is_but k.2.2.2.1 hb k.2.2.2.2.1, k.2.2.2.2⟩
theorem Sq.ok {W : World} {w h : Nat} {p : Option Addr} {n cb : Nat} {px : Nat → Int} (k : Sq W w h p n cb px) : (pic w h px).Ok := pic_ok (fun j hj => k.2.2.2.2.2 j (by rw [k.2.2.1]; exact hj))

theorem cell_nums {w h n s t : Nat} {px : Nat → Int} (w2 : w ≤ 64) (h2 : h ≤ 64) (hn : n = w * h) (hx : (pic w h px).X s t) :
    ∃ x y yw z u : Nat, ((s = x ∧ t = u) ∨ (s = u ∧ t = x)) ∧ x < u ∧ (pic w h px).c s t = px z ∧ wrap64 ((y : Int) * (w : Int)) = (yw : Int) ∧ (yw : Int) + (x : Int) = (z : Int) ∧ (u : Int) - (w : Int) = (y : Int) ∧ y ≤ 64 ∧ z < n ∧ n ≤ 4096 ∧ yw ≤ 4096 ∧ x ≤ 64 := by
  have hn4 : n ≤ 4096 := by rw [hn]; exact Nat.mul_le_mul w2 h2
  have key : ∀ x y : Nat, x < w → y < h → wrap64 ((y : Int) * (w : Int)) = ((y * w : Nat) : Int) ∧ y * w + x < n ∧ y * w ≤ 4096 := fun x y hx hy => by
    have l := place_lt hx hy
    rw [← hn] at l
    refine ⟨?_, l, by omega⟩
    rw [← Int.natCast_mul]
    exact Go.IntWalk.wrap64_in _ (by omega)
  rcases hx with ⟨a, b, d⟩ | ⟨a, b, d⟩
  · obtain ⟨y, rfl⟩ : ∃ y, t = w + y := ⟨t - w, by omega⟩
    obtain ⟨k1, k2, k3⟩ := key s y a (by omega)
    refine ⟨s, y, y * w, y * w + s, w + y, .inl ⟨rfl, rfl⟩, by omega, ?_, k1, by omega, by omega, by omega, k2, hn4, k3, by omega⟩
    show px _ = px _
    rw [Nat.max_eq_right (by omega), Nat.min_eq_left (by omega), Nat.add_sub_cancel_left]
  · obtain ⟨y, rfl⟩ : ∃ y, s = w + y := ⟨s - w, by omega⟩
    obtain ⟨k1, k2, k3⟩ := key t y a (by omega)
    refine ⟨t, y, y * w, y * w + t, w + y, .inr ⟨rfl, rfl⟩, by omega, ?_, k1, by omega, by omega, by omega, k2, hn4, k3, by omega⟩
    show px _ = px _
    rw [Nat.max_eq_left (by omega), Nat.min_eq_right (by omega), Nat.add_sub_cancel_left]

set_option maxHeartbeats 1000000 in
theorem cell_any {W : World} {w h : Nat} {p : Option Addr} {n cb : Nat} {px : Nat → Int} (k : Sq W w h p n cb px) (cap K s t : Nat) (hx : (pic w h px).X s t) :
    Calls Try.prog 45 #[pcV w h p n cap cb K, .int .i64 s, .int .i64 t] W fun e w' => e = .returned (.int .i64 ((pic w h px).c s t)) ∧ Below W.heap.size W w' := by
  obtain ⟨⟨w1, w2⟩, ⟨h1, h2⟩, hn, hI, _, _⟩ := k
  obtain ⟨x, y, yw, z, u, m1, m2, hcc, m3, m4, m5, m6, m7, m8, m9, m10⟩ := cell_nums w2 h2 hn hx
  rw [hcc]
  obtain ⟨b, o, rfl, hl, hc⟩ := (hI.keep (bal (o := .cells (pcC w h p n cap cb K) 49) (Below.refl W.heap.size W))).at m7
  have e4 : IntKind.i64.wrap (y : Int) = (y : Int) := Go.IntWalk.i64_in _ (by omega)
  have q1 : (z : Int) < (n : Int) := by omega
  have q2 : (0 : Int) ≤ (z : Int) := by omega
  have q3 : (y : Int) ≤ 64 := by omega
  have q4 : (x : Int) < (u : Int) := by omega
  have q5 : ¬ (u : Int) < (x : Int) := by omega
  generalize px z = c at *
  clear hx hn hI hcc m7 m6 hl m2
  rcases m1 with ⟨rfl, rfl⟩ | ⟨rfl, rfl⟩
  all_goals
    go_enter Try.func45, Try.ntmps45
    go_wp2_with fail
    go_quiet (fail)
    go_wp2
    go_ret
    exact ⟨rfl, btrans (bal (Below.refl _ _)) (Joins.below_draws _ _ _)⟩

set_option maxHeartbeats 1000000 in
theorem crossing_any (W : World) (w h : Nat) (p : Option Addr) (n cap cb K t : Nat) :
    Calls Try.prog 44 #[pcV w h p n cap cb K, .int .i64 t] W fun e w' => e = .returned (.tuple #[.int .i64 ((if t < w then w else 0 : Nat) : Int), .int .i64 ((if t < w then K else w : Nat) : Int)]) ∧ Below W.heap.size W w' := by
  by_cases ht : t < w
  · rw [if_pos ht, if_pos ht]
    have q1 : (t : Int) < (w : Int) := by omega
    go_enter Try.func44, Try.ntmps44
    go_wp2_with fail
    go_quiet (fail)
    go_wp2_with fail
    exact bodyPost_ret (v := .tuple #[.int .i64 (w : Int), .int .i64 (K : Int)]) (by simp [results, Try.results44, go_sem]) rfl ⟨rfl, btrans (bal (Below.refl _ _)) (Joins.below_draws _ _ _)⟩
  · rw [if_neg ht, if_neg ht]
    have q1 : ¬ (t : Int) < (w : Int) := by omega
    go_enter Try.func44, Try.ntmps44
    go_wp2_with fail
    go_quiet (fail)
    go_wp2_with fail
    exact bodyPost_ret (v := .tuple #[.int .i64 ((0 : Nat) : Int), .int .i64 (w : Int)]) (by simp [results, Try.results44, go_sem]) rfl ⟨rfl, btrans (bal (Below.refl _ _)) (Joins.below_draws _ _ _)⟩
end Go.Proofs.Ytbmgjoocpbikkaa
