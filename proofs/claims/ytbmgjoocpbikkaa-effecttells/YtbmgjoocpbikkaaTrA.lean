/-
  Truths: what is wrong with them, a bit of them, whether two are alike.
-/
import Derived.Test.YtbmgjoocpbikkaaChA
namespace Go.Proofs.Ytbmgjoocpbikkaa.T
open Go.RowKit

theorem gcell {a b : World} {row : Option Nat} {p : Addr} {v : Value} (h : a.grownBy b row) (hl : p.block < a.heap.size) (hne : some p.block ≠ row) (hc : a.cell? p = some v) : b.cell? p = some v := by
  rw [World.cell?_of_block (h.block p.block hl hne)]; exact hc
theorem gfroz {a b : World} {row : Option Nat} {p : Addr} (h : a.grownBy b row) (hl : p.block < a.heap.size) (hne : some p.block ≠ row) (hc : a.frozen? p = false) : b.frozen? p = false := by
  rw [World.frozen?_of_block (h.block p.block hl hne)]; exact hc

theorem mul_step (y n : Nat) : (y + 1) * n = y * n + n := by rw [Nat.add_mul, Nat.one_mul]
/-- a side that may be -/
def sd (n : Int) : Bool := decide (0 ≤ n) && decide (n ≤ 64)
theorem sd_iff (n : Int) : sd n = true ↔ 0 ≤ n ∧ n ≤ 64 := by simp [sd]

set_option maxHeartbeats 400000 in
theorem side_any (n : Int) (w : World) : Calls Try.prog 32 #[.int .i64 n] w fun e w' => e = .returned (.bool (sd n)) ∧ w' = w := by
  by_cases h : 0 ≤ n
  · go_enter Try.func32, Try.ntmps32
    go_wp2
    go_ret
    exact ⟨by simp [sd, h], rfl⟩
  · have h' : decide (0 ≤ n) = false := by simp; omega
    go_enter Try.func32, Try.ntmps32
    go_wp2
    go_ret
    exact ⟨by simp [sd, h'], rfl⟩

/-- truths, as the calls take them -/
abbrev tr (w h : Int) (p : Option Addr) (n cap : Nat) : Value := .agg #[.int .i64 w, .int .i64 h, .slice p n cap]
/-- what is wrong with truths -/
def wE (w h : Int) (n : Nat) : Int := if sd w && sd h then (if (n : Int) = w * h then 0 else 8) else 3

def WrongIs (F : Nat) (w h : Int) (p : Option Addr) (n cap : Nat) (W : World) (er : Int) : Prop := Calls Try.prog F #[tr w h p n cap] W fun e w' => e = .returned (.int .i64 er) ∧ Below W.heap.size W w'

theorem area (w h : Int) (h1 : sd w = true) (h2 : sd h = true) : 0 ≤ w * h ∧ w * h ≤ 4096 := by
  have b1 := (sd_iff w).1 h1
  have b2 := (sd_iff h).1 h2
  have c1 := Int.mul_le_mul (a := w) (b := h) (c := 64) (d := 64) (by omega) (by omega) (by omega) (by omega)
  have c2 := Int.mul_nonneg (a := w) (b := h) (by omega) (by omega)
  omega

set_option maxHeartbeats 1000000 in
theorem wrong_side (w h : Int) (p : Option Addr) (n cap : Nat) (W : World) (hs : (sd w && sd h) = false) : WrongIs 17 w h p n cap W 3 := by
  unfold WrongIs
  cases h1 : sd w with
  | false =>
    go_enter Try.func17, Try.ntmps17
    go_wp2_with (go_at_call 32; refine (side_any _ _).mono ?_; rintro e w' ⟨rfl, rfl⟩)
    go_ret
    exact ⟨rfl, bal (Below.refl _ _)⟩
  | true =>
    have h2 : sd h = false := by simpa [h1] using hs
    clear hs
    go_enter Try.func17, Try.ntmps17
    go_wp2_with (go_at_call 32; refine (side_any _ _).mono ?_; rintro e w' ⟨rfl, rfl⟩)
    go_ret
    exact ⟨rfl, bal (Below.refl _ _)⟩

set_option maxHeartbeats 1000000 in
theorem wrong_fit (w h : Int) (p : Option Addr) (n cap : Nat) (W : World) (h1 : sd w = true) (h2 : sd h = true) (b : Bool) (hn : ((n : Int) != w * h) = b) (er : Int) (Her : Hid (er = if b then 8 else 0)) : WrongIs 17 w h p n cap W er := by
  unfold WrongIs
  have hm := area w h h1 h2
  cases b
  all_goals
    go_enter Try.func17, Try.ntmps17
    go_wp2_with (go_at_call 32; refine (side_any _ _).mono ?_; rintro e w' ⟨rfl, rfl⟩)
    go_ret
    exact ⟨ret_int (unhide Her).symm, bal (Below.refl _ _)⟩

theorem wrong_any (w h : Int) (p : Option Addr) (n cap : Nat) (W : World) : WrongIs 17 w h p n cap W (wE w h n) := by
  unfold wE
  cases s : sd w && sd h with
  | false => simpa using wrong_side w h p n cap W s
  | true =>
    simp at s
    refine wrong_fit w h p n cap W s.1 s.2 _ rfl _ (hide ?_)
    by_cases e : (n : Int) = w * h <;> simp [e]

set_option maxHeartbeats 1000000 in
theorem rwrong_side (w h : Int) (p : Option Addr) (n cap : Nat) (W : World) (hs : (sd w && sd h) = false) : WrongIs 20 w h p n cap W 3 := by
  unfold WrongIs
  have q : w < 0 ∨ (¬ w < 0 ∧ 64 < w) ∨ (¬ w < 0 ∧ ¬ 64 < w ∧ h < 0) ∨ (¬ w < 0 ∧ ¬ 64 < w ∧ ¬ h < 0 ∧ 64 < h) := by
    have : ¬ (sd w = true ∧ sd h = true) := by simp at hs; simpa using hs
    rw [sd_iff, sd_iff] at this
    omega
  clear hs
  rcases q with q | ⟨q1, q⟩ | ⟨q1, q2, q⟩ | ⟨q1, q2, q3, q⟩
  all_goals
    go_enter Try.func20, Try.ntmps20
    go_wp2
    go_ret
    exact ⟨rfl, bal (Below.refl _ _)⟩

set_option maxHeartbeats 1000000 in
theorem rwrong_fit (w h : Int) (p : Option Addr) (n cap : Nat) (W : World) (h1 : sd w = true) (h2 : sd h = true) (b : Bool) (hn : ((n : Int) != w * h) = b) (er : Int) (Her : Hid (er = if b then 8 else 0)) : WrongIs 20 w h p n cap W er := by
  unfold WrongIs
  have hm := area w h h1 h2
  have b1 := (sd_iff w).1 h1
  have b2 := (sd_iff h).1 h2
  have c1 : ¬ w < 0 := by omega
  have c2 : ¬ 64 < w := by omega
  have c3 : ¬ h < 0 := by omega
  have c4 : ¬ 64 < h := by omega
  cases b
  all_goals
    go_enter Try.func20, Try.ntmps20
    go_wp2
    go_ret
    exact ⟨ret_int (unhide Her).symm, bal (Below.refl _ _)⟩

theorem rwrong_any (w h : Int) (p : Option Addr) (n cap : Nat) (W : World) : WrongIs 20 w h p n cap W (wE w h n) := by
  unfold wE
  cases s : sd w && sd h with
  | false => simpa using rwrong_side w h p n cap W s
  | true =>
    simp at s
    refine rwrong_fit w h p n cap W s.1 s.2 _ rfl _ (hide ?_)
    by_cases e : (n : Int) = w * h <;> simp [e]


/-- truths in a box -/
def OwnM (W : World) (b : Nat) (w h : Int) (p : Option Addr) (n cap : Nat) : Prop := b < W.heap.size ∧ W.cell? ⟨b, 0, none⟩ = some (.int .i64 w) ∧ W.cell? ⟨b, 1, none⟩ = some (.int .i64 h) ∧ W.cell? ⟨b, 2, none⟩ = some (.slice p n cap)
theorem OwnM.keep {W w1 : World} {b : Nat} {w h : Int} {p : Option Addr} {n cap : Nat} (k : OwnM W b w h p n cap) (hb : Below W.heap.size W w1) : OwnM w1 b w h p n cap :=
  ⟨Nat.lt_of_lt_of_le k.1 hb.size, keepC hb k.1 k.2.1, keepC hb k.1 k.2.2.1, keepC hb k.1 k.2.2.2⟩
theorem OwnM.alloc {W : World} {b : Nat} {w h : Int} {p : Option Addr} {n cap : Nat} (k : OwnM W b w h p n cap) (o : Obj) : OwnM (W.alloc o) b w h p n cap := k.keep (bal (Below.refl _ _))
theorem OwnM.new (W : World) (w h : Int) (p : Option Addr) (n cap : Nat) (t : TypeId) : OwnM (W.alloc (.cells #[.int .i64 w, .int .i64 h, .slice p n cap] t)) W.heap.size w h p n cap :=
  ⟨by simp, by simp [go_sem], by simp [go_sem], by simp [go_sem]⟩
theorem OwnM.grown {a c : World} {row : Option Nat} {b : Nat} {w h : Int} {p : Option Addr} {n cap : Nat} (k : OwnM a b w h p n cap) (hg : a.grownBy c row) (hne : some b ≠ row) : OwnM c b w h p n cap :=
  ⟨Nat.lt_of_lt_of_le k.1 hg.size, gcell hg k.1 hne k.2.1, gcell hg k.1 hne k.2.2.1, gcell hg k.1 hne k.2.2.2⟩
theorem OwnM.block {a c : World} {b : Nat} {w h : Int} {p : Option Addr} {n cap : Nat} (k : OwnM a b w h p n cap) (hs : b < c.heap.size) (hg : c.heap[b]? = a.heap[b]?) : OwnM c b w h p n cap :=
  ⟨hs, (World.cell?_of_block hg).trans k.2.1, (World.cell?_of_block hg).trans k.2.2.1, (World.cell?_of_block hg).trans k.2.2.2⟩
/-- what a slice's bits are -/
def Bs (W : World) (p : Option Addr) (n cap : Nat) (f : Nat → Bool) : Prop := n ≤ cap ∧ (n = 0 ∨ ∃ b o, p = some ⟨b, o, none⟩ ∧ b < W.heap.size ∧ ∀ k, k < n → W.cell? ⟨b, o + k, none⟩ = some (.bool (f k)))
theorem Bs.keep {W w1 : World} {p : Option Addr} {n cap : Nat} {f : Nat → Bool} (h : Bs W p n cap f) (hb : Below W.heap.size W w1) : Bs w1 p n cap f := by
  refine ⟨h.1, ?_⟩
  rcases h.2 with h0 | ⟨b, o, e, hl, hc⟩
  · exact .inl h0
  · exact .inr ⟨b, o, e, Nat.lt_of_lt_of_le hl hb.size, fun k hk => keepC hb hl (hc k hk)⟩
/-- the bits do not lie in the block q -/
def Off (p : Option Addr) (n q : Nat) : Prop := n = 0 ∨ ∀ a, p = some a → a.block ≠ q
theorem Bs.grown {W w1 : World} {p : Option Addr} {n cap q : Nat} {f : Nat → Bool} (h : Bs W p n cap f) (hg : W.grownBy w1 (some q)) (ho : Off p n q) : Bs w1 p n cap f := by
  refine ⟨h.1, ?_⟩
  rcases h.2 with h0 | ⟨b, o, e, hl, hc⟩
  · exact .inl h0
  · rcases ho with h0 | ho
    · exact .inl h0
    · exact .inr ⟨b, o, e, Nat.lt_of_lt_of_le hl hg.size, fun k hk => gcell (p := ⟨b, o + k, none⟩) hg hl (fun e' => ho _ e (Option.some.inj e')) (hc k hk)⟩
theorem Bs.off {W : World} {p : Option Addr} {n cap : Nat} {f : Nat → Bool} (h : Bs W p n cap f) {q : Nat} (hq : W.heap.size ≤ q) : Off p n q := by
  rcases h.2 with h0 | ⟨b, o, e, hl, hc⟩
  · exact .inl h0
  · exact .inr fun a e' => by rw [e] at e'; cases e'; dsimp only; omega
/-- truths that are right -/
def Rt (W : World) (w h : Nat) (p : Option Addr) (n cap : Nat) (f : Nat → Bool) : Prop := w ≤ 64 ∧ h ≤ 64 ∧ n = w * h ∧ Bs W p n cap f
theorem Rt.keep {W V : World} {w h : Nat} {p : Option Addr} {n cap : Nat} {f : Nat → Bool} (r : Rt W w h p n cap f) (hb : Below W.heap.size W V) : Rt V w h p n cap f := ⟨r.1, r.2.1, r.2.2.1, r.2.2.2.keep hb⟩
/-- right truths in a box -/
def Tb (W : World) (b w h : Nat) (p : Option Addr) (n cap : Nat) (f : Nat → Bool) : Prop := OwnM W b w h p n cap ∧ Rt W w h p n cap f
theorem Tb.keep {W V : World} {b w h : Nat} {p : Option Addr} {n cap : Nat} {f : Nat → Bool} (r : Tb W b w h p n cap f) (hb : Below W.heap.size W V) : Tb V b w h p n cap f := ⟨r.1.keep hb, r.2.keep hb⟩
theorem Tb.new {V : World} {w h : Nat} {p : Option Addr} {n cap : Nat} {f : Nat → Bool} (r : Rt V w h p n cap f) : Tb (V.alloc (.cells #[.int .i64 w, .int .i64 h, .slice p n cap] 27)) V.heap.size w h p n cap f :=
  ⟨OwnM.new V w h p n cap 27, r.keep (bal (Below.refl _ _))⟩
theorem wE_zero (w h : Int) (n : Nat) (he : wE w h n = 0) : ∃ w' h' : Nat, w = w' ∧ h = h' ∧ w' ≤ 64 ∧ h' ≤ 64 ∧ n = w' * h' := by
  unfold wE at he
  split at he
  · rename_i s
    simp at s
    have b1 := (sd_iff w).1 s.1
    have b2 := (sd_iff h).1 s.2
    obtain ⟨w', rfl⟩ := Int.eq_ofNat_of_zero_le b1.1
    obtain ⟨h', rfl⟩ := Int.eq_ofNat_of_zero_le b2.1
    split at he
    · rename_i e
      exact ⟨w', h', rfl, rfl, by omega, by omega, by rw [← Int.natCast_mul] at e; exact Int.ofNat.inj e⟩
    · omega
  · omega
theorem bs_at {W : World} {p : Option Addr} {n cap k : Nat} {f : Nat → Bool} (h : Bs W p n cap f) (hk : k < n) : ∃ b o, p = some ⟨b, o, none⟩ ∧ b < W.heap.size ∧ W.cell? ⟨b, o + k, none⟩ = some (.bool (f k)) := by
  rcases h.2 with h0 | ⟨b, o, e, hb, hc⟩
  · omega
  · exact ⟨b, o, e, hb, hc k hk⟩
/-- whole numbers that lie in a slice -/
def Is (W : World) (q : Option Addr) (n : Nat) (f : Nat → Int) : Prop := n = 0 ∨ ∃ b o, q = some ⟨b, o, none⟩ ∧ b < W.heap.size ∧ ∀ k, k < n → W.cell? ⟨b, o + k, none⟩ = some (.int .i64 (f k))
theorem Is.keep {W V : World} {q : Option Addr} {n : Nat} {f : Nat → Int} (h : Is W q n f) (hb : Below W.heap.size W V) : Is V q n f := by
  rcases h with h | ⟨b, o, e, hl, hk⟩
  · exact .inl h
  · exact .inr ⟨b, o, e, Nat.lt_of_lt_of_le hl hb.size, fun k hkn => keepC hb hl (hk k hkn)⟩
theorem Is.at {W : World} {q : Option Addr} {n x : Nat} {f : Nat → Int} (h : Is W q n f) (hx : x < n) : ∃ a o, q = some ⟨a, o, none⟩ ∧ a < W.heap.size ∧ W.cell? ⟨a, o + x, none⟩ = some (.int .i64 (f x)) := by
  rcases h with h | ⟨b, o, e, hl, hk⟩
  · omega
  · exact ⟨b, o, e, hl, hk x hx⟩
theorem Is.congr {W : World} {q : Option Addr} {n : Nat} {f g : Nat → Int} (h : Is W q n f) (e : ∀ k, k < n → f k = g k) : Is W q n g := by
  rcases h with h | ⟨b, o, eq, hl, hk⟩
  · exact .inl h
  · exact .inr ⟨b, o, eq, hl, fun k hkn => by rw [← e k hkn]; exact hk k hkn⟩
theorem gmore {a b c : World} {o : Nat} {row : Option Nat} (h : a.grownBy b (some o)) (k : b.grownBy c row) (hr : ∀ j, row = some j → a.heap.size ≤ j) : a.grownBy c (some o) := by
  refine ⟨by rw [k.os, h.os], by rw [k.tape, h.tape], by rw [k.output, h.output], by have := h.size; have := k.size; omega, ?_⟩
  intro i hi hne
  have hs := h.size
  rw [k.block i (by omega) (fun e => by have := hr i e.symm; omega)]
  exact h.block i hi hne
/-- somewhere it is v -/
def hasI (f : Nat → Int) (v : Int) (n : Nat) : Bool := (List.range n).any fun x => v == f x
theorem hasI_yes (f : Nat → Int) (v : Int) (n x : Nat) (h : x < n) (e : v = f x) : hasI f v n = true := List.any_eq_true.2 ⟨x, by simpa using h, by simp [e]⟩
theorem hasI_no (f : Nat → Int) (v : Int) (n : Nat) (h : ∀ x, x < n → ¬ v = f x) : hasI f v n = false := by
  cases c : hasI f v n with
  | false => rfl
  | true =>
    obtain ⟨x, hx, e⟩ := List.any_eq_true.1 c
    exact absurd (by simpa using e) (h x (by simpa using hx))


theorem row_lt {w h x y : Nat} (hx : x < w) (hy : y < h) : y * w + x < w * h := by
  have := Nat.mul_le_mul_right w (show y + 1 ≤ h by omega)
  rw [mul_step, Nat.mul_comm h w] at this
  omega

set_option maxHeartbeats 1000000 in
theorem bit_ok {W : World} {w h : Nat} {p : Option Addr} {n cap : Nat} {f : Nat → Bool} (r : Rt W w h p n cap f) (y x : Nat) (hy : y < h) (hx : x < w) :
    Calls Try.prog 21 #[tr w h p n cap, .int .i64 y, .int .i64 x] W fun e w' => e = .returned (.bool (f (y * w + x))) ∧ Below W.heap.size W w' := by
  have hw := r.1
  have hh := r.2.1
  have hk : y * w + x < n := by rw [r.2.2.1]; exact row_lt hx hy
  have r' := r.2.2.2.keep (bal (o := .cells #[.int .i64 w, .int .i64 h, .slice p n cap] 27) (Below.refl W.heap.size W))
  obtain ⟨b, o, rfl, hb, hc⟩ := bs_at r' hk
  have hn4 : n ≤ 4096 := by rw [r.2.2.1]; exact Nat.mul_le_mul hw hh
  obtain ⟨yw, hyw⟩ : ∃ yw : Nat, yw = y * w := ⟨_, rfl⟩
  rw [← hyw] at hk hc ⊢
  have e3 : wrap64 ((y : Int) * (w : Int)) = (yw : Int) := by
    rw [hyw, ← Int.natCast_mul]
    exact Go.IntWalk.wrap64_in _ (by omega)
  obtain ⟨k, hk2⟩ : ∃ k : Nat, k = yw + x := ⟨_, rfl⟩
  rw [← hk2] at hk hc ⊢
  have e4 : (yw : Int) + (x : Int) = (k : Int) := by omega
  have hkn : (k : Int) < (n : Int) := by omega
  have hk0 : (0 : Int) ≤ (k : Int) := by omega
  have q1 : (yw : Int) ≤ 4096 := by omega
  have q2 : (0 : Int) ≤ (yw : Int) := by omega
  have q3 : (x : Int) ≤ 64 := by omega
  clear r r' hyw hk2
  go_enter Try.func21, Try.ntmps21
  go_wp2
  go_ret
  exact ⟨rfl, bal (Below.refl _ _)⟩

set_option maxHeartbeats 1000000 in
theorem same_any (w h : Int) (p : Option Addr) (n cap : Nat) (f : Nat → Bool) (p2 : Option Addr) (cap2 : Nat) (g : Nat → Bool) (W : World) (hn : n ≤ 4096) (h1 : Bs W p n cap f) (h2 : Bs W p2 n cap2 g) (he : ∀ j, j < n → f j = g j) :
    Calls Try.prog 14 #[tr w h p n cap, tr w h p2 n cap2] W fun e w' => e = .returned (.bool true) ∧ Below W.heap.size W w' := by
  have B0 := bal (o := .cells #[.int .i64 w, .int .i64 h, .slice p2 n cap2] 27) (bal (o := .cells #[.int .i64 w, .int .i64 h, .slice p n cap] 27) (Below.refl W.heap.size W))
  have R1 := hide (h1.keep B0)
  have R2 := hide (h2.keep B0)
  have C1 := (OwnM.new W w h p n cap 27).alloc (.cells #[.int .i64 w, .int .i64 h, .slice p2 n cap2] 27)
  have C2 := OwnM.new (W.alloc (.cells #[.int .i64 w, .int .i64 h, .slice p n cap] 27)) w h p2 n cap2 27
  rw [World.size_alloc] at C2
  have HB := hide B0
  have He := hide he
  have hww : (w != w) = false := by simp
  have hhh : (h != h) = false := by simp
  have hnn : ((n : Int) != (n : Int)) = false := by simp
  clear h1 h2 B0 he
  go_enter Try.func14, Try.ntmps14
  go_wp2
  generalize (W.alloc (.cells #[.int .i64 w, .int .i64 h, .slice p n cap] 27)).alloc (.cells #[.int .i64 w, .int .i64 h, .slice p2 n cap2] 27) = w0 at *
  go_loopw [30] (fun i wr => ∃ k : Nat, k ≤ n ∧ i = .int .i64 k ∧ Below w0.heap.size w0 wr) (fun i _ => n - (intOf i).toNat)
  case atStart => exact ⟨0, Nat.zero_le _, rfl, Below.refl _ _⟩
  case round =>
    obtain ⟨k, hk, rfl, hbel⟩ := hrel
    by_cases hlt : k < n
    · have c1 := (C1.keep hbel).2.2.2
      have c2 := (C2.keep hbel).2.2.2
      obtain ⟨b1, o1, rfl, l1, k1⟩ : ∃ b o, p = some ⟨b, o, none⟩ ∧ b < wr.heap.size ∧ ∀ k, k < n → wr.cell? ⟨b, o + k, none⟩ = some (.bool (f k)) := by
        rcases ((unhide R1).keep hbel).2 with h0 | h1
        · omega
        · exact h1
      obtain ⟨b2, o2, rfl, l2, k2⟩ : ∃ b o, p2 = some ⟨b, o, none⟩ ∧ b < wr.heap.size ∧ ∀ k, k < n → wr.cell? ⟨b, o + k, none⟩ = some (.bool (g k)) := by
        rcases ((unhide R2).keep hbel).2 with h0 | h1
        · omega
        · exact h1
      have x1 := k1 k hlt
      have x2 := k2 k hlt
      rw [← unhide He k hlt] at x2
      have q1 : (k : Int) < (n : Int) := by omega
      have q2 : (0 : Int) ≤ (k : Int) := by omega
      generalize f k = c at *
      clear k1 k2
      cases c
      all_goals
        go_wp2_with fail
        go_quiet (fail)
        go_wp2
        go_roundw
        case rel => exact ⟨k + 1, by omega, by go_num, btrans hbel (Joins.below_draws _ _ _)⟩
        case measure => simp [intOf]; omega
    · have e : k = n := by omega
      subst e
      have cl : ¬ ((k : Int) < (k : Int)) := by omega
      go_wp2
      go_ret
      exact ⟨rfl, btrans (unhide HB) hbel⟩

theorem same_ok {W : World} {w h : Nat} {p : Option Addr} {n cap : Nat} {f : Nat → Bool} {p2 : Option Addr} {cap2 : Nat} {g : Nat → Bool} (r : Rt W w h p n cap f) (r2 : Rt W w h p2 n cap2 g) (he : ∀ j, j < n → f j = g j) :
    Calls Try.prog 14 #[tr w h p n cap, tr w h p2 n cap2] W fun e w' => e = .returned (.bool true) ∧ Below W.heap.size W w' :=
  same_any w h p n cap f p2 cap2 g W (by rw [r.2.2.1]; exact Nat.mul_le_mul r.1 r.2.1) r.2.2.2 r2.2.2.2 he
end Go.Proofs.Ytbmgjoocpbikkaa.T
