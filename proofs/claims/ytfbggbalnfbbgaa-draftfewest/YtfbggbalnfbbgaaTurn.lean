/-
  Turned of package truth.
-/
import Derived.Test.YtfbggbalnfbbgaaSeq
namespace Go.Proofs.Ytfbggbalnfbbgaa
open Go.RowKit Go.Shelf

attribute [local go_sem] Oper.semAt_some

/-- what a slice's bits are -/
def Bs (W : World) (p : Option Addr) (n cap : Nat) (f : Nat → Bool) : Prop := n ≤ cap ∧ (n = 0 ∨ ∃ b o, p = some ⟨b, o, none⟩ ∧ b < W.heap.size ∧ ∀ k, k < n → W.cell? ⟨b, o + k, none⟩ = some (.bool (f k)))
theorem Bs.keep {W w1 : World} {p : Option Addr} {n cap : Nat} {f : Nat → Bool} (h : Bs W p n cap f) (hb : Below W.heap.size W w1) : Bs w1 p n cap f := by
  refine ⟨h.1, ?_⟩
  rcases h.2 with h0 | ⟨b, o, e, hl, hc⟩
  · exact .inl h0
  · exact .inr ⟨b, o, e, Nat.lt_of_lt_of_le hl hb.size, fun k hk => keepC hb hl (hc k hk)⟩
/-- the bits do not lie in the block q -/
def Off (p : Option Addr) (n q : Nat) : Prop := n = 0 ∨ ∀ a, p = some a → a.block ≠ q
theorem Bs.grown {W w1 : World} {p : Option Addr} {n cap q : Nat} {f : Nat → Bool} (h : Bs W p n cap f) (hg : W.grownBy w1 (some q)) (ho : Off p n q) : Bs w1 p n cap f := by
  refine ⟨h.1, ?_⟩
  rcases h.2 with h0 | ⟨b, o, e, hl, hc⟩
  · exact .inl h0
  · rcases ho with h0 | ho
    · exact .inl h0
    · exact .inr ⟨b, o, e, Nat.lt_of_lt_of_le hl hg.size, fun k hk => gcell (p := ⟨b, o + k, none⟩) hg hl (fun e' => ho _ e (Option.some.inj e')) (hc k hk)⟩
theorem Bs.off {W : World} {p : Option Addr} {n cap : Nat} {f : Nat → Bool} (h : Bs W p n cap f) {q : Nat} (hq : W.heap.size ≤ q) : Off p n q := by
  rcases h.2 with h0 | ⟨b, o, e, hl, hc⟩
  · exact .inl h0
  · exact .inr fun a e' => by rw [e] at e'; cases e'; dsimp only; omega
theorem rp_some (b o cap l : Nat) (h : cap ≠ l) : rp (some ⟨b, o, none⟩) cap l = some ⟨b, o + l, none⟩ := by
  unfold rp Addr.add
  rw [if_neg h]
  by_cases e : l = 0 <;> simp [e]
/-- a row of truths -/
theorem Bs.row {W : World} {p : Option Addr} {w h cap y : Nat} {f : Nat → Bool} (k : Bs W p (w * h) cap f) (hy : y < h) : Bs W (rp p cap (y * w)) w (cap - y * w) (fun x => f (y * w + x)) := by
  have hl : y * w + w ≤ w * h := by
    have := Nat.mul_le_mul_right w (show y + 1 ≤ h by omega)
    rw [mul_step, Nat.mul_comm h w] at this
    exact this
  have h1 := k.1
  refine ⟨by omega, ?_⟩
  rcases k.2 with h0 | ⟨b, o, rfl, hb, hc⟩
  · exact .inl (by omega)
  · by_cases hw : w = 0
    · exact .inl hw
    · refine .inr ⟨b, o + y * w, rp_some b o cap (y * w) (by omega), hb, fun j hj => ?_⟩
      rw [Nat.add_assoc]
      exact hc _ (by omega)
theorem Off.row {p : Option Addr} {w h cap q y : Nat} (k : Off p (w * h) q) (hy : y < h) : Off (rp p cap (y * w)) w q := by
  by_cases hw : w = 0
  · exact .inl hw
  · rcases k with k | k
    · have := Nat.mul_pos (show 0 < w by omega) (show 0 < h by omega)
      omega
    · refine .inr fun a e => ?_
      unfold rp at e
      split at e
      · exact k a e
      · cases p with
        | none => simp at e
        | some a' =>
          simp at e
          have := k a' rfl
          unfold Addr.add at e
          split at e <;> subst e <;> exact this

/-- truths turned -/
def tuF (f : Nat → Bool) (w h : Nat) (j : Nat) : Bool := f (j % h * w + j / h)
theorem BRow.congr {W : World} {b k : Nat} {f g : Nat → Bool} (h : BRow W b k f) (e : ∀ j, j < k → f j = g j) : BRow W b k g := ⟨h.1, fun j hj => by rw [← e j hj]; exact h.2 j hj⟩

def TurnedErr (F : Nat) (w h : Int) (p : Option Addr) (n cap : Nat) (W : World) (er : Int) : Prop := Calls Try.prog F #[tr w h p n cap] W fun e w' => e = .returned (.tuple #[tr 0 0 none 0 0, .int .i64 er]) ∧ Below W.heap.size W w'
set_option maxHeartbeats 1000000 in
theorem turned_err (w h : Int) (p : Option Addr) (n cap : Nat) (W : World) (er : Int) (her : wE w h n = er) (hp : 1 ≤ er) : TurnedErr 27 w h p n cap W er := by
  have HW := hide (fun W => wrong_any w h p n cap W)
  rw [her] at HW
  have hp' : (er != 0) = true := by simp; omega
  have B0 := bal (o := .cells #[.int .i64 0, .int .i64 0, .slice none 0 0] 25) (bal (o := .cells #[.int .i64 w, .int .i64 h, .slice p n cap] 25) (Below.refl W.heap.size W))
  have U := OwnM.new (W.alloc (.cells #[.int .i64 w, .int .i64 h, .slice p n cap] 25)) 0 0 none 0 0 25
  rw [World.size_alloc] at U
  clear her
  unfold TurnedErr
  go_enter Try.func27, Try.ntmps27
  go_wp2_with fail
  refine (unhide HW _).mono ?_
  rintro e w1 ⟨rfl, hb⟩
  have S := btrans B0 hb
  have U1 := U.keep hb
  have f0 := keepF (o := 0) hb U.1 (by simp [go_sem])
  have f1 := keepF (o := 1) hb U.1 (by simp [go_sem])
  have f2 := keepF (o := 2) hb U.1 (by simp [go_sem])
  have HS := hide S
  obtain ⟨-, u0, u1, u2⟩ := U1
  clear hb B0 U S
  go_wp2
  exact bodyPost_ret (v := .tuple #[tr 0 0 none 0 0, .int .i64 er]) (by simp [results, Try.results27, go_sem, u0, u1, u2]) rfl ⟨rfl, bset (bset (bset (unhide HS) (by dsimp only; omega)) (by dsimp only; omega)) (by dsimp only; omega)⟩

theorem gmore {a b c : World} {o : Nat} {row : Option Nat} (h : a.grownBy b (some o)) (k : b.grownBy c row) (hr : ∀ j, row = some j → a.heap.size ≤ j) : a.grownBy c (some o) := by
  refine ⟨by rw [k.os, h.os], by rw [k.tape, h.tape], by rw [k.output, h.output], by have := h.size; have := k.size; omega, ?_⟩
  intro i hi hne
  have hs := h.size
  rw [k.block i (by omega) (fun e => by have := hr i e.symm; omega)]
  exact h.block i hi hne
/-- what stands between two rounds: the bits that are made, in a block q; all else is as it was -/
def Made {β : Type} (w0 : World) (q n : Nat) (G : β → Nat → Bool) (s : β) (W : World) : Prop := BRow W q n (G s) ∧ w0.grownBy W (some q)
theorem made_own {β : Type} {w0 : World} {q n : Nat} (G : β → Nat → Bool) (hq : q < w0.heap.size) : OwnFrom w0.heap.size (Made w0 q n G) := fun s A B row hs hg hr =>
  ⟨hs.1.grown hg (fun e => by have := (hr q e.symm).1; omega), gmore hs.2 hg (fun j e => (hr j e).1)⟩

/-- three cells of a box are written, and a mark is taken up -/
abbrev put3 (V : World) (B : Nat) (v0 v1 v2 : Value) : World := ((V.setCell ⟨B, 0, none⟩ v0).setCell ⟨B, 1, none⟩ v1).setCell ⟨B, 2, none⟩ v2
theorem put3_end {V : World} {B D : Nat} {x0 x1 x2 : Value} (v0 v1 v2 : Value) (u0 : V.cell? ⟨B, 0, none⟩ = some x0) (u1 : V.cell? ⟨B, 1, none⟩ = some x1) (u2 : V.cell? ⟨B, 2, none⟩ = some x2) (hK : V.heap[D]? = some (.deferred (some []))) :
    (put3 V B v0 v1 v2).heap[D]? = some (.deferred (some [])) ∧ ((put3 V B v0 v1 v2).putObj D (.deferred none)).cell? ⟨B, 0, none⟩ = some v0 ∧ ((put3 V B v0 v1 v2).putObj D (.deferred none)).cell? ⟨B, 1, none⟩ = some v1 ∧ ((put3 V B v0 v1 v2).putObj D (.deferred none)).cell? ⟨B, 2, none⟩ = some v2 := by
  have X0 : (put3 V B v0 v1 v2).cell? ⟨B, 0, none⟩ = some v0 := by simp [go_sem, u0]
  have X1 : (put3 V B v0 v1 v2).cell? ⟨B, 1, none⟩ = some v1 := by simp [go_sem, u1]
  have X2 : (put3 V B v0 v1 v2).cell? ⟨B, 2, none⟩ = some v2 := by simp [go_sem, u2]
  have K3 : (put3 V B v0 v1 v2).heap[D]? = some (.deferred (some [])) := ((((KeepsOthers.setCell V ⟨B, 0, none⟩ v0).trans (KeepsOthers.setCell _ ⟨B, 1, none⟩ v1)).trans (KeepsOthers.setCell _ ⟨B, 2, none⟩ v2))).same D _ hK rfl
  have hg := grownBy_putObj' (put3 V B v0 v1 v2) D (.deferred none)
  exact ⟨K3, cell_kept X0 hg (fun r e => by cases e; exact ⟨_, K3, rfl⟩), cell_kept X1 hg (fun r e => by cases e; exact ⟨_, K3, rfl⟩), cell_kept X2 hg (fun r e => by cases e; exact ⟨_, K3, rfl⟩)⟩
theorem put3_below {W V : World} {B D : Nat} (v0 v1 v2 : Value) (o : Obj) (h : Below W.heap.size W V) (hB : W.heap.size ≤ B) (hD : W.heap.size ≤ D) : Below W.heap.size W ((put3 V B v0 v1 v2).putObj D o) := by
  have S6 := bset (p := ⟨B, 2, none⟩) (u := v2) (bset (p := ⟨B, 1, none⟩) (u := v1) (bset (p := ⟨B, 0, none⟩) (u := v0) h hB) hB) hB
  exact S6.grown (grownBy_putObj' _ D o) S6.size (fun j e => by cases e; exact hD)
theorem BRow.put3 {V : World} {b k : Nat} {f : Nat → Bool} {B D : Nat} (h : BRow V b k f) (v0 v1 v2 : Value) (o : Obj) (hB : B ≠ b) (hD : D ≠ b) : BRow ((Go.Proofs.Ytfbggbalnfbbgaa.put3 V B v0 v1 v2).putObj D o) b k f :=
  (((h.far hB 0 v0).far hB 1 v1).far hB 2 v2).grown (grownBy_putObj' _ D o) (fun e => hD (Option.some.inj e).symm)

/-- the bits that are turned when some rows are done -/
def tuG (f : Nat → Bool) (w h : Nat) (l : List (Fin h)) (j : Nat) : Bool := if j % h ∈ l.map (·.1) then tuF f w h j else false
def tuH (f : Nat → Bool) (w h : Nat) (l : List (Fin h)) (y x : Nat) (j : Nat) : Bool := if j % h ∈ l.map (·.1) ∨ (j % h = y ∧ j / h < x) then tuF f w h j else false
theorem tuH_zero (f : Nat → Bool) (w h : Nat) (l : List (Fin h)) (y : Nat) : tuH f w h l y 0 = tuG f w h l := by
  funext j; simp [tuH, tuG]
theorem tuH_full (f : Nat → Bool) (w h : Nat) (l : List (Fin h)) (y : Fin h) (j : Nat) (hj : j < w * h) : tuH f w h l y.1 w j = tuG f w h (l ++ [y]) j := by
  have : j / h < w := Nat.div_lt_of_lt_mul (by rw [Nat.mul_comm]; exact hj)
  simp [tuH, tuG, this]
theorem tu_at (h x y : Nat) (hy : y < h) (j : Nat) : j = x * h + y ↔ j % h = y ∧ j / h = x := by
  constructor
  · rintro rfl
    rw [Nat.mul_comm x h]
    exact ⟨by rw [Nat.mul_add_mod, Nat.mod_eq_of_lt hy], by rw [Nat.mul_add_div (by omega), Nat.div_eq_of_lt hy, Nat.add_zero]⟩
  · rintro ⟨e1, e2⟩
    have := Nat.div_add_mod j h
    rw [e1, e2, Nat.mul_comm h x] at this
    omega
theorem tuH_succ (f : Nat → Bool) (w h : Nat) (l : List (Fin h)) (y x : Nat) (hy : y < h) : (fun j => if j = x * h + y then f (y * w + x) else tuH f w h l y x j) = tuH f w h l y (x + 1) := by
  funext j
  have e := tu_at h x y hy j
  by_cases k : j = x * h + y
  · rw [if_pos k]
    obtain ⟨e1, e2⟩ := e.1 k
    simp [tuH, tuF, e1, e2]
  · rw [if_neg k]
    have : ¬ (j % h = y ∧ j / h = x) := fun q => k (e.2 q)
    unfold tuH
    congr 1
    apply propext
    constructor
    · rintro (q | q)
      · exact .inl q
      · exact .inr ⟨q.1, by omega⟩
    · rintro (q | q)
      · exact .inl q
      · exact .inr ⟨q.1, by have := fun r => this ⟨q.1, r⟩; omega⟩

end Go.Proofs.Ytfbggbalnfbbgaa
