/-
  alive; stitches in a row of one's own.
-/
import Derived.Test.YtancniamgfppiaaRnB
import Derived.Test.YtancniamgfppiaaSmA
namespace Go.Proofs.Ytancniamgfppiaa
open Go.RowKit

/-- no stitch -/
def x0 : Sx := ⟨0, 0, 0, 0, 0⟩
/-- a stitch's cells; a row of stitches -/
abbrev stC (x : Sx) : List Value := [.int .i64 x.dk, .int .i64 x.bed, .int .i64 x.ndl, .int .i64 x.car, .int .i64 x.tt]
def stV (l : List Sx) : List Value := (l.map stC).flatten
theorem stV_snoc (l : List Sx) (x : Sx) : stV (l ++ [x]) = stV l ++ stC x := by simp [stV]
theorem stV_len (l : List Sx) : (stV l).length = l.length * 5 := by
  induction l with
  | nil => rfl
  | cons e l ih =>
    simp only [stV, List.map_cons, List.flatten_cons, List.length_append, List.length_cons] at ih ⊢
    rw [ih]
    simp
    omega
theorem stV_get (l : List Sx) : ∀ (k : Nat) (x : Sx), l[k]? = some x → ∀ o, o < 5 → (stV l)[k * 5 + o]? = (stC x)[o]? := by
  induction l with
  | nil => intro k x h; simp at h
  | cons y l ih =>
    intro k x h o ho
    rw [show stV (y :: l) = stC y ++ stV l by simp [stV]]
    cases k with
    | zero =>
      simp at h
      subst h
      rw [Nat.zero_mul, Nat.zero_add, List.getElem?_append_left (by simp; omega)]
    | succ k =>
      simp at h
      rw [List.getElem?_append_right (by simp; omega), show (stC y).length = 5 from rfl, show (k + 1) * 5 + o - 5 = k * 5 + o by omega]
      exact ih k x h o ho
theorem own_sc {W : World} {B cap : Nat} {q : Option Addr} {l : List Sx} (o : W.ownsRow B 24 5 (.slice q l.length cap) l.length (stV l)) : Sc W q l.length (fun j => l.getD j x0) := by
  rcases o.2 with ⟨e, h0⟩ | ⟨g, cap', cur, e, -⟩
  · exact .inl h0
  · simp only [Value.slice.injEq] at e
    obtain ⟨rfl, -, rfl⟩ := e
    refine .inr ⟨g, 0, rfl, (o.lt g rfl).2, fun k hk => ?_⟩
    have hg : l[k]? = some (l.getD k x0) := by rw [List.getD_eq_getElem?_getD, List.getElem?_eq_getElem hk]; rfl
    have hc := stV_get l k _ hg
    rw [Nat.zero_add]
    refine ⟨?_, ?_, ?_, ?_, ?_⟩
    · have := hc 0 (by omega); rw [Nat.add_zero] at this; rw [o.cellAt _ (by omega)]; exact this
    · rw [o.cellAt _ (by omega)]; exact hc 1 (by omega)
    · rw [o.cellAt _ (by omega)]; exact hc 2 (by omega)
    · rw [o.cellAt _ (by omega)]; exact hc 3 (by omega)
    · rw [o.cellAt _ (by omega)]; exact hc 4 (by omega)
theorem Sc.congr {W : World} {q : Option Addr} {n : Nat} {f g : Nat → Sx} (h : Sc W q n f) (e : ∀ j, j < n → f j = g j) : Sc W q n g := by
  rcases h with h | ⟨b, o, e1, hl, hk⟩
  · exact .inl h
  · exact .inr ⟨b, o, e1, hl, fun k hkn => by rw [← e k hkn]; exact hk k hkn⟩

/-- the two stitches of alive -/
def alX : List Sx := [⟨2, 0, 0, 0, 0⟩, ⟨1, 0, 0, 0, 0⟩]
def alF (j : Nat) : Sx := alX.getD j x0
theorem al_all : ∀ i, i < 2 → erS 1 alF i = 0 := by decide
theorem al_loops : (tell 1 (knS 1 alF 2)).loops = [(0, []), (0, [0])] := by decide
theorem al_sc (W : World) : Sc (W.alloc (.cells #[.int .i64 2, .int .i64 0, .int .i64 0, .int .i64 0, .int .i64 0, .int .i64 1, .int .i64 0, .int .i64 0, .int .i64 0, .int .i64 0] 24)) (some ⟨W.heap.size, 0, none⟩) 2 alF :=
  own_sc (l := alX) (own_lit (B := 0) (e := 24) (z := 5) (k := 2) W #[.int .i64 2, .int .i64 0, .int .i64 0, .int .i64 0, .int .i64 0, .int .i64 1, .int .i64 0, .int .i64 0, .int .i64 0, .int .i64 0] (Nat.zero_le _) (by unfold maxLen; omega) rfl)

end Go.Proofs.Ytancniamgfppiaa
