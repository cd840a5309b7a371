/-
  alive; stitches in a row of one's own.
-/
import Derived.Test.YtnolblcfafdnpaaKN
import Derived.Test.YtnolblcfafdnpaaSmA
namespace Go.Proofs.Ytnolblcfafdnpaa
open Go.RowKit

/-- a stitch's cells; a row of stitches -/
abbrev stC (x : Sx) : List Value := [.int .i64 x.dk, .int .i64 x.bed, .int .i64 x.ndl, .int .i64 x.car, .int .i64 x.tt]
def stV (l : List Sx) : List Value := (l.map stC).flatten
theorem stV_snoc (l : List Sx) (x : Sx) : stV (l ++ [x]) = stV l ++ stC x := by simp [stV]
theorem stV_len (l : List Sx) : (stV l).length = l.length * 5 := by
  induction l with
  | nil => rfl
  | cons e l ih =>
    simp only [stV, List.map_cons, List.flatten_cons, List.length_append, List.length_cons] at ih ⊢
    rw [ih]
    simp
    omega
theorem stV_get (l : List Sx) : ∀ (k : Nat) (x : Sx), l[k]? = some x → ∀ o, o < 5 → (stV l)[k * 5 + o]? = (stC x)[o]? := by
  induction l with
  | nil => intro k x h; simp at h
  | cons y l ih =>
    intro k x h o ho
    rw [show stV (y :: l) = stC y ++ stV l by simp [stV]]
    cases k with
    | zero =>
      simp at h
      subst h
      rw [Nat.zero_mul, Nat.zero_add, List.getElem?_append_left (by simp; omega)]
    | succ k =>
      simp at h
      rw [List.getElem?_append_right (by simp; omega), show (stC y).length = 5 from rfl, show (k + 1) * 5 + o - 5 = k * 5 + o by omega]
      exact ih k x h o ho
theorem own_sc {W : World} {B cap : Nat} {q : Option Addr} {l : List Sx} (o : W.ownsRow B 44 5 (.slice q l.length cap) l.length (stV l)) : Sc W q l.length (fun j => l.getD j x0) := by
  rcases o.2 with ⟨e, h0⟩ | ⟨g, cap', cur, e, -⟩
  · exact .inl h0
  · simp only [Value.slice.injEq] at e
    obtain ⟨rfl, -, rfl⟩ := e
    refine .inr ⟨g, 0, rfl, (o.lt g rfl).2, fun k hk => ?_⟩
    have hg : l[k]? = some (l.getD k x0) := by rw [List.getD_eq_getElem?_getD, List.getElem?_eq_getElem hk]; rfl
    have hc := stV_get l k _ hg
    rw [Nat.zero_add]
    refine ⟨?_, ?_, ?_, ?_, ?_⟩
    · have := hc 0 (by omega); rw [Nat.add_zero] at this; rw [o.cellAt _ (by omega)]; exact this
    · rw [o.cellAt _ (by omega)]; exact hc 1 (by omega)
    · rw [o.cellAt _ (by omega)]; exact hc 2 (by omega)
    · rw [o.cellAt _ (by omega)]; exact hc 3 (by omega)
    · rw [o.cellAt _ (by omega)]; exact hc 4 (by omega)
theorem Sc.congr {W : World} {q : Option Addr} {n : Nat} {f g : Nat → Sx} (h : Sc W q n f) (e : ∀ j, j < n → f j = g j) : Sc W q n g := by
  rcases h with h | ⟨b, o, e1, hl, hk⟩
  · exact .inl h
  · exact .inr ⟨b, o, e1, hl, fun k hkn => by rw [← e k hkn]; exact hk k hkn⟩

/-- the two stitches of alive -/
def alX : List Sx := [⟨2, 0, 0, 0, 0⟩, ⟨1, 0, 0, 0, 0⟩]
def alF (j : Nat) : Sx := alX.getD j x0
theorem al_all : ∀ i, i < 2 → erS 1 alF i = 0 := by decide
theorem al_loops : (tell 1 (knS 1 alF 2)).loops = [(0, []), (0, [0])] := by decide
theorem al_sc (W : World) : Sc (W.alloc (.cells #[.int .i64 2, .int .i64 0, .int .i64 0, .int .i64 0, .int .i64 0, .int .i64 1, .int .i64 0, .int .i64 0, .int .i64 0, .int .i64 0] 44)) (some ⟨W.heap.size, 0, none⟩) 2 alF :=
  own_sc (l := alX) (own_lit (B := 0) (e := 44) (z := 5) (k := 2) W #[.int .i64 2, .int .i64 0, .int .i64 0, .int .i64 0, .int .i64 0, .int .i64 1, .int .i64 0, .int .i64 0, .int .i64 0, .int .i64 0] (Nat.zero_le _) (by unfold maxLen; omega) rfl)

set_option maxRecDepth 100000 in
set_option maxHeartbeats 4000000 in
theorem alive_any (W : World) : Ans 12 #[] W (.bool true) := by
  unfold Ans
  have B0 := hide (bnew W (.cells #[.int .i64 2, .int .i64 0, .int .i64 0, .int .i64 0, .int .i64 0, .int .i64 1, .int .i64 0, .int .i64 0, .int .i64 0, .int .i64 0] 44))
  have HR := hide (run_ok (N := 1) (n := 2) (c := 2) (f := alF) (by omega) (by omega) (al_sc W) (by omega) al_all)
  go_enter Try.func12, Try.ntmps12
  go_wp2_with fail
  generalize W.alloc (.cells #[.int .i64 2, .int .i64 0, .int .i64 0, .int .i64 0, .int .i64 0, .int .i64 1, .int .i64 0, .int .i64 0, .int .i64 0, .int .i64 0] 44) = w0 at *
  refine (unhide HR).mono ?_
  rintro e w1 ⟨v, rfl, hK, hb1⟩
  obtain ⟨v1, v2, v3, v4, rfl, p1, p2, p3, p4⟩ := hK
  rw [al_loops] at p1
  obtain ⟨g, cap, u, e1, -, e2, e3⟩ := p1.at (j := 1) (by simp)
  obtain ⟨uq, uc, hu⟩ := e3.form
  subst e1
  obtain ⟨a4, a5, a6, rfl⟩ := p2.form
  obtain ⟨a7, a8, a9, rfl⟩ := p3.form
  obtain ⟨d1, d2, rfl⟩ := p4.form
  have S1 := hide (btrans (unhide B0) hb1)
  have c3 : w1.cell? ⟨g, 3, none⟩ = some (.slice uq 1 uc) := by rw [hu] at e2; exact e2
  have hg : g < w1.heap.size := World.block_lt_of_cell? w1 _ c3
  clear p1 p2 p3 p4 e2 e3 hu hb1 HR B0
  simp only [List.length_cons, List.length_nil]
  generalize (tell 1 (knS 1 alF 2)).loose.length = d3 at *
  generalize (tell 1 (knS 1 alF 2)).rack = rk at *
  have T1 := hide (btrans (bnew w1 (.cells #[.slice (some ⟨g, 0, none⟩) 2 cap, .slice a4 a5 a6, .slice a7 a8 a9, .slice d1 d3 d2, .int .i64 rk] 27)) (bnew _ (.cells #[.int .i64 0, .int .i64 0] 30)))
  have HK := hide ((KB.new w1 (.slice (some ⟨g, 0, none⟩) 2 cap) (.slice a4 a5 a6) (.slice a7 a8 a9) (.slice d1 d3 d2) rk).keep (bnew _ (.cells #[.int .i64 0, .int .i64 0] 30)))
  have HF := hide (show FB ((w1.alloc (.cells #[.slice (some ⟨g, 0, none⟩) 2 cap, .slice a4 a5 a6, .slice a7 a8 a9, .slice d1 d3 d2, .int .i64 rk] 27)).alloc (.cells #[.int .i64 0, .int .i64 0] 30)) (w1.heap.size + 1) 0 0 by have := FB.new (w1.alloc (.cells #[.slice (some ⟨g, 0, none⟩) 2 cap, .slice a4 a5 a6, .slice a7 a8 a9, .slice d1 d3 d2, .int .i64 rk] 27)) 0 0; simpa using this)
  have C3 := hide (keepC (unhide T1) hg c3)
  clear c3 hg
  go_upto_region 2 with fail
  generalize (w1.alloc (.cells #[.slice (some ⟨g, 0, none⟩) 2 cap, .slice a4 a5 a6, .slice a7 a8 a9, .slice d1 d3 d2, .int .i64 rk] 27)).alloc (.cells #[.int .i64 0, .int .i64 0] 30) = w2 at *
  obtain ⟨-, ⟨k0, k1, k2, k3, k4⟩, -⟩ := unhide HK
  obtain ⟨-, ⟨f0, f1⟩, -⟩ := unhide HF
  have c3 := unhide C3
  go_wp2
  go_ret
  exact ⟨rfl, btrans (unhide S1) (unhide T1)⟩
end Go.Proofs.Ytnolblcfafdnpaa
