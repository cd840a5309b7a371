/-
  Read answers, of anything; and what Same of the reference answers of two charts that are the same.
-/
import Derived.Test.YtncjbmafefeajaaDoorText2
namespace Go.Proofs.YtncjbmafefeajaaDoor
open Go.RowKit

theorem pre_total (s : ByteArray) : ∀ (k p : Nat), s.size + 1 - p ≤ k → ∃ cs e, Pre s p cs e ∧ signAt s e = none := by
  intro k
  induction k with
  | zero =>
    intro p hp
    refine ⟨[], p, .nil, ?_⟩
    unfold signAt
    rw [dg_end s p (by omega)]
    rfl
  | succ k ih =>
    intro p hp
    cases h : signAt s p with
    | none => exact ⟨[], p, .nil, h⟩
    | some q =>
      obtain ⟨c, n⟩ := q
      have := signAt_range s p c n h
      obtain ⟨cs, e, h1, h2⟩ := ih (p + n) (by omega)
      exact ⟨c :: cs, e, h1.cons h, h2⟩
theorem rows_total (s : ByteArray) (a : Nat) : ∀ (k : Nat) (rows : List (List Int)) (p : Nat), RowsPre s a rows p → s.size + 1 - p ≤ k → (∃ R, RowsGood s a R) ∨ ∃ er at', RowsFail s a er at' := by
  intro k
  induction k with
  | zero =>
    intro rows p h hp
    by_cases hr : rows = []
    · obtain ⟨cs, e, h1, h2⟩ := pre_total s _ p (Nat.le_refl _)
      right
      have he := h1.range.1
      refine ⟨2, e, rows, p, cs, e, h, Or.inl hr, h1, h2, Or.inl ⟨Or.inr ?_, rfl, rfl⟩⟩
      cases hl : lf s e
      · rfl
      · have := lf_lt hl; omega
    · exact Or.inl ⟨rows, p, h, hr, by omega⟩
  | succ k ih =>
    intro rows p h hp
    by_cases hgo : rows = [] ∨ p < s.size
    · obtain ⟨cs, e, h1, h2⟩ := pre_total s _ p (Nat.le_refl _)
      have he := h1.range.1
      by_cases hc : cs = []
      · exact Or.inr ⟨2, e, rows, p, cs, e, h, hgo, h1, h2, Or.inl ⟨Or.inl hc, rfl, rfl⟩⟩
      · cases hl : lf s e with
        | false => exact Or.inr ⟨2, e, rows, p, cs, e, h, hgo, h1, h2, Or.inl ⟨Or.inr hl, rfl, rfl⟩⟩
        | true =>
          by_cases hw : wrongR rows cs = 0
          · exact ih (rows ++ [cs]) (e + 1) (.snoc h h1 h2 hc hl hw) (by omega)
          · exact Or.inr ⟨_, p, rows, p, cs, e, h, hgo, h1, h2, Or.inr ⟨⟨hc, hl⟩, hw, rfl, rfl⟩⟩
    · exact Or.inl ⟨rows, p, h, fun e => hgo (Or.inl e), fun e => hgo (Or.inr e)⟩
theorem read_cases (s : ByteArray) : (∃ g rows, Text s g rows) ∨ ∃ er at' : Int, er ≠ 0 ∧ ∀ W, Tabs W → FailIs s W er at' := by
  by_cases h : 65536 < s.size
  · exact Or.inr ⟨4, 0, by decide, fun W _ => read_much s W h⟩
  · by_cases hg : grid (Lib.decodeGo s).1 = 0
    · exact Or.inr ⟨2, 0, by decide, fun W hT => read_grid s W (by omega) 0 (hide fun V hV => readGrid_none s V hV hg) hT⟩
    · have h46 : grid (Lib.decodeGo s).1 = 4 ∨ grid (Lib.decodeGo s).1 = 6 := by
        unfold grid at hg ⊢
        repeat' split
        all_goals simp_all
      cases hl : lf s (Lib.decodeGo s).2 with
      | false =>
        refine Or.inr ⟨2, (Lib.decodeGo s).2, by decide, fun W hT => read_grid s W (by omega) _ (hide fun V hV => ?_) hT⟩
        have := readGrid_line s V hV _ _ rfl rfl h46 false hl
        simpa using this
      | true =>
        have hlt := lf_lt hl
        rcases rows_total s ((Lib.decodeGo s).2 + 1) _ [] _ .nil (Nat.le_refl _) with ⟨R, hR⟩ | ⟨er, at', hF⟩
        · exact Or.inl ⟨_, R, by omega, h46, rfl, hl, hR⟩
        · refine Or.inr ⟨er, at', hF.pos, fun W hT => read_rows s W (by omega) (grid (Lib.decodeGo s).1) _ er at' hF.pos (hide fun V hV => ?_) (hide (rows_bad s _ er at' (by omega) (by omega) hF)) hT⟩
          have := readGrid_line s V hV _ _ rfl rfl h46 true hl
          simpa using this

set_option maxHeartbeats 4000000 in
theorem same_any (g w h : Int) (b o n cap b' o' cap' : Nat) (px : Nat → Int) (W : World) (hn : n ≤ 4096) (h1 : Row W b o n px) (h2 : Row W b' o' n px) :
    Calls Tryd.prog 10 #[ch g w h (some ⟨b, o, none⟩) n cap, ch g w h (some ⟨b', o', none⟩) n cap'] W fun e w' => e = .returned (.bool true) ∧ Below W.heap.size W w' := by
  have B0 := bal (o := .cells #[.int .i64 g, .int .i64 w, .int .i64 h, .slice (some ⟨b', o', none⟩) n cap'] 27) (bal (o := .cells #[.int .i64 g, .int .i64 w, .int .i64 h, .slice (some ⟨b, o, none⟩) n cap] 27) (Below.refl W.heap.size W))
  have R1 := h1.keep B0
  have R2 := h2.keep B0
  have C1 := (OwnC.new W g w h (some ⟨b, o, none⟩) n cap 27).alloc (.cells #[.int .i64 g, .int .i64 w, .int .i64 h, .slice (some ⟨b', o', none⟩) n cap'] 27)
  have C2 := OwnC.new (W.alloc (.cells #[.int .i64 g, .int .i64 w, .int .i64 h, .slice (some ⟨b, o, none⟩) n cap] 27)) g w h (some ⟨b', o', none⟩) n cap' 27
  rw [World.size_alloc] at C2
  have HB := hide B0
  clear h1 h2 B0
  go_enter Tryd.func10, Tryd.ntmps10
  go_wp2
  generalize (W.alloc (.cells #[.int .i64 g, .int .i64 w, .int .i64 h, .slice (some ⟨b, o, none⟩) n cap] 27)).alloc (.cells #[.int .i64 g, .int .i64 w, .int .i64 h, .slice (some ⟨b', o', none⟩) n cap'] 27) = w0 at *
  go_loopw [37] (fun i wr => ∃ k : Nat, k ≤ n ∧ i = .int .i64 k ∧ Below w0.heap.size w0 wr) (fun i _ => n - (intOf i).toNat)
  case atStart => exact ⟨0, Nat.zero_le _, rfl, Below.refl _ _⟩
  case round =>
    obtain ⟨k, hk, rfl, hbel⟩ := hrel
    by_cases hlt : k < n
    · have c1 := (C1.keep hbel).2.2.2.2
      have c2 := (C2.keep hbel).2.2.2.2
      have x1 := (R1.keep hbel).2 k hlt
      have x2 := (R2.keep hbel).2 k hlt
      generalize px k = c at *
      go_wp2_with fail
      go_quiet (fail)
      go_wp2
      go_roundw
      case rel => exact ⟨k + 1, by omega, by go_num, btrans hbel (Joins.below_draws _ _ _)⟩
      case measure => simp [intOf]; omega
    · have e : k = n := by omega
      subst e
      have cl : ¬ ((k : Int) < (k : Int)) := by omega
      go_wp2
      go_ret
      exact ⟨rfl, btrans (unhide HB) hbel⟩
end Go.Proofs.YtncjbmafefeajaaDoor
