/-
  The walk of ChartTurns: it answers true.
-/
import Derived.Test.YtncjbmafefeajabDoorSame
import Derived.Test.YtncjbmafefeajabDoorLawB
import Derived.Test.YtncjbmafefeajabDoorRPrint
namespace Go.Proofs.YtncjbmafefeajabDoor
open Go.RowKit

/-- a row of ours as a row of colours -/
theorem row_own {W : World} {B q cap : Nat} {xs : List Int} {px : Nat → Int} {n : Nat} (h : W.ownsRow B 3 1 (.slice (some ⟨q, 0, none⟩) n cap) n (intsV xs)) (hx : ∀ k, k < n → xs[k]? = some (px k)) : Row W q 0 n px := by
  refine ⟨(h.lt q rfl).2, fun k hk => ?_⟩
  rw [Nat.zero_add, h.cellAt k (by omega)]
  simp [intsV, hx k hk]
theorem own_cap {W : World} {B : Nat} {q : Option Addr} {n cap : Nat} {xs : List Value} (h : W.ownsRow B 3 1 (.slice q n cap) n xs) : n ≤ cap ∧ cap ≤ 9223372036854775807 := by
  rcases h.2 with ⟨hv, h0⟩ | ⟨g, cap', cur, hv, _, _, h1, h2, _⟩
  · cases hv; omega
  · cases hv; unfold maxLen at h2; omega

/-- what a right chart is printed as is read as that chart -/
theorem print_read (g : Int) (w h n : Nat) (px : Nat → Int) (hg : g = 4 ∨ g = 6) (hw : 1 ≤ w ∧ w ≤ 64) (hh : 1 ≤ h ∧ h ≤ 64) (hn : n = w * h) (hc : allin px n = true) (V : World) (hT : Tabs V) :
    Calls Tryd.prog 13 #[.string ⟨(printT g px w h).toArray⟩] V fun e w' => ∃ q cap, e = .returned (.tuple #[ch g w h (some ⟨q, 0, none⟩) n cap, .agg #[.int .i64 0, .int .i64 0]]) ∧ Row w' q 0 n px ∧ Below V.heap.size V w' := by
  have hb : byt ⟨(printT g px w h).toArray⟩ = gridT g ++ [10] ++ rowsB (rowsOf px w h) := by rw [rowsB_rowsOf]; rfl
  have hlen : ∀ m, m ≤ 64 → (rowsT px w m).length ≤ m * 300 := by
    intro m hm
    induction m with
    | zero => simp [rowsT]
    | succ m ih => have := rowT_le px (m * w) w; have := ih (by omega); simp [rowsT]; omega
  have hsz : (⟨(printT g px w h).toArray⟩ : ByteArray).size ≤ 65536 := by
    rw [← size_byt, hb, rowsB_rowsOf]
    have := gridT_len g
    have := hlen h hh.2
    simp
    omega
  have hcol : ∀ k, k < w * h → 0 ≤ px k ∧ px k ≤ 61 := fun k hk => allin_get px n hc k (by omega)
  have hs : Shape (rowsOf px w h) w := ⟨hw, by rw [rowsOf_len]; exact hh, rowsOf_shape px w h hcol⟩
  have ht := text_complete _ g _ w hg hs hsz hb
  refine (read_text _ g _ V ht hT).mono ?_
  rintro e w' ⟨q, cap, rfl, hown, hbel⟩
  have e1 : headLen (rowsOf px w h) = w := by
    rcases h with _ | m
    · omega
    · simp [headLen, rowsOf, rowL]
  have e2 : (rowsOf px w h).length = h := rowsOf_len px w h
  have e3 : lowCells (rowsOf px w h) h = (List.range n).map px := by
    have := lowCells_all (rowsOf px w h)
    rw [e2] at this
    rw [this, low_rowsOf, hn, Nat.mul_comm]
  have hn1 : 1 ≤ n := by rw [hn]; exact Nat.mul_pos hw.1 hh.1
  rw [e1, e2, e3]
  rw [e2, e3] at hown
  rw [show ((List.range n).map px).length = n by simp] at hown ⊢
  obtain ⟨q', cap', hq⟩ := own_slice hown hn1
  cases hq
  exact ⟨q', cap, rfl, row_own hown (fun k hk => by simp [hk]), hbel⟩

/-- what is read is printed as that text -/
theorem read_print (s : ByteArray) (g : Int) (rows : List (List Int)) (h : Text s g rows) : ∃ (w k : Nat) (px : Nat → Int), 1 ≤ k ∧
    wE g w rows.length k px = 0 ∧ prS g w rows.length k px = s ∧
    ∀ V, Tabs V → Calls Tryd.prog 13 #[.string s] V fun e w' => ∃ q cap, e = .returned (.tuple #[ch g w rows.length (some ⟨q, 0, none⟩) k cap, .agg #[.int .i64 0, .int .i64 0]]) ∧ Row w' q 0 k px ∧ (k ≤ cap ∧ cap ≤ 9223372036854775807) ∧ Below V.heap.size V w' := by
  have hb := text_sound h
  have h' := h
  obtain ⟨hsz, hg, _, _, p, k1, k2, k3⟩ := h'
  have hr := k1.range
  have hw : ∀ cs ∈ rows, cs.length = headLen rows := fun cs hc => (hr.2.2 cs hc).2.2.1
  have hfl := flat_len rows (headLen rows) hw
  have hl1 : 1 ≤ rows.length := by rcases rows with _ | ⟨r, rs⟩; exact absurd rfl k2; simp
  have hh : 1 ≤ headLen rows ∧ headLen rows ≤ 64 := by
    rcases rows with _ | ⟨r, rs⟩
    · exact absurd rfl k2
    · have := hr.2.2 r (by simp)
      exact ⟨this.1, this.2.1⟩
  have hk1 : 1 ≤ rows.length * headLen rows := Nat.mul_pos hl1 hh.1
  have hall : allin (fun k => rows.reverse.flatten.getD k 0) (rows.length * headLen rows) = true := by
    have key : ∀ m, m ≤ rows.length * headLen rows → allin (fun k => rows.reverse.flatten.getD k 0) m = true := by
      intro m
      induction m with
      | zero => intro _; rfl
      | succ m ih =>
        intro hm
        have hmem : rows.reverse.flatten.getD m 0 ∈ rows.reverse.flatten := by
          rw [List.getD_eq_getElem?_getD, List.getElem?_eq_getElem (by omega)]
          exact List.getElem_mem _
        have : 0 ≤ rows.reverse.flatten.getD m 0 ∧ rows.reverse.flatten.getD m 0 ≤ 61 := by
          generalize rows.reverse.flatten.getD m 0 = c at hmem
          simp at hmem
          obtain ⟨cs, hcs, hc⟩ := hmem
          exact (hr.2.2 cs hcs).2.2.2 c hc
        simp only [allin, ih (by omega), Bool.true_and]
        simp only [this.1, this.2, decide_true, Bool.and_self]
    exact key _ (Nat.le_refl _)
  have hE : wE g (headLen rows) rows.length (rows.length * headLen rows) (fun k => rows.reverse.flatten.getD k 0) = 0 := by
    unfold wE
    rw [(okg_iff g).2 hg, (sw_iff _).2 (show 1 ≤ ((headLen rows : Nat) : Int) ∧ ((headLen rows : Nat) : Int) ≤ 64 by omega), (sw_iff _).2 (show 1 ≤ ((rows.length : Nat) : Int) ∧ ((rows.length : Nat) : Int) ≤ 64 by have := hr.2.1; omega), hall]
    rw [if_pos rfl, if_pos (by decide), if_pos (by rw [Int.natCast_mul, Int.mul_comm]), if_pos rfl]
  refine ⟨headLen rows, rows.length * headLen rows, fun k => rows.reverse.flatten.getD k 0, hk1, hE, ?_, fun V hT => ?_⟩
  · unfold prS
    rw [if_pos hE]
    have e : printT g (fun k => rows.reverse.flatten.getD k 0) (headLen rows) rows.length = byt s := by
      rw [hb, printT, ← rowsB_rowsOf, rowsOf_rows rows (headLen rows) hw]
    simp only [Int.toNat_natCast]
    rw [e]
  · refine (read_text s g rows V h hT).mono ?_
    rintro e w' ⟨q, cap, rfl, hown, hbel⟩
    have e3 := lowCells_all rows
    have e4 : (lowCells rows rows.length).length = rows.length * headLen rows := by rw [e3]; exact hfl
    rw [e4] at hown ⊢
    obtain ⟨q', cap', hq⟩ := own_slice hown hk1
    cases hq
    refine ⟨q', cap, rfl, row_own hown (fun k hk => ?_), own_cap hown, hbel⟩
    rw [e3, List.getD_eq_getElem?_getD, List.getElem?_eq_getElem (by omega)]
    rfl
end Go.Proofs.YtncjbmafefeajabDoor
