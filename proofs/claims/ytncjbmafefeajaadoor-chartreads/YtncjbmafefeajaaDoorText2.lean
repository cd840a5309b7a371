/-
  Plain facts: a text that is read whole is the text that its rows are printed as, and the other way round.
-/
import Derived.Test.YtncjbmafefeajaaDoorText
namespace Go.Proofs.YtncjbmafefeajaaDoor
open Go.RowKit

def rowB (cs : List Int) : List UInt8 := (cs.map sb).flatten
def rowsB (rows : List (List Int)) : List UInt8 := (rows.map fun cs => rowB cs ++ [10]).flatten
theorem rowB_snoc (cs : List Int) (c : Int) : rowB (cs ++ [c]) = rowB cs ++ sb c := by simp [rowB]
theorem rowsB_snoc (rows : List (List Int)) (cs : List Int) : rowsB (rows ++ [cs]) = rowsB rows ++ (rowB cs ++ [10]) := by simp [rowsB]
theorem Pre.sound {s : ByteArray} {a p : Nat} {cs : List Int} (h : Pre s a cs p) : (byt s).drop a = rowB cs ++ (byt s).drop p := by
  induction h using Pre.ind with
  | nil => rfl
  | @snoc cs p c n h1 h2 ih => rw [ih, (sign_sound s p c n h2).1, rowB_snoc, List.append_assoc]
theorem RowsPre.sound {s : ByteArray} {a p : Nat} {rows : List (List Int)} (h : RowsPre s a rows p) : (byt s).drop a = rowsB rows ++ (byt s).drop p := by
  induction h using RowsPre.ind with
  | nil => rfl
  | @snoc rows p e cs h1 h2 h3 h4 h5 h6 ih => rw [ih, h2.sound, lf_sound s e h5, rowsB_snoc]; simp
theorem text_sound {s : ByteArray} {g : Int} {rows : List (List Int)} (h : Text s g rows) : byt s = gridT g ++ [10] ++ rowsB rows := by
  obtain ⟨_, hg, h3, h4, p, k1, _, k3⟩ := h
  obtain ⟨e1, e2⟩ := grid_sound s g hg h3
  rw [e2] at h4 k1
  have e3 := lf_sound s 3 h4
  have e4 := k1.sound
  rw [List.drop_eq_nil_of_le (show (byt s).length ≤ p by rw [size_byt]; omega), List.append_nil] at e4
  rw [e1, e3, e4]
  simp

theorem Pre.cons {s : ByteArray} {a p n : Nat} {c : Int} {cs : List Int} (hc : signAt s a = some (c, n)) (h : Pre s (a + n) cs p) : Pre s a (c :: cs) p := by
  induction h using Pre.ind with
  | nil => exact .snoc (cs := []) .nil hc
  | snoc h1 h2 ih => exact .snoc ih h2
theorem pre_complete (s : ByteArray) (cs : List Int) (a : Nat) (rest : List UInt8) (hc : ∀ c ∈ cs, 0 ≤ c ∧ c ≤ 61) (h : (byt s).drop a = rowB cs ++ rest) : Pre s a cs (a + (rowB cs).length) ∧ (byt s).drop (a + (rowB cs).length) = rest := by
  have hd : (byt s).drop (a + (rowB cs).length) = rest := by
    rw [← List.drop_drop, h, List.drop_left]
  refine ⟨?_, hd⟩
  clear hd
  induction cs generalizing a with
  | nil => exact .nil
  | cons c cs ih =>
    have e : rowB (c :: cs) = sb c ++ rowB cs := by simp [rowB]
    rw [e, List.append_assoc] at h
    have hs := sign_complete s a c (hc c (by simp)) _ h
    have h2 : (byt s).drop (a + (sb c).length) = rowB cs ++ rest := by rw [← List.drop_drop, h, List.drop_left]
    have := ih (a + (sb c).length) (fun x hx => hc x (by simp [hx])) h2
    rw [e, List.length_append, ← Nat.add_assoc]
    exact Pre.cons hs this
/-- rows that may be a chart's -/
def Shape (rows : List (List Int)) (w : Nat) : Prop := (1 ≤ w ∧ w ≤ 64) ∧ (1 ≤ rows.length ∧ rows.length ≤ 64) ∧ ∀ cs ∈ rows, cs.length = w ∧ ∀ c ∈ cs, 0 ≤ c ∧ c ≤ 61
theorem rows_complete (s : ByteArray) (rows : List (List Int)) (w a : Nat) (hs : Shape rows w) (h : (byt s).drop a = rowsB rows) (k : Nat) (hk : k ≤ rows.length) : RowsPre s a (rows.take k) (a + (rowsB (rows.take k)).length) := by
  induction k with
  | zero => exact .nil
  | succ k ih =>
    have ih := ih (by omega)
    obtain ⟨cs, hcs⟩ : ∃ cs, rows[k]? = some cs := ⟨_, List.getElem?_eq_getElem (by omega)⟩
    have et : rows.take (k + 1) = rows.take k ++ [cs] := by rw [List.take_add_one, hcs]; rfl
    have hm := hs.2.2 cs (List.mem_of_getElem? hcs)
    have hd : (byt s).drop (a + (rowsB (rows.take k)).length) = rowB cs ++ (10 :: rowsB (rows.drop (k + 1))) := by
      have e : rowsB rows = rowsB (rows.take k) ++ (rowB cs ++ (10 :: rowsB (rows.drop (k + 1)))) := by
        have e1 : rows = rows.take k ++ (cs :: rows.drop (k + 1)) := by
          have := List.take_append_drop k rows
          rw [List.drop_eq_getElem_cons (by omega)] at this
          have e2 : rows[k] = cs := by
            have := List.getElem?_eq_getElem (l := rows) (i := k) (by omega)
            rw [hcs] at this
            exact (Option.some.inj this).symm
          rw [e2] at this
          exact this.symm
        have e3 := congrArg rowsB e1
        rw [e3]
        simp [rowsB]
      rw [← List.drop_drop, h, e, List.drop_left]
    obtain ⟨q1, q2⟩ := pre_complete s cs _ _ hm.2 hd
    obtain ⟨l1, l2⟩ := sign_lf s _ _ q2
    have hw : wrongR (rows.take k) cs = 0 := by
      unfold wrongR
      rw [if_neg, if_neg]
      · simp only [List.length_take]
        have := hs.1
        have := hs.2.1
        omega
      · rintro ⟨h1, h2⟩
        apply h2
        rcases hr : rows with _ | ⟨r, rs⟩
        · rw [hr] at hcs; simp at hcs
        · rw [hr] at h1
          rcases k with _ | k
          · simp at h1
          · have := (hs.2.2 r (by rw [hr]; simp)).1
            simp
            omega
    have := RowsPre.snoc ih q1 l1 (by intro e; rw [e] at hm; have := hs.1; simp at hm; omega) l2 hw
    rw [et, rowsB_snoc]
    have el : a + (rowsB (rows.take k) ++ (rowB cs ++ [10])).length = a + (rowsB (rows.take k)).length + (rowB cs).length + 1 := by simp; omega
    rw [el]
    exact this
theorem text_complete (s : ByteArray) (g : Int) (rows : List (List Int)) (w : Nat) (hg : g = 4 ∨ g = 6) (hs : Shape rows w) (hsz : s.size ≤ 65536) (h : byt s = gridT g ++ [10] ++ rowsB rows) : Text s g rows := by
  obtain ⟨e1, e2⟩ := grid_complete s g hg ([10] ++ rowsB rows) (by rw [h]; simp)
  have h3 : (byt s).drop 3 = 10 :: rowsB rows := by
    rw [h]
    have := gridT_len g
    rw [List.append_assoc, ← this, List.drop_left]
    rfl
  obtain ⟨_, l2⟩ := sign_lf s 3 _ h3
  refine ⟨hsz, hg, e1, by rw [e2]; exact l2, ?_⟩
  rw [e2]
  have h4 := (get_drop h3).2.2
  have := rows_complete s rows w 4 hs h4 rows.length (Nat.le_refl _)
  rw [List.take_length] at this
  refine ⟨_, this, fun e => by rw [e] at hs; have := hs.2.1; simp at this, ?_⟩
  have hl := congrArg List.length h
  rw [size_byt] at hl
  have := gridT_len g
  simp at hl
  omega

/-! ### the rows of a chart -/
def rowL (px : Nat → Int) (lo w : Nat) : List Int := (List.range w).map fun j => px (lo + j)
/-- the rows of a chart, the highest first -/
def rowsOf (px : Nat → Int) (w : Nat) : Nat → List (List Int)
  | 0 => []
  | m + 1 => rowL px (m * w) w :: rowsOf px w m
theorem rowB_rowL (px : Nat → Int) (lo w : Nat) : rowB (rowL px lo w) = rowT px lo w := by
  induction w with
  | zero => rfl
  | succ w ih =>
    rw [rowT, ← ih]
    unfold rowL
    rw [List.range_succ, List.map_append]
    exact rowB_snoc _ _
theorem rowsB_rowsOf (px : Nat → Int) (w m : Nat) : rowsB (rowsOf px w m) = rowsT px w m := by
  induction m with
  | zero => rfl
  | succ m ih =>
    rw [rowsT, ← ih, ← rowB_rowL]
    simp [rowsOf, rowsB]
theorem rowsOf_len (px : Nat → Int) (w m : Nat) : (rowsOf px w m).length = m := by
  induction m with
  | zero => rfl
  | succ m ih => simp [rowsOf, ih]
theorem rowsOf_shape (px : Nat → Int) (w m : Nat) (hc : ∀ k, k < w * m → 0 ≤ px k ∧ px k ≤ 61) : ∀ cs ∈ rowsOf px w m, cs.length = w ∧ ∀ c ∈ cs, 0 ≤ c ∧ c ≤ 61 := by
  induction m with
  | zero => simp [rowsOf]
  | succ m ih =>
    intro cs h
    simp [rowsOf] at h
    rcases h with rfl | h
    · refine ⟨by simp [rowL], fun c hc' => ?_⟩
      simp [rowL] at hc'
      obtain ⟨j, hj, rfl⟩ := hc'
      refine hc _ ?_
      rw [Nat.mul_add, Nat.mul_comm w m]
      omega
    · exact ih (fun k hk => hc k (by rw [Nat.mul_add]; omega)) cs h
theorem low_rowsOf (px : Nat → Int) (w m : Nat) : (rowsOf px w m).reverse.flatten = (List.range (m * w)).map px := by
  induction m with
  | zero => simp [rowsOf]
  | succ m ih =>
    rw [rowsOf, List.reverse_cons, List.flatten_append, ih, Nat.add_mul, Nat.one_mul, List.range_add, List.map_append]
    simp [rowL]
theorem rowsOf_congr (px qx : Nat → Int) (w m : Nat) (h : ∀ k, k < m * w → px k = qx k) : rowsOf px w m = rowsOf qx w m := by
  induction m with
  | zero => rfl
  | succ m ih =>
    rw [rowsOf, rowsOf, ih (fun k hk => h k (by rw [Nat.add_mul]; omega))]
    congr 1
    unfold rowL
    apply List.map_congr_left
    intro j hj
    simp at hj
    exact h _ (by rw [Nat.add_mul]; omega)
theorem lowCells_all (rows : List (List Int)) : lowCells rows rows.length = rows.reverse.flatten := by
  unfold lowCells
  rw [List.take_of_length_le (by simp)]
theorem flat_len (rows : List (List Int)) (w : Nat) (h : ∀ cs ∈ rows, cs.length = w) : rows.reverse.flatten.length = rows.length * w := by
  induction rows with
  | nil => simp
  | cons r rs ih =>
    rw [List.reverse_cons, List.flatten_append, List.length_append, ih (fun cs hc => h cs (by simp [hc]))]
    have := h r (by simp)
    simp [Nat.add_mul, this]
theorem rowsOf_rows (rows : List (List Int)) (w : Nat) (h : ∀ cs ∈ rows, cs.length = w) : rowsOf (fun k => rows.reverse.flatten.getD k 0) w rows.length = rows := by
  induction rows with
  | nil => rfl
  | cons r rs ih =>
    have hl := flat_len rs w (fun cs hc => h cs (by simp [hc]))
    have hr := h r (by simp)
    have e : (r :: rs).reverse.flatten = rs.reverse.flatten ++ r := by simp
    rw [e, List.length_cons, rowsOf]
    congr 1
    · unfold rowL
      apply List.ext_getElem?
      intro j
      by_cases hj : j < w
      · rw [List.getElem?_map, List.getElem?_range hj]
        simp only [Option.map_some]
        rw [List.getD_eq_getElem?_getD, List.getElem?_append_right (by omega), show rs.length * w + j - rs.reverse.flatten.length = j by omega, List.getElem?_eq_getElem (by omega)]
        rfl
      · rw [List.getElem?_eq_none (by simp; omega), List.getElem?_eq_none (by omega)]
    · refine Eq.trans ?_ (ih (fun cs hc => h cs (by simp [hc])))
      apply rowsOf_congr
      intro k hk
      rw [List.getD_eq_getElem?_getD, List.getD_eq_getElem?_getD, List.getElem?_append_left (by omega)]
end Go.Proofs.YtncjbmafefeajaaDoor
