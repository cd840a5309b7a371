/-
  What Read of package chart answers where it reads a chart.
-/
import Derived.Test.YtncjbmafefeajaaDoorReadC
namespace Go.Proofs.YtncjbmafefeajaaDoor
open Go.RowKit

theorem OwnD.below {W w1 : World} {B b : Nat} {g w h : Int} {p : Option Addr} {n cap : Nat} (k : OwnD W b g w h p n cap) (hb : Below B W w1) (hB : b < B) : OwnD w1 b g w h p n cap := by
  obtain ⟨⟨h0, h1, h2, h3, h4⟩, f1, f2, f3, f4⟩ := k
  refine ⟨⟨by have := hb.size; omega, ?_, ?_, ?_, ?_⟩, ?_, ?_, ?_, ?_⟩
  · rw [hb.cell (p := ⟨b, 0, none⟩) hB]; exact h1
  · rw [hb.cell (p := ⟨b, 1, none⟩) hB]; exact h2
  · rw [hb.cell (p := ⟨b, 2, none⟩) hB]; exact h3
  · rw [hb.cell (p := ⟨b, 3, none⟩) hB]; exact h4
  · rw [hb.frozen (p := ⟨b, 0, none⟩) hB]; exact f1
  · rw [hb.frozen (p := ⟨b, 1, none⟩) hB]; exact f2
  · rw [hb.frozen (p := ⟨b, 2, none⟩) hB]; exact f3
  · rw [hb.frozen (p := ⟨b, 3, none⟩) hB]; exact f4
theorem OwnD.set3 {W : World} {b : Nat} {g w h : Int} {p : Option Addr} {n cap : Nat} (k : OwnD W b g w h p n cap) (p' : Option Addr) (n' cap' : Nat) : OwnD (W.setCell ⟨b, 3, none⟩ (.slice p' n' cap')) b g w h p' n' cap' := by
  obtain ⟨⟨h0, h1, h2, h3, h4⟩, f1, f2, f3, f4⟩ := k
  refine ⟨⟨by simpa using h0, ?_, ?_, ?_, ?_⟩, ?_, ?_, ?_, ?_⟩
  all_goals simp [go_sem, h1, h2, h3, h4, f1, f2, f3, f4]
def RowsOk (s : ByteArray) (a : Nat) (rows : List (List Int)) : Prop := ∀ V, Tabs V → Calls Tryd.prog 15 #[.string s, .int .i64 a] V fun e w' => ∃ v vs, e = .returned (.tuple #[v, .agg #[.int .i64 0, .int .i64 0]]) ∧ w'.ownsRow (V.heap.size + 1) 25 1 v rows.length vs ∧ RowsAt w' (V.heap.size + 1) vs rows ∧ Below V.heap.size V w'
/-- how wide the first row is -/
def headLen (rows : List (List Int)) : Nat := (rows.headD []).length
/-- the cells of the first rows from below -/
def lowCells (rows : List (List Int)) (y : Nat) : List Int := (rows.reverse.take y).flatten
theorem lowCells_succ (rows : List (List Int)) (y : Nat) (cs : List Int) (h : rows[rows.length - 1 - y]? = some cs) (hy : y < rows.length) : lowCells rows (y + 1) = lowCells rows y ++ cs := by
  unfold lowCells
  have : rows.reverse[y]? = some cs := by rw [List.getElem?_reverse hy]; exact h
  rw [List.take_add_one, this]
  simp
theorem lowCells_le (rows : List (List Int)) (y : Nat) (h : ∀ cs ∈ rows, cs.length ≤ 64) : (lowCells rows y).length ≤ 64 * y := by
  induction y with
  | zero => simp [lowCells]
  | succ y ih =>
    by_cases hy : y < rows.length
    · obtain ⟨cs, hcs⟩ : ∃ cs, rows[rows.length - 1 - y]? = some cs := ⟨_, List.getElem?_eq_getElem (by omega)⟩
      rw [lowCells_succ rows y cs hcs hy]
      have := h cs (List.mem_of_getElem? hcs)
      simp; omega
    · have e : lowCells rows (y + 1) = lowCells rows y := by
        unfold lowCells
        rw [List.take_of_length_le (by simp; omega), List.take_of_length_le (by simp; omega)]
      rw [e]; omega

theorem g13_0 {a0 a1 a2 a3 a4 a5 a6 a7 a8 a9 a10 a11 a12 : Oper} : (#[a0, a1, a2, a3, a4, a5, a6, a7, a8, a9, a10, a11, a12] : Array Oper)[0]? = some a0 := rfl
theorem g13_1 {a0 a1 a2 a3 a4 a5 a6 a7 a8 a9 a10 a11 a12 : Oper} : (#[a0, a1, a2, a3, a4, a5, a6, a7, a8, a9, a10, a11, a12] : Array Oper)[1]? = some a1 := rfl
theorem g13_2 {a0 a1 a2 a3 a4 a5 a6 a7 a8 a9 a10 a11 a12 : Oper} : (#[a0, a1, a2, a3, a4, a5, a6, a7, a8, a9, a10, a11, a12] : Array Oper)[2]? = some a2 := rfl
theorem g13_3 {a0 a1 a2 a3 a4 a5 a6 a7 a8 a9 a10 a11 a12 : Oper} : (#[a0, a1, a2, a3, a4, a5, a6, a7, a8, a9, a10, a11, a12] : Array Oper)[3]? = some a3 := rfl
theorem g13_4 {a0 a1 a2 a3 a4 a5 a6 a7 a8 a9 a10 a11 a12 : Oper} : (#[a0, a1, a2, a3, a4, a5, a6, a7, a8, a9, a10, a11, a12] : Array Oper)[4]? = some a4 := rfl
theorem g13_5 {a0 a1 a2 a3 a4 a5 a6 a7 a8 a9 a10 a11 a12 : Oper} : (#[a0, a1, a2, a3, a4, a5, a6, a7, a8, a9, a10, a11, a12] : Array Oper)[5]? = some a5 := rfl
theorem g13_6 {a0 a1 a2 a3 a4 a5 a6 a7 a8 a9 a10 a11 a12 : Oper} : (#[a0, a1, a2, a3, a4, a5, a6, a7, a8, a9, a10, a11, a12] : Array Oper)[6]? = some a6 := rfl
theorem g13_7 {a0 a1 a2 a3 a4 a5 a6 a7 a8 a9 a10 a11 a12 : Oper} : (#[a0, a1, a2, a3, a4, a5, a6, a7, a8, a9, a10, a11, a12] : Array Oper)[7]? = some a7 := rfl
theorem g13_8 {a0 a1 a2 a3 a4 a5 a6 a7 a8 a9 a10 a11 a12 : Oper} : (#[a0, a1, a2, a3, a4, a5, a6, a7, a8, a9, a10, a11, a12] : Array Oper)[8]? = some a8 := rfl
theorem g13_9 {a0 a1 a2 a3 a4 a5 a6 a7 a8 a9 a10 a11 a12 : Oper} : (#[a0, a1, a2, a3, a4, a5, a6, a7, a8, a9, a10, a11, a12] : Array Oper)[9]? = some a9 := rfl
theorem g13_10 {a0 a1 a2 a3 a4 a5 a6 a7 a8 a9 a10 a11 a12 : Oper} : (#[a0, a1, a2, a3, a4, a5, a6, a7, a8, a9, a10, a11, a12] : Array Oper)[10]? = some a10 := rfl
theorem g13_11 {a0 a1 a2 a3 a4 a5 a6 a7 a8 a9 a10 a11 a12 : Oper} : (#[a0, a1, a2, a3, a4, a5, a6, a7, a8, a9, a10, a11, a12] : Array Oper)[11]? = some a11 := rfl
theorem g13_12 {a0 a1 a2 a3 a4 a5 a6 a7 a8 a9 a10 a11 a12 : Oper} : (#[a0, a1, a2, a3, a4, a5, a6, a7, a8, a9, a10, a11, a12] : Array Oper)[12]? = some a12 := rfl
def ReadOk (s : ByteArray) (W : World) (g : Int) (rows : List (List Int)) : Prop := Calls Tryd.prog 8 #[.string s] W fun e w' => ∃ q cap, e = .returned (.tuple #[ch g (headLen rows) rows.length q (lowCells rows rows.length).length cap, .agg #[.int .i64 0, .int .i64 0]]) ∧ w'.ownsRow W.heap.size 3 1 (.slice q (lowCells rows rows.length).length cap) (lowCells rows rows.length).length (intsV (lowCells rows rows.length)) ∧ Below W.heap.size W w'

set_option maxHeartbeats 2000000 in
set_option maxRecDepth 100000 in
theorem read_ok (s : ByteArray) (W : World) (h : s.size ≤ 65536) (g : Int) (a : Nat) (rows : List (List Int)) (hne : rows ≠ []) (hlen : rows.length ≤ 64) (hwide : ∀ cs ∈ rows, 1 ≤ cs.length ∧ cs.length ≤ 64) (HG : Hid (GoodGrid s g a)) (HR : Hid (RowsOk s a rows)) (hT : Tabs W) : ReadOk s W g rows := by
  have h' : ¬ (65536 : Int) < s.size := by omega
  obtain ⟨i0, hi, hz0, hz1, hz2⟩ := info_parts info3
  obtain ⟨D, F, S⟩ := two_boxes W
  have HS := hide S
  have HT := hT.keep S
  clear S hT
  unfold ReadOk
  go_enter Tryd.func8, Tryd.ntmps8
  go_wp2_with fail
  generalize (W.alloc (.cells #[.int .i64 0, .int .i64 0, .int .i64 0, .slice none 0 0] 27)).alloc (.cells #[.int .i64 0, .int .i64 0] 30) = w0 at *
  refine (unhide HG _ HT).mono ?_
  rintro e w1 ⟨rfl, hb⟩
  have T1 := HT.keep hb
  have D1 := D.keep hb
  have F1 := F.keep hb
  have S1 := btrans (unhide HS) hb
  clear D F hb HS HT
  go_wp2_with fail
  refine (unhide HR _ T1).mono ?_
  rintro e w2 ⟨v, vs, rfl, own2, rows2, hb⟩
  obtain ⟨gr, capr, rfl⟩ := own_slice own2 (by rcases rows with _ | ⟨r, rs⟩ <;> simp_all)
  obtain ⟨r0, rs, hrows⟩ : ∃ r rs, rows = r :: rs := by rcases rows with _ | ⟨r, rs⟩; exact absurd rfl hne; exact ⟨r, rs, rfl⟩
  obtain ⟨q0, c0, hv0⟩ : ∃ q0 c0, vs[0]? = some (.slice q0 (headLen rows) c0) := by
    rcases vs with _ | ⟨v0, vs'⟩
    · have := rows2.1; rw [hrows] at this; simp at this
    · have hv := rows2.2 0 v0 r0 rfl (by rw [hrows]; rfl)
      obtain ⟨q0, c0, rfl⟩ := own_form hv
      exact ⟨q0, c0, by rw [hrows]; rfl⟩
  have hl1 : 1 ≤ rows.length := by rw [hrows]; simp
  have Hrows := hide hrows
  clear hrows hne
  have hbf := bal (o := .cells #[.int .i64 0, .int .i64 0] 30) (Below.refl w2.heap.size w2)
  have D2 := (D1.keep hb).keep hbf
  have F2 := (F1.keep hb).keep hbf
  have S2 := btrans (btrans S1 hb) hbf
  have own3 := own_keep own2 hbf
  have rows3 := rows2.keep hbf
  have hb2 := hb.size
  have hl0 := F1.1
  clear D1 F1 hb S1 T1 hbf rows2 own2
  have hc0 := own3.cellAt 0 (by omega)
  rw [hv0] at hc0
  generalize hwd : headLen rows = wd at *
  go_wp2_with fail
  have hsz : (w2.alloc (.cells #[.int .i64 0, .int .i64 0] 30)).heap.size = w2.heap.size + 1 := by simp
  have DC := OwnD.new (w2.alloc (.cells #[.int .i64 0, .int .i64 0] 30)) g wd rows.length none 0 0 27
  generalize w2.alloc (.cells #[.int .i64 0, .int .i64 0] 30) = wb at *
  rw [← hsz]
  have hwb1 : w2.heap.size < wb.heap.size := by omega
  clear hc0 hv0 hsz
  go_loopw [48] (fun i wr => ∃ (y cap : Nat) (q : Option Addr), y ≤ rows.length ∧ i = .int .i64 y ∧ OwnD wr wb.heap.size g wd rows.length q (lowCells rows y).length cap ∧ wr.ownsRow (wb.heap.size + 1) 3 1 (.slice q (lowCells rows y).length cap) (lowCells rows y).length (intsV (lowCells rows y)) ∧ Below wb.heap.size wb wr) (fun i _ => rows.length - (intOf i).toNat)
  case atStart => exact ⟨0, 0, none, Nat.zero_le _, rfl, DC, World.ownsRow_nil _ _ _ _, bal (Below.refl _ _)⟩
  case round =>
    clear DC
    obtain ⟨y, cap, q, hy, rfl, DC, hown, hbel⟩ := hrel
    by_cases hlt : y < rows.length
    · obtain ⟨m, hm⟩ : ∃ m : Nat, m = rows.length - 1 - y := ⟨_, rfl⟩
      have hmi : (rows.length : Int) - 1 - (y : Int) = (m : Int) := by omega
      have hml : m < rows.length := by omega
      obtain ⟨cs, hcs⟩ : ∃ cs, rows[m]? = some cs := ⟨_, List.getElem?_eq_getElem hml⟩
      obtain ⟨vm, hvm⟩ : ∃ vm, vs[m]? = some vm := ⟨_, List.getElem?_eq_getElem (by have := rows3.1; omega)⟩
      have hcw := hwide cs (List.mem_of_getElem? hcs)
      have ownm := (rows3.keep hbel).2 m vm cs hvm hcs
      obtain ⟨gm, cm, rfl⟩ := own_slice ownm hcw.1
      have hcb : wb.cell? ⟨gr, m, none⟩ = some (.slice (some ⟨gm, 0, none⟩) cs.length cm) := by
        rw [own3.cellAt m (by omega)]; exact hvm
      have hgr : gr < wb.heap.size := World.block_lt_of_cell? wb _ hcb
      have Hcell := hide (show ∀ V, Below wb.heap.size wb V → V.cell? ⟨gr, m, none⟩ = some (.slice (some ⟨gm, 0, none⟩) cs.length cm) from fun V hV => by rw [hV.cell (p := ⟨gr, m, none⟩) hgr]; exact hcb)
      clear hcb
      have hcc := ownm.cells (g := gm) rfl
      have Hlow := hide (lowCells_succ rows y cs (by rw [← hm]; exact hcs) hlt)
      have hle := lowCells_le rows y (fun cs hc => (hwide cs hc).2)
      have d3 := DC.1.2.2.2.2
      have f3 := DC.2.2.2.2
      have hdlt := DC.1.1
      clear hcs hvm ownm hm
      generalize lowCells rows y = lo at *
      go_wp2_with fail
      refine wp_region_noPanic ?_
      refine wp_region_held_drew (S := fun V => Below wb.heap.size wb V) (by kernel_rfl) (Below.drew hbel) ?_
      intro _
      have hSd := Below.drew hbel
      refine wpAnyH_take (i := 0) (oi := _) (v := .pointer (some ⟨wb.heap.size, 3, none⟩)) g13_0 (by kernel_rfl) (by kernel_rfl) (by kernel_rfl) (fun _ _ _ h => h) (Or.inl ⟨by rfl, ?_⟩) (by assumption) ?_
      · intro w hSw
        try dsimp only at hSw
        go_simp
      simp only [Act.put, List.setIfInBounds_toArray, List.set_cons_zero, List.set_cons_succ]
      refine wpAnyH_take (i := 2) (oi := _) (v := .slice (some ⟨gr, 0, none⟩) rows.length capr) g13_2 (by kernel_rfl) (by kernel_rfl) (by kernel_rfl) (fun _ _ _ h => h) (Or.inl ⟨by rfl, ?_⟩) (by assumption) ?_
      · intro w hSw
        try dsimp only at hSw
        go_simp
      simp only [Act.put, List.setIfInBounds_toArray, List.set_cons_zero, List.set_cons_succ]
      refine wpAnyH_take (i := 3) (oi := _) (v := .slice (some ⟨gr, 0, none⟩) rows.length capr) g13_3 (by kernel_rfl) (by kernel_rfl) (by kernel_rfl) (fun _ _ _ h => h) (Or.inl ⟨by rfl, ?_⟩) (by assumption) ?_
      · intro w hSw
        try dsimp only at hSw
        go_simp
      simp only [Act.put, List.setIfInBounds_toArray, List.set_cons_zero, List.set_cons_succ]
      refine wpAnyH_take (i := 4) (oi := _) (v := .int .i64 rows.length) g13_4 (by kernel_rfl) (by kernel_rfl) (by kernel_rfl) (fun _ _ _ h => h) (Or.inl ⟨by rfl, ?_⟩) (by assumption) ?_
      · intro w hSw
        try dsimp only at hSw
        go_simp
      simp only [Act.put, List.setIfInBounds_toArray, List.set_cons_zero, List.set_cons_succ]
      refine wpAnyH_take (i := 5) (oi := _) (v := .int .i64 ((rows.length : Int) - 1)) g13_5 (by kernel_rfl) (by kernel_rfl) (by kernel_rfl) (fun _ _ _ h => h) (Or.inl ⟨by rfl, ?_⟩) (by assumption) ?_
      · intro w hSw
        try dsimp only at hSw
        go_simp
        exact (Go.IntWalk.i64_left _).trans (Go.IntWalk.wrap64_in _ (by omega))
      simp only [Act.put, List.setIfInBounds_toArray, List.set_cons_zero, List.set_cons_succ]
      refine wpAnyH_take (i := 6) (oi := _) (v := .int .i64 y) g13_6 (by kernel_rfl) (by kernel_rfl) (by kernel_rfl) (fun _ _ _ h => h) (Or.inl ⟨by rfl, ?_⟩) (by assumption) ?_
      · intro w hSw
        try dsimp only at hSw
        go_simp
      simp only [Act.put, List.setIfInBounds_toArray, List.set_cons_zero, List.set_cons_succ]
      refine wpAnyH_take (i := 7) (oi := _) (v := .int .i64 m) g13_7 (by kernel_rfl) (by kernel_rfl) (by kernel_rfl) (fun _ _ _ h => h) (Or.inl ⟨by rfl, ?_⟩) (by assumption) ?_
      · intro w hSw
        try dsimp only at hSw
        go_simp
        exact (Go.IntWalk.i64_left _).trans (Go.IntWalk.wrap64_in _ (by omega))
      simp only [Act.put, List.setIfInBounds_toArray, List.set_cons_zero, List.set_cons_succ]
      refine wpAnyH_take (i := 8) (oi := _) (v := .pointer (some ⟨gr, m, none⟩)) g13_8 (by kernel_rfl) (by kernel_rfl) (by kernel_rfl) (fun _ _ _ h => h) (Or.inl ⟨by rfl, ?_⟩) (by assumption) ?_
      · intro w hSw
        try dsimp only at hSw
        go_simp
      simp only [Act.put, List.setIfInBounds_toArray, List.set_cons_zero, List.set_cons_succ]
      refine wpAnyH_take (i := 9) (oi := _) (v := .slice (some ⟨gm, 0, none⟩) cs.length cm) g13_9 (by kernel_rfl) (by kernel_rfl) (by kernel_rfl) (fun _ _ _ h => h) (Or.inl ⟨by rfl, ?_⟩) (by assumption) ?_
      · intro w hSw
        try dsimp only at hSw
        have hcw' := unhide Hcell w hSw
        go_simp
      simp only [Act.put, List.setIfInBounds_toArray, List.set_cons_zero, List.set_cons_succ]
      refine wpAnyH_ready (rs := [1]) (by kernel_rfl) (by simp) ?_
      refine AllReadyH.cons (o := _) g13_1 (fun K hK => ?_) AllReadyH.nil
      go_simp
      refine hK.out _ _ (Below.drew hbel) (fun _ => ?_)
      clear hK K
      refine wpAnyH_ready (rs := [10]) (by kernel_rfl) (by simp) ?_
      refine AllReadyH.cons (o := _) g13_10 (fun K hK => ?_) AllReadyH.nil
      refine wp_append_own _ _ _ 25 rfl (wb.heap.size + 1) 3 i0 (.int .i64 0) 1 8 Tryd.underlying25 hi hz0 hz1 hz2 rfl (by decide) (.slice q lo.length cap) lo.length (intsV lo) rfl hown.drew ⟨gm, 0, none⟩ cs.length cm (intsV cs) rfl ?c1 ?c2 ?c3 ?c4 ?c5 ?c6 ?_
      case c1 => simp [intsV]
      case c2 => exact hcc
      case c3 => intro u hu; simp [intsV] at hu; obtain ⟨c, _, rfl⟩ := hu; rfl
      case c4 => unfold maxLen; omega
      case c5 => omega
      case c6 => simp; omega
      intro v' w4 hown' hgrow _
      have B4 := (Below.drew (Below.refl (wb.heap.size + 1) wr)).grown hgrow (by simp; omega) (fun k hk => (hown.lt k hk).1)
      have S4 := hbel.trans (B4.mono (Nat.le_succ _))
      have D4 := DC.below B4 (by omega)
      obtain ⟨q', cap', rfl⟩ := own_form hown'
      refine hK.out _ _ S4 (fun _ => ?_)
      clear hK K hown hgrow d3 f3 DC hbel B4 hSd
      have d3 := D4.1.2.2.2.2
      have f3 := D4.2.2.2.2
      refine wpAnyH_ready (rs := [11]) (by kernel_rfl) (by simp) ?_
      refine AllReadyH.cons (o := _) g13_11 (fun K hK => ?_) AllReadyH.nil
      go_simp
      refine hK.out _ _ S4 (fun _ => ?_)
      clear hK K
      refine wpAnyH_ready (rs := [12]) (by kernel_rfl) (by simp) ?_
      refine AllReadyH.cons (o := _) g13_12 (fun K hK => ?_) AllReadyH.nil
      go_simp
      have S5 := bset (p := ⟨wb.heap.size, 3, none⟩) (u := .slice q' (lo.length + cs.length) cap') S4 (by dsimp only; omega)
      have D5 := D4.set3 q' (lo.length + cs.length) cap'
      have own5 := ownsRow_setCell_below (a := ⟨wb.heap.size, 3, none⟩) hown' (by dsimp only; omega) (.slice q' (lo.length + cs.length) cap')
      refine hK.out _ _ S5 (fun _ => ?_)
      refine wpAnyH_done (by kernel_rfl) ?_ _
      refine NoPanic.normal ?_
      clear hK K
      go_wp2
      go_roundw
      case rel =>
        refine ⟨y + 1, cap', q', by omega, by go_num, ?_, ?_, S5⟩
        · rw [unhide Hlow, List.length_append]; exact D5
        · rw [unhide Hlow, List.length_append]; simpa [intsV] using own5
      case measure => simp [intOf]; omega
    · have e : y = rows.length := by omega
      have cl : ¬ ((y : Int) < (rows.length : Int)) := by omega
      have D6 := D2.keep hbel
      have F6 := F2.keep hbel
      have S6 := btrans S2 hbel
      have hWb : W.heap.size + 1 < wb.heap.size := by omega
      have Hown := hide hown
      have Hwd := hide hwd
      have He := hide e
      clear e hown hwd
      obtain ⟨⟨-, d⟩, df⟩ := D6
      obtain ⟨-, f, ff⟩ := F6
      obtain ⟨⟨-, c⟩, -⟩ := DC
      generalize hN : (lowCells rows y).length = N at *
      have HN := hide hN
      clear hN
      go_wp2
      refine bodyPost_ret (v := .tuple #[ch g wd rows.length q N cap, .agg #[.int .i64 0, .int .i64 0]]) (by simp [results, Tryd.results8, go_sem, d, f]) rfl ⟨q, cap, ?_, ?_, bset (bset (bset (bset (bset (bset S6 (by dsimp only; omega)) (by dsimp only; omega)) (by dsimp only; omega)) (by dsimp only; omega)) (by dsimp only; omega)) (by dsimp only; omega)⟩
      · rw [unhide Hwd, ← unhide He, unhide HN]
      · rw [← unhide He, unhide HN]
        exact Joins.ownsRow_le (ownsRow_setCell_below (ownsRow_setCell_below (ownsRow_setCell_below (ownsRow_setCell_below (ownsRow_setCell_below (ownsRow_setCell_below (unhide Hown) (by dsimp only; omega) _) (by dsimp only; omega) _) (by dsimp only; omega) _) (by dsimp only; omega) _) (by dsimp only; omega) _) (by dsimp only; omega) _) (by omega)
end Go.Proofs.YtncjbmafefeajaaDoor
