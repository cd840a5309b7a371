/-
  What Read of package chart answers where it refuses.
-/
import Derived.Test.YtncjbmafefeajaaDoorReadB
namespace Go.Proofs.YtncjbmafefeajaaDoor
open Go.RowKit

/-- a chart of our own in a box that can be written -/
def OwnD (W : World) (b : Nat) (g w h : Int) (p : Option Addr) (n cap : Nat) : Prop := OwnC W b g w h p n cap ∧ W.frozen? ⟨b, 0, none⟩ = false ∧ W.frozen? ⟨b, 1, none⟩ = false ∧ W.frozen? ⟨b, 2, none⟩ = false ∧ W.frozen? ⟨b, 3, none⟩ = false
theorem OwnD.keep {W w1 : World} {b : Nat} {g w h : Int} {p : Option Addr} {n cap : Nat} (k : OwnD W b g w h p n cap) (hb : Below W.heap.size W w1) : OwnD w1 b g w h p n cap :=
  ⟨k.1.keep hb, by rw [hb.frozen (p := ⟨b, 0, none⟩) k.1.1]; exact k.2.1, by rw [hb.frozen (p := ⟨b, 1, none⟩) k.1.1]; exact k.2.2.1, by rw [hb.frozen (p := ⟨b, 2, none⟩) k.1.1]; exact k.2.2.2.1, by rw [hb.frozen (p := ⟨b, 3, none⟩) k.1.1]; exact k.2.2.2.2⟩
theorem OwnD.alloc {W : World} {b : Nat} {g w h : Int} {p : Option Addr} {n cap : Nat} (k : OwnD W b g w h p n cap) (o : Obj) : OwnD (W.alloc o) b g w h p n cap := k.keep (bal (Below.refl _ _))
theorem OwnD.new (W : World) (g w h : Int) (p : Option Addr) (n cap : Nat) (t : TypeId) : OwnD (W.alloc (.cells #[.int .i64 g, .int .i64 w, .int .i64 h, .slice p n cap] t)) W.heap.size g w h p n cap :=
  ⟨OwnC.new W g w h p n cap t, by simp [go_sem], by simp [go_sem], by simp [go_sem], by simp [go_sem]⟩
theorem OwnW.keep {W w1 : World} {b : Nat} {x y : Int} (h : OwnW W b x y) (hb : Below W.heap.size W w1) : OwnW w1 b x y := h.below hb h.1
theorem OwnW.alloc {W : World} {b : Nat} {x y : Int} (h : OwnW W b x y) (o : Obj) : OwnW (W.alloc o) b x y := h.keep (bal (Below.refl _ _))

/-- why the rows are refused -/
def RowsFail (s : ByteArray) (a : Nat) (er at' : Int) : Prop := ∃ rows p cs e, RowsPre s a rows p ∧ (rows = [] ∨ p < s.size) ∧ Pre s p cs e ∧ signAt s e = none ∧
    ((cs = [] ∨ lf s e = false) ∧ er = 2 ∧ at' = e ∨ (cs ≠ [] ∧ lf s e = true) ∧ wrongR rows cs ≠ 0 ∧ er = wrongR rows cs ∧ at' = p)
theorem RowsFail.pos {s : ByteArray} {a : Nat} {er at' : Int} (h : RowsFail s a er at') : er ≠ 0 := by
  obtain ⟨rows, p, cs, e, _, _, _, _, h | h⟩ := h
  · omega
  · rw [h.2.2.1]; exact h.2.1
def FailIs (s : ByteArray) (W : World) (er at' : Int) : Prop := Calls Tryd.prog 8 #[.string s] W fun e w' => e = .returned (.tuple #[ch 0 0 0 none 0 0, .agg #[.int .i64 er, .int .i64 at']]) ∧ Below W.heap.size W w'
theorem two_boxes (W : World) : OwnD ((W.alloc (.cells #[.int .i64 0, .int .i64 0, .int .i64 0, .slice none 0 0] 27)).alloc (.cells #[.int .i64 0, .int .i64 0] 30)) W.heap.size 0 0 0 none 0 0 ∧ OwnW ((W.alloc (.cells #[.int .i64 0, .int .i64 0, .int .i64 0, .slice none 0 0] 27)).alloc (.cells #[.int .i64 0, .int .i64 0] 30)) (W.heap.size + 1) 0 0 ∧ Below W.heap.size W ((W.alloc (.cells #[.int .i64 0, .int .i64 0, .int .i64 0, .slice none 0 0] 27)).alloc (.cells #[.int .i64 0, .int .i64 0] 30)) := by
  have h := OwnW.new (W.alloc (.cells #[.int .i64 0, .int .i64 0, .int .i64 0, .slice none 0 0] 27)) 0 0 30
  rw [World.size_alloc] at h
  exact ⟨(OwnD.new W 0 0 0 none 0 0 27).alloc _, h, bal (bal (Below.refl _ _))⟩

set_option maxHeartbeats 2000000 in
theorem read_much (s : ByteArray) (W : World) (h : 65536 < s.size) : FailIs s W 4 0 := by
  have h' : (65536 : Int) < s.size := by omega
  unfold FailIs
  go_enter Tryd.func8, Tryd.ntmps8
  go_wp2
  exact bodyPost_ret (v := .tuple #[ch 0 0 0 none 0 0, .agg #[.int .i64 4, .int .i64 0]]) (by simp [results, Tryd.results8, go_sem]) rfl ⟨rfl, bal (bal (Below.refl _ _))⟩

set_option maxHeartbeats 2000000 in
theorem read_grid (s : ByteArray) (W : World) (h : s.size ≤ 65536) (a : Int) (HG : Hid (∀ V, Tabs V → GridIs s V 0 a false)) (hT : Tabs W) : FailIs s W 2 a := by
  have h' : ¬ (65536 : Int) < s.size := by omega
  obtain ⟨D, F, S⟩ := two_boxes W
  have HS := hide S
  have HT := hide (hT.keep S)
  clear S hT
  unfold FailIs
  go_enter Tryd.func8, Tryd.ntmps8
  go_wp2_with fail
  generalize (W.alloc (.cells #[.int .i64 0, .int .i64 0, .int .i64 0, .slice none 0 0] 27)).alloc (.cells #[.int .i64 0, .int .i64 0] 30) = w0 at *
  refine (unhide HG _ (unhide HT)).mono ?_
  rintro e w1 ⟨rfl, hb⟩
  have D1 := D.keep hb
  have F1 := F.keep hb
  have S1 := btrans (unhide HS) hb
  clear D F hb
  obtain ⟨⟨-, d⟩, df⟩ := D1
  obtain ⟨-, f, ff⟩ := F1
  go_wp2
  exact bodyPost_ret (v := .tuple #[ch 0 0 0 none 0 0, .agg #[.int .i64 2, .int .i64 a]]) (by simp [results, Tryd.results8, go_sem, d, f]) rfl ⟨rfl, bset (bset (bset (bset (bset (bset S1 (by dsimp only; omega)) (by dsimp only; omega)) (by dsimp only; omega)) (by dsimp only; omega)) (by dsimp only; omega)) (by dsimp only; omega)⟩
theorem g4_0 {a0 a1 a2 a3 : Oper} : (#[a0, a1, a2, a3] : Array Oper)[0]? = some a0 := rfl
theorem g4_1 {a0 a1 a2 a3 : Oper} : (#[a0, a1, a2, a3] : Array Oper)[1]? = some a1 := rfl
theorem g4_2 {a0 a1 a2 a3 : Oper} : (#[a0, a1, a2, a3] : Array Oper)[2]? = some a2 := rfl
theorem g4_3 {a0 a1 a2 a3 : Oper} : (#[a0, a1, a2, a3] : Array Oper)[3]? = some a3 := rfl
/-- what stands through the statement that hands a fault on -/
abbrev RF (W : World) (b : Nat) (er at' : Int) (V : World) : Prop := Below W.heap.size W V ∧ V.cell? ⟨b, 0, none⟩ = some (.int .i64 er) ∧ V.cell? ⟨b, 1, none⟩ = some (.int .i64 at')
theorem OwnW.far {W : World} {b c o : Nat} {v : Value} {x y : Int} (h : OwnW W b x y) (hc : c ≠ b) : OwnW (W.setCell ⟨c, o, none⟩ v) b x y := by
  obtain ⟨h0, ⟨h1, h2⟩, h3, h4⟩ := h
  refine ⟨by simpa using h0, ⟨?_, ?_⟩, ?_, ?_⟩
  all_goals simp [go_sem, h1, h2, h3, h4]
theorem OwnD.set {W : World} {b : Nat} {g w h : Int} {p : Option Addr} {n cap : Nat} (k : OwnD W b g w h p n cap) (g' w' h' : Int) (p' : Option Addr) (n' cap' : Nat) :
    OwnD ((((W.setCell ⟨b, 0, none⟩ (.int .i64 g')).setCell ⟨b, 1, none⟩ (.int .i64 w')).setCell ⟨b, 2, none⟩ (.int .i64 h')).setCell ⟨b, 3, none⟩ (.slice p' n' cap')) b g' w' h' p' n' cap' := by
  obtain ⟨⟨h0, h1, h2, h3, h4⟩, f1, f2, f3, f4⟩ := k
  refine ⟨⟨by simpa using h0, ?_, ?_, ?_, ?_⟩, ?_, ?_, ?_, ?_⟩
  all_goals simp [go_sem, h1, h2, h3, h4, f1, f2, f3, f4]
theorem RF.drew {W V : World} {b : Nat} {er at' : Int} (h : RF W b er at' V) : RF W b er at' V.drew := ⟨Below.drew h.1, h.2⟩
theorem RF.set {W V : World} {b : Nat} {er at' : Int} (h : RF W b er at' V) (c o : Nat) (v : Value) (hc : c ≠ b) (hW : W.heap.size ≤ c) : RF W b er at' (V.setCell ⟨c, o, none⟩ v) := by
  obtain ⟨h1, h2, h3⟩ := h
  refine ⟨bset h1 (by dsimp only; omega), ?_, ?_⟩
  all_goals simp [go_sem, h2, h3]
def GoodGrid (s : ByteArray) (g : Int) (a : Nat) : Prop := ∀ V, Tabs V → GridIs s V g a true
def RowsBad (s : ByteArray) (a : Nat) (er at' : Int) : Prop := ∀ V, Tabs V → Calls Tryd.prog 15 #[.string s, .int .i64 a] V fun e w' => e = .returned (.tuple #[.slice none 0 0, .agg #[.int .i64 er, .int .i64 at']]) ∧ Below V.heap.size V w'

set_option maxHeartbeats 1000000 in
theorem read_rows (s : ByteArray) (W : World) (h : s.size ≤ 65536) (g : Int) (a : Nat) (er at' : Int) (he : er ≠ 0) (HG : Hid (GoodGrid s g a)) (HR : Hid (RowsBad s a er at')) (hT : Tabs W) : FailIs s W er at' := by
  have h' : ¬ (65536 : Int) < s.size := by omega
  obtain ⟨D, F, S⟩ := two_boxes W
  have HS := hide S
  have HT := hT.keep S
  clear S hT
  unfold FailIs
  go_enter Tryd.func8, Tryd.ntmps8
  go_wp2_with fail
  generalize (W.alloc (.cells #[.int .i64 0, .int .i64 0, .int .i64 0, .slice none 0 0] 27)).alloc (.cells #[.int .i64 0, .int .i64 0] 30) = w0 at *
  refine (unhide HG _ HT).mono ?_
  rintro e w1 ⟨rfl, hb⟩
  have T1 := HT.keep hb
  have D1 := D.keep hb
  have F1 := F.keep hb
  have S1 := btrans (unhide HS) hb
  clear D F hb HS HT
  go_wp2_with fail
  refine (unhide HR _ T1).mono ?_
  rintro e w2 ⟨rfl, hb⟩
  have D2 := (D1.keep hb).alloc (.cells #[.int .i64 er, .int .i64 at'] 30)
  have F2 := (F1.keep hb).alloc (.cells #[.int .i64 er, .int .i64 at'] 30)
  have S2 := bal (o := .cells #[.int .i64 er, .int .i64 at'] 30) (btrans S1 hb)
  have X2 := OwnW.new w2 er at' 30
  have hb2 := hb.size
  have hl0 := F1.1
  clear D1 F1 hb S1 T1
  have he' : (er != 0) = true := by simp [he]
  go_wp2_with fail
  have hS0 : RF W w2.heap.size er at' (w2.alloc (.cells #[.int .i64 er, .int .i64 at'] 30)) := ⟨S2, X2.2.1⟩
  generalize w2.alloc (.cells #[.int .i64 er, .int .i64 at'] 30) = w3 at *
  refine wp_region_noPanic ?_
  refine wp_region_held_drew (S := fun V => RF W w2.heap.size er at' V) (by kernel_rfl) hS0.drew ?_
  intro _
  have hSd := hS0.drew
  refine wpAnyH_take (i := 0) (oi := _) (v := .agg #[.int .i64 0, .int .i64 0, .int .i64 0, .slice none 0 0]) g4_0 (by kernel_rfl) (by kernel_rfl) (by kernel_rfl) (fun _ _ _ h => h) (Or.inl ⟨by rfl, ?_⟩) (by assumption) ?_
  · intro w hSw
    try dsimp only at hSw
    go_simp
  simp only [Act.put, List.setIfInBounds_toArray, List.set_cons_zero, List.set_cons_succ]
  refine wpAnyH_take (i := 1) (oi := _) (v := .agg #[.int .i64 er, .int .i64 at']) g4_1 (by kernel_rfl) (by kernel_rfl) (by kernel_rfl) (fun _ _ _ h => h) (Or.inl ⟨by rfl, ?_⟩) (by assumption) ?_
  · intro w hSw
    try dsimp only at hSw
    go_simp
  simp only [Act.put, List.setIfInBounds_toArray, List.set_cons_zero, List.set_cons_succ]
  have hlt0 := D2.1.1
  have d := D2.1.2
  have df := D2.2
  refine wpAnyH_ready (rs := [2]) (by kernel_rfl) (by simp) ?_
  refine AllReadyH.cons (o := _) g4_2 (fun K hK => ?_) AllReadyH.nil
  go_simp
  have hS1 := (((hS0.set W.heap.size 0 (.int .i64 0) (by omega) (by omega)).set W.heap.size 1 (.int .i64 0) (by omega) (by omega)).set W.heap.size 2 (.int .i64 0) (by omega) (by omega)).set W.heap.size 3 (.slice none 0 0) (by omega) (by omega)
  have D3 := D2.set 0 0 0 none 0 0
  have F3 := (((F2.far (c := W.heap.size) (o := 0) (v := .int .i64 0) (by omega)).far (c := W.heap.size) (o := 1) (v := .int .i64 0) (by omega)).far (c := W.heap.size) (o := 2) (v := .int .i64 0) (by omega)).far (c := W.heap.size) (o := 3) (v := .slice none 0 0) (by omega)
  refine hK.out _ _ hS1.drew (fun _ => ?_)
  clear hK K d df D2 F2
  generalize (((w3.setCell ⟨W.heap.size, 0, none⟩ (.int .i64 0)).setCell ⟨W.heap.size, 1, none⟩ (.int .i64 0)).setCell ⟨W.heap.size, 2, none⟩ (.int .i64 0)).setCell ⟨W.heap.size, 3, none⟩ (.slice none 0 0) = w4 at *
  have f := F3.2.1
  have ff := F3.2.2
  refine wpAnyH_ready (rs := [3]) (by kernel_rfl) (by simp) ?_
  refine AllReadyH.cons (o := _) g4_3 (fun K hK => ?_) AllReadyH.nil
  go_simp
  have hS2 := (hS1.set (W.heap.size + 1) 0 (.int .i64 er) (by omega) (by omega)).set (W.heap.size + 1) 1 (.int .i64 at') (by omega) (by omega)
  refine hK.out _ _ hS2.drew (fun _ => ?_)
  refine wpAnyH_done (by kernel_rfl) ?_ _
  refine NoPanic.normal ?_
  clear hK K
  obtain ⟨⟨-, d⟩, df⟩ := D3
  go_wp2
  exact bodyPost_ret (v := .tuple #[ch 0 0 0 none 0 0, .agg #[.int .i64 er, .int .i64 at']]) (by simp [results, Tryd.results8, go_sem, d, f]) rfl ⟨rfl, hS2.drew.1⟩
end Go.Proofs.YtncjbmafefeajaaDoor
