/-
  The reader: stripe.
-/
import Derived.Test.YtbnjjkanokmakaaDoorRY
namespace Go.Proofs.YtbnjjkanokmakaaDoor
open Go.RowKit

/-- two numbers in a box that may be set -/
def Bx (W : World) (b : Nat) (a0 a1 : Int) : Prop := B2 W b a0 a1 ∧ ∀ j, W.frozen? ⟨b, j, none⟩ = false
theorem Bx.keep {W V : World} {b : Nat} {a0 a1 : Int} (h : Bx W b a0 a1) (hb : Below W.heap.size W V) : Bx V b a0 a1 := ⟨h.1.keep hb, fun j => keepF hb h.1.1 (h.2 j)⟩
theorem Bx.new (W : World) (a b : Int) (t : TypeId) : Bx (W.alloc (.cells #[.int .i64 a, .int .i64 b] t)) W.heap.size a b := ⟨B2.new W a b t, fun j => by simp [go_sem]⟩
theorem Bx.but {W V : World} {b : Nat} {a0 a1 : Int} {S : Nat → Prop} (h : Bx W b a0 a1) (k : Kept S W V) (hS : ¬ S b) : Bx V b a0 a1 :=
  ⟨⟨Nat.lt_of_lt_of_le h.1.1 k.size, k.cell h.1.1 hS h.1.2.1, k.cell h.1.1 hS h.1.2.2⟩, fun j => k.froz h.1.1 hS (h.2 j)⟩
/-- what a stripe answers -/
def SpOf (s : ByteArray) (p : Nat) (v1 v2 er at' : Int) (q : Nat) : Prop := (signAt s p = none ∧ v1 = 0 ∧ v2 = 0 ∧ er = 2 ∧ at' = (p : Nat) ∧ q = p) ∨ (∃ c n, signAt s p = some (c, n) ∧ cE (dgs s (p + n)) ≠ 0 ∧ v1 = 0 ∧ v2 = 0 ∧ er = cE (dgs s (p + n)) ∧ at' = ((p + n : Nat) : Int) ∧ q = p + n) ∨ (∃ c n, signAt s p = some (c, n) ∧ cE (dgs s (p + n)) = 0 ∧ v1 = c ∧ v2 = ((num 0 (dgs s (p + n)) : Nat) : Int) ∧ er = 0 ∧ at' = 0 ∧ q = p + n + (dgs s (p + n)).length)
def SpIs (W0 : World) (rb : Nat) (s : ByteArray) (W : World) (v1 v2 er at' : Int) (q : Nat) (e : Ending) (V : World) : Prop := e = .returned (.tuple #[.agg #[.int .i64 v1, .int .i64 v2], .agg #[.int .i64 er, .int .i64 at']]) ∧ Rdr W0 rb s q V ∧ Kept (fun i => i = rb) W V
theorem SpIs.mk {W0 W V : World} {rb : Nat} {s : ByteArray} {v1 v2 er at' : Int} {q : Nat} (h1 : Rdr W0 rb s q V) (h2 : Kept (fun i => i = rb) W V) : SpIs W0 rb s W v1 v2 er at' q (.returned (.tuple #[.agg #[.int .i64 v1, .int .i64 v2], .agg #[.int .i64 er, .int .i64 at']])) V := ⟨rfl, h1, h2⟩
/-- .. while it is read -/
def SpS (W0 W : World) (rb : Nat) (s : ByteArray) (q bx by' : Nat) (V : World) : Prop := Rdr W0 rb s q V ∧ Kept (fun i => i = rb) W V ∧ Bx V bx 0 0 ∧ Bx V by' 0 0
theorem SpS.keep {W0 W V U : World} {rb q bx by' : Nat} {s : ByteArray} (h : SpS W0 W rb s q bx by' V) (hb : Below V.heap.size V U) : SpS W0 W rb s q bx by' U := ⟨h.1.keep hb, h.2.1.below hb, h.2.2.1.keep hb, h.2.2.2.keep hb⟩
theorem SpS.but {W0 W V U : World} {rb q q2 bx by' : Nat} {s : ByteArray} (h : SpS W0 W rb s q bx by' V) (k : Kept (fun i => i = rb) V U) (hr : Rdr W0 rb s q2 U) (h1 : bx ≠ rb) (h2 : by' ≠ rb) : SpS W0 W rb s q2 bx by' U := ⟨hr, h.2.1.trans k, h.2.2.1.but k h1, h.2.2.2.but k h2⟩
theorem cnot {W : World} {b b2 o j : Nat} {u v : Value} (h : W.cell? ⟨b, j, none⟩ = some v) (hj : b ≠ b2) : (W.setCell ⟨b2, o, none⟩ u).cell? ⟨b, j, none⟩ = some v := by
  rw [World.cell?_setCell_other _ _ _ _ (by intro e; cases e; exact hj rfl)]; exact h
/-- a box behind what was there is set -/
theorem SpS.fill {W0 W V : World} {rb q bx by' : Nat} {s : ByteArray} (h : SpS W0 W rb s q bx by' V) (a0 a1 b0 b1 : Int) (hx : W.heap.size ≤ bx) (hy : W.heap.size ≤ by') (hxy : bx ≠ by') (hr : rb < W.heap.size) (h0 : W0.heap.size ≤ W.heap.size) :
    ∃ U, (((V.setCell ⟨bx, 0, none⟩ (.int .i64 a0)).setCell ⟨bx, 1, none⟩ (.int .i64 a1)).setCell ⟨by', 0, none⟩ (.int .i64 b0)).setCell ⟨by', 1, none⟩ (.int .i64 b1) = U ∧ Rdr W0 rb s q U ∧ Kept (fun i => i = rb) W U ∧ U.cell? ⟨bx, 0, none⟩ = some (.int .i64 a0) ∧ U.cell? ⟨bx, 1, none⟩ = some (.int .i64 a1) ∧ U.cell? ⟨by', 0, none⟩ = some (.int .i64 b0) ∧ U.cell? ⟨by', 1, none⟩ = some (.int .i64 b1) := by
  obtain ⟨h1, h2, ⟨⟨x1, x2, x3⟩, -⟩, ⟨⟨y1, y2, y3⟩, -⟩⟩ := h
  have k : Kept (fun i => i = bx ∨ i = by') V ((((V.setCell ⟨bx, 0, none⟩ (.int .i64 a0)).setCell ⟨bx, 1, none⟩ (.int .i64 a1)).setCell ⟨by', 0, none⟩ (.int .i64 b0)).setCell ⟨by', 1, none⟩ (.int .i64 b1)) :=
    ((((Kept.refl _ V).set 0 _ (.inl (.inl rfl))).set 1 _ (.inl (.inl rfl))).set 0 _ (.inl (.inr rfl))).set 1 _ (.inl (.inr rfl))
  refine ⟨_, rfl, h1.but k (fun e => by rcases e with e | e <;> omega) ?_, ?_, ?_, ?_, ?_, ?_⟩
  · exact (((h1.2.2.2.setCell (p := ⟨bx, 0, none⟩) (Nat.le_trans h0 hx) _).setCell (p := ⟨bx, 1, none⟩) (Nat.le_trans h0 hx) _).setCell (p := ⟨by', 0, none⟩) (Nat.le_trans h0 hy) _).setCell (p := ⟨by', 1, none⟩) (Nat.le_trans h0 hy) _
  · exact (((h2.set 0 _ (.inr hx)).set 1 _ (.inr hx)).set 0 _ (.inr hy)).set 1 _ (.inr hy)
  · exact cnot (cnot (cset (csame x2) (by decide)) hxy) hxy
  · exact cnot (cnot (csame (cset x3 (by decide))) hxy) hxy
  · exact cset (csame (cnot (cnot y2 hxy.symm) hxy.symm)) (by decide)
  · exact csame (cset (cnot (cnot y3 hxy.symm) hxy.symm) (by decide))


theorem col_none {s : ByteArray} {p : Nat} (h : signAt s p = none) : colP (Lib.decodeGo (s.extract p s.size)).1 (Lib.decodeGo (s.extract p s.size)).2 = (0, 0) := by
  unfold signAt dg at h
  unfold colP
  cases e : grp (Lib.decodeGo (s.extract p s.size)).1 with
  | none => rfl
  | some c => rw [e] at h; cases h
theorem col_some {s : ByteArray} {p : Nat} {c : Int} {n : Nat} (h : signAt s p = some (c, n)) : colP (Lib.decodeGo (s.extract p s.size)).1 (Lib.decodeGo (s.extract p s.size)).2 = (c, (n : Int)) := by
  unfold signAt dg at h
  unfold colP
  cases e : grp (Lib.decodeGo (s.extract p s.size)).1 with
  | none => rw [e] at h; cases h
  | some c' =>
    rw [e] at h
    obtain ⟨rfl, rfl⟩ := Prod.mk.inj (Option.some.inj h)
    rfl
set_option maxRecDepth 100000 in
set_option maxHeartbeats 60000000 in
theorem stripe_core (W0 W : World) (rb : Nat) (s : ByteArray) (p : Nat) (v1 v2 er at' : Int) (q : Nat) (hs : s.size ≤ 65536) (hp : p ≤ s.size) (hT : RTabs W0) (h : Rdr W0 rb s p W) (hc : SpOf s p v1 v2 er at' q) :
    Calls Tryd.prog 39 #[.pointer (some ⟨rb, 0, none⟩)] W (SpIs W0 rb s W v1 v2 er at' q) := by
  have HN := hide (fun n V (hn : p + n ≤ s.size) (h : Rdr W0 rb s (p + n) V) => count_any W0 V rb s (p + n) hs hn hT h)
  have HW := hide (fun V q er (h : Rdr W0 rb s q V) => rwrongAt_any W0 V rb s q er h)
  have Hc := hide hc
  have Hsz := hide (show rb < W.heap.size from h.1.2)
  have Hs0 := hide (show W0.heap.size ≤ W.heap.size from h.2.2.2.size)
  have b1 := bnew W (.cells #[.int .i64 0, .int .i64 0] 45)
  have b2 := bnew (W.alloc (.cells #[.int .i64 0, .int .i64 0] 45)) (.cells #[.int .i64 0, .int .i64 0] 27)
  have HS := hide (show SpS W0 W rb s p W.heap.size (W.alloc (.cells #[.int .i64 0, .int .i64 0] 45)).heap.size _ from ⟨(h.keep b1).keep b2, (Kept.of b1).below b2, (Bx.new W 0 0 45).keep b2, Bx.new (W.alloc (.cells #[.int .i64 0, .int .i64 0] 45)) 0 0 27⟩)
  have Hy : (W.alloc (.cells #[.int .i64 0, .int .i64 0] 45)).heap.size = W.heap.size + 1 := by simp
  rw [Hy] at HS
  clear b1 b2 h hc Hy
  obtain ⟨kc, kn, hk⟩ : ∃ kc kn : Int, colP (Lib.decodeGo (s.extract p s.size)).1 (Lib.decodeGo (s.extract p s.size)).2 = (kc, kn) := ⟨_, _, rfl⟩
  have Hcol := hide (show (∀ V, Below W0.heap.size W0 V → Calls Tryd.prog 49 #[.string (s.extract p s.size)] V fun e w' => e = .returned (.tuple #[.int .i64 kc, .int .i64 kn]) ∧ Below V.heap.size V w') from fun V hb => by
    have := colour_any (s.extract p s.size) V (hT.keep hb).1.1 (hT.keep hb).1.2
    rw [hk] at this
    exact this)
  have Hk := hide hk
  clear hk hT
  have q0 : (0 : Int) ≤ (p : Int) := by omega
  have q1 : (p : Int) ≤ (s.size : Int) := by omega
  have Hp9 := hide hp
  clear hp
  go_enter Tryd.func39, Tryd.ntmps39
  go_upto_region 1 with fail
  generalize (W.alloc (.cells #[.int .i64 0, .int .i64 0] 45)).alloc (.cells #[.int .i64 0, .int .i64 0] 27) = w2 at *
  go_wp2_with fail
  have hS := (unhide HS).keep (bdrew w2)
  clear HS
  refine wp_region_noPanic ?_
  refine wp_region_held_drew (S := fun V => SpS W0 W rb s p W.heap.size (W.heap.size + 1) V) (by kernel_rfl) (hS) ?_
  intro _
  generalize w2.drew = w3 at *
  refine wpAnyH_take (i := 0) (oi := _) (v := .pointer (some ⟨rb, 0, none⟩)) g15_0 (by kernel_rfl) (by kernel_rfl) (by kernel_rfl) (fun _ _ _ h => h) (Or.inl ⟨by rfl, ?_⟩) (by assumption) ?_
  · intro V hSw
    try dsimp only at hSw
    go_simp
  simp only [Act.put, List.setIfInBounds_toArray, List.set_cons_zero, List.set_cons_succ]
  refine wpAnyH_take (i := 1) (oi := _) (v := .pointer (some ⟨rb, 0, none⟩)) g15_1 (by kernel_rfl) (by kernel_rfl) (by kernel_rfl) (fun _ _ _ h => h) (Or.inl ⟨by rfl, ?_⟩) (by assumption) ?_
  · intro V hSw
    try dsimp only at hSw
    go_simp
  simp only [Act.put, List.setIfInBounds_toArray, List.set_cons_zero, List.set_cons_succ]
  refine wpAnyH_take (i := 2) (oi := _) (v := .pointer (some ⟨rb, 0, none⟩)) g15_2 (by kernel_rfl) (by kernel_rfl) (by kernel_rfl) (fun _ _ _ h => h) (Or.inl ⟨by rfl, ?_⟩) (by assumption) ?_
  · intro V hSw
    try dsimp only at hSw
    go_simp
  simp only [Act.put, List.setIfInBounds_toArray, List.set_cons_zero, List.set_cons_succ]
  refine wpAnyH_take (i := 3) (oi := _) (v := .string s) g15_3 (by kernel_rfl) (by kernel_rfl) (by kernel_rfl) (fun _ _ _ h => h) (Or.inl ⟨by rfl, ?_⟩) (by assumption) ?_
  · intro V hSw
    try dsimp only at hSw
    obtain ⟨-, ⟨i0, i1⟩, -, -⟩ := hSw.1
    go_simp
  simp only [Act.put, List.setIfInBounds_toArray, List.set_cons_zero, List.set_cons_succ]
  refine wpAnyH_take (i := 4) (oi := _) (v := .pointer (some ⟨rb, 0, none⟩)) g15_4 (by kernel_rfl) (by kernel_rfl) (by kernel_rfl) (fun _ _ _ h => h) (Or.inl ⟨by rfl, ?_⟩) (by assumption) ?_
  · intro V hSw
    try dsimp only at hSw
    go_simp
  simp only [Act.put, List.setIfInBounds_toArray, List.set_cons_zero, List.set_cons_succ]
  refine wpAnyH_take (i := 5) (oi := _) (v := .pointer (some ⟨rb, 0, none⟩)) g15_5 (by kernel_rfl) (by kernel_rfl) (by kernel_rfl) (fun _ _ _ h => h) (Or.inl ⟨by rfl, ?_⟩) (by assumption) ?_
  · intro V hSw
    try dsimp only at hSw
    go_simp
  simp only [Act.put, List.setIfInBounds_toArray, List.set_cons_zero, List.set_cons_succ]
  refine wpAnyH_take (i := 6) (oi := _) (v := .pointer (some ⟨rb, 1, none⟩)) g15_6 (by kernel_rfl) (by kernel_rfl) (by kernel_rfl) (fun _ _ _ h => h) (Or.inl ⟨by rfl, ?_⟩) (by assumption) ?_
  · intro V hSw
    try dsimp only at hSw
    go_simp
  simp only [Act.put, List.setIfInBounds_toArray, List.set_cons_zero, List.set_cons_succ]
  refine wpAnyH_take (i := 7) (oi := _) (v := .int .i64 (p : Int)) g15_7 (by kernel_rfl) (by kernel_rfl) (by kernel_rfl) (fun _ _ _ h => h) (Or.inl ⟨by rfl, ?_⟩) (by assumption) ?_
  · intro V hSw
    try dsimp only at hSw
    obtain ⟨-, ⟨i0, i1⟩, -, -⟩ := hSw.1
    go_simp
  simp only [Act.put, List.setIfInBounds_toArray, List.set_cons_zero, List.set_cons_succ]
  refine wpAnyH_take (i := 8) (oi := _) (v := .string (s.extract p s.size)) g15_8 (by kernel_rfl) (by kernel_rfl) (by kernel_rfl) (fun _ _ _ h => h) (Or.inl ⟨by rfl, ?_⟩) (by assumption) ?_
  · intro V hSw
    try dsimp only at hSw
    go_simp
  simp only [Act.put, List.setIfInBounds_toArray, List.set_cons_zero, List.set_cons_succ]
  refine wpAnyH_ready (rs := [9]) (by kernel_rfl) (by simp) ?_
  refine AllReadyH.cons (o := _) g15_9 (fun K hK => ?_) AllReadyH.nil
  go_simp
  refine (unhide Hcol _ hS.1.2.2.2).mono ?_
  rintro e w4 ⟨rfl, hb4⟩
  replace hS := hS.keep hb4
  clear hb4
  refine hK.out _ _ (hS) (fun _ => ?_)
  clear hK K
  refine wpAnyH_take (i := 10) (oi := _) (v := .tuple #[.int .i64 kc, .int .i64 kn]) g15_10 (by kernel_rfl) (by kernel_rfl) (by kernel_rfl) (fun _ _ _ h => h) (Or.inl ⟨by rfl, ?_⟩) (by assumption) ?_
  · intro V hSw
    try dsimp only at hSw
    go_simp
  simp only [Act.put, List.setIfInBounds_toArray, List.set_cons_zero, List.set_cons_succ]
  refine wpAnyH_take (i := 11) (oi := _) (v := .int .i64 kc) g15_11 (by kernel_rfl) (by kernel_rfl) (by kernel_rfl) (fun _ _ _ h => h) (Or.inl ⟨by rfl, ?_⟩) (by assumption) ?_
  · intro V hSw
    try dsimp only at hSw
    go_simp
  simp only [Act.put, List.setIfInBounds_toArray, List.set_cons_zero, List.set_cons_succ]
  refine wpAnyH_take (i := 12) (oi := _) (v := .int .i64 kn) g15_12 (by kernel_rfl) (by kernel_rfl) (by kernel_rfl) (fun _ _ _ h => h) (Or.inl ⟨by rfl, ?_⟩) (by assumption) ?_
  · intro V hSw
    try dsimp only at hSw
    go_simp
  simp only [Act.put, List.setIfInBounds_toArray, List.set_cons_zero, List.set_cons_succ]
  refine wpAnyH_take (i := 13) (oi := _) (v := .int .i64 kc) g15_13 (by kernel_rfl) (by kernel_rfl) (by kernel_rfl) (fun _ _ _ h => h) (Or.inl ⟨by rfl, ?_⟩) (by assumption) ?_
  · intro V hSw
    try dsimp only at hSw
    go_simp
  simp only [Act.put, List.setIfInBounds_toArray, List.set_cons_zero, List.set_cons_succ]
  refine wpAnyH_take (i := 14) (oi := _) (v := .int .i64 kn) g15_14 (by kernel_rfl) (by kernel_rfl) (by kernel_rfl) (fun _ _ _ h => h) (Or.inl ⟨by rfl, ?_⟩) (by assumption) ?_
  · intro V hSw
    try dsimp only at hSw
    go_simp
  simp only [Act.put, List.setIfInBounds_toArray, List.set_cons_zero, List.set_cons_succ]
  refine wpAnyH_done (by kernel_rfl) ?_ _
  refine NoPanic.normal ?_
  have HS := hide hS
  clear hS
  generalize hby : W.heap.size + 1 = by' at *
  generalize hbx : W.heap.size = bx at *
  have Hbx := hide hbx
  have Hby := hide hby
  have Hfill := hide (fun V q a0 a1 b0 b1 (h : SpS W0 W rb s q bx by' V) => h.fill a0 a1 b0 b1 (by rw [hbx]; exact Nat.le_refl _) (by rw [hbx]; omega) (by omega) (by rw [hbx]; exact unhide Hsz) (by rw [hbx]; exact unhide Hs0))
  have nn1 : bx ≠ by' := by omega
  have nn2 : by' ≠ bx := by omega
  have Hne := hide (show bx ≠ rb ∧ by' ≠ rb from ⟨fun e => by have := unhide Hsz; omega, fun e => by have := unhide Hsz; omega⟩)
  clear hbx hby Hcol
  rcases unhide Hc with ⟨e1, rfl, rfl, rfl, rfl, rfl⟩ | ⟨c, n, e1, e2, rfl, rfl, rfl, rfl, rfl⟩ | ⟨c, n, e1, e2, rfl, rfl, rfl, rfl, rfl⟩
  · have hk := unhide Hk
    rw [col_none e1] at hk
    obtain ⟨rfl, rfl⟩ := Prod.mk.inj hk
    clear hk e1 Hk
    have HC := hide (unhide HW w4 _ 2 (unhide HS).1)
    go_wp2_with fail
    refine (unhide HC).mono ?_
    rintro e w5 ⟨rfl, hb5⟩
    have HS5 := hide ((unhide HS).keep hb5)
    clear hb5 HC HS
    obtain ⟨U, hU, r1, r2, u0, u1, u2, u3⟩ := unhide Hfill w5 _ 0 0 2 (q : Int) (unhide HS5)
    obtain ⟨-, -, ⟨⟨-, x0, x1⟩, fx⟩, ⟨⟨-, y0, y1⟩, fy⟩⟩ := unhide HS5
    have fx0 := fx 0
    have fx1 := fx 1
    have fy0 := fy 0
    have fy1 := fy 1
    have R1 := hide r1
    have R2 := hide r2
    clear r1 r2 fx fy
    go_wp2
    exact bodyPost_ret (v := .tuple #[.agg #[.int .i64 0, .int .i64 0], .agg #[.int .i64 2, .int .i64 (q : Int)]]) (by simp [results, Tryd.results39, go_sem, u0, u1, u2, u3]) rfl (SpIs.mk (unhide R1) (unhide R2))
  · obtain ⟨hn1, hn2, -, -⟩ := signAt_range s p c n e1
    have hk := unhide Hk
    rw [col_some e1] at hk
    obtain ⟨rfl, rfl⟩ := Prod.mk.inj hk
    clear hk e1 Hk
    have d1 : ((n : Int) == (0 : Int)) = false := by simp; omega
    have Hn2 := hide hn2
    obtain ⟨pn, hpn⟩ : ∃ pn, pn = p + n := ⟨_, rfl⟩
    have e9 : (p : Int) + (n : Int) = (pn : Int) := by omega
    have g9 : pn ≤ 65536 := by omega
    have g8 : (1 : Int) ≤ (n : Int) := by omega
    have g7 : (n : Int) ≤ 65536 := by omega
    obtain ⟨ce, hce⟩ : ∃ ce, ce = cE (dgs s (p + n)) := ⟨_, rfl⟩
    have hce0 : ce ≠ 0 := by rw [hce]; exact e2
    have d2 : (ce != (0 : Int)) = true := by simpa using hce0
    clear hce0
    have HNn := hide (fun V (h : Rdr W0 rb s pn V) => show Calls Tryd.prog 50 #[.pointer (some ⟨rb, 0, none⟩)] V (CtIs W0 rb s V 0 ce pn) from by
      have := unhide HN n V hn2 (hpn ▸ h)
      rw [if_neg e2, if_neg e2] at this
      rw [hce, hpn]
      exact this)
    have E2 := hide e2
    have Hpn := hide hpn
    clear e2 hpn
    have Hce := hide hce
    clear hce
    have HP := hide (((unhide HS).1).put pn)
    have HK := hide (kset w4 rb 1 (.int .i64 (pn : Int)))
    have HS5 := hide ((unhide HS).but (unhide HK) (unhide HP) (unhide Hne).1 (unhide Hne).2)
    obtain ⟨-, ⟨c0, c1⟩, fz, -⟩ := (unhide HS).1
    have f1 := fz 1
    clear fz hn2 HK HP
    go_upto_region 5 with fail
    try simp only [e9]
    clear c0 c1 f1 HS
    generalize w4.setCell ⟨rb, 1, none⟩ (.int .i64 (pn : Int)) = w5 at *
    go_wp2_with fail
    refine (unhide HNn w5 (unhide HS5).1).mono ?_
    rintro e w6 ⟨rfl, hr6, hk6⟩
    have HS6 := hide ((unhide HS5).but hk6 hr6 (unhide Hne).1 (unhide Hne).2)
    clear hr6 hk6 HS5
    have HC := hide (unhide HW w6 _ ce (unhide HS6).1)
    go_wp2_with fail
    refine (unhide HC).mono ?_
    rintro e w7 ⟨rfl, hb7⟩
    have HS7 := hide ((unhide HS6).keep hb7)
    clear hb7 HC HS6
    obtain ⟨U, hU, r1, r2, u0, u1, u2, u3⟩ := unhide Hfill w7 _ 0 0 ce (pn : Int) (unhide HS7)
    obtain ⟨-, -, ⟨⟨-, x0, x1⟩, fx⟩, ⟨⟨-, y0, y1⟩, fy⟩⟩ := unhide HS7
    have fx0 := fx 0
    have fx1 := fx 1
    have fy0 := fy 0
    have fy1 := fy 1
    have R1 := hide r1
    have R2 := hide r2
    clear r1 r2 fx fy
    go_wp2
    refine bodyPost_ret (v := .tuple #[.agg #[.int .i64 0, .int .i64 0], .agg #[.int .i64 ce, .int .i64 (pn : Int)]]) (by simp [results, Tryd.results39, go_sem, u0, u1, u2, u3]) rfl ?_
    rw [← unhide Hce, ← unhide Hpn]
    exact SpIs.mk (unhide R1) (unhide R2)
  · obtain ⟨hn1, hn2, -, -⟩ := signAt_range s p v1 n e1
    have hk := unhide Hk
    rw [col_some e1] at hk
    obtain ⟨rfl, rfl⟩ := Prod.mk.inj hk
    clear hk e1 Hk
    have d1 : ((n : Int) == (0 : Int)) = false := by simp; omega
    have Hn2 := hide hn2
    obtain ⟨pn, hpn⟩ : ∃ pn, pn = p + n := ⟨_, rfl⟩
    have e9 : (p : Int) + (n : Int) = (pn : Int) := by omega
    have g9 : pn ≤ 65536 := by omega
    have g8 : (1 : Int) ≤ (n : Int) := by omega
    have g7 : (n : Int) ≤ 65536 := by omega
    obtain ⟨nv, hnv⟩ : ∃ nv : Int, nv = ((num 0 (dgs s (p + n)) : Nat) : Int) := ⟨_, rfl⟩
    obtain ⟨qn, hqn⟩ : ∃ qn, qn = p + n + (dgs s (p + n)).length := ⟨_, rfl⟩
    have HNn := hide (fun V (h : Rdr W0 rb s pn V) => show Calls Tryd.prog 50 #[.pointer (some ⟨rb, 0, none⟩)] V (CtIs W0 rb s V nv 0 qn) from by
      have := unhide HN n V hn2 (hpn ▸ h)
      rw [if_pos e2, if_pos e2, e2] at this
      rw [hnv, hqn]
      exact this)
    have E2 := hide e2
    have Hpn := hide hpn
    clear e2 hpn
    have Hnv := hide hnv
    have Hqn := hide hqn
    clear hnv hqn
    have HP := hide (((unhide HS).1).put pn)
    have HK := hide (kset w4 rb 1 (.int .i64 (pn : Int)))
    have HS5 := hide ((unhide HS).but (unhide HK) (unhide HP) (unhide Hne).1 (unhide Hne).2)
    obtain ⟨-, ⟨c0, c1⟩, fz, -⟩ := (unhide HS).1
    have f1 := fz 1
    clear fz hn2 HK HP
    go_upto_region 5 with fail
    try simp only [e9]
    clear c0 c1 f1 HS
    generalize w4.setCell ⟨rb, 1, none⟩ (.int .i64 (pn : Int)) = w5 at *
    go_wp2_with fail
    refine (unhide HNn w5 (unhide HS5).1).mono ?_
    rintro e w6 ⟨rfl, hr6, hk6⟩
    have HS6 := hide ((unhide HS5).but hk6 hr6 (unhide Hne).1 (unhide Hne).2)
    clear hr6 hk6 HS5
    obtain ⟨U, hU, r1, r2, u0, u1, u2, u3⟩ := unhide Hfill w6 _ v1 nv 0 0 (unhide HS6)
    obtain ⟨-, -, ⟨⟨-, x0, x1⟩, fx⟩, ⟨⟨-, y0, y1⟩, fy⟩⟩ := unhide HS6
    have fx0 := fx 0
    have fx1 := fx 1
    have fy0 := fy 0
    have fy1 := fy 1
    have R1 := hide r1
    have R2 := hide r2
    clear r1 r2 fx fy
    go_wp2
    refine bodyPost_ret (v := .tuple #[.agg #[.int .i64 v1, .int .i64 nv], .agg #[.int .i64 0, .int .i64 0]]) (by simp [results, Tryd.results39, go_sem, u0, u1, u2, u3]) rfl ?_
    rw [← unhide Hnv, ← unhide Hqn]
    exact SpIs.mk (unhide R1) (unhide R2)
end Go.Proofs.YtbnjjkanokmakaaDoor
