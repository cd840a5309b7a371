/-
  Live.
-/
import Derived.Test.YtndfecdhmncdaaaWkE
namespace Go.Proofs.Ytndfecdhmncdaaa
open Go.RowKit

/-- what Live answers -/
def LivePost (W : World) (w : Nat) (f : Nat → Bool) (y : WSt) (e : Ending) (w' : World) : Prop :=
  ∃ q4 c4 xs, e = .returned (.agg #[.slice q4 y.2.2.2.2.2.1.length c4, .int .i64 y.1.1, .int .i64 y.1.2.1, .bool y.2.2.2.2.2.2]) ∧ w'.ownsRow W.heap.size 22 1 (.slice q4 y.2.2.2.2.2.1.length c4) y.2.2.2.2.2.1.length xs ∧ RL W.heap.size w' f w y.2.2.2.2.2.1 xs ∧ Below W.heap.size W w'
theorem info2 : (Try.prog.info? 2).map (fun i => (i.zero, i.size, i.bytes)) = some (some (.int .i64 0), 1, 8) := by kernel_rfl
theorem make2 (u : World) : (Instr.makeSlice 25 (.int .i64 2) (.int .i64 2)).run Try.prog u = .ok (.slice (some ⟨u.heap.size, 0, none⟩) 2 2) (u.alloc (.cells #[.int .i64 0, .int .i64 0] 2)) := by
  obtain ⟨i0, hi, hz0, hz1, hz2⟩ := info_parts info2
  have e : madeCells #[Value.int .i64 0] 2 = #[Value.int .i64 0, Value.int .i64 0] := Array.ext' (by rw [toList_madeCells_one]; rfl)
  have h := run_make (P := Try.prog) u 25 2 i0 (.int .i64 0) Try.underlying25 hi hz0 .i64 .i64 2 2 (by omega) (Int.le_refl _) (by rw [hz2]; omega) (by omega)
  simpa [hz1, Value.cells, e] using h
/-- what a Live answers, in its box -/
def R4 (W : World) (b : Nat) (q : Option Addr) (n c : Nat) (st : Int) (wv : Int) (bad : Bool) : Prop :=
  (b < W.heap.size ∧ Tg W b 42) ∧ (W.cell? ⟨b, 0, none⟩ = some (.slice q n c) ∧ W.cell? ⟨b, 1, none⟩ = some (.int .i64 st) ∧ W.cell? ⟨b, 2, none⟩ = some (.int .i64 wv) ∧ W.cell? ⟨b, 3, none⟩ = some (.bool bad)) ∧ (W.frozen? ⟨b, 0, none⟩ = false ∧ W.frozen? ⟨b, 1, none⟩ = false ∧ W.frozen? ⟨b, 2, none⟩ = false ∧ W.frozen? ⟨b, 3, none⟩ = false)
theorem R4.kept {S : Nat → Prop} {W V : World} {b : Nat} {q : Option Addr} {n c : Nat} {st wv : Int} {bad : Bool} (k : R4 W b q n c st wv bad) (e : Kept S W V) (hS : ¬ S b) : R4 V b q n c st wv bad := by
  obtain ⟨⟨l, t⟩, ⟨a0, a1, a2, a3⟩, b0, b1, b2, b3⟩ := k
  exact ⟨⟨Nat.lt_of_lt_of_le l e.size, t.kept e l hS⟩, ⟨e.cell l hS a0, e.cell l hS a1, e.cell l hS a2, e.cell l hS a3⟩, e.froz l hS b0, e.froz l hS b1, e.froz l hS b2, e.froz l hS b3⟩
theorem R4.keep {W V : World} {b : Nat} {q : Option Addr} {n c : Nat} {st wv : Int} {bad : Bool} (k : R4 W b q n c st wv bad) (e : Below W.heap.size W V) : R4 V b q n c st wv bad := k.kept (Kept.of (S := fun _ => False) e) id
theorem R4.new (W : World) : R4 (W.alloc (.cells #[.slice none 0 0, .int .i64 0, .int .i64 0, .bool false] 42)) W.heap.size none 0 0 0 0 false :=
  ⟨⟨by simp, Tg.new _ _ _⟩, ⟨by simp [go_sem], by simp [go_sem], by simp [go_sem], by simp [go_sem]⟩, by simp [go_sem], by simp [go_sem], by simp [go_sem], by simp [go_sem]⟩
theorem R4.s0 {W : World} {b : Nat} {q : Option Addr} {n c : Nat} {st wv : Int} {bad : Bool} (k : R4 W b q n c st wv bad) (q2 : Option Addr) (n2 c2 : Nat) : R4 (W.setCell ⟨b, 0, none⟩ (.slice q2 n2 c2)) b q2 n2 c2 st wv bad := by
  obtain ⟨⟨l, t⟩, ⟨a0, a1, a2, a3⟩, b0, b1, b2, b3⟩ := k
  exact ⟨⟨by simpa using l, t.set _ _⟩, ⟨csame a0, cset a1 (by decide), cset a2 (by decide), cset a3 (by decide)⟩, fset b0, fset b1, fset b2, fset b3⟩
theorem R4.s1 {W : World} {b : Nat} {q : Option Addr} {n c : Nat} {st wv : Int} {bad : Bool} (k : R4 W b q n c st wv bad) (x : Int) : R4 (W.setCell ⟨b, 1, none⟩ (.int .i64 x)) b q n c x wv bad := by
  obtain ⟨⟨l, t⟩, ⟨a0, a1, a2, a3⟩, b0, b1, b2, b3⟩ := k
  exact ⟨⟨by simpa using l, t.set _ _⟩, ⟨cset a0 (by decide), csame a1, cset a2 (by decide), cset a3 (by decide)⟩, fset b0, fset b1, fset b2, fset b3⟩
theorem R4.s2 {W : World} {b : Nat} {q : Option Addr} {n c : Nat} {st wv : Int} {bad : Bool} (k : R4 W b q n c st wv bad) (x : Int) : R4 (W.setCell ⟨b, 2, none⟩ (.int .i64 x)) b q n c st x bad := by
  obtain ⟨⟨l, t⟩, ⟨a0, a1, a2, a3⟩, b0, b1, b2, b3⟩ := k
  exact ⟨⟨by simpa using l, t.set _ _⟩, ⟨cset a0 (by decide), cset a1 (by decide), csame a2, cset a3 (by decide)⟩, fset b0, fset b1, fset b2, fset b3⟩
theorem R4.s3 {W : World} {b : Nat} {q : Option Addr} {n c : Nat} {st wv : Int} {bad : Bool} (k : R4 W b q n c st wv bad) (x : Bool) : R4 (W.setCell ⟨b, 3, none⟩ (.bool x)) b q n c st wv x := by
  obtain ⟨⟨l, t⟩, ⟨a0, a1, a2, a3⟩, b0, b1, b2, b3⟩ := k
  exact ⟨⟨by simpa using l, t.set _ _⟩, ⟨cset a0 (by decide), cset a1 (by decide), cset a2 (by decide), csame a3⟩, fset b0, fset b1, fset b2, fset b3⟩
theorem g18_0 {a0 a1 a2 a3 a4 a5 a6 a7 a8 a9 a10 a11 a12 a13 a14 a15 a16 a17 : Oper} : (#[a0, a1, a2, a3, a4, a5, a6, a7, a8, a9, a10, a11, a12, a13, a14, a15, a16, a17] : Array Oper)[0]? = some a0 := rfl
theorem g18_1 {a0 a1 a2 a3 a4 a5 a6 a7 a8 a9 a10 a11 a12 a13 a14 a15 a16 a17 : Oper} : (#[a0, a1, a2, a3, a4, a5, a6, a7, a8, a9, a10, a11, a12, a13, a14, a15, a16, a17] : Array Oper)[1]? = some a1 := rfl
theorem g18_2 {a0 a1 a2 a3 a4 a5 a6 a7 a8 a9 a10 a11 a12 a13 a14 a15 a16 a17 : Oper} : (#[a0, a1, a2, a3, a4, a5, a6, a7, a8, a9, a10, a11, a12, a13, a14, a15, a16, a17] : Array Oper)[2]? = some a2 := rfl
theorem g18_3 {a0 a1 a2 a3 a4 a5 a6 a7 a8 a9 a10 a11 a12 a13 a14 a15 a16 a17 : Oper} : (#[a0, a1, a2, a3, a4, a5, a6, a7, a8, a9, a10, a11, a12, a13, a14, a15, a16, a17] : Array Oper)[3]? = some a3 := rfl
theorem g18_4 {a0 a1 a2 a3 a4 a5 a6 a7 a8 a9 a10 a11 a12 a13 a14 a15 a16 a17 : Oper} : (#[a0, a1, a2, a3, a4, a5, a6, a7, a8, a9, a10, a11, a12, a13, a14, a15, a16, a17] : Array Oper)[4]? = some a4 := rfl
theorem g18_5 {a0 a1 a2 a3 a4 a5 a6 a7 a8 a9 a10 a11 a12 a13 a14 a15 a16 a17 : Oper} : (#[a0, a1, a2, a3, a4, a5, a6, a7, a8, a9, a10, a11, a12, a13, a14, a15, a16, a17] : Array Oper)[5]? = some a5 := rfl
theorem g18_6 {a0 a1 a2 a3 a4 a5 a6 a7 a8 a9 a10 a11 a12 a13 a14 a15 a16 a17 : Oper} : (#[a0, a1, a2, a3, a4, a5, a6, a7, a8, a9, a10, a11, a12, a13, a14, a15, a16, a17] : Array Oper)[6]? = some a6 := rfl
theorem g18_7 {a0 a1 a2 a3 a4 a5 a6 a7 a8 a9 a10 a11 a12 a13 a14 a15 a16 a17 : Oper} : (#[a0, a1, a2, a3, a4, a5, a6, a7, a8, a9, a10, a11, a12, a13, a14, a15, a16, a17] : Array Oper)[7]? = some a7 := rfl
theorem g18_8 {a0 a1 a2 a3 a4 a5 a6 a7 a8 a9 a10 a11 a12 a13 a14 a15 a16 a17 : Oper} : (#[a0, a1, a2, a3, a4, a5, a6, a7, a8, a9, a10, a11, a12, a13, a14, a15, a16, a17] : Array Oper)[8]? = some a8 := rfl
theorem g18_9 {a0 a1 a2 a3 a4 a5 a6 a7 a8 a9 a10 a11 a12 a13 a14 a15 a16 a17 : Oper} : (#[a0, a1, a2, a3, a4, a5, a6, a7, a8, a9, a10, a11, a12, a13, a14, a15, a16, a17] : Array Oper)[9]? = some a9 := rfl
theorem g18_10 {a0 a1 a2 a3 a4 a5 a6 a7 a8 a9 a10 a11 a12 a13 a14 a15 a16 a17 : Oper} : (#[a0, a1, a2, a3, a4, a5, a6, a7, a8, a9, a10, a11, a12, a13, a14, a15, a16, a17] : Array Oper)[10]? = some a10 := rfl
theorem g18_11 {a0 a1 a2 a3 a4 a5 a6 a7 a8 a9 a10 a11 a12 a13 a14 a15 a16 a17 : Oper} : (#[a0, a1, a2, a3, a4, a5, a6, a7, a8, a9, a10, a11, a12, a13, a14, a15, a16, a17] : Array Oper)[11]? = some a11 := rfl
theorem g18_12 {a0 a1 a2 a3 a4 a5 a6 a7 a8 a9 a10 a11 a12 a13 a14 a15 a16 a17 : Oper} : (#[a0, a1, a2, a3, a4, a5, a6, a7, a8, a9, a10, a11, a12, a13, a14, a15, a16, a17] : Array Oper)[12]? = some a12 := rfl
theorem g18_13 {a0 a1 a2 a3 a4 a5 a6 a7 a8 a9 a10 a11 a12 a13 a14 a15 a16 a17 : Oper} : (#[a0, a1, a2, a3, a4, a5, a6, a7, a8, a9, a10, a11, a12, a13, a14, a15, a16, a17] : Array Oper)[13]? = some a13 := rfl
theorem g18_14 {a0 a1 a2 a3 a4 a5 a6 a7 a8 a9 a10 a11 a12 a13 a14 a15 a16 a17 : Oper} : (#[a0, a1, a2, a3, a4, a5, a6, a7, a8, a9, a10, a11, a12, a13, a14, a15, a16, a17] : Array Oper)[14]? = some a14 := rfl
theorem g18_15 {a0 a1 a2 a3 a4 a5 a6 a7 a8 a9 a10 a11 a12 a13 a14 a15 a16 a17 : Oper} : (#[a0, a1, a2, a3, a4, a5, a6, a7, a8, a9, a10, a11, a12, a13, a14, a15, a16, a17] : Array Oper)[15]? = some a15 := rfl
theorem g18_16 {a0 a1 a2 a3 a4 a5 a6 a7 a8 a9 a10 a11 a12 a13 a14 a15 a16 a17 : Oper} : (#[a0, a1, a2, a3, a4, a5, a6, a7, a8, a9, a10, a11, a12, a13, a14, a15, a16, a17] : Array Oper)[16]? = some a16 := rfl
theorem g18_17 {a0 a1 a2 a3 a4 a5 a6 a7 a8 a9 a10 a11 a12 a13 a14 a15 a16 a17 : Oper} : (#[a0, a1, a2, a3, a4, a5, a6, a7, a8, a9, a10, a11, a12, a13, a14, a15, a16, a17] : Array Oper)[17]? = some a17 := rfl
theorem OwnM.kept {S : Nat → Prop} {W V : World} {b : Nat} {w h : Int} {p : Option Addr} {n cap : Nat} (k : OwnM W b w h p n cap) (e : Kept S W V) (hS : ¬ S b) : OwnM V b w h p n cap :=
  ⟨Nat.lt_of_lt_of_le k.1 e.size, e.cell k.1 hS k.2.1, e.cell k.1 hS k.2.2.1, e.cell k.1 hS k.2.2.2⟩
theorem DB.new (W : World) (q n cap : Nat) (lf : Int) : DB (W.alloc (.cells #[.slice (some ⟨q, 0, none⟩) n cap, .int .i64 lf, .bool false] 48)) W.heap.size q n cap lf :=
  ⟨by simp, by simp [go_sem], by simp [go_sem], by simp [go_sem], by simp [go_sem], Tg.new _ _ _⟩
theorem WR.new2 (W : World) : WR (W.alloc (.cells #[.int .i64 0, .int .i64 0] 2)) W.heap.size 2 (fun _ => 0) := by
  refine ⟨⟨by simp, Tg.new _ _ _⟩, fun j hj => ?_⟩
  match j, hj with
  | 0, _ => exact ⟨by simp [go_sem], by simp [go_sem]⟩
  | 1, _ => exact ⟨by simp [go_sem], by simp [go_sem]⟩
theorem Rt.below {W V : World} {w h : Nat} {p : Option Addr} {n cap : Nat} {f : Nat → Bool} (r : Rt W w h p n cap f) (hb : Below W.heap.size W V) : Rt V w h p n cap f := r.keep hb

set_option maxRecDepth 100000 in
set_option maxHeartbeats 8000000 in
theorem live_any {W : World} {w h : Nat} {p : Option Addr} {n cap : Nat} {f : Nat → Bool} (hm : Rt W w h p n cap f) (hn0 : 0 < n) {tq : Option Addr} {m tc : Nat} {T : Nat → Int} (hT : Is W tq m T) (hml : m ≤ maxLen) :
    Calls Try.prog 10 #[tr w h p n cap, .slice tq m tc] W fun e w' => LivePost W w f (liveS h ((List.range m).map T)) e w' := by
  unfold maxLen at hml
  obtain ⟨hw6, hh6, hnn, hBs⟩ := hm
  have hw0 : 0 < w := by rcases Nat.eq_zero_or_pos w with e | e; subst e; rw [Nat.zero_mul] at hnn; omega; exact e
  have hh0 : 0 < h := by rcases Nat.eq_zero_or_pos h with e | e; subst e; rw [Nat.mul_zero] at hnn; omega; exact e
  have Hnn := hide hnn
  have HRt0 := hide (show Rt W w h p n cap f from ⟨hw6, hh6, hnn, hBs⟩)
  have HT0 := hide hT
  have mk2 := make2
  -- the first blocks
  have B1 := bal (o := .cells #[.int .i64 w, .int .i64 h, .slice p n cap] 24) (Below.refl W.heap.size W)
  have O1 := OwnM.new W w h p n cap 24
  have B2 := bal (o := .cells #[.slice none 0 0, .int .i64 0, .int .i64 0, .bool false] 42) B1
  have R2 := R4.new (W.alloc (.cells #[.int .i64 w, .int .i64 h, .slice p n cap] 24))
  have B3 := bal (o := .cells #[.int .i64 0, .int .i64 0] 2) B2
  have Q3 := WR.new2 ((W.alloc (.cells #[.int .i64 w, .int .i64 h, .slice p n cap] 24)).alloc (.cells #[.slice none 0 0, .int .i64 0, .int .i64 0, .bool false] 42))
  have D4 := DB.new (((W.alloc (.cells #[.int .i64 w, .int .i64 h, .slice p n cap] 24)).alloc (.cells #[.slice none 0 0, .int .i64 0, .int .i64 0, .bool false] 42)).alloc (.cells #[.int .i64 0, .int .i64 0] 2)) (W.heap.size + 1 + 1) 2 2 (-1)
  have B4 := hide (bal (o := .cells #[.slice (some ⟨W.heap.size + 1 + 1, 0, none⟩) 2 2, .int .i64 (-1), .bool false] 48) B3)
  have one := fun (U : World) (oo : Obj) => bal (o := oo) (Below.refl U.heap.size U)
  have HO4 := hide (((O1.keep (one _ (.cells #[.slice none 0 0, .int .i64 0, .int .i64 0, .bool false] 42))).keep (one _ (.cells #[.int .i64 0, .int .i64 0] 2))).keep (one _ (.cells #[.slice (some ⟨W.heap.size + 1 + 1, 0, none⟩) 2 2, .int .i64 (-1), .bool false] 48)))
  have HR4 := hide ((R2.keep (one _ (.cells #[.int .i64 0, .int .i64 0] 2))).keep (one _ (.cells #[.slice (some ⟨W.heap.size + 1 + 1, 0, none⟩) 2 2, .int .i64 (-1), .bool false] 48)))
  have HQ4 := hide (Q3.keep (one _ (.cells #[.slice (some ⟨W.heap.size + 1 + 1, 0, none⟩) 2 2, .int .i64 (-1), .bool false] 48)))
  have HD4 := hide D4
  have Hsz := hide (show ((((W.alloc (.cells #[.int .i64 w, .int .i64 h, .slice p n cap] 24)).alloc (.cells #[.slice none 0 0, .int .i64 0, .int .i64 0, .bool false] 42)).alloc (.cells #[.int .i64 0, .int .i64 0] 2)).alloc (.cells #[.slice (some ⟨W.heap.size + 1 + 1, 0, none⟩) 2 2, .int .i64 (-1), .bool false] 48)).heap.size = W.heap.size + 1 + 1 + 1 + 1 by simp)
  simp only [World.size_alloc] at HO4 HR4 HQ4 HD4
  clear B1 O1 B2 R2 B3 Q3 D4 one hBs hnn hT
  unfold LivePost
  go_enter Try.func10, Try.ntmps10
  go_wp2_with fail
  generalize (((W.alloc (.cells #[.int .i64 w, .int .i64 h, .slice p n cap] 24)).alloc (.cells #[.slice none 0 0, .int .i64 0, .int .i64 0, .bool false] 42)).alloc (.cells #[.int .i64 0, .int .i64 0] 2)).alloc (.cells #[.slice (some ⟨W.heap.size + 1 + 1, 0, none⟩) 2 2, .int .i64 (-1), .bool false] 48) = w0 at *
  obtain ⟨bm, hbm⟩ : ∃ b, b = W.heap.size := ⟨_, rfl⟩
  rw [← hbm] at HO4 HR4 HQ4 HD4 Hsz
  rw [← hbm]
  have Hbm := hide hbm
  clear hbm
  obtain ⟨br, hbr⟩ : ∃ b, b = bm + 1 := ⟨_, rfl⟩
  rw [← hbr] at HR4 HQ4 HD4 Hsz
  rw [← hbr]
  obtain ⟨q, hq⟩ : ∃ b, b = br + 1 := ⟨_, rfl⟩
  rw [← hq] at HQ4 HD4 Hsz
  rw [← hq]
  obtain ⟨D, hD⟩ : ∃ b, b = q + 1 := ⟨_, rfl⟩
  rw [← hD] at HD4 Hsz
  rw [← hD]
  have Hlt := hide (show bm < br ∧ br < q ∧ q < D ∧ w0.heap.size = D + 1 ∧ bm = W.heap.size ∧ q = bm + 2 from ⟨by omega, by omega, by omega, unhide Hsz, unhide Hbm, by omega⟩)
  clear hbr hq hD Hsz
  have HOp := hide (open_ok (unhide HD4) (unhide HQ4) ((unhide HRt0).keep (unhide B4)) (Nat.le_refl 2) hn0)
  unfold OpenOk at HOp
  refine (unhide HOp).mono ?_
  rintro e w1 ⟨L, p1, c1, rfl, hl1, ho1, hL1, hb1⟩
  have hO1 := (unhide HO4).keep hb1
  have hR1 := (unhide HR4).keep hb1
  have hD1 := (unhide HD4).keep hb1
  have hQ1 := (unhide HQ4).keep hb1
  have hB1 := btrans (unhide B4) hb1
  have hsz1 : D + 1 ≤ w1.heap.size := by have := (unhide Hlt).2.2.2.1; have := hb1.size; omega
  -- the answer's box, the workshop's box
  have one := fun (U : World) (oo : Obj) => bal (o := oo) (Below.refl U.heap.size U)
  obtain ⟨c8, hc8⟩ : ∃ c8, c8 = Obj.cells #[.slice none 0 0, .int .i64 0, .int .i64 0, .bool false] 42 := ⟨_, rfl⟩
  obtain ⟨c9, hc9⟩ : ∃ c9, c9 = Obj.cells #[.pointer (some ⟨L, 0, none⟩), .int .i64 0, .bool false, .bool false, .slice none 0 0, .slice none 0 0, .bool false] 68 := ⟨_, rfl⟩
  have e8 := one w1 c8
  have e9 := one (w1.alloc c8) c9
  have HOm := hide ((hO1.keep e8).keep e9)
  have HRr := hide ((hR1.keep e8).keep e9)
  have HRo := hide (show R4 ((w1.alloc c8).alloc c9) w1.heap.size none 0 0 0 0 false from by rw [hc8]; exact (R4.new w1).keep (by rw [hc8] at e9; exact e9))
  have HBS := hide (show Below W.heap.size W ((w1.alloc c8).alloc c9) from bal (bal hB1))
  have hS9 : SB ((w1.alloc c8).alloc c9) (w1.alloc c8).heap.size L 0 false false none 0 0 none 0 0 false := by rw [hc9]; exact SB.new _ L 0 false false none 0 0 none 0 0 false
  have hM9 : LM ((w1.alloc c8).alloc c9) L w h p1 n c1 D q 2 2 (openS h (fun _ => 0) (-1)) := (show LM w1 L w h p1 n c1 D q 2 2 (openS h (fun _ => 0) (-1)) from ⟨hl1, hD1, hQ1⟩).keep (btrans e8 e9)
  have HW9 := hide (show WF q ((w1.alloc c8).alloc c9) (w1.alloc c8).heap.size L D q w h n f p1 c1 (liveS h []) from
    ⟨none, 0, 0, none, 0, 0, [], hS9, hM9, World.ownsRow_nil _ _ _ _, rfl, World.ownsRow_nil _ _ _ _, ⟨rfl, fun j o hj => by simp [liveS, beginS] at hj⟩, own_keep (own_keep (own_le ho1 (by have := unhide Hlt; omega)) e8) e9⟩)
  have Hat := hide (show At4 q (w1.alloc c8).heap.size L D q from ⟨by have := unhide Hlt; simp; omega, by have := unhide Hlt; omega, by have := unhide Hlt; omega, Nat.le_refl _⟩)
  have hBS : q ≤ ((w1.alloc c8).alloc c9).heap.size := by have := unhide Hlt; simp; omega
  have Hso := hide (show q ≤ w1.heap.size by have := unhide Hlt; omega)
  simp only [World.size_alloc] at HW9 Hat
  rw [hc8, hc9] at HOm HRr HRo HBS HW9 hBS
  clear hS9 hM9 hO1 hR1 hD1 hQ1 hB1 hsz1 one e8 e9 hc8 hc9 c8 c9 hl1 ho1 hL1 hb1 HOp HO4 HR4 HQ4 HD4 B4
  go_upto_region 7 with fail
  generalize (w1.alloc (.cells #[.slice none 0 0, .int .i64 0, .int .i64 0, .bool false] 42)).alloc (.cells #[.pointer (some ⟨L, 0, none⟩), .int .i64 0, .bool false, .bool false, .slice none 0 0, .slice none 0 0, .bool false] 68) = wS at *
  obtain ⟨o8, ho8⟩ : ∃ b, b = w1.heap.size := ⟨_, rfl⟩
  rw [← ho8] at HW9 Hat HRo Hso
  rw [← ho8]
  obtain ⟨S, hS⟩ : ∃ b, b = o8 + 1 := ⟨_, rfl⟩
  rw [← hS] at HW9 Hat
  rw [← hS]
  clear hS ho8
  have Hback := hide (fun V (k : KB q wS V) => (Kept.back (unhide HBS) k (unhide HBS).size (fun i e => by have := e.1; have := unhide Hlt; omega) : Below W.heap.size W V))
  go_wp2
  go_loopw [33] (fun i wr => ∃ (k L : Nat) (p1 : Option Addr) (c1 : Nat), k ≤ m ∧ i = .int .i64 k ∧ WF q wr S L D q w h n f p1 c1 (liveS h ((List.range k).map T)) ∧ q ≤ L ∧ KB q wS wr) (fun i _ => m - (intOf i).toNat)
  case atStart => exact ⟨0, L, p1, c1, Nat.zero_le _, rfl, unhide HW9, (unhide Hat).2.1, KB.refl _ _⟩
  case round =>
    obtain ⟨hSq, -, hDq, -⟩ := unhide Hat
    clear HW9 Hat
    obtain ⟨k, L, p1, c1, hk, rfl, hW, hLq, hKB⟩ := hrel
    have a : At4 q S L D q := ⟨hSq, hLq, hDq, Nat.le_refl _⟩
    have hBr : q ≤ wr.heap.size := Nat.le_trans hBS hKB.size
    by_cases hlt : k < m
    · obtain ⟨tb, tof, htq, -, htc⟩ := ((unhide HT0).keep (unhide Hback _ hKB)).at hlt
      subst htq
      have hI := inv_live hh0 ((List.range k).map T)
      have Hnx := hide (show liveS h ((List.range (k + 1)).map T) = turnS h (T k) (liveS h ((List.range k).map T)) by rw [List.range_succ, List.map_append, List.map_singleton, liveS_snoc])
      generalize liveS h ((List.range k).map T) = x at *
      generalize T k = t at *
      have hbd := inv_bounds hI
      have HI := hide hI
      have HW := hide hW
      have HK := hide hKB
      clear hI hW hKB
      obtain ⟨⟨st, wv, sp, dd, g, lf⟩, td, up, th, ro, rs, bad⟩ := x
      dsimp only at hbd
      have q0 : (k : Int) < (m : Int) := by omega
      have q1 : (0 : Int) ≤ (k : Int) := by omega
      obtain ⟨rq, rn, rc, tq2, tn, tc2, htn, kS⟩ := (unhide HW).cells
      obtain ⟨-, ⟨a0, a1, a2, a3, a4, a5, a6⟩, b0', b1, b2, b3, b4, b5, b6⟩ := kS
      clear htn
      rcases Classical.em (t = 1) with rfl | h1
      · have P3 := hide ((unhide HW).power a 0)
        obtain ⟨-, d0, d1, d2, d3, -⟩ := (unhide HW).disk.1
        go_wp2
        go_roundw
        case rel =>
          refine ⟨k + 1, L, p1, c1, by omega, by go_num, ?_, hLq, (unhide HK).trans (unhide P3).2⟩
          rw [unhide Hnx]
          rw [show turnS h 1 ((st, wv, sp, dd, g, lf), td, up, th, ro, rs, bad) = ((st, wv, sp, dd, g, 0), td, up, th, ro, rs, bad) from by simp [turnS]]
          exact (unhide P3).1
        case measure => simp [intOf]; omega
      rcases Classical.em (t = 2) with rfl | h2
      · clear h1
        rcases Classical.em (td = 3) with rfl | htd
        · have HBt := hide (beat_wf (unhide HW) a hBr (by omega))
          unfold BeatIs at HBt
          go_wp2_with fail
          refine (unhide HBt).mono ?_
          rintro e w2 ⟨rfl, hW2, hK2⟩
          have HW2 := hide hW2
          have HK2 := hide ((unhide HK).trans hK2)
          clear hW2 hK2
          clear a0 a1 a2 a3 a4 a5 a6 b0' b1 b2 b3 b4 b5 b6
          obtain ⟨rq, rn, rc, tq2, tn, tc2, htn, kS⟩ := (unhide HW2).cells
          obtain ⟨-, ⟨a0, a1, a2, a3, a4, a5, a6⟩, b0', b1, b2, b3, b4, b5, b6⟩ := kS
          clear htn
          have P3 := hide ((unhide HW2).power a (-1))
          obtain ⟨-, d0, d1, d2, d3, -⟩ := (unhide HW2).disk.1
          go_upto_region 19 with fail
          have Q3 := hide ((unhide HK2).trans (unhide P3).2)
          obtain ⟨w3, hw3⟩ : ∃ w3, w3 = w2.setCell ⟨D, 1, none⟩ (.int .i64 (-1)) := ⟨_, rfl⟩
          rw [← hw3] at P3 Q3
          rw [← hw3]
          clear hw3 d0 d1 d2 d3
          have hB3 : q ≤ w3.heap.size := Nat.le_trans hBS (unhide Q3).size
          have HOp := hide (open_ok (unhide P3).1.disk.1 (unhide P3).1.disk.2 ((unhide HRt0).keep (unhide Hback _ (unhide Q3))) (Nat.le_refl 2) hn0)
          obtain ⟨o0, o1, o2, o3⟩ := (unhide HOm).kept (unhide Q3) (fun e => by have := e.1; have := unhide Hlt; omega)
          unfold OpenOk at HOp
          clear a0 a1 a2 a3 a4 a5 a6 b0' b1 b2 b3 b4 b5 b6
          go_wp2_with fail
          refine (unhide HOp).mono ?_
          rintro e w4 ⟨L2, p2, c2, rfl, hl2, ho2, hL2, hb4⟩
          have P4 := hide ((unhide P3).1.keep hb4)
          have P5 := hide ((unhide P4).loom a hl2 (own_le ho2 hB3))
          have aa : At4 q S L2 D q := ⟨a.1, Nat.le_trans hB3 hL2, a.2.2.1, a.2.2.2⟩
          have P6 := hide ((unhide P5).1.todo aa 0)
          have P7 := hide ((unhide P6).1.up aa false)
          have P8 := hide ((unhide P7).1.thr aa false)
          have Q8 := hide ((((((unhide Q3).trans (KB.keep hb4)).trans (unhide P5).2).trans (unhide P6).2).trans (unhide P7).2).trans (unhide P8).2)
          clear hl2 ho2 hL2 hb4 o0 o1 o2 o3 HOp P5 P6 P7 P3 Q3
          obtain ⟨rq, rn, rc, tq2, tn, tc2, htn, kS⟩ := (unhide P4).cells
          obtain ⟨-, ⟨a0, a1, a2, a3, a4, a5, a6⟩, b0', b1, b2, b3, b4, b5, b6⟩ := kS
          clear htn
          go_wp2
          go_roundw
          case rel =>
            refine ⟨k + 1, L2, p2, c2, by omega, by go_num, ?_, aa.2.1, unhide Q8⟩
            rw [unhide Hnx]
            rw [show turnS h 2 ((st, wv, sp, dd, g, lf), 3, up, th, ro, rs, bad) = (openS h g (-1), 0, false, false, ro, rs ++ [ro], bad) from by simp [turnS]]
            exact (unhide P8).1
          case measure => simp [intOf]; omega
        · have htd2 : (td == 3) = false := by simpa using htd
          have Htd := hide htd
          clear htd
          have P3 := hide ((unhide HW).power a (-1))
          obtain ⟨-, d0, d1, d2, d3, -⟩ := (unhide HW).disk.1
          go_upto_region 19 with fail
          have Q3 := hide ((unhide HK).trans (unhide P3).2)
          obtain ⟨w3, hw3⟩ : ∃ w3, w3 = wr.setCell ⟨D, 1, none⟩ (.int .i64 (-1)) := ⟨_, rfl⟩
          rw [← hw3] at P3 Q3
          rw [← hw3]
          clear hw3 d0 d1 d2 d3
          have hB3 : q ≤ w3.heap.size := Nat.le_trans hBS (unhide Q3).size
          have HOp := hide (open_ok (unhide P3).1.disk.1 (unhide P3).1.disk.2 ((unhide HRt0).keep (unhide Hback _ (unhide Q3))) (Nat.le_refl 2) hn0)
          obtain ⟨o0, o1, o2, o3⟩ := (unhide HOm).kept (unhide Q3) (fun e => by have := e.1; have := unhide Hlt; omega)
          unfold OpenOk at HOp
          clear a0 a1 a2 a3 a4 a5 a6 b0' b1 b2 b3 b4 b5 b6
          go_wp2_with fail
          refine (unhide HOp).mono ?_
          rintro e w4 ⟨L2, p2, c2, rfl, hl2, ho2, hL2, hb4⟩
          have P4 := hide ((unhide P3).1.keep hb4)
          have P5 := hide ((unhide P4).loom a hl2 (own_le ho2 hB3))
          have aa : At4 q S L2 D q := ⟨a.1, Nat.le_trans hB3 hL2, a.2.2.1, a.2.2.2⟩
          have P6 := hide ((unhide P5).1.todo aa 0)
          have P7 := hide ((unhide P6).1.up aa false)
          have P8 := hide ((unhide P7).1.thr aa false)
          have Q8 := hide ((((((unhide Q3).trans (KB.keep hb4)).trans (unhide P5).2).trans (unhide P6).2).trans (unhide P7).2).trans (unhide P8).2)
          clear hl2 ho2 hL2 hb4 o0 o1 o2 o3 HOp P5 P6 P7 P3 Q3
          obtain ⟨rq, rn, rc, tq2, tn, tc2, htn, kS⟩ := (unhide P4).cells
          obtain ⟨-, ⟨a0, a1, a2, a3, a4, a5, a6⟩, b0', b1, b2, b3, b4, b5, b6⟩ := kS
          clear htn
          go_wp2
          go_roundw
          case rel =>
            refine ⟨k + 1, L2, p2, c2, by omega, by go_num, ?_, aa.2.1, unhide Q8⟩
            rw [unhide Hnx]
            rw [show turnS h 2 ((st, wv, sp, dd, g, lf), td, up, th, ro, rs, bad) = (openS h g (-1), 0, false, false, ro, rs, bad) from by simp [turnS, unhide Htd]]
            exact (unhide P8).1
          case measure => simp [intOf]; omega
      rcases Classical.em (t = 3) with rfl | h3
      · clear h1 h2
        rcases Classical.em (td = 3) with rfl | htd
        · have P3 := hide ((unhide HW).power a (-1))
          obtain ⟨-, d0, d1, d2, d3, -⟩ := (unhide HW).disk.1
          go_upto_region 19 with fail
          have Q3 := hide ((unhide HK).trans (unhide P3).2)
          obtain ⟨w3, hw3⟩ : ∃ w3, w3 = wr.setCell ⟨D, 1, none⟩ (.int .i64 (-1)) := ⟨_, rfl⟩
          rw [← hw3] at P3 Q3
          rw [← hw3]
          clear hw3 d0 d1 d2 d3
          have hB3 : q ≤ w3.heap.size := Nat.le_trans hBS (unhide Q3).size
          have HOp := hide (open_ok (unhide P3).1.disk.1 (unhide P3).1.disk.2 ((unhide HRt0).keep (unhide Hback _ (unhide Q3))) (Nat.le_refl 2) hn0)
          obtain ⟨o0, o1, o2, o3⟩ := (unhide HOm).kept (unhide Q3) (fun e => by have := e.1; have := unhide Hlt; omega)
          unfold OpenOk at HOp
          clear a0 a1 a2 a3 a4 a5 a6 b0' b1 b2 b3 b4 b5 b6
          go_wp2_with fail
          refine (unhide HOp).mono ?_
          rintro e w4 ⟨L2, p2, c2, rfl, hl2, ho2, hL2, hb4⟩
          have P4 := hide ((unhide P3).1.keep hb4)
          have P5 := hide ((unhide P4).loom a hl2 (own_le ho2 hB3))
          have aa : At4 q S L2 D q := ⟨a.1, Nat.le_trans hB3 hL2, a.2.2.1, a.2.2.2⟩
          have P6 := hide ((unhide P5).1.todo aa 0)
          have P7 := hide ((unhide P6).1.up aa false)
          have P8 := hide ((unhide P7).1.thr aa false)
          have Q8 := hide ((((((unhide Q3).trans (KB.keep hb4)).trans (unhide P5).2).trans (unhide P6).2).trans (unhide P7).2).trans (unhide P8).2)
          clear hl2 ho2 hL2 hb4 o0 o1 o2 o3 HOp P5 P6 P7 P3 Q3
          obtain ⟨rq, rn, rc, tq2, tn, tc2, htn, kS⟩ := (unhide P4).cells
          obtain ⟨-, ⟨a0, a1, a2, a3, a4, a5, a6⟩, b0', b1, b2, b3, b4, b5, b6⟩ := kS
          clear htn
          go_wp2
          go_roundw
          case rel =>
            refine ⟨k + 1, L2, p2, c2, by omega, by go_num, ?_, aa.2.1, unhide Q8⟩
            rw [unhide Hnx]
            rw [show turnS h 3 ((st, wv, sp, dd, g, lf), 3, up, th, ro, rs, bad) = (openS h g (-1), 0, false, false, ro, rs, bad) from by simp [turnS]]
            exact (unhide P8).1
          case measure => simp [intOf]; omega
        · have htd2 : (td == 3) = false := by simpa using htd
          have Htd := hide htd
          clear htd
          have P3 := hide ((unhide HW).power a (-1))
          obtain ⟨-, d0, d1, d2, d3, -⟩ := (unhide HW).disk.1
          go_upto_region 19 with fail
          have Q3 := hide ((unhide HK).trans (unhide P3).2)
          obtain ⟨w3, hw3⟩ : ∃ w3, w3 = wr.setCell ⟨D, 1, none⟩ (.int .i64 (-1)) := ⟨_, rfl⟩
          rw [← hw3] at P3 Q3
          rw [← hw3]
          clear hw3 d0 d1 d2 d3
          have hB3 : q ≤ w3.heap.size := Nat.le_trans hBS (unhide Q3).size
          have HOp := hide (open_ok (unhide P3).1.disk.1 (unhide P3).1.disk.2 ((unhide HRt0).keep (unhide Hback _ (unhide Q3))) (Nat.le_refl 2) hn0)
          obtain ⟨o0, o1, o2, o3⟩ := (unhide HOm).kept (unhide Q3) (fun e => by have := e.1; have := unhide Hlt; omega)
          unfold OpenOk at HOp
          clear a0 a1 a2 a3 a4 a5 a6 b0' b1 b2 b3 b4 b5 b6
          go_wp2_with fail
          refine (unhide HOp).mono ?_
          rintro e w4 ⟨L2, p2, c2, rfl, hl2, ho2, hL2, hb4⟩
          have P4 := hide ((unhide P3).1.keep hb4)
          have P5 := hide ((unhide P4).loom a hl2 (own_le ho2 hB3))
          have aa : At4 q S L2 D q := ⟨a.1, Nat.le_trans hB3 hL2, a.2.2.1, a.2.2.2⟩
          have P6 := hide ((unhide P5).1.todo aa 0)
          have P7 := hide ((unhide P6).1.up aa false)
          have P8 := hide ((unhide P7).1.thr aa false)
          have Q8 := hide ((((((unhide Q3).trans (KB.keep hb4)).trans (unhide P5).2).trans (unhide P6).2).trans (unhide P7).2).trans (unhide P8).2)
          clear hl2 ho2 hL2 hb4 o0 o1 o2 o3 HOp P5 P6 P7 P3 Q3
          obtain ⟨rq, rn, rc, tq2, tn, tc2, htn, kS⟩ := (unhide P4).cells
          obtain ⟨-, ⟨a0, a1, a2, a3, a4, a5, a6⟩, b0', b1, b2, b3, b4, b5, b6⟩ := kS
          clear htn
          go_wp2
          go_roundw
          case rel =>
            refine ⟨k + 1, L2, p2, c2, by omega, by go_num, ?_, aa.2.1, unhide Q8⟩
            rw [unhide Hnx]
            rw [show turnS h 3 ((st, wv, sp, dd, g, lf), td, up, th, ro, rs, bad) = (openS h g (-1), 0, false, false, ro, rs, bad) from by simp [turnS]]
            exact (unhide P8).1
          case measure => simp [intOf]; omega
      rcases Classical.em (t = 4) with rfl | h4
      · clear h1 h2 h3
        have HT := hide (tell_any 4 (unhide HW) a (by dsimp only; omega) (by dsimp only; omega))
        unfold TellIs at HT
        go_wp2_with fail
        refine (unhide HT).mono ?_
        rintro e w2 ⟨rfl, hW2, hK2⟩
        have HW2 := hide hW2
        have HK2 := hide ((unhide HK).trans hK2)
        clear hW2 hK2
        go_wp2
        go_roundw
        case rel =>
          refine ⟨k + 1, L, p1, c1, by omega, by go_num, ?_, hLq, unhide HK2⟩
          rw [unhide Hnx]
          rw [show turnS h 4 ((st, wv, sp, dd, g, lf), td, up, th, ro, rs, bad) = tellS h 4 ((st, wv, sp, dd, g, lf), td, up, th, ro, rs, bad) from by simp [turnS]]
          exact unhide HW2
        case measure => simp [intOf]; omega
      rcases Classical.em (t = 5) with rfl | h5
      · clear h1 h2 h3 h4
        have HT := hide (tell_any 7 (unhide HW) a (by dsimp only; omega) (by dsimp only; omega))
        unfold TellIs at HT
        go_wp2_with fail
        refine (unhide HT).mono ?_
        rintro e w2 ⟨rfl, hW2, hK2⟩
        have HW2 := hide hW2
        have HK2 := hide ((unhide HK).trans hK2)
        clear hW2 hK2
        go_wp2
        go_roundw
        case rel =>
          refine ⟨k + 1, L, p1, c1, by omega, by go_num, ?_, hLq, unhide HK2⟩
          rw [unhide Hnx]
          rw [show turnS h 5 ((st, wv, sp, dd, g, lf), td, up, th, ro, rs, bad) = tellS h 7 ((st, wv, sp, dd, g, lf), td, up, th, ro, rs, bad) from by simp [turnS]]
          exact unhide HW2
        case measure => simp [intOf]; omega
      have Heq := hide (show turnS h t ((st, wv, sp, dd, g, lf), td, up, th, ro, rs, bad) = nextS h ((st, wv, sp, dd, g, lf), td, up, th, ro, rs, bad) from by simp [turnS, h1, h2, h3, h4, h5])
      have g1 : (t == 1) = false := by simpa using h1
      have g2 : (t == 2) = false := by simpa using h2
      have g3 : (t == 3) = false := by simpa using h3
      have g4 : (t == 4) = false := by simpa using h4
      have g5 : (t == 5) = false := by simpa using h5
      clear h1 h2 h3 h4 h5
      have HT := hide (next_any (unhide HW) a hBr (unhide Hnn) hw6 hh6 hw0 (unhide HI))
      unfold NextIs at HT
      go_wp2_with fail
      refine (unhide HT).mono ?_
      rintro e w2 ⟨rfl, hW2, hK2⟩
      have HW2 := hide hW2
      have HK2 := hide ((unhide HK).trans hK2)
      clear hW2 hK2
      go_wp2
      go_roundw
      case rel =>
        refine ⟨k + 1, L, p1, c1, by omega, by go_num, ?_, hLq, unhide HK2⟩
        rw [unhide Hnx]
        rw [unhide Heq]
        exact unhide HW2
      case measure => simp [intOf]; omega
    · obtain rfl : k = m := by omega
      have cl : ¬ ((k : Int) < (k : Int)) := by omega
      have HBx := hide (unhide Hback _ hKB)
      obtain ⟨rq, rn, rc, tq2, tn, tc2, xs, kS, mS, r1, r2, r3, r4, r5⟩ := hW
      have HLb := hide mS.1
      have HR3 := hide r3
      have HR4' := hide r4
      have Hr2 := hide r2
      have HRr2 := hide ((unhide HRr).kept hKB (fun e => by have := e.1; have := unhide Hlt; omega))
      have HRo2 := hide ((unhide HRo).kept hKB (fun e => mt_not (unhide HRo).1.2 (by decide) (by decide) (by decide) (by decide) (by decide) e.2))
      obtain ⟨y, hy⟩ : ∃ y, y = liveS h ((List.range k).map T) := ⟨_, rfl⟩
      rw [← hy] at kS mS r2 HLb HR4' Hr2
      have Hy := hide hy
      clear hy
      obtain ⟨⟨st, wv, sp, dd, g, lf⟩, td, up, th, ro, rs, bad⟩ := y
      dsimp only at kS mS r2 HLb HR4' Hr2
      have hLo : L ≠ o8 := mS.1.1.2.ne (unhide HRo2).1.2 (by decide)
      have hSo : S ≠ o8 := kS.1.2.ne (unhide HRo2).1.2 (by decide)
      have Hld := hide (fun V (hV : Kept (fun i => i = o8) wr V) => ((kS.kept hV hSo).2.1 : _))
      have HLV := hide (fun V (hV : Kept (fun i => i = o8) wr V) => state_any ((unhide HLb).kept hV hLo))
      have HLW := hide (fun V (hV : Kept (fun i => i = o8) wr V) => woven_any ((unhide HLb).kept hV hLo))
      have hR := unhide HRo2
      have hS0 := Kept.refl (fun i => i = o8) wr
      have hSd : Kept (fun i => i = o8) wr wr.drew := (Kept.refl _ _).below (bdrew _)
      have Hbro := hide (show br ≠ o8 by have := unhide Hlt; have := unhide Hso; omega)
      have HTo := hide (unhide HRo2).1.2
      clear mS r1 r2 r3 r4 r5 hKB kS
      go_wp2_with fail
      refine wp_region_noPanic ?_
      refine wp_region_held_drew (S := fun V => Kept (fun i => i = o8) wr V) (by kernel_rfl) hSd ?_
      intro _
      refine wpAnyH_take (i := 0) (oi := _) (v := .pointer (some ⟨S, 5, none⟩)) g18_0 (by kernel_rfl) (by kernel_rfl) (by kernel_rfl) (fun _ _ _ h => h) (Or.inl ⟨by rfl, ?_⟩) (by assumption) ?_
      · intro V hSw
        try dsimp only at hSw
        go_simp
      simp only [Act.put, List.setIfInBounds_toArray, List.set_cons_zero, List.set_cons_succ]
      refine wpAnyH_take (i := 1) (oi := _) (v := .slice tq2 tn tc2) g18_1 (by kernel_rfl) (by kernel_rfl) (by kernel_rfl) (fun _ _ _ h => h) (Or.inl ⟨by rfl, ?_⟩) (by assumption) ?_
      · intro V hSw
        try dsimp only at hSw
        have hl := unhide Hld V hSw
        go_simp
      simp only [Act.put, List.setIfInBounds_toArray, List.set_cons_zero, List.set_cons_succ]
      refine wpAnyH_take (i := 2) (oi := _) (v := .pointer (some ⟨S, 6, none⟩)) g18_2 (by kernel_rfl) (by kernel_rfl) (by kernel_rfl) (fun _ _ _ h => h) (Or.inl ⟨by rfl, ?_⟩) (by assumption) ?_
      · intro V hSw
        try dsimp only at hSw
        go_simp
      simp only [Act.put, List.setIfInBounds_toArray, List.set_cons_zero, List.set_cons_succ]
      refine wpAnyH_take (i := 3) (oi := _) (v := .bool bad) g18_3 (by kernel_rfl) (by kernel_rfl) (by kernel_rfl) (fun _ _ _ h => h) (Or.inl ⟨by rfl, ?_⟩) (by assumption) ?_
      · intro V hSw
        try dsimp only at hSw
        have hl := unhide Hld V hSw
        go_simp
      simp only [Act.put, List.setIfInBounds_toArray, List.set_cons_zero, List.set_cons_succ]
      refine wpAnyH_take (i := 4) (oi := _) (v := .pointer (some ⟨S, 0, none⟩)) g18_4 (by kernel_rfl) (by kernel_rfl) (by kernel_rfl) (fun _ _ _ h => h) (Or.inl ⟨by rfl, ?_⟩) (by assumption) ?_
      · intro V hSw
        try dsimp only at hSw
        go_simp
      simp only [Act.put, List.setIfInBounds_toArray, List.set_cons_zero, List.set_cons_succ]
      refine wpAnyH_take (i := 5) (oi := _) (v := .pointer (some ⟨L, 0, none⟩)) g18_5 (by kernel_rfl) (by kernel_rfl) (by kernel_rfl) (fun _ _ _ h => h) (Or.inl ⟨by rfl, ?_⟩) (by assumption) ?_
      · intro V hSw
        try dsimp only at hSw
        have hl := unhide Hld V hSw
        go_simp
      simp only [Act.put, List.setIfInBounds_toArray, List.set_cons_zero, List.set_cons_succ]
      refine wpAnyH_take (i := 7) (oi := _) (v := .pointer (some ⟨S, 0, none⟩)) g18_7 (by kernel_rfl) (by kernel_rfl) (by kernel_rfl) (fun _ _ _ h => h) (Or.inl ⟨by rfl, ?_⟩) (by assumption) ?_
      · intro V hSw
        try dsimp only at hSw
        go_simp
      simp only [Act.put, List.setIfInBounds_toArray, List.set_cons_zero, List.set_cons_succ]
      refine wpAnyH_take (i := 8) (oi := _) (v := .pointer (some ⟨L, 0, none⟩)) g18_8 (by kernel_rfl) (by kernel_rfl) (by kernel_rfl) (fun _ _ _ h => h) (Or.inl ⟨by rfl, ?_⟩) (by assumption) ?_
      · intro V hSw
        try dsimp only at hSw
        have hl := unhide Hld V hSw
        go_simp
      simp only [Act.put, List.setIfInBounds_toArray, List.set_cons_zero, List.set_cons_succ]
      refine wpAnyH_take (i := 10) (oi := _) (v := .pointer (some ⟨o8, 0, none⟩)) g18_10 (by kernel_rfl) (by kernel_rfl) (by kernel_rfl) (fun _ _ _ h => h) (Or.inl ⟨by rfl, ?_⟩) (by assumption) ?_
      · intro V hSw
        try dsimp only at hSw
        go_simp
      simp only [Act.put, List.setIfInBounds_toArray, List.set_cons_zero, List.set_cons_succ]
      refine wpAnyH_ready (rs := [6]) (by kernel_rfl) (by simp) ?_
      refine AllReadyH.cons (o := _) g18_6 (fun K hK => ?_) AllReadyH.nil
      go_simp
      refine (unhide HLV _ hSd).mono ?_
      rintro e w6 ⟨rfl, hw6⟩
      subst hw6
      refine hK.out _ _ hSd (fun _ => ?_)
      clear hK K
      refine wpAnyH_ready (rs := [9]) (by kernel_rfl) (by simp) ?_
      refine AllReadyH.cons (o := _) g18_9 (fun K hK => ?_) AllReadyH.nil
      go_simp
      refine (unhide HLW _ hSd).mono ?_
      rintro e w9 ⟨rfl, hw9⟩
      subst hw9
      refine hK.out _ _ hSd (fun _ => ?_)
      clear hK K
      refine wpAnyH_ready (rs := [11]) (by kernel_rfl) (by simp) ?_
      refine AllReadyH.cons (o := _) g18_11 (fun K hK => ?_) AllReadyH.nil
      have d11 := hR.2.1.1
      have f11 := hR.2.2.1
      go_simp
      have R11 := hR.s0 tq2 tn tc2
      have S11 := hS0.set (b := o8) 0 (.slice tq2 tn tc2) (.inl rfl)
      have hSd11 := S11.below (bdrew _)
      refine hK.out _ _ hSd11 (fun _ => ?_)
      clear hK K d11 f11 hS0 hR
      refine wpAnyH_take (i := 12) (oi := _) (v := .pointer (some ⟨o8, 3, none⟩)) g18_12 (by kernel_rfl) (by kernel_rfl) (by kernel_rfl) (fun _ _ _ h => h) (Or.inl ⟨by rfl, ?_⟩) (by assumption) ?_
      · intro V hSw
        try dsimp only at hSw
        go_simp
      simp only [Act.put, List.setIfInBounds_toArray, List.set_cons_zero, List.set_cons_succ]
      refine wpAnyH_ready (rs := [13]) (by kernel_rfl) (by simp) ?_
      refine AllReadyH.cons (o := _) g18_13 (fun K hK => ?_) AllReadyH.nil
      have d13 := R11.2.1.2.2.2
      have f13 := R11.2.2.2.2.2
      go_simp
      have R13 := R11.s3 bad
      have S13 := S11.set (b := o8) 3 (.bool bad) (.inl rfl)
      have hSd13 := S13.below (bdrew _)
      refine hK.out _ _ hSd13 (fun _ => ?_)
      clear hK K d13 f13 S11 R11
      refine wpAnyH_take (i := 14) (oi := _) (v := .pointer (some ⟨o8, 1, none⟩)) g18_14 (by kernel_rfl) (by kernel_rfl) (by kernel_rfl) (fun _ _ _ h => h) (Or.inl ⟨by rfl, ?_⟩) (by assumption) ?_
      · intro V hSw
        try dsimp only at hSw
        go_simp
      simp only [Act.put, List.setIfInBounds_toArray, List.set_cons_zero, List.set_cons_succ]
      refine wpAnyH_ready (rs := [15]) (by kernel_rfl) (by simp) ?_
      refine AllReadyH.cons (o := _) g18_15 (fun K hK => ?_) AllReadyH.nil
      have d15 := R13.2.1.2.1
      have f15 := R13.2.2.2.1
      go_simp
      have R15 := R13.s1 st
      have S15 := S13.set (b := o8) 1 (.int .i64 st) (.inl rfl)
      have hSd15 := S15.below (bdrew _)
      refine hK.out _ _ hSd15 (fun _ => ?_)
      clear hK K d15 f15 S13 R13
      refine wpAnyH_take (i := 16) (oi := _) (v := .pointer (some ⟨o8, 2, none⟩)) g18_16 (by kernel_rfl) (by kernel_rfl) (by kernel_rfl) (fun _ _ _ h => h) (Or.inl ⟨by rfl, ?_⟩) (by assumption) ?_
      · intro V hSw
        try dsimp only at hSw
        go_simp
      simp only [Act.put, List.setIfInBounds_toArray, List.set_cons_zero, List.set_cons_succ]
      refine wpAnyH_ready (rs := [17]) (by kernel_rfl) (by simp) ?_
      refine AllReadyH.cons (o := _) g18_17 (fun K hK => ?_) AllReadyH.nil
      have d17 := R15.2.1.2.2.1
      have f17 := R15.2.2.2.2.1
      go_simp
      have R17 := R15.s2 wv
      have S17 := S15.set (b := o8) 2 (.int .i64 (wv : Int)) (.inl rfl)
      have hSd17 := S17.below (bdrew _)
      refine hK.out _ _ hSd17 (fun _ => ?_)
      clear hK K d17 f17 S15 R15
      refine wpAnyH_done (by kernel_rfl) ?_ _
      refine NoPanic.normal ?_
      obtain ⟨w9, hw9⟩ : ∃ w9, w9 = ((((wr.setCell ⟨o8, 0, none⟩ (.slice tq2 tn tc2)).setCell ⟨o8, 3, none⟩ (.bool bad)).setCell ⟨o8, 1, none⟩ (.int .i64 st)).setCell ⟨o8, 2, none⟩ (.int .i64 (wv : Int))).drew := ⟨_, rfl⟩
      replace R17 := R17.keep (bdrew _)
      replace S17 := hSd17
      clear hSd hSd11 hSd13 hSd15 hSd17
      rw [← hw9] at R17 S17
      rw [← hw9]
      clear hw9
      have HR9 := hide ((unhide HRr2).kept S17 (unhide Hbro))
      have H22 := hide (own_kept (unhide HR3) S17 (fun i e t => tg_not (show Tg wr i 42 from e ▸ unhide HTo) (by decide) t))
      have HRL := hide ((unhide HR4').kept4 S17 (fun i e t => tg_not (show Tg wr i 42 from e ▸ unhide HTo) (by decide) t))
      have HB9 := hide (Kept.back (unhide HBx) S17 (unhide HBx).size (fun i e => by have := unhide Hlt; have := unhide Hso; omega))
      obtain ⟨x9, hx9, hR10, hK10⟩ : ∃ x9, (((w9.setCell ⟨br, 0, none⟩ (.slice tq2 tn tc2)).setCell ⟨br, 1, none⟩ (.int .i64 st)).setCell ⟨br, 2, none⟩ (.int .i64 (wv : Int))).setCell ⟨br, 3, none⟩ (.bool bad) = x9 ∧ R4 x9 br tq2 tn tc2 st wv bad ∧ Kept (fun i => i = br) w9 x9 :=
        ⟨_, rfl, ((((unhide HR9).s0 tq2 tn tc2).s1 st).s2 wv).s3 bad, ((((Kept.refl (fun i => i = br) w9).set (b := br) 0 (.slice tq2 tn tc2) (.inl rfl)).set (b := br) 1 (.int .i64 st) (.inl rfl)).set (b := br) 2 (.int .i64 (wv : Int)) (.inl rfl)).set (b := br) 3 (.bool bad) (.inl rfl)⟩
      have HTr := hide (unhide HR9).1.2
      obtain ⟨-, ⟨u0, u1, u2, u3⟩, v0, v1, v2, v3⟩ := unhide HR9
      obtain ⟨-, ⟨p0, p1', p2, p3⟩, -⟩ := R17
      have HR10 := hide hR10
      have HK10 := hide hK10
      clear hR10 hK10 S17 Hld HLV HLW
      go_wp2
      obtain ⟨-, ⟨z0, z1, z2, z3⟩, -⟩ := unhide HR10
      refine bodyPost_ret (v := .agg #[.slice tq2 tn tc2, .int .i64 st, .int .i64 (wv : Int), .bool bad]) ?_ rfl ?_
      · simp [results, Try.results10, go_sem, z0, z1, z2, z3]
      · rw [← unhide Hy]
        dsimp only
        have hr2 := unhide Hr2
        subst hr2
        refine ⟨tq2, tc2, xs, rfl, ?_, ?_, ?_⟩
        · exact own_le (own_kept (unhide H22) (unhide HK10) (fun i e t => tg_not (show Tg w9 i 42 from e ▸ unhide HTr) (by decide) t)) (by have := unhide Hlt; omega)
        · have := (unhide HRL).kept4 (unhide HK10) (fun i e t => tg_not (show Tg w9 i 42 from e ▸ unhide HTr) (by decide) t)
          exact ⟨this.1, fun j o hj => by obtain ⟨v, hv, ho⟩ := this.2 j o hj; exact ⟨v, hv, own_le ho (by have := unhide Hlt; omega)⟩⟩
        · exact Kept.back (unhide HB9) (unhide HK10) (unhide HB9).size (fun i e => by have := unhide Hlt; omega)
end Go.Proofs.Ytndfecdhmncdaaa
