/-
  What torusOf of package group answers: the chart's colours, laid out over its torus.
-/
import Derived.Test.YtpcajcgafmmlkaaGC
import Derived.Lib.SmallJoins
namespace Go.Proofs.Ytpcajcgafmmlkaa
open Go.RowKit

theorem own_keep {w w1 : World} {B : Nat} {e : TypeId} {size : Nat} {v : Value} {n : Nat} {xs : List Value} (h : w.ownsRow B e size v n xs) (hb : Below w.heap.size w w1) : w1.ownsRow B e size v n xs :=
  h.kept (row := none) ⟨hb.os, hb.tape, hb.output, hb.size, fun k hk _ => hb.block k hk⟩ (by cases v.ownBlock <;> simp)
theorem own_slice {B : Nat} {e : TypeId} {n z : Nat} {xs : List Value} {v : Value} {w : World} (h : w.ownsRow B e z v n xs) (hm : 1 ≤ n) : ∃ g cap, v = .slice (some ⟨g, 0, none⟩) n cap := by
  rcases h.2 with ⟨_, h0⟩ | ⟨g, cap, cur, hv, _⟩
  · omega
  · exact ⟨g, cap, hv⟩
theorem own_form {B : Nat} {e : TypeId} {n z : Nat} {xs : List Value} {v : Value} {w : World} (h : w.ownsRow B e z v n xs) : ∃ q cap, v = .slice q n cap := by
  exact h.2.elim (fun k => ⟨none, 0, by rw [k.1, k.2]⟩) (fun ⟨g, c, _, k⟩ => ⟨some ⟨g, 0, none⟩, c, k.1⟩)
theorem info3 : (Try.prog.info? 3).map (fun i => (i.zero, i.size, i.bytes)) = some (some (.int .i64 0), 1, 8) := by kernel_rfl
def intsV (cs : List Int) : List Value := cs.map fun c => Value.int .i64 c
/-- a torus in a box that may be written -/
def OwnU (W : World) (b : Nat) (g n : Int) (q : Option Addr) (k cap : Nat) : Prop := OwnT W b g n q k cap ∧ W.frozen? ⟨b, 0, none⟩ = false ∧ W.frozen? ⟨b, 1, none⟩ = false ∧ W.frozen? ⟨b, 2, none⟩ = false
theorem OwnU.new (W : World) (g n : Int) (q : Option Addr) (k cap : Nat) (t : TypeId) : OwnU (W.alloc (.cells #[.int .i64 g, .int .i64 n, .slice q k cap] t)) W.heap.size g n q k cap :=
  ⟨OwnT.new W g n q k cap t, by simp [go_sem], by simp [go_sem], by simp [go_sem]⟩
theorem OwnU.below {W w1 : World} {B b : Nat} {g n : Int} {q : Option Addr} {k cap : Nat} (h : OwnU W b g n q k cap) (hb : Below B W w1) (hB : b < B) (hz : W.heap.size ≤ w1.heap.size) : OwnU w1 b g n q k cap := by
  obtain ⟨⟨h0, h1, h2, h3⟩, f1, f2, f3⟩ := h
  refine ⟨⟨by omega, ?_, ?_, ?_⟩, ?_, ?_, ?_⟩
  · rw [hb.cell (p := ⟨b, 0, none⟩) hB]; exact h1
  · rw [hb.cell (p := ⟨b, 1, none⟩) hB]; exact h2
  · rw [hb.cell (p := ⟨b, 2, none⟩) hB]; exact h3
  · rw [hb.frozen (p := ⟨b, 0, none⟩) hB]; exact f1
  · rw [hb.frozen (p := ⟨b, 1, none⟩) hB]; exact f2
  · rw [hb.frozen (p := ⟨b, 2, none⟩) hB]; exact f3
theorem OwnU.keep {W w1 : World} {b : Nat} {g n : Int} {q : Option Addr} {k cap : Nat} (h : OwnU W b g n q k cap) (hb : Below W.heap.size W w1) : OwnU w1 b g n q k cap := h.below hb h.1.1 hb.size
theorem OwnU.set2 {W : World} {b : Nat} {g n : Int} {q : Option Addr} {k cap : Nat} (h : OwnU W b g n q k cap) (q' : Option Addr) (k' cap' : Nat) : OwnU (W.setCell ⟨b, 2, none⟩ (.slice q' k' cap')) b g n q' k' cap' := by
  obtain ⟨⟨h0, h1, h2, h3⟩, f1, f2, f3⟩ := h
  refine ⟨⟨by simpa using h0, ?_, ?_, ?_⟩, ?_, ?_, ?_⟩
  all_goals simp [go_sem, h1, h2, h3, f1, f2, f3]
/-- the colour of a torus's cell -/
def tcx (w h n : Nat) (px : Nat → Int) (i : Nat) : Int := px (i / n % h * w + i % n % w)
def tcl (w h n : Nat) (px : Nat → Int) (m : Nat) : List Int := (List.range m).map (tcx w h n px)
theorem tcl_length (w h n : Nat) (px : Nat → Int) (m : Nat) : (tcl w h n px m).length = m := by simp [tcl]
theorem tcl_succ (w h n : Nat) (px : Nat → Int) (m : Nat) : tcl w h n px (m + 1) = tcl w h n px m ++ [tcx w h n px m] := by simp [tcl, List.range_succ]
theorem tcx_at (w h n : Nat) (px : Nat → Int) (x y : Nat) (hx : x < n) : tcx w h n px (y * n + x) = px (y % h * w + x % w) := by
  unfold tcx
  rw [Nat.mul_comm y n, Nat.mul_add_div (by omega), Nat.div_eq_of_lt hx, Nat.mul_add_mod, Nat.mod_eq_of_lt hx, Nat.add_zero]
theorem mul_step (y n : Nat) : (y + 1) * n = y * n + n := by rw [Nat.add_mul, Nat.one_mul]
theorem ntmod (a b : Nat) : (a : Int).tmod (b : Int) = ((a % b : Nat) : Int) := by rw [Int.tmod_eq_emod_of_nonneg (by omega), Int.natCast_emod]
theorem below_setCell_own {w : World} {B : Nat} {e : TypeId} {size : Nat} {v u : Value} {n : Nat} {xs : List Value} {a : Addr} (h : w.ownsRow B e size v n xs) (ha : a.block < B) : (w.setCell a u).ownsRow B e size v n xs := ownsRow_setCell_below h ha u
theorem g22_0 {a0 a1 a2 a3 a4 a5 a6 a7 a8 a9 a10 a11 a12 a13 a14 a15 a16 a17 a18 a19 a20 a21 : Oper} : (#[a0, a1, a2, a3, a4, a5, a6, a7, a8, a9, a10, a11, a12, a13, a14, a15, a16, a17, a18, a19, a20, a21] : Array Oper)[0]? = some a0 := rfl
theorem g22_1 {a0 a1 a2 a3 a4 a5 a6 a7 a8 a9 a10 a11 a12 a13 a14 a15 a16 a17 a18 a19 a20 a21 : Oper} : (#[a0, a1, a2, a3, a4, a5, a6, a7, a8, a9, a10, a11, a12, a13, a14, a15, a16, a17, a18, a19, a20, a21] : Array Oper)[1]? = some a1 := rfl
theorem g22_2 {a0 a1 a2 a3 a4 a5 a6 a7 a8 a9 a10 a11 a12 a13 a14 a15 a16 a17 a18 a19 a20 a21 : Oper} : (#[a0, a1, a2, a3, a4, a5, a6, a7, a8, a9, a10, a11, a12, a13, a14, a15, a16, a17, a18, a19, a20, a21] : Array Oper)[2]? = some a2 := rfl
theorem g22_3 {a0 a1 a2 a3 a4 a5 a6 a7 a8 a9 a10 a11 a12 a13 a14 a15 a16 a17 a18 a19 a20 a21 : Oper} : (#[a0, a1, a2, a3, a4, a5, a6, a7, a8, a9, a10, a11, a12, a13, a14, a15, a16, a17, a18, a19, a20, a21] : Array Oper)[3]? = some a3 := rfl
theorem g22_4 {a0 a1 a2 a3 a4 a5 a6 a7 a8 a9 a10 a11 a12 a13 a14 a15 a16 a17 a18 a19 a20 a21 : Oper} : (#[a0, a1, a2, a3, a4, a5, a6, a7, a8, a9, a10, a11, a12, a13, a14, a15, a16, a17, a18, a19, a20, a21] : Array Oper)[4]? = some a4 := rfl
theorem g22_5 {a0 a1 a2 a3 a4 a5 a6 a7 a8 a9 a10 a11 a12 a13 a14 a15 a16 a17 a18 a19 a20 a21 : Oper} : (#[a0, a1, a2, a3, a4, a5, a6, a7, a8, a9, a10, a11, a12, a13, a14, a15, a16, a17, a18, a19, a20, a21] : Array Oper)[5]? = some a5 := rfl
theorem g22_6 {a0 a1 a2 a3 a4 a5 a6 a7 a8 a9 a10 a11 a12 a13 a14 a15 a16 a17 a18 a19 a20 a21 : Oper} : (#[a0, a1, a2, a3, a4, a5, a6, a7, a8, a9, a10, a11, a12, a13, a14, a15, a16, a17, a18, a19, a20, a21] : Array Oper)[6]? = some a6 := rfl
theorem g22_7 {a0 a1 a2 a3 a4 a5 a6 a7 a8 a9 a10 a11 a12 a13 a14 a15 a16 a17 a18 a19 a20 a21 : Oper} : (#[a0, a1, a2, a3, a4, a5, a6, a7, a8, a9, a10, a11, a12, a13, a14, a15, a16, a17, a18, a19, a20, a21] : Array Oper)[7]? = some a7 := rfl
theorem g22_8 {a0 a1 a2 a3 a4 a5 a6 a7 a8 a9 a10 a11 a12 a13 a14 a15 a16 a17 a18 a19 a20 a21 : Oper} : (#[a0, a1, a2, a3, a4, a5, a6, a7, a8, a9, a10, a11, a12, a13, a14, a15, a16, a17, a18, a19, a20, a21] : Array Oper)[8]? = some a8 := rfl
theorem g22_9 {a0 a1 a2 a3 a4 a5 a6 a7 a8 a9 a10 a11 a12 a13 a14 a15 a16 a17 a18 a19 a20 a21 : Oper} : (#[a0, a1, a2, a3, a4, a5, a6, a7, a8, a9, a10, a11, a12, a13, a14, a15, a16, a17, a18, a19, a20, a21] : Array Oper)[9]? = some a9 := rfl
theorem g22_10 {a0 a1 a2 a3 a4 a5 a6 a7 a8 a9 a10 a11 a12 a13 a14 a15 a16 a17 a18 a19 a20 a21 : Oper} : (#[a0, a1, a2, a3, a4, a5, a6, a7, a8, a9, a10, a11, a12, a13, a14, a15, a16, a17, a18, a19, a20, a21] : Array Oper)[10]? = some a10 := rfl
theorem g22_11 {a0 a1 a2 a3 a4 a5 a6 a7 a8 a9 a10 a11 a12 a13 a14 a15 a16 a17 a18 a19 a20 a21 : Oper} : (#[a0, a1, a2, a3, a4, a5, a6, a7, a8, a9, a10, a11, a12, a13, a14, a15, a16, a17, a18, a19, a20, a21] : Array Oper)[11]? = some a11 := rfl
theorem g22_12 {a0 a1 a2 a3 a4 a5 a6 a7 a8 a9 a10 a11 a12 a13 a14 a15 a16 a17 a18 a19 a20 a21 : Oper} : (#[a0, a1, a2, a3, a4, a5, a6, a7, a8, a9, a10, a11, a12, a13, a14, a15, a16, a17, a18, a19, a20, a21] : Array Oper)[12]? = some a12 := rfl
theorem g22_13 {a0 a1 a2 a3 a4 a5 a6 a7 a8 a9 a10 a11 a12 a13 a14 a15 a16 a17 a18 a19 a20 a21 : Oper} : (#[a0, a1, a2, a3, a4, a5, a6, a7, a8, a9, a10, a11, a12, a13, a14, a15, a16, a17, a18, a19, a20, a21] : Array Oper)[13]? = some a13 := rfl
theorem g22_14 {a0 a1 a2 a3 a4 a5 a6 a7 a8 a9 a10 a11 a12 a13 a14 a15 a16 a17 a18 a19 a20 a21 : Oper} : (#[a0, a1, a2, a3, a4, a5, a6, a7, a8, a9, a10, a11, a12, a13, a14, a15, a16, a17, a18, a19, a20, a21] : Array Oper)[14]? = some a14 := rfl
theorem g22_15 {a0 a1 a2 a3 a4 a5 a6 a7 a8 a9 a10 a11 a12 a13 a14 a15 a16 a17 a18 a19 a20 a21 : Oper} : (#[a0, a1, a2, a3, a4, a5, a6, a7, a8, a9, a10, a11, a12, a13, a14, a15, a16, a17, a18, a19, a20, a21] : Array Oper)[15]? = some a15 := rfl
theorem g22_16 {a0 a1 a2 a3 a4 a5 a6 a7 a8 a9 a10 a11 a12 a13 a14 a15 a16 a17 a18 a19 a20 a21 : Oper} : (#[a0, a1, a2, a3, a4, a5, a6, a7, a8, a9, a10, a11, a12, a13, a14, a15, a16, a17, a18, a19, a20, a21] : Array Oper)[16]? = some a16 := rfl
theorem g22_17 {a0 a1 a2 a3 a4 a5 a6 a7 a8 a9 a10 a11 a12 a13 a14 a15 a16 a17 a18 a19 a20 a21 : Oper} : (#[a0, a1, a2, a3, a4, a5, a6, a7, a8, a9, a10, a11, a12, a13, a14, a15, a16, a17, a18, a19, a20, a21] : Array Oper)[17]? = some a17 := rfl
theorem g22_18 {a0 a1 a2 a3 a4 a5 a6 a7 a8 a9 a10 a11 a12 a13 a14 a15 a16 a17 a18 a19 a20 a21 : Oper} : (#[a0, a1, a2, a3, a4, a5, a6, a7, a8, a9, a10, a11, a12, a13, a14, a15, a16, a17, a18, a19, a20, a21] : Array Oper)[18]? = some a18 := rfl
theorem g22_19 {a0 a1 a2 a3 a4 a5 a6 a7 a8 a9 a10 a11 a12 a13 a14 a15 a16 a17 a18 a19 a20 a21 : Oper} : (#[a0, a1, a2, a3, a4, a5, a6, a7, a8, a9, a10, a11, a12, a13, a14, a15, a16, a17, a18, a19, a20, a21] : Array Oper)[19]? = some a19 := rfl
theorem g22_20 {a0 a1 a2 a3 a4 a5 a6 a7 a8 a9 a10 a11 a12 a13 a14 a15 a16 a17 a18 a19 a20 a21 : Oper} : (#[a0, a1, a2, a3, a4, a5, a6, a7, a8, a9, a10, a11, a12, a13, a14, a15, a16, a17, a18, a19, a20, a21] : Array Oper)[20]? = some a20 := rfl
theorem g22_21 {a0 a1 a2 a3 a4 a5 a6 a7 a8 a9 a10 a11 a12 a13 a14 a15 a16 a17 a18 a19 a20 a21 : Oper} : (#[a0, a1, a2, a3, a4, a5, a6, a7, a8, a9, a10, a11, a12, a13, a14, a15, a16, a17, a18, a19, a20, a21] : Array Oper)[21]? = some a21 := rfl

theorem row_far {W : World} {b o n c j : Nat} {px : Nat → Int} {v : Value} (h : Ch.Row W b o n px) (hc : c ≠ b) : Ch.Row (W.setCell ⟨c, j, none⟩ v) b o n px :=
  ⟨by simpa using h.1, fun k hk => by have e := h.2 k hk; simp [go_sem, e]⟩
def TorusOfErr (g w h : Int) (p : Option Addr) (n cap : Nat) (W : World) (er : Int) : Prop := Calls Try.prog 19 #[Ch.ch g w h p n cap] W fun e w' => e = .returned (.tuple #[tv 0 0 none 0 0, .int .i64 er]) ∧ Below W.heap.size W w'
set_option maxHeartbeats 1000000 in
theorem torusOf_err (g w h : Int) (p : Option Addr) (n cap : Nat) (px : Nat → Int) (W : World) (hc : Ch.Cells W p n px) (er : Int) (her : toE g w h n px = er) (hp : 1 ≤ er) : TorusOfErr g w h p n cap W er := by
  have hN : toN g w h n px = 0 := by unfold toN; rw [if_neg (by omega)]
  have HW := hide (fun W (hc : Ch.Cells W p n px) => torus_any g w h p n cap px W hc)
  rw [her, hN] at HW
  have B0 := bal (o := .cells #[.int .i64 0, .int .i64 0, .slice none 0 0] 51) (bal (o := .cells #[.int .i64 g, .int .i64 w, .int .i64 h, .slice p n cap] 24) (Below.refl W.heap.size W))
  have Hc := hide (hc.keep B0)
  have HB := hide B0
  have U0 := OwnU.new (W.alloc (.cells #[.int .i64 g, .int .i64 w, .int .i64 h, .slice p n cap] 24)) 0 0 none 0 0 51
  rw [World.size_alloc] at U0
  clear her hc hN B0
  unfold TorusOfErr
  go_enter Try.func19, Try.ntmps19
  go_wp2_with fail
  generalize (W.alloc (.cells #[.int .i64 g, .int .i64 w, .int .i64 h, .slice p n cap] 24)).alloc (.cells #[.int .i64 0, .int .i64 0, .slice none 0 0] 51) = w0 at *
  refine (unhide HW _ (unhide Hc)).mono ?_
  rintro e w1 ⟨rfl, hb⟩
  have S := btrans (unhide HB) hb
  obtain ⟨⟨-, u1, u2, u3⟩, u4⟩ := U0.keep hb
  clear hb Hc U0
  go_wp2
  exact bodyPost_ret (v := .tuple #[tv 0 0 none 0 0, .int .i64 er]) (by simp [results, Try.results19, go_sem, u1, u2, u3]) rfl ⟨rfl, bset (bset (bset S (by dsimp only; omega)) (by dsimp only; omega)) (by dsimp only; omega)⟩

def TorusOfOk (g : Int) (w h : Nat) (p : Option Addr) (n cap : Nat) (px : Nat → Int) (N : Nat) (W : World) : Prop := Calls Try.prog 19 #[Ch.ch g w h p n cap] W fun e w' => ∃ q cp, e = .returned (.tuple #[tv g N (some ⟨q, 0, none⟩) (N * N) cp, .int .i64 0]) ∧ Ch.Row w' q 0 (N * N) (tcx w h N px) ∧ Below W.heap.size W w'
set_option maxHeartbeats 4000000 in
set_option maxRecDepth 100000 in
theorem torusOf_ok (g : Int) (w h b o n cap : Nat) (px : Nat → Int) (N : Nat) (W : World) (hw : 1 ≤ w ∧ w ≤ 64) (hh : 1 ≤ h ∧ h ≤ 64) (hn : n = w * h) (hr : Ch.Row W b o n px) (hN : toN g w h n px = N) (hE : toE g w h n px = 0) (hN1 : 1 ≤ N ∧ N ≤ 24) : TorusOfOk g w h (some ⟨b, o, none⟩) n cap px N W := by
  have HW := hide (fun W (hc : Ch.Row W b o n px) => torus_any g w h (some ⟨b, o, none⟩) n cap px W (Or.inr ⟨b, o, rfl, hc⟩))
  rw [hE, hN] at HW
  have hn4 : n ≤ 4096 := by rw [hn]; exact Nat.mul_le_mul hw.2 hh.2
  have Hn := hide hn
  obtain ⟨i0, hi, hz0, hz1, hz2⟩ := info_parts info3
  have B0 := bal (o := .cells #[.int .i64 0, .int .i64 0, .slice none 0 0] 51) (bal (o := .cells #[.int .i64 g, .int .i64 w, .int .i64 h, .slice (some ⟨b, o, none⟩) n cap] 24) (Below.refl W.heap.size W))
  have R0 := hr.keep B0
  have HB := hide B0
  have C0 := (Ch.OwnC.new W g w h (some ⟨b, o, none⟩) n cap 24).alloc (.cells #[.int .i64 0, .int .i64 0, .slice none 0 0] 51)
  have U0 := OwnU.new (W.alloc (.cells #[.int .i64 g, .int .i64 w, .int .i64 h, .slice (some ⟨b, o, none⟩) n cap] 24)) 0 0 none 0 0 51
  rw [World.size_alloc] at U0
  clear hE hr hN B0 hn
  unfold TorusOfOk
  go_enter Try.func19, Try.ntmps19
  go_wp2_with fail
  generalize (W.alloc (.cells #[.int .i64 g, .int .i64 w, .int .i64 h, .slice (some ⟨b, o, none⟩) n cap] 24)).alloc (.cells #[.int .i64 0, .int .i64 0, .slice none 0 0] 51) = w0 at *
  refine (unhide HW _ R0).mono ?_
  rintro e wb ⟨rfl, hb⟩
  have S1 := btrans (unhide HB) hb
  have R1 := R0.keep hb
  have C1 := C0.keep hb
  have U1 := U0.keep hb
  have hbz := C1.1
  have hbu := U1.1.1
  clear hb R0 C0 U0 HW HB
  have c0 := C1.2.1
  go_wp2_with fail
  clear c0
  have DC := OwnU.new wb g N none 0 0 51
  have HC1 := hide C1
  have HR1 := hide R1
  have HU1 := hide U1
  clear C1 R1 U1
  go_loopw [23] (fun i wr => ∃ (y m cp : Nat) (q : Option Addr), y ≤ N ∧ i = .int .i64 y ∧ m = y * N ∧ OwnU wr wb.heap.size g N q m cp ∧ wr.ownsRow (wb.heap.size + 1) 3 1 (.slice q m cp) m (intsV (tcl w h N px m)) ∧ Below wb.heap.size wb wr) (fun i _ => N - (intOf i).toNat)
  case atStart => exact ⟨0, 0, 0, none, Nat.zero_le _, rfl, by simp, DC, World.ownsRow_nil _ _ _ _, bal (Below.refl _ _)⟩
  case round =>
    clear DC
    obtain ⟨y, m, cp, q, hy, rfl, hm, DC, hown, hbel⟩ := hrel
    have Hm := hide hm
    have hm6 : m ≤ 576 := by rw [hm]; exact Nat.mul_le_mul (show y ≤ 24 by omega) hN1.2
    clear hm
    by_cases hlt : y < N
    · have hmN : m + N ≤ 576 := by
        rw [unhide Hm, ← mul_step]; exact Nat.mul_le_mul (show y + 1 ≤ 24 by omega) hN1.2
      go_wp2
      obtain ⟨wo, rfl⟩ : ∃ wo : World, wo = wr := ⟨_, rfl⟩
      go_loopw [27] (fun i wr2 => ∃ (x cp : Nat) (q : Option Addr), x ≤ N ∧ i = .int .i64 x ∧ OwnU wr2 wb.heap.size g N q (m + x) cp ∧ wr2.ownsRow (wb.heap.size + 1) 3 1 (.slice q (m + x) cp) (m + x) (intsV (tcl w h N px (m + x))) ∧ Below wb.heap.size wb wr2) (fun i _ => N - (intOf i).toNat)
      case atStart => exact ⟨0, cp, q, Nat.zero_le _, rfl, DC, hown, hbel⟩
      case round =>
        clear DC hown hbel
        obtain ⟨x, cp, q, hx, rfl, DC, hown, hbel⟩ := hrel
        by_cases hlx : x < N
        · obtain ⟨yh, hyh⟩ : ∃ yh : Nat, yh = y % h := ⟨_, rfl⟩
          obtain ⟨xw, hxw⟩ : ∃ xw : Nat, xw = x % w := ⟨_, rfl⟩
          obtain ⟨yw, hyw⟩ : ∃ yw : Nat, yw = yh * w := ⟨_, rfl⟩
          have l1 : yh < h := by rw [hyh]; exact Nat.mod_lt _ (by omega)
          have l2 : xw < w := by rw [hxw]; exact Nat.mod_lt _ (by omega)
          have l3 : yw + xw < n := by
            rw [unhide Hn, hyw]
            have := Nat.mul_le_mul_left w (show yh + 1 ≤ h by omega)
            rw [Nat.mul_add, Nat.mul_comm w yh] at this
            omega
          have Hv := hide (show tcl w h N px (m + x + 1) = tcl w h N px (m + x) ++ [px (yw + xw)] by
            rw [tcl_succ, unhide Hm, tcx_at w h N px x y hlx, hyw, hyh, hxw])
          have e1 := hide (show (y : Int).tmod (h : Int) = (yh : Int) by rw [ntmod, hyh])
          have e2 := hide (show (x : Int).tmod (w : Int) = (xw : Int) by rw [ntmod, hxw])
          have e3 := hide (show IntKind.i64.wrap ((yh : Int) * (w : Int)) = (yw : Int) by
            rw [hyw, ← Int.natCast_mul]
            exact (Go.IntWalk.i64_left _).trans (Go.IntWalk.wrap64_in _ (by omega)))
          have e4 := hide (show IntKind.i64.wrap ((yw : Int) + (xw : Int)) = ((yw + xw : Nat) : Int) by
            exact (Go.IntWalk.i64_left _).trans (Go.IntWalk.wrap64_in _ (by omega)))
          have hh0 : h ≠ 0 := by omega
          have hw0 : w ≠ 0 := by omega
          have Hld := hide (show ∀ V, Below wb.heap.size wb V → (V.cell? ⟨W.heap.size, 1, none⟩ = some (.int .i64 w) ∧ V.cell? ⟨W.heap.size, 2, none⟩ = some (.int .i64 h) ∧ V.cell? ⟨W.heap.size, 3, none⟩ = some (.slice (some ⟨b, o, none⟩) n cap)) ∧ V.cell? ⟨b, o + (yw + xw), none⟩ = some (.int .i64 (px (yw + xw))) from fun V hV =>
            ⟨((unhide HC1).keep hV).2.2, ((unhide HR1).keep hV).2 (yw + xw) l3⟩)
          clear hyh hxw hyw
          generalize hk : yw + xw = k at *
          have Hk := hide hk
          clear hk
          have hkn : (k : Int) < (n : Int) := by omega
          have hk0 : (0 : Int) ≤ (k : Int) := by omega
          have d3 := DC.1.2.2.2
          have f3 := DC.2.2.2
          have hdlt := DC.1.1
          go_wp2_with fail
          refine wp_region_noPanic ?_
          refine wp_region_held_drew (S := fun V => Below wb.heap.size wb V) (by kernel_rfl) (Below.drew hbel) ?_
          intro _
          have hSd := Below.drew hbel
          refine wpAnyH_take (i := 0) (oi := _) (v := .pointer (some ⟨wb.heap.size, 2, none⟩)) g22_0 (by kernel_rfl) (by kernel_rfl) (by kernel_rfl) (fun _ _ _ h => h) (Or.inl ⟨by rfl, ?_⟩) (by assumption) ?_
          · intro V hSw
            try dsimp only at hSw
            go_simp
          simp only [Act.put, List.setIfInBounds_toArray, List.set_cons_zero, List.set_cons_succ]
          refine wpAnyH_take (i := 2) (oi := _) (v := .pointer (some ⟨W.heap.size, 3, none⟩)) g22_2 (by kernel_rfl) (by kernel_rfl) (by kernel_rfl) (fun _ _ _ h => h) (Or.inl ⟨by rfl, ?_⟩) (by assumption) ?_
          · intro V hSw
            try dsimp only at hSw
            go_simp
          simp only [Act.put, List.setIfInBounds_toArray, List.set_cons_zero, List.set_cons_succ]
          refine wpAnyH_take (i := 3) (oi := _) (v := .slice (some ⟨b, o, none⟩) n cap) g22_3 (by kernel_rfl) (by kernel_rfl) (by kernel_rfl) (fun _ _ _ h => h) (Or.inl ⟨by rfl, ?_⟩) (by assumption) ?_
          · intro V hSw
            try dsimp only at hSw
            have hl := unhide Hld V hSw
            go_simp
          simp only [Act.put, List.setIfInBounds_toArray, List.set_cons_zero, List.set_cons_succ]
          refine wpAnyH_take (i := 4) (oi := _) (v := .int .i64 y) g22_4 (by kernel_rfl) (by kernel_rfl) (by kernel_rfl) (fun _ _ _ h => h) (Or.inl ⟨by rfl, ?_⟩) (by assumption) ?_
          · intro V hSw
            try dsimp only at hSw
            go_simp
          simp only [Act.put, List.setIfInBounds_toArray, List.set_cons_zero, List.set_cons_succ]
          refine wpAnyH_take (i := 5) (oi := _) (v := .pointer (some ⟨W.heap.size, 2, none⟩)) g22_5 (by kernel_rfl) (by kernel_rfl) (by kernel_rfl) (fun _ _ _ h => h) (Or.inl ⟨by rfl, ?_⟩) (by assumption) ?_
          · intro V hSw
            try dsimp only at hSw
            go_simp
          simp only [Act.put, List.setIfInBounds_toArray, List.set_cons_zero, List.set_cons_succ]
          refine wpAnyH_take (i := 6) (oi := _) (v := .int .i64 h) g22_6 (by kernel_rfl) (by kernel_rfl) (by kernel_rfl) (fun _ _ _ h => h) (Or.inl ⟨by rfl, ?_⟩) (by assumption) ?_
          · intro V hSw
            try dsimp only at hSw
            have hl := unhide Hld V hSw
            go_simp
          simp only [Act.put, List.setIfInBounds_toArray, List.set_cons_zero, List.set_cons_succ]
          refine wpAnyH_take (i := 7) (oi := _) (v := .int .i64 yh) g22_7 (by kernel_rfl) (by kernel_rfl) (by kernel_rfl) (fun _ _ _ h => h) (Or.inl ⟨by rfl, ?_⟩) (by assumption) ?_
          · intro V hSw
            try dsimp only at hSw
            go_simp
            exact unhide e1
          simp only [Act.put, List.setIfInBounds_toArray, List.set_cons_zero, List.set_cons_succ]
          refine wpAnyH_take (i := 8) (oi := _) (v := .pointer (some ⟨W.heap.size, 1, none⟩)) g22_8 (by kernel_rfl) (by kernel_rfl) (by kernel_rfl) (fun _ _ _ h => h) (Or.inl ⟨by rfl, ?_⟩) (by assumption) ?_
          · intro V hSw
            try dsimp only at hSw
            go_simp
          simp only [Act.put, List.setIfInBounds_toArray, List.set_cons_zero, List.set_cons_succ]
          refine wpAnyH_take (i := 9) (oi := _) (v := .int .i64 w) g22_9 (by kernel_rfl) (by kernel_rfl) (by kernel_rfl) (fun _ _ _ h => h) (Or.inl ⟨by rfl, ?_⟩) (by assumption) ?_
          · intro V hSw
            try dsimp only at hSw
            have hl := unhide Hld V hSw
            go_simp
          simp only [Act.put, List.setIfInBounds_toArray, List.set_cons_zero, List.set_cons_succ]
          refine wpAnyH_take (i := 10) (oi := _) (v := .int .i64 yw) g22_10 (by kernel_rfl) (by kernel_rfl) (by kernel_rfl) (fun _ _ _ h => h) (Or.inl ⟨by rfl, ?_⟩) (by assumption) ?_
          · intro V hSw
            try dsimp only at hSw
            go_simp
            exact unhide e3
          simp only [Act.put, List.setIfInBounds_toArray, List.set_cons_zero, List.set_cons_succ]
          refine wpAnyH_take (i := 11) (oi := _) (v := .int .i64 x) g22_11 (by kernel_rfl) (by kernel_rfl) (by kernel_rfl) (fun _ _ _ h => h) (Or.inl ⟨by rfl, ?_⟩) (by assumption) ?_
          · intro V hSw
            try dsimp only at hSw
            go_simp
          simp only [Act.put, List.setIfInBounds_toArray, List.set_cons_zero, List.set_cons_succ]
          refine wpAnyH_take (i := 12) (oi := _) (v := .pointer (some ⟨W.heap.size, 1, none⟩)) g22_12 (by kernel_rfl) (by kernel_rfl) (by kernel_rfl) (fun _ _ _ h => h) (Or.inl ⟨by rfl, ?_⟩) (by assumption) ?_
          · intro V hSw
            try dsimp only at hSw
            go_simp
          simp only [Act.put, List.setIfInBounds_toArray, List.set_cons_zero, List.set_cons_succ]
          refine wpAnyH_take (i := 13) (oi := _) (v := .int .i64 w) g22_13 (by kernel_rfl) (by kernel_rfl) (by kernel_rfl) (fun _ _ _ h => h) (Or.inl ⟨by rfl, ?_⟩) (by assumption) ?_
          · intro V hSw
            try dsimp only at hSw
            have hl := unhide Hld V hSw
            go_simp
          simp only [Act.put, List.setIfInBounds_toArray, List.set_cons_zero, List.set_cons_succ]
          refine wpAnyH_take (i := 14) (oi := _) (v := .int .i64 xw) g22_14 (by kernel_rfl) (by kernel_rfl) (by kernel_rfl) (fun _ _ _ h => h) (Or.inl ⟨by rfl, ?_⟩) (by assumption) ?_
          · intro V hSw
            try dsimp only at hSw
            go_simp
            exact unhide e2
          simp only [Act.put, List.setIfInBounds_toArray, List.set_cons_zero, List.set_cons_succ]
          refine wpAnyH_take (i := 15) (oi := _) (v := .int .i64 k) g22_15 (by kernel_rfl) (by kernel_rfl) (by kernel_rfl) (fun _ _ _ h => h) (Or.inl ⟨by rfl, ?_⟩) (by assumption) ?_
          · intro V hSw
            try dsimp only at hSw
            go_simp
            exact unhide e4
          simp only [Act.put, List.setIfInBounds_toArray, List.set_cons_zero, List.set_cons_succ]
          refine wpAnyH_take (i := 16) (oi := _) (v := .pointer (some ⟨b, o + k, none⟩)) g22_16 (by kernel_rfl) (by kernel_rfl) (by kernel_rfl) (fun _ _ _ h => h) (Or.inl ⟨by rfl, ?_⟩) (by assumption) ?_
          · intro V hSw
            try dsimp only at hSw
            go_simp
          simp only [Act.put, List.setIfInBounds_toArray, List.set_cons_zero, List.set_cons_succ]
          refine wpAnyH_take (i := 17) (oi := _) (v := .int .i64 (px k)) g22_17 (by kernel_rfl) (by kernel_rfl) (by kernel_rfl) (fun _ _ _ h => h) (Or.inl ⟨by rfl, ?_⟩) (by assumption) ?_
          · intro V hSw
            try dsimp only at hSw
            have hl := unhide Hld V hSw
            go_simp
          simp only [Act.put, List.setIfInBounds_toArray, List.set_cons_zero, List.set_cons_succ]
          refine wpAnyH_ready (rs := [1, 18]) (by kernel_rfl) (by simp) ?_
          refine AllReadyH.cons (o := _) g22_1 (fun K hK => ?_) (AllReadyH.cons (o := _) g22_18 (fun K hK => ?_) AllReadyH.nil)
          · go_simp
            refine hK.out _ _ (Below.drew hbel) (fun _ => ?_)
            clear hK K
            refine wpAnyH_ready (rs := [18]) (by kernel_rfl) (by simp) ?_
            refine AllReadyH.cons (o := _) g22_18 (fun K hK => ?_) AllReadyH.nil
            go_simp
            refine hK.out _ _ ((Below.drew hbel).alloc (by simp; omega) _) (fun _ => ?_)
            clear hK K
            refine wpAnyH_ready (rs := [19]) (by kernel_rfl) (by simp) ?_
            refine AllReadyH.cons (o := _) g22_19 (fun K hK => ?_) AllReadyH.nil
            refine wp_append_own _ _ _ 22 rfl (wb.heap.size + 1) 3 i0 (.int .i64 0) 1 8 Try.underlying22 hi hz0 hz1 hz2 rfl (by decide) (.slice q (m + x) cp) (m + x) (intsV (tcl w h N px (m + x))) rfl (hown.drew.alloc _) ⟨wr.heap.size, 0, none⟩ 1 1 [.int .i64 (px k)] rfl ?c1 ?c2 ?c3 ?c4 ?c5 ?c6 ?_
            case c1 => rfl
            case c2 =>
              intro j u hj
              match j, hj with
              | 0, hj => simp at hj; subst hj; simp [Addr.add]
            case c3 => intro u hu; simp at hu; subst hu; rfl
            case c4 => unfold maxLen; omega
            case c5 => omega
            case c6 => simp; omega
            intro v' w4 hown' hgrow _
            have B4 := ((Below.drew (Below.refl (wb.heap.size + 1) wr)).alloc (by simp; omega) _).grown hgrow (by simp; omega) (fun k hk => (hown.lt k hk).1)
            have S4 := hbel.trans (B4.mono (Nat.le_succ _))
            have D4 := DC.below B4 (by omega) B4.size
            obtain ⟨q', cap', rfl⟩ := own_form hown'
            refine hK.out _ _ S4 (fun _ => ?_)
            clear hK K hown hgrow d3 f3 DC hbel B4 hSd
            have d3 := D4.1.2.2.2
            have f3 := D4.2.2.2
            refine wpAnyH_ready (rs := [20]) (by kernel_rfl) (by simp) ?_
            refine AllReadyH.cons (o := _) g22_20 (fun K hK => ?_) AllReadyH.nil
            go_simp
            refine hK.out _ _ S4 (fun _ => ?_)
            clear hK K
            refine wpAnyH_ready (rs := [21]) (by kernel_rfl) (by simp) ?_
            refine AllReadyH.cons (o := _) g22_21 (fun K hK => ?_) AllReadyH.nil
            go_simp
            have S5 := bset (p := ⟨wb.heap.size, 2, none⟩) (u := .slice q' (m + x + 1) cap') S4 (by dsimp only; omega)
            have D5 := D4.set2 q' (m + x + 1) cap'
            have own5 := below_setCell_own (a := ⟨wb.heap.size, 2, none⟩) (u := .slice q' (m + x + 1) cap') hown' (by dsimp only; omega)
            refine hK.out _ _ S5 (fun _ => ?_)
            refine wpAnyH_done (by kernel_rfl) ?_ _
            refine NoPanic.normal ?_
            clear hK K
            go_wp2
            go_roundw
            case rel =>
              refine ⟨x + 1, cap', q', by omega, by go_num, D5, ?_, S5⟩
              have hv := unhide Hv
              rw [show m + (x + 1) = m + x + 1 from rfl, hv]
              simpa [intsV] using own5
            case measure => simp [intOf]; omega
          · go_simp
            refine hK.out _ _ ((Below.drew hbel).alloc (by simp; omega) _) (fun _ => ?_)
            clear hK K
            refine wpAnyH_ready (rs := [1]) (by kernel_rfl) (by simp) ?_
            refine AllReadyH.cons (o := _) g22_1 (fun K hK => ?_) AllReadyH.nil
            go_simp
            refine hK.out _ _ ((Below.drew hbel).alloc (by simp; omega) _) (fun _ => ?_)
            clear hK K
            refine wpAnyH_ready (rs := [19]) (by kernel_rfl) (by simp) ?_
            refine AllReadyH.cons (o := _) g22_19 (fun K hK => ?_) AllReadyH.nil
            refine wp_append_own _ _ _ 22 rfl (wb.heap.size + 1) 3 i0 (.int .i64 0) 1 8 Try.underlying22 hi hz0 hz1 hz2 rfl (by decide) (.slice q (m + x) cp) (m + x) (intsV (tcl w h N px (m + x))) rfl (hown.drew.alloc _) ⟨wr.heap.size, 0, none⟩ 1 1 [.int .i64 (px k)] rfl ?c1 ?c2 ?c3 ?c4 ?c5 ?c6 ?_
            case c1 => rfl
            case c2 =>
              intro j u hj
              match j, hj with
              | 0, hj => simp at hj; subst hj; simp [Addr.add]
            case c3 => intro u hu; simp at hu; subst hu; rfl
            case c4 => unfold maxLen; omega
            case c5 => omega
            case c6 => simp; omega
            intro v' w4 hown' hgrow _
            have B4 := ((Below.drew (Below.refl (wb.heap.size + 1) wr)).alloc (by simp; omega) _).grown hgrow (by simp; omega) (fun k hk => (hown.lt k hk).1)
            have S4 := hbel.trans (B4.mono (Nat.le_succ _))
            have D4 := DC.below B4 (by omega) B4.size
            obtain ⟨q', cap', rfl⟩ := own_form hown'
            refine hK.out _ _ S4 (fun _ => ?_)
            clear hK K hown hgrow d3 f3 DC hbel B4 hSd
            have d3 := D4.1.2.2.2
            have f3 := D4.2.2.2
            refine wpAnyH_ready (rs := [20]) (by kernel_rfl) (by simp) ?_
            refine AllReadyH.cons (o := _) g22_20 (fun K hK => ?_) AllReadyH.nil
            go_simp
            refine hK.out _ _ S4 (fun _ => ?_)
            clear hK K
            refine wpAnyH_ready (rs := [21]) (by kernel_rfl) (by simp) ?_
            refine AllReadyH.cons (o := _) g22_21 (fun K hK => ?_) AllReadyH.nil
            go_simp
            have S5 := bset (p := ⟨wb.heap.size, 2, none⟩) (u := .slice q' (m + x + 1) cap') S4 (by dsimp only; omega)
            have D5 := D4.set2 q' (m + x + 1) cap'
            have own5 := below_setCell_own (a := ⟨wb.heap.size, 2, none⟩) (u := .slice q' (m + x + 1) cap') hown' (by dsimp only; omega)
            refine hK.out _ _ S5 (fun _ => ?_)
            refine wpAnyH_done (by kernel_rfl) ?_ _
            refine NoPanic.normal ?_
            clear hK K
            go_wp2
            go_roundw
            case rel =>
              refine ⟨x + 1, cap', q', by omega, by go_num, D5, ?_, S5⟩
              have hv := unhide Hv
              rw [show m + (x + 1) = m + x + 1 from rfl, hv]
              simpa [intsV] using own5
            case measure => simp [intOf]; omega
        · have e : x = N := by omega
          subst e
          have cl : ¬ ((x : Int) < (x : Int)) := by omega
          have Hs := hide (show m + x = (y + 1) * x by rw [mul_step, unhide Hm])
          go_wp2
          go_roundw
          case rel => exact ⟨y + 1, m + x, cp, q, by omega, by go_num, unhide Hs, DC, hown, hbel⟩
          case measure => simp [intOf]; omega
    · have e : y = N := by omega
      subst e
      have cl : ¬ ((y : Int) < (y : Int)) := by omega
      have U6 := (unhide HU1).keep hbel
      have S6 := btrans S1 hbel
      have Hown := hide hown
      obtain ⟨⟨-, d0, d1, d2⟩, df⟩ := U6
      obtain ⟨⟨-, c1, c2, c3⟩, -⟩ := DC
      have Hrow := hide (show ∃ a, q = some ⟨a, 0, none⟩ ∧ Ch.Row wr a 0 m (tcx w h y px) from by
        obtain ⟨a, ca, e⟩ := own_slice (unhide Hown) (by rw [unhide Hm]; exact Nat.mul_pos (by omega) (by omega))
        cases e
        refine ⟨a, rfl, ((unhide Hown).lt a rfl).2, fun k hk => ?_⟩
        rw [Nat.zero_add, (unhide Hown).cellAt k (by omega)]
        simp [intsV, tcl, hk])
      clear hown
      obtain ⟨a, rfl, hrow⟩ := unhide Hrow
      have hab : wb.heap.size + 1 ≤ a := ((unhide Hown).lt a rfl).1
      have Hab := hide hrow
      clear hrow Hrow
      go_wp2
      refine bodyPost_ret (v := .tuple #[tv g y (some ⟨a, 0, none⟩) m cp, .int .i64 0]) (by simp [results, Try.results19, go_sem, d0, d1, d2]) rfl ⟨a, ⟨cp, ?_⟩, ?_, bset (bset (bset S6 (by dsimp only; omega)) (by dsimp only; omega)) (by dsimp only; omega)⟩
      · rw [unhide Hm]
      · rw [← unhide Hm]
        exact row_far (row_far (row_far (unhide Hab) (by omega)) (by omega)) (by omega)
end Go.Proofs.Ytpcajcgafmmlkaa
