/-
  State: what has been knitted.
-/
import Derived.Test.YtancniamgfppiaaStB
import Derived.Test.YtancniamgfppiaaMaI
namespace Go.Proofs.Ytancniamgfppiaa
open Go.RowKit

theorem g28_0 {a0 a1 a2 a3 a4 a5 a6 a7 a8 a9 a10 a11 a12 a13 a14 a15 a16 a17 a18 a19 a20 a21 a22 a23 a24 a25 a26 a27 : Oper} : (#[a0, a1, a2, a3, a4, a5, a6, a7, a8, a9, a10, a11, a12, a13, a14, a15, a16, a17, a18, a19, a20, a21, a22, a23, a24, a25, a26, a27] : Array Oper)[0]? = some a0 := rfl
theorem g28_1 {a0 a1 a2 a3 a4 a5 a6 a7 a8 a9 a10 a11 a12 a13 a14 a15 a16 a17 a18 a19 a20 a21 a22 a23 a24 a25 a26 a27 : Oper} : (#[a0, a1, a2, a3, a4, a5, a6, a7, a8, a9, a10, a11, a12, a13, a14, a15, a16, a17, a18, a19, a20, a21, a22, a23, a24, a25, a26, a27] : Array Oper)[1]? = some a1 := rfl
theorem g28_2 {a0 a1 a2 a3 a4 a5 a6 a7 a8 a9 a10 a11 a12 a13 a14 a15 a16 a17 a18 a19 a20 a21 a22 a23 a24 a25 a26 a27 : Oper} : (#[a0, a1, a2, a3, a4, a5, a6, a7, a8, a9, a10, a11, a12, a13, a14, a15, a16, a17, a18, a19, a20, a21, a22, a23, a24, a25, a26, a27] : Array Oper)[2]? = some a2 := rfl
theorem g28_3 {a0 a1 a2 a3 a4 a5 a6 a7 a8 a9 a10 a11 a12 a13 a14 a15 a16 a17 a18 a19 a20 a21 a22 a23 a24 a25 a26 a27 : Oper} : (#[a0, a1, a2, a3, a4, a5, a6, a7, a8, a9, a10, a11, a12, a13, a14, a15, a16, a17, a18, a19, a20, a21, a22, a23, a24, a25, a26, a27] : Array Oper)[3]? = some a3 := rfl
theorem g28_4 {a0 a1 a2 a3 a4 a5 a6 a7 a8 a9 a10 a11 a12 a13 a14 a15 a16 a17 a18 a19 a20 a21 a22 a23 a24 a25 a26 a27 : Oper} : (#[a0, a1, a2, a3, a4, a5, a6, a7, a8, a9, a10, a11, a12, a13, a14, a15, a16, a17, a18, a19, a20, a21, a22, a23, a24, a25, a26, a27] : Array Oper)[4]? = some a4 := rfl
theorem g28_5 {a0 a1 a2 a3 a4 a5 a6 a7 a8 a9 a10 a11 a12 a13 a14 a15 a16 a17 a18 a19 a20 a21 a22 a23 a24 a25 a26 a27 : Oper} : (#[a0, a1, a2, a3, a4, a5, a6, a7, a8, a9, a10, a11, a12, a13, a14, a15, a16, a17, a18, a19, a20, a21, a22, a23, a24, a25, a26, a27] : Array Oper)[5]? = some a5 := rfl
theorem g28_6 {a0 a1 a2 a3 a4 a5 a6 a7 a8 a9 a10 a11 a12 a13 a14 a15 a16 a17 a18 a19 a20 a21 a22 a23 a24 a25 a26 a27 : Oper} : (#[a0, a1, a2, a3, a4, a5, a6, a7, a8, a9, a10, a11, a12, a13, a14, a15, a16, a17, a18, a19, a20, a21, a22, a23, a24, a25, a26, a27] : Array Oper)[6]? = some a6 := rfl
theorem g28_7 {a0 a1 a2 a3 a4 a5 a6 a7 a8 a9 a10 a11 a12 a13 a14 a15 a16 a17 a18 a19 a20 a21 a22 a23 a24 a25 a26 a27 : Oper} : (#[a0, a1, a2, a3, a4, a5, a6, a7, a8, a9, a10, a11, a12, a13, a14, a15, a16, a17, a18, a19, a20, a21, a22, a23, a24, a25, a26, a27] : Array Oper)[7]? = some a7 := rfl
theorem g28_8 {a0 a1 a2 a3 a4 a5 a6 a7 a8 a9 a10 a11 a12 a13 a14 a15 a16 a17 a18 a19 a20 a21 a22 a23 a24 a25 a26 a27 : Oper} : (#[a0, a1, a2, a3, a4, a5, a6, a7, a8, a9, a10, a11, a12, a13, a14, a15, a16, a17, a18, a19, a20, a21, a22, a23, a24, a25, a26, a27] : Array Oper)[8]? = some a8 := rfl
theorem g28_9 {a0 a1 a2 a3 a4 a5 a6 a7 a8 a9 a10 a11 a12 a13 a14 a15 a16 a17 a18 a19 a20 a21 a22 a23 a24 a25 a26 a27 : Oper} : (#[a0, a1, a2, a3, a4, a5, a6, a7, a8, a9, a10, a11, a12, a13, a14, a15, a16, a17, a18, a19, a20, a21, a22, a23, a24, a25, a26, a27] : Array Oper)[9]? = some a9 := rfl
theorem g28_10 {a0 a1 a2 a3 a4 a5 a6 a7 a8 a9 a10 a11 a12 a13 a14 a15 a16 a17 a18 a19 a20 a21 a22 a23 a24 a25 a26 a27 : Oper} : (#[a0, a1, a2, a3, a4, a5, a6, a7, a8, a9, a10, a11, a12, a13, a14, a15, a16, a17, a18, a19, a20, a21, a22, a23, a24, a25, a26, a27] : Array Oper)[10]? = some a10 := rfl
theorem g28_11 {a0 a1 a2 a3 a4 a5 a6 a7 a8 a9 a10 a11 a12 a13 a14 a15 a16 a17 a18 a19 a20 a21 a22 a23 a24 a25 a26 a27 : Oper} : (#[a0, a1, a2, a3, a4, a5, a6, a7, a8, a9, a10, a11, a12, a13, a14, a15, a16, a17, a18, a19, a20, a21, a22, a23, a24, a25, a26, a27] : Array Oper)[11]? = some a11 := rfl
theorem g28_12 {a0 a1 a2 a3 a4 a5 a6 a7 a8 a9 a10 a11 a12 a13 a14 a15 a16 a17 a18 a19 a20 a21 a22 a23 a24 a25 a26 a27 : Oper} : (#[a0, a1, a2, a3, a4, a5, a6, a7, a8, a9, a10, a11, a12, a13, a14, a15, a16, a17, a18, a19, a20, a21, a22, a23, a24, a25, a26, a27] : Array Oper)[12]? = some a12 := rfl
theorem g28_13 {a0 a1 a2 a3 a4 a5 a6 a7 a8 a9 a10 a11 a12 a13 a14 a15 a16 a17 a18 a19 a20 a21 a22 a23 a24 a25 a26 a27 : Oper} : (#[a0, a1, a2, a3, a4, a5, a6, a7, a8, a9, a10, a11, a12, a13, a14, a15, a16, a17, a18, a19, a20, a21, a22, a23, a24, a25, a26, a27] : Array Oper)[13]? = some a13 := rfl
theorem g28_14 {a0 a1 a2 a3 a4 a5 a6 a7 a8 a9 a10 a11 a12 a13 a14 a15 a16 a17 a18 a19 a20 a21 a22 a23 a24 a25 a26 a27 : Oper} : (#[a0, a1, a2, a3, a4, a5, a6, a7, a8, a9, a10, a11, a12, a13, a14, a15, a16, a17, a18, a19, a20, a21, a22, a23, a24, a25, a26, a27] : Array Oper)[14]? = some a14 := rfl
theorem g28_15 {a0 a1 a2 a3 a4 a5 a6 a7 a8 a9 a10 a11 a12 a13 a14 a15 a16 a17 a18 a19 a20 a21 a22 a23 a24 a25 a26 a27 : Oper} : (#[a0, a1, a2, a3, a4, a5, a6, a7, a8, a9, a10, a11, a12, a13, a14, a15, a16, a17, a18, a19, a20, a21, a22, a23, a24, a25, a26, a27] : Array Oper)[15]? = some a15 := rfl
theorem g28_16 {a0 a1 a2 a3 a4 a5 a6 a7 a8 a9 a10 a11 a12 a13 a14 a15 a16 a17 a18 a19 a20 a21 a22 a23 a24 a25 a26 a27 : Oper} : (#[a0, a1, a2, a3, a4, a5, a6, a7, a8, a9, a10, a11, a12, a13, a14, a15, a16, a17, a18, a19, a20, a21, a22, a23, a24, a25, a26, a27] : Array Oper)[16]? = some a16 := rfl
theorem g28_17 {a0 a1 a2 a3 a4 a5 a6 a7 a8 a9 a10 a11 a12 a13 a14 a15 a16 a17 a18 a19 a20 a21 a22 a23 a24 a25 a26 a27 : Oper} : (#[a0, a1, a2, a3, a4, a5, a6, a7, a8, a9, a10, a11, a12, a13, a14, a15, a16, a17, a18, a19, a20, a21, a22, a23, a24, a25, a26, a27] : Array Oper)[17]? = some a17 := rfl
theorem g28_18 {a0 a1 a2 a3 a4 a5 a6 a7 a8 a9 a10 a11 a12 a13 a14 a15 a16 a17 a18 a19 a20 a21 a22 a23 a24 a25 a26 a27 : Oper} : (#[a0, a1, a2, a3, a4, a5, a6, a7, a8, a9, a10, a11, a12, a13, a14, a15, a16, a17, a18, a19, a20, a21, a22, a23, a24, a25, a26, a27] : Array Oper)[18]? = some a18 := rfl
theorem g28_19 {a0 a1 a2 a3 a4 a5 a6 a7 a8 a9 a10 a11 a12 a13 a14 a15 a16 a17 a18 a19 a20 a21 a22 a23 a24 a25 a26 a27 : Oper} : (#[a0, a1, a2, a3, a4, a5, a6, a7, a8, a9, a10, a11, a12, a13, a14, a15, a16, a17, a18, a19, a20, a21, a22, a23, a24, a25, a26, a27] : Array Oper)[19]? = some a19 := rfl
theorem g28_20 {a0 a1 a2 a3 a4 a5 a6 a7 a8 a9 a10 a11 a12 a13 a14 a15 a16 a17 a18 a19 a20 a21 a22 a23 a24 a25 a26 a27 : Oper} : (#[a0, a1, a2, a3, a4, a5, a6, a7, a8, a9, a10, a11, a12, a13, a14, a15, a16, a17, a18, a19, a20, a21, a22, a23, a24, a25, a26, a27] : Array Oper)[20]? = some a20 := rfl
theorem g28_21 {a0 a1 a2 a3 a4 a5 a6 a7 a8 a9 a10 a11 a12 a13 a14 a15 a16 a17 a18 a19 a20 a21 a22 a23 a24 a25 a26 a27 : Oper} : (#[a0, a1, a2, a3, a4, a5, a6, a7, a8, a9, a10, a11, a12, a13, a14, a15, a16, a17, a18, a19, a20, a21, a22, a23, a24, a25, a26, a27] : Array Oper)[21]? = some a21 := rfl
theorem g28_22 {a0 a1 a2 a3 a4 a5 a6 a7 a8 a9 a10 a11 a12 a13 a14 a15 a16 a17 a18 a19 a20 a21 a22 a23 a24 a25 a26 a27 : Oper} : (#[a0, a1, a2, a3, a4, a5, a6, a7, a8, a9, a10, a11, a12, a13, a14, a15, a16, a17, a18, a19, a20, a21, a22, a23, a24, a25, a26, a27] : Array Oper)[22]? = some a22 := rfl
theorem g28_23 {a0 a1 a2 a3 a4 a5 a6 a7 a8 a9 a10 a11 a12 a13 a14 a15 a16 a17 a18 a19 a20 a21 a22 a23 a24 a25 a26 a27 : Oper} : (#[a0, a1, a2, a3, a4, a5, a6, a7, a8, a9, a10, a11, a12, a13, a14, a15, a16, a17, a18, a19, a20, a21, a22, a23, a24, a25, a26, a27] : Array Oper)[23]? = some a23 := rfl
theorem g28_24 {a0 a1 a2 a3 a4 a5 a6 a7 a8 a9 a10 a11 a12 a13 a14 a15 a16 a17 a18 a19 a20 a21 a22 a23 a24 a25 a26 a27 : Oper} : (#[a0, a1, a2, a3, a4, a5, a6, a7, a8, a9, a10, a11, a12, a13, a14, a15, a16, a17, a18, a19, a20, a21, a22, a23, a24, a25, a26, a27] : Array Oper)[24]? = some a24 := rfl
theorem g28_25 {a0 a1 a2 a3 a4 a5 a6 a7 a8 a9 a10 a11 a12 a13 a14 a15 a16 a17 a18 a19 a20 a21 a22 a23 a24 a25 a26 a27 : Oper} : (#[a0, a1, a2, a3, a4, a5, a6, a7, a8, a9, a10, a11, a12, a13, a14, a15, a16, a17, a18, a19, a20, a21, a22, a23, a24, a25, a26, a27] : Array Oper)[25]? = some a25 := rfl
theorem g28_26 {a0 a1 a2 a3 a4 a5 a6 a7 a8 a9 a10 a11 a12 a13 a14 a15 a16 a17 a18 a19 a20 a21 a22 a23 a24 a25 a26 a27 : Oper} : (#[a0, a1, a2, a3, a4, a5, a6, a7, a8, a9, a10, a11, a12, a13, a14, a15, a16, a17, a18, a19, a20, a21, a22, a23, a24, a25, a26, a27] : Array Oper)[26]? = some a26 := rfl
theorem g28_27 {a0 a1 a2 a3 a4 a5 a6 a7 a8 a9 a10 a11 a12 a13 a14 a15 a16 a17 a18 a19 a20 a21 a22 a23 a24 a25 a26 a27 : Oper} : (#[a0, a1, a2, a3, a4, a5, a6, a7, a8, a9, a10, a11, a12, a13, a14, a15, a16, a17, a18, a19, a20, a21, a22, a23, a24, a25, a26, a27] : Array Oper)[27]? = some a27 := rfl

/-- a Knitted in its box -/
def KB (W : World) (b : Nat) (v0 v1 v2 v3 : Value) (r : Int) : Prop := (b < W.heap.size ∧ Tg W b 29) ∧ (W.cell? ⟨b, 0, none⟩ = some v0 ∧ W.cell? ⟨b, 1, none⟩ = some v1 ∧ W.cell? ⟨b, 2, none⟩ = some v2 ∧ W.cell? ⟨b, 3, none⟩ = some v3 ∧ W.cell? ⟨b, 4, none⟩ = some (.int .i64 r)) ∧ ∀ j, j < 5 → W.frozen? ⟨b, j, none⟩ = false
theorem KB.kept {S : Nat → Prop} {W V : World} {b : Nat} {v0 v1 v2 v3 : Value} {r : Int} (k : KB W b v0 v1 v2 v3 r) (e : Kept S W V) (hS : ¬ S b) : KB V b v0 v1 v2 v3 r := by
  obtain ⟨⟨l, t⟩, ⟨a0, a1, a2, a3, a4⟩, f⟩ := k
  exact ⟨⟨Nat.lt_of_lt_of_le l e.size, t.kept e l hS⟩, ⟨e.cell l hS a0, e.cell l hS a1, e.cell l hS a2, e.cell l hS a3, e.cell l hS a4⟩, fun j hj => e.froz l hS (f j hj)⟩
theorem KB.keep {W V : World} {b : Nat} {v0 v1 v2 v3 : Value} {r : Int} (k : KB W b v0 v1 v2 v3 r) (e : Below W.heap.size W V) : KB V b v0 v1 v2 v3 r := k.kept (Kept.of (S := fun _ => False) e) id
theorem KB.new (W : World) (v0 v1 v2 v3 : Value) (r : Int) : KB (W.alloc (.cells #[v0, v1, v2, v3, .int .i64 r] 29)) W.heap.size v0 v1 v2 v3 r :=
  ⟨⟨by simp, Tg.new _ _ _⟩, ⟨by simp [go_sem], by simp [go_sem], by simp [go_sem], by simp [go_sem], by simp [go_sem]⟩, fun j hj => by simp [go_sem]⟩
/-- a whole Knitted is put into its box -/
abbrev put27 (W : World) (b : Nat) (v0 v1 v2 v3 : Value) (r : Int) : World := ((((W.setCell ⟨b, 0, none⟩ v0).setCell ⟨b, 1, none⟩ v1).setCell ⟨b, 2, none⟩ v2).setCell ⟨b, 3, none⟩ v3).setCell ⟨b, 4, none⟩ (.int .i64 r)
theorem KB.put {W : World} {b : Nat} {u0 u1 u2 u3 : Value} {r' : Int} (k : KB W b u0 u1 u2 u3 r') (v0 v1 v2 v3 : Value) (r : Int) : KB (put27 W b v0 v1 v2 v3 r) b v0 v1 v2 v3 r := by
  obtain ⟨⟨l, t⟩, ⟨a0, a1, a2, a3, a4⟩, f⟩ := k
  refine ⟨⟨by simpa using l, (((((t.set _ _).set _ _).set _ _).set _ _).set _ _)⟩, ⟨?_, ?_, ?_, ?_, ?_⟩, fun j hj => fset (fset (fset (fset (fset (f j hj)))))⟩
  · exact cset (cset (cset (cset (csame a0) (by decide)) (by decide)) (by decide)) (by decide)
  · exact cset (cset (cset (csame (cset a1 (by decide))) (by decide)) (by decide)) (by decide)
  · exact cset (cset (csame (cset (cset a2 (by decide)) (by decide))) (by decide)) (by decide)
  · exact cset (csame (cset (cset (cset a3 (by decide)) (by decide)) (by decide))) (by decide)
  · exact csame (cset (cset (cset (cset a4 (by decide)) (by decide)) (by decide)) (by decide))
theorem put27_kept (W : World) (b : Nat) (v0 v1 v2 v3 : Value) (r : Int) : Kept (fun i => i = b) W (put27 W b v0 v1 v2 v3 r) :=
  (((((Kept.refl (fun i => i = b) W).set (b := b) 0 v0 (.inl rfl)).set (b := b) 1 v1 (.inl rfl)).set (b := b) 2 v2 (.inl rfl)).set (b := b) 3 v3 (.inl rfl)).set (b := b) 4 (.int .i64 r) (.inl rfl)

theorem LR.form {W : World} {B : Nat} {v : Value} {xss : List (List Nat)} (k : LR W B v xss) : ∃ q n c, v = .slice q n c := by
  rcases k with k | ⟨q, cap, h, k1, -⟩
  · exact ⟨_, _, _, k.1⟩
  · exact ⟨_, _, _, k1⟩
theorem LPR.form {W : World} {B : Nat} {v : Value} {ls : List (Int × List Nat)} (k : LPR W B v ls) : ∃ q n c, v = .slice q n c := by
  rcases k with k | ⟨q, cap, c, h, k1, -⟩
  · exact ⟨_, _, _, k.1⟩
  · exact ⟨_, _, _, k1⟩
/-- a machine that was made of stitches: which loops a loop was pulled through are few -/
def Th (s : St) : Prop := ∀ e, e ∈ s.loops → e.2.length ≤ 8
set_option maxRecDepth 100000 in
set_option maxHeartbeats 4000000 in
theorem state_any {B : Nat} {W : World} {m N : Nat} {s : St} {g : Mg} (k : MB B W m N s g) (hI : Iv s) (hT : Th s) (h1 : 1 ≤ N) (hN : N ≤ 128) : Calls Try.prog 35 #[mp m] W fun e w' => ∃ v, e = .returned v ∧ KRe w' W.heap.size v (tell N s) ∧ Below W.heap.size W w' := by
  have B0 := hide (bnew W (.cells #[.slice none 0 0, .slice none 0 0, .slice none 0 0, .slice none 0 0, .int .i64 0] 29))
  have HR := hide (KB.new W (.slice none 0 0) (.slice none 0 0) (.slice none 0 0) (.slice none 0 0) 0)
  have HK := hide (k.keep (unhide B0))
  have hlt := k.lt
  clear k
  go_enter Try.func35, Try.ntmps35
  go_upto_region 1 with fail
  generalize W.alloc (.cells #[.slice none 0 0, .slice none 0 0, .slice none 0 0, .slice none 0 0, .int .i64 0] 29) = w0 at *
  obtain ⟨rb, hrb⟩ : ∃ rb, rb = W.heap.size := ⟨_, rfl⟩
  have hmr : m ≠ rb := by omega
  rw [← hrb] at HR
  rw [← hrb]
  have Hrb := hide hrb
  clear hrb
  obtain ⟨-, hlp, hls, hon, -, -⟩ := id hI
  have hdn := hI.1
  have HMk := hide (show ∀ V, Kept (fun i => i = rb) w0 V → V.cell? ⟨m, 0, none⟩ = some (.slice (some ⟨g.bb 0, 0, none⟩) N N) ∧ V.cell? ⟨m, 1, none⟩ = some (.slice (some ⟨g.bb 1, 0, none⟩) N N) ∧ V.cell? ⟨m, 2, none⟩ = some (.int .i64 s.rack) ∧ V.cell? ⟨m, 3, none⟩ = some g.lv ∧ V.cell? ⟨m, 4, none⟩ = some g.sv ∧ V.cell? ⟨m, 5, none⟩ = some (.int .i64 (s.done : Int)) from fun V e => ((unhide HK).box.kept e hmr).2.1)
  have HL := hide (show ∀ V, Below w0.heap.size w0 V → Calls Try.prog 46 #[g.lv] V fun e w' => ∃ v', e = .returned v' ∧ LPRe w' V.heap.size v' s.loops ∧ Below V.heap.size V w' from fun V hV => by
    have k1 := (unhide HK).keep hV
    have := copyLoops_any k1.lps.1 (fun e he => (k1.thr e he).1) (fun e he => hT (lpA e) (by rw [← k1.lps.2]; exact List.mem_map_of_mem he)) (by rw [loops_len k1]; omega)
    rw [k1.lps.2] at this
    exact this)
  have HF := hide (show ∀ V, Below w0.heap.size w0 V → Calls Try.prog 47 #[.slice (some ⟨g.bb 0, 0, none⟩) N N] V fun e w' => ∃ v', e = .returned v' ∧ LRe w' V.heap.size v' ((List.range N).map (s.on 0)) 1 ∧ Below V.heap.size V w' from fun V hV => by
    have k1 := (unhide HK).keep hV
    exact copyBed_any (k1.bed 0 (by omega)).1 (fun j hj => (k1.ndl 0 j (by omega) hj).1) (hon 0) hN h1 1)
  have HG := hide (show ∀ V, Below w0.heap.size w0 V → Calls Try.prog 47 #[.slice (some ⟨g.bb 1, 0, none⟩) N N] V fun e w' => ∃ v', e = .returned v' ∧ LRe w' V.heap.size v' ((List.range N).map (s.on 1)) 2 ∧ Below V.heap.size V w' from fun V hV => by
    have k1 := (unhide HK).keep hV
    exact copyBed_any (k1.bed 1 (by omega)).1 (fun j hj => (k1.ndl 1 j (by omega) hj).1) (hon 1) hN h1 2)
  have HC := hide (show ∀ V, Below w0.heap.size w0 V → Calls Try.prog 48 #[g.sv] V fun e w' => ∃ v', e = .returned v' ∧ NR w' V.heap.size v' s.loose ∧ Below V.heap.size V w' from fun V hV => by
    have k1 := (unhide HK).keep hV
    exact clone3 k1.lse.1 (by omega))
  obtain ⟨lv, hlv⟩ : ∃ lv, lv = g.lv := ⟨_, rfl⟩
  obtain ⟨sv, hsv⟩ : ∃ sv, sv = g.sv := ⟨_, rfl⟩
  rw [← hlv, ← hsv] at HMk
  rw [← hlv] at HL
  rw [← hsv] at HC
  clear hlv hsv
  refine wp_region_noPanic ?_
  refine wp_region_held_drew (S := fun V => Kept (fun i => i = rb) w0 V) (by kernel_rfl) ((Kept.refl _ _).dr) ?_
  intro _
  refine wpAnyH_take (i := 0) (oi := _) (v := mp m) g28_0 (by kernel_rfl) (by kernel_rfl) (by kernel_rfl) (fun _ _ _ h => h) (Or.inl ⟨by rfl, ?_⟩) (by assumption) ?_
  · intro V hSw
    try dsimp only at hSw
    go_simp
  simp only [Act.put, List.setIfInBounds_toArray, List.set_cons_zero, List.set_cons_succ]
  refine wpAnyH_take (i := 1) (oi := _) (v := mp m) g28_1 (by kernel_rfl) (by kernel_rfl) (by kernel_rfl) (fun _ _ _ h => h) (Or.inl ⟨by rfl, ?_⟩) (by assumption) ?_
  · intro V hSw
    try dsimp only at hSw
    go_simp
  simp only [Act.put, List.setIfInBounds_toArray, List.set_cons_zero, List.set_cons_succ]
  refine wpAnyH_take (i := 2) (oi := _) (v := .pointer (some ⟨m, 3, none⟩)) g28_2 (by kernel_rfl) (by kernel_rfl) (by kernel_rfl) (fun _ _ _ h => h) (Or.inl ⟨by rfl, ?_⟩) (by assumption) ?_
  · intro V hSw
    try dsimp only at hSw
    go_simp
  simp only [Act.put, List.setIfInBounds_toArray, List.set_cons_zero, List.set_cons_succ]
  refine wpAnyH_take (i := 3) (oi := _) (v := lv) g28_3 (by kernel_rfl) (by kernel_rfl) (by kernel_rfl) (fun _ _ _ h => h) (Or.inl ⟨by rfl, ?_⟩) (by assumption) ?_
  · intro V hSw
    try dsimp only at hSw
    obtain ⟨m0, m1, m2, m3, m4, m5⟩ := (unhide HMk V hSw)
    go_simp
  simp only [Act.put, List.setIfInBounds_toArray, List.set_cons_zero, List.set_cons_succ]
  refine wpAnyH_take (i := 5) (oi := _) (v := mp m) g28_5 (by kernel_rfl) (by kernel_rfl) (by kernel_rfl) (fun _ _ _ h => h) (Or.inl ⟨by rfl, ?_⟩) (by assumption) ?_
  · intro V hSw
    try dsimp only at hSw
    go_simp
  simp only [Act.put, List.setIfInBounds_toArray, List.set_cons_zero, List.set_cons_succ]
  refine wpAnyH_take (i := 6) (oi := _) (v := mp m) g28_6 (by kernel_rfl) (by kernel_rfl) (by kernel_rfl) (fun _ _ _ h => h) (Or.inl ⟨by rfl, ?_⟩) (by assumption) ?_
  · intro V hSw
    try dsimp only at hSw
    go_simp
  simp only [Act.put, List.setIfInBounds_toArray, List.set_cons_zero, List.set_cons_succ]
  refine wpAnyH_take (i := 7) (oi := _) (v := .pointer (some ⟨m, 0, none⟩)) g28_7 (by kernel_rfl) (by kernel_rfl) (by kernel_rfl) (fun _ _ _ h => h) (Or.inl ⟨by rfl, ?_⟩) (by assumption) ?_
  · intro V hSw
    try dsimp only at hSw
    go_simp
  simp only [Act.put, List.setIfInBounds_toArray, List.set_cons_zero, List.set_cons_succ]
  refine wpAnyH_take (i := 8) (oi := _) (v := .pointer (some ⟨m, 0, none⟩)) g28_8 (by kernel_rfl) (by kernel_rfl) (by kernel_rfl) (fun _ _ _ h => h) (Or.inl ⟨by rfl, ?_⟩) (by assumption) ?_
  · intro V hSw
    try dsimp only at hSw
    go_simp
  simp only [Act.put, List.setIfInBounds_toArray, List.set_cons_zero, List.set_cons_succ]
  refine wpAnyH_take (i := 9) (oi := _) (v := .slice (some ⟨g.bb 0, 0, none⟩) N N) g28_9 (by kernel_rfl) (by kernel_rfl) (by kernel_rfl) (fun _ _ _ h => h) (Or.inl ⟨by rfl, ?_⟩) (by assumption) ?_
  · intro V hSw
    try dsimp only at hSw
    obtain ⟨m0, m1, m2, m3, m4, m5⟩ := (unhide HMk V hSw)
    go_simp
  simp only [Act.put, List.setIfInBounds_toArray, List.set_cons_zero, List.set_cons_succ]
  refine wpAnyH_take (i := 11) (oi := _) (v := mp m) g28_11 (by kernel_rfl) (by kernel_rfl) (by kernel_rfl) (fun _ _ _ h => h) (Or.inl ⟨by rfl, ?_⟩) (by assumption) ?_
  · intro V hSw
    try dsimp only at hSw
    go_simp
  simp only [Act.put, List.setIfInBounds_toArray, List.set_cons_zero, List.set_cons_succ]
  refine wpAnyH_take (i := 12) (oi := _) (v := mp m) g28_12 (by kernel_rfl) (by kernel_rfl) (by kernel_rfl) (fun _ _ _ h => h) (Or.inl ⟨by rfl, ?_⟩) (by assumption) ?_
  · intro V hSw
    try dsimp only at hSw
    go_simp
  simp only [Act.put, List.setIfInBounds_toArray, List.set_cons_zero, List.set_cons_succ]
  refine wpAnyH_take (i := 13) (oi := _) (v := .pointer (some ⟨m, 0, none⟩)) g28_13 (by kernel_rfl) (by kernel_rfl) (by kernel_rfl) (fun _ _ _ h => h) (Or.inl ⟨by rfl, ?_⟩) (by assumption) ?_
  · intro V hSw
    try dsimp only at hSw
    go_simp
  simp only [Act.put, List.setIfInBounds_toArray, List.set_cons_zero, List.set_cons_succ]
  refine wpAnyH_take (i := 14) (oi := _) (v := .pointer (some ⟨m, 1, none⟩)) g28_14 (by kernel_rfl) (by kernel_rfl) (by kernel_rfl) (fun _ _ _ h => h) (Or.inl ⟨by rfl, ?_⟩) (by assumption) ?_
  · intro V hSw
    try dsimp only at hSw
    go_simp
  simp only [Act.put, List.setIfInBounds_toArray, List.set_cons_zero, List.set_cons_succ]
  refine wpAnyH_take (i := 15) (oi := _) (v := .slice (some ⟨g.bb 1, 0, none⟩) N N) g28_15 (by kernel_rfl) (by kernel_rfl) (by kernel_rfl) (fun _ _ _ h => h) (Or.inl ⟨by rfl, ?_⟩) (by assumption) ?_
  · intro V hSw
    try dsimp only at hSw
    obtain ⟨m0, m1, m2, m3, m4, m5⟩ := (unhide HMk V hSw)
    go_simp
  simp only [Act.put, List.setIfInBounds_toArray, List.set_cons_zero, List.set_cons_succ]
  refine wpAnyH_take (i := 17) (oi := _) (v := mp m) g28_17 (by kernel_rfl) (by kernel_rfl) (by kernel_rfl) (fun _ _ _ h => h) (Or.inl ⟨by rfl, ?_⟩) (by assumption) ?_
  · intro V hSw
    try dsimp only at hSw
    go_simp
  simp only [Act.put, List.setIfInBounds_toArray, List.set_cons_zero, List.set_cons_succ]
  refine wpAnyH_take (i := 18) (oi := _) (v := mp m) g28_18 (by kernel_rfl) (by kernel_rfl) (by kernel_rfl) (fun _ _ _ h => h) (Or.inl ⟨by rfl, ?_⟩) (by assumption) ?_
  · intro V hSw
    try dsimp only at hSw
    go_simp
  simp only [Act.put, List.setIfInBounds_toArray, List.set_cons_zero, List.set_cons_succ]
  refine wpAnyH_take (i := 19) (oi := _) (v := .pointer (some ⟨m, 4, none⟩)) g28_19 (by kernel_rfl) (by kernel_rfl) (by kernel_rfl) (fun _ _ _ h => h) (Or.inl ⟨by rfl, ?_⟩) (by assumption) ?_
  · intro V hSw
    try dsimp only at hSw
    go_simp
  simp only [Act.put, List.setIfInBounds_toArray, List.set_cons_zero, List.set_cons_succ]
  refine wpAnyH_take (i := 20) (oi := _) (v := sv) g28_20 (by kernel_rfl) (by kernel_rfl) (by kernel_rfl) (fun _ _ _ h => h) (Or.inl ⟨by rfl, ?_⟩) (by assumption) ?_
  · intro V hSw
    try dsimp only at hSw
    obtain ⟨m0, m1, m2, m3, m4, m5⟩ := (unhide HMk V hSw)
    go_simp
  simp only [Act.put, List.setIfInBounds_toArray, List.set_cons_zero, List.set_cons_succ]
  refine wpAnyH_take (i := 22) (oi := _) (v := mp m) g28_22 (by kernel_rfl) (by kernel_rfl) (by kernel_rfl) (fun _ _ _ h => h) (Or.inl ⟨by rfl, ?_⟩) (by assumption) ?_
  · intro V hSw
    try dsimp only at hSw
    go_simp
  simp only [Act.put, List.setIfInBounds_toArray, List.set_cons_zero, List.set_cons_succ]
  refine wpAnyH_take (i := 23) (oi := _) (v := mp m) g28_23 (by kernel_rfl) (by kernel_rfl) (by kernel_rfl) (fun _ _ _ h => h) (Or.inl ⟨by rfl, ?_⟩) (by assumption) ?_
  · intro V hSw
    try dsimp only at hSw
    go_simp
  simp only [Act.put, List.setIfInBounds_toArray, List.set_cons_zero, List.set_cons_succ]
  refine wpAnyH_take (i := 24) (oi := _) (v := .pointer (some ⟨m, 2, none⟩)) g28_24 (by kernel_rfl) (by kernel_rfl) (by kernel_rfl) (fun _ _ _ h => h) (Or.inl ⟨by rfl, ?_⟩) (by assumption) ?_
  · intro V hSw
    try dsimp only at hSw
    go_simp
  simp only [Act.put, List.setIfInBounds_toArray, List.set_cons_zero, List.set_cons_succ]
  refine wpAnyH_take (i := 25) (oi := _) (v := .int .i64 s.rack) g28_25 (by kernel_rfl) (by kernel_rfl) (by kernel_rfl) (fun _ _ _ h => h) (Or.inl ⟨by rfl, ?_⟩) (by assumption) ?_
  · intro V hSw
    try dsimp only at hSw
    obtain ⟨m0, m1, m2, m3, m4, m5⟩ := (unhide HMk V hSw)
    go_simp
  simp only [Act.put, List.setIfInBounds_toArray, List.set_cons_zero, List.set_cons_succ]
  refine wpAnyH_ready (rs := [4]) (by kernel_rfl) (by simp) ?_
  refine AllReadyH.cons (o := _) g28_4 (fun K hK => ?_) AllReadyH.nil
  go_simp
  refine (unhide HL _ (bdrew w0)).mono ?_
  rintro e w4 ⟨v4, rfl, ⟨o4, hw4⟩, hbw4⟩
  have T4 := hide (btrans ((bdrew w0)) hbw4)
  have R4 := hide hw4
  clear hw4 hbw4
  refine hK.out _ _ (Kept.of (unhide T4)) (fun _ => ?_)
  clear hK K
  refine wpAnyH_ready (rs := [10]) (by kernel_rfl) (by simp) ?_
  refine AllReadyH.cons (o := _) g28_10 (fun K hK => ?_) AllReadyH.nil
  go_simp
  refine (unhide HF _ (unhide T4)).mono ?_
  rintro e w10 ⟨v10, rfl, ⟨o10, hw10⟩, hbw10⟩
  have T10 := hide (btrans ((unhide T4)) hbw10)
  have A10 := hide hbw10
  have R10 := hide hw10
  clear hw10 hbw10
  refine hK.out _ _ (Kept.of (unhide T10)) (fun _ => ?_)
  clear hK K
  refine wpAnyH_ready (rs := [16]) (by kernel_rfl) (by simp) ?_
  refine AllReadyH.cons (o := _) g28_16 (fun K hK => ?_) AllReadyH.nil
  go_simp
  refine (unhide HG _ (unhide T10)).mono ?_
  rintro e w16 ⟨v16, rfl, ⟨o16, hw16⟩, hbw16⟩
  have T16 := hide (btrans ((unhide T10)) hbw16)
  have A16 := hide hbw16
  have R16 := hide hw16
  clear hw16 hbw16
  refine hK.out _ _ (Kept.of (unhide T16)) (fun _ => ?_)
  clear hK K
  refine wpAnyH_ready (rs := [21]) (by kernel_rfl) (by simp) ?_
  refine AllReadyH.cons (o := _) g28_21 (fun K hK => ?_) AllReadyH.nil
  go_simp
  refine (unhide HC _ (unhide T16)).mono ?_
  rintro e w21 ⟨v21, rfl, hw21, hbw21⟩
  have T21 := hide (btrans ((unhide T16)) hbw21)
  have U16 := hide hbw21
  have U10 := hide (btrans (unhide A16) hbw21)
  have U4 := hide (btrans (unhide A10) (btrans (unhide A16) hbw21))
  have R21 := hide hw21
  clear hw21 hbw21
  refine hK.out _ _ (Kept.of (unhide T21)) (fun _ => ?_)
  clear hK K
  obtain ⟨q21, c21, rfl⟩ := (unhide R21).form
  obtain ⟨q4, n4, c4, rfl⟩ := (unhide R4).form
  obtain ⟨q10, n10, c10, rfl⟩ := (unhide R10).form
  obtain ⟨q16, n16, c16, rfl⟩ := (unhide R16).form
  refine wpAnyH_take (i := 26) (oi := _) (v := .agg #[.slice q4 n4 c4, .slice q10 n10 c10, .slice q16 n16 c16, .slice q21 s.loose.length c21, .int .i64 s.rack]) g28_26 (by kernel_rfl) (by kernel_rfl) (by kernel_rfl) (fun _ _ _ h => h) (Or.inl ⟨by rfl, ?_⟩) (by assumption) ?_
  · intro V hSw
    try dsimp only at hSw
    go_simp
  simp only [Act.put, List.setIfInBounds_toArray, List.set_cons_zero, List.set_cons_succ]
  refine wpAnyH_ready (rs := [27]) (by kernel_rfl) (by simp) ?_
  refine AllReadyH.cons (o := _) g28_27 (fun K hK => ?_) AllReadyH.nil
  obtain ⟨-, ⟨r0, r1, r2, r3, r4⟩, rf⟩ := (unhide HR).keep (unhide T21)
  have rf0 := rf 0 (by decide)
  have rf1 := rf 1 (by decide)
  have rf2 := rf 2 (by decide)
  have rf3 := rf 3 (by decide)
  have rf4 := rf 4 (by decide)
  clear rf
  go_simp
  refine hK.out _ _ ((Kept.of (unhide T21)).trans (put27_kept w21 rb _ _ _ _ _)) (fun _ => ?_)
  clear hK K
  refine wpAnyH_done (by kernel_rfl) ?_ _
  refine NoPanic.normal ?_
  obtain ⟨x9, hx9, hR9, hK9⟩ : ∃ x9, put27 w21 rb (.slice q4 n4 c4) (.slice q10 n10 c10) (.slice q16 n16 c16) (.slice q21 s.loose.length c21) s.rack = x9 ∧ KB x9 rb (.slice q4 n4 c4) (.slice q10 n10 c10) (.slice q16 n16 c16) (.slice q21 s.loose.length c21) s.rack ∧ Kept (fun i => i = rb) w21 x9 := ⟨_, rfl, ((unhide HR).keep (unhide T21)).put _ _ _ _ _, put27_kept _ _ _ _ _ _ _⟩
  unfold put27 at hx9
  rw [hx9]
  have HR9 := hide hR9
  have HK9 := hide hK9
  clear hx9 hR9 hK9
  go_wp2
  obtain ⟨-, ⟨z0, z1, z2, z3, z4⟩, -⟩ := unhide HR9
  refine bodyPost_ret (v := .agg #[.slice q4 n4 c4, .slice q10 n10 c10, .slice q16 n16 c16, .slice q21 s.loose.length c21, .int .i64 s.rack]) ?_ rfl ?_
  · simp [results, Try.results35, go_sem, z0, z1, z2, z3, z4]
  · have t27 : Tg w21 rb 29 := ((unhide HR).keep (unhide T21)).1.2
    have nt : ∀ {u : TypeId}, (29 : TypeId) ≠ u → ∀ i, i = rb → ¬ Tg w21 i u := fun h i e t => tg_not (show Tg w21 i 29 from e ▸ t27) h t
    have b0 := (unhide B0).size
    have e4 : W.heap.size ≤ w0.heap.size := b0
    have e10 : W.heap.size ≤ w4.heap.size := Nat.le_trans b0 (unhide T4).size
    have e16 : W.heap.size ≤ w10.heap.size := Nat.le_trans b0 (unhide T10).size
    have e21 : W.heap.size ≤ w16.heap.size := Nat.le_trans b0 (unhide T16).size
    have z4 := (unhide T4).size
    have z10 := (unhide A10).size
    have z16 := (unhide A16).size
    have z21 := (unhide U16).size
    have zz := (unhide HK9).size
    refine ⟨_, rfl, ⟨ogX (fun k => if k < w4.heap.size then o4 k else if k < w10.heap.size then o10 k else o16 k) w16.heap.size (3, 0), ⟨_, _, _, _, rfl, ?_, ?_, ?_, ?_, Og.new (unhide R21)⟩⟩, ?_⟩
    · exact ((((unhide R4).mix (o' := ogX (fun k => if k < w4.heap.size then o4 k else if k < w10.heap.size then o10 k else o16 k) w16.heap.size (3, 0)) (fun i h1 h2 => by unfold ogX; rw [if_pos (by omega)]; dsimp only; rw [if_pos h2])).keep (unhide U4)).kept (unhide HK9) (nt (by decide)) (nt (by decide))).le e4
    · exact ((((unhide R10).mix (o' := ogX (fun k => if k < w4.heap.size then o4 k else if k < w10.heap.size then o10 k else o16 k) w16.heap.size (3, 0)) (fun i h1 h2 => by unfold ogX; rw [if_pos (by omega)]; dsimp only; rw [if_neg (by omega), if_pos h2])).keep (unhide U10)).kept (unhide HK9) (nt (by decide)) (nt (by decide))).le e10
    · exact ((((unhide R16).mix (o' := ogX (fun k => if k < w4.heap.size then o4 k else if k < w10.heap.size then o10 k else o16 k) w16.heap.size (3, 0)) (fun i h1 h2 => by unfold ogX; rw [if_pos (by omega)]; dsimp only; rw [if_neg (by omega), if_neg (by omega)])).keep (unhide U16)).kept (unhide HK9) (nt (by decide)) (nt (by decide))).le e16
    · exact ((unhide R21).kept (unhide HK9) (nt (by decide))).le e21
    · exact Kept.back (btrans (unhide B0) (unhide T21)) (unhide HK9) (btrans (unhide B0) (unhide T21)).size (fun i e => by rw [e, unhide Hrb]; exact Nat.le_refl _)
end Go.Proofs.Ytancniamgfppiaa
