/-
  The document's Do: what its regions make.
-/
import Derived.Test.YtancniamgfppiaaRfC
import Derived.Deep.DeepCutAuto
namespace Go.Proofs.Ytancniamgfppiaa
open Go.RowKit

theorem HR.kept {S : Nat → Prop} {W V : World} {B : Nat} {v : Value} {l : List (Nat × Nat × Nat)} (h : HR W B v l) (e : Kept S W V) (hS : ∀ i, S i → Tg W i 87) : HR V B v l := own_kept h e (fun i q t => tg_not (hS i q) (by decide) t)
theorem HR.le {W : World} {B C : Nat} {v : Value} {l : List (Nat × Nat × Nat)} (h : HR W B v l) (e : C ≤ B) : HR W C v l := own_le h e
theorem LO.kept {S : Nat → Prop} {W V : World} {B : Nat} {v : Value} {ls : List (Int × List Nat)} (h : LO W B v ls) (e : Kept S W V) (hS : ∀ i, S i → Tg W i 87) : LO V B v ls := by
  obtain ⟨hs, h1, h2, h3⟩ := h
  exact ⟨hs, h1, own_kept h2 e (fun i q t => tg_not (hS i q) (by decide) t), fun x hx => (h3 x hx).kept e (fun i q t => tg_not (hS i q) (by decide) t)⟩
theorem NR.kept54 {S : Nat → Prop} {W V : World} {B : Nat} {v : Value} {xs : List Nat} (h : NR W B v xs) (e : Kept S W V) (hS : ∀ i, S i → Tg W i 87) : NR V B v xs := h.kept e (fun i q t => tg_not (hS i q) (by decide) t)
theorem LO.le {W : World} {B C : Nat} {v : Value} {ls : List (Int × List Nat)} (h : LO W B v ls) (e : C ≤ B) : LO W C v ls := by
  obtain ⟨hs, h1, h2, h3⟩ := h
  exact ⟨hs, h1, own_le h2 e, h3⟩
/-- a row that an append leaves alone -/
theorem own_grown {W V : World} {B n z : Nat} {e : TypeId} {v y : Value} {xs : List Value} (h : W.ownsRow B e z v n xs) (g : W.grownBy V y.ownBlock) (hne : ∀ i, v.ownBlock = some i → y.ownBlock ≠ some i) : V.ownsRow B e z v n xs :=
  own_but h (grown_kept (S := fun i => y.ownBlock = some i) g (fun _ q => .inl q)) (fun i hi q => hne i hi q)
/-- a loop more, in the box -/
theorem close_loops {w2 V : World} {sb N n1 : Nat} {q1 : Option Addr} {c1 : Nat} {v2 hv sv : Value} {rk : Int} {dn n0 : Nat} {hs : List (Int × Value × List Nat)} {car : Int} {tv : Value} {ts : List Nat} (he0 : n0 = hs.length) (hSB : SB w2 sb N (.slice q1 n1 c1) hv sv rk dn) (hV : Below w2.heap.size w2 V) (hn : ∀ e ∈ hs, NR w2 0 e.2.1 e.2.2) (ht : NR w2 0 tv ts) (ho : V.ownsRow w2.heap.size 43 2 v2 (n0 + 1) (lpC hs ++ [.int .i64 car, tv])) :
    SB (V.setCell ⟨sb, 1, none⟩ v2) sb N v2 hv sv rk dn ∧ LO (V.setCell ⟨sb, 1, none⟩ v2) 0 v2 (hs.map lpA ++ [(car, ts)]) ∧ Kept (fun i => i = sb) w2 (V.setCell ⟨sb, 1, none⟩ v2) := by
  subst he0
  have h1 := hSB.keep hV
  have k := kset V sb 1 v2
  have nt : ∀ {u : TypeId}, (87 : TypeId) ≠ u → ∀ i, i = sb → ¬ Tg V i u := fun hu i e t => tg_not (show Tg V i 87 from e ▸ h1.1.2) hu t
  refine ⟨h1.loops v2, ⟨hs ++ [(car, tv, ts)], by simp, ?_, fun e he => ?_⟩, (Kept.of hV).set 1 v2 (.inl rfl)⟩
  · rw [List.length_append, lpC_app]
    exact own_le (own_kept ho k (nt (by decide))) (Nat.zero_le _)
  · rcases List.mem_append.1 he with q | q
    · exact ((hn e q).keep hV).kept k (nt (by decide))
    · rw [List.mem_singleton.1 q]
      exact (ht.keep hV).kept k (nt (by decide))
/-- a loop more on a needle, in the box -/
theorem close_held {w2 V : World} {sb N n2 : Nat} {q2 : Option Addr} {c2 : Nat} {lv v2 sv : Value} {rk : Int} {dn n0 : Nat} {l : List (Nat × Nat × Nat)} {h : Nat × Nat × Nat} (he0 : n0 = l.length) (hSB : SB w2 sb N lv (.slice q2 n2 c2) sv rk dn) (hV : Below w2.heap.size w2 V) (ho : V.ownsRow w2.heap.size 113 3 v2 (n0 + 1) (hdV l ++ hdV [h])) :
    SB (V.setCell ⟨sb, 2, none⟩ v2) sb N lv v2 sv rk dn ∧ HR (V.setCell ⟨sb, 2, none⟩ v2) 0 v2 (l ++ [h]) ∧ Kept (fun i => i = sb) w2 (V.setCell ⟨sb, 2, none⟩ v2) := by
  subst he0
  have h1 := hSB.keep hV
  have k := kset V sb 2 v2
  have nt : ∀ {u : TypeId}, (87 : TypeId) ≠ u → ∀ i, i = sb → ¬ Tg V i u := fun hu i e t => tg_not (show Tg V i 87 from e ▸ h1.1.2) hu t
  refine ⟨h1.held v2, ?_, (Kept.of hV).set 2 v2 (.inl rfl)⟩
  unfold HR
  rw [List.length_append, hdV_app]
  exact own_le (own_kept ho k (nt (by decide))) (Nat.zero_le _)

/-- behind a region: loops more; who is where -/
def LpQ (w2 : World) (sb N : Nat) (hv sv : Value) (rk : Int) (dn : Nat) (ls : List (Int × List Nat)) (wd : World) : Prop := ∃ v9, SB wd sb N v9 hv sv rk dn ∧ LO wd 0 v9 ls ∧ Kept (fun i => i = sb) w2 wd
theorem LpQ.of {w2 : World} {sb N : Nat} {hv sv : Value} {rk : Int} {dn : Nat} {ls : List (Int × List Nat)} {wd : World} {v9 : Value} (h : SB wd sb N v9 hv sv rk dn ∧ LO wd 0 v9 ls ∧ Kept (fun i => i = sb) w2 wd) : LpQ w2 sb N hv sv rk dn ls wd := ⟨v9, h⟩
def HdQ (w2 : World) (sb N : Nat) (lv sv : Value) (rk : Int) (dn : Nat) (l : List (Nat × Nat × Nat)) (wd : World) : Prop := ∃ v9, SB wd sb N lv v9 sv rk dn ∧ HR wd 0 v9 l ∧ Kept (fun i => i = sb) w2 wd
theorem HdQ.of {w2 : World} {sb N : Nat} {lv sv : Value} {rk : Int} {dn : Nat} {l : List (Nat × Nat × Nat)} {wd : World} {v9 : Value} (h : SB wd sb N lv v9 sv rk dn ∧ HR wd 0 v9 l ∧ Kept (fun i => i = sb) w2 wd) : HdQ w2 sb N lv sv rk dn l wd := ⟨v9, h⟩

theorem g11_0 {a0 a1 a2 a3 a4 a5 a6 a7 a8 a9 a10 : Oper} : (#[a0, a1, a2, a3, a4, a5, a6, a7, a8, a9, a10] : Array Oper)[0]? = some a0 := rfl
theorem g11_1 {a0 a1 a2 a3 a4 a5 a6 a7 a8 a9 a10 : Oper} : (#[a0, a1, a2, a3, a4, a5, a6, a7, a8, a9, a10] : Array Oper)[1]? = some a1 := rfl
theorem g11_2 {a0 a1 a2 a3 a4 a5 a6 a7 a8 a9 a10 : Oper} : (#[a0, a1, a2, a3, a4, a5, a6, a7, a8, a9, a10] : Array Oper)[2]? = some a2 := rfl
theorem g11_3 {a0 a1 a2 a3 a4 a5 a6 a7 a8 a9 a10 : Oper} : (#[a0, a1, a2, a3, a4, a5, a6, a7, a8, a9, a10] : Array Oper)[3]? = some a3 := rfl
theorem g11_4 {a0 a1 a2 a3 a4 a5 a6 a7 a8 a9 a10 : Oper} : (#[a0, a1, a2, a3, a4, a5, a6, a7, a8, a9, a10] : Array Oper)[4]? = some a4 := rfl
theorem g11_5 {a0 a1 a2 a3 a4 a5 a6 a7 a8 a9 a10 : Oper} : (#[a0, a1, a2, a3, a4, a5, a6, a7, a8, a9, a10] : Array Oper)[5]? = some a5 := rfl
theorem g11_6 {a0 a1 a2 a3 a4 a5 a6 a7 a8 a9 a10 : Oper} : (#[a0, a1, a2, a3, a4, a5, a6, a7, a8, a9, a10] : Array Oper)[6]? = some a6 := rfl
theorem g11_7 {a0 a1 a2 a3 a4 a5 a6 a7 a8 a9 a10 : Oper} : (#[a0, a1, a2, a3, a4, a5, a6, a7, a8, a9, a10] : Array Oper)[7]? = some a7 := rfl
theorem g11_8 {a0 a1 a2 a3 a4 a5 a6 a7 a8 a9 a10 : Oper} : (#[a0, a1, a2, a3, a4, a5, a6, a7, a8, a9, a10] : Array Oper)[8]? = some a8 := rfl
theorem g11_9 {a0 a1 a2 a3 a4 a5 a6 a7 a8 a9 a10 : Oper} : (#[a0, a1, a2, a3, a4, a5, a6, a7, a8, a9, a10] : Array Oper)[9]? = some a9 := rfl
theorem g11_10 {a0 a1 a2 a3 a4 a5 a6 a7 a8 a9 a10 : Oper} : (#[a0, a1, a2, a3, a4, a5, a6, a7, a8, a9, a10] : Array Oper)[10]? = some a10 := rfl
theorem g17_0 {a0 a1 a2 a3 a4 a5 a6 a7 a8 a9 a10 a11 a12 a13 a14 a15 a16 : Oper} : (#[a0, a1, a2, a3, a4, a5, a6, a7, a8, a9, a10, a11, a12, a13, a14, a15, a16] : Array Oper)[0]? = some a0 := rfl
theorem g17_1 {a0 a1 a2 a3 a4 a5 a6 a7 a8 a9 a10 a11 a12 a13 a14 a15 a16 : Oper} : (#[a0, a1, a2, a3, a4, a5, a6, a7, a8, a9, a10, a11, a12, a13, a14, a15, a16] : Array Oper)[1]? = some a1 := rfl
theorem g17_2 {a0 a1 a2 a3 a4 a5 a6 a7 a8 a9 a10 a11 a12 a13 a14 a15 a16 : Oper} : (#[a0, a1, a2, a3, a4, a5, a6, a7, a8, a9, a10, a11, a12, a13, a14, a15, a16] : Array Oper)[2]? = some a2 := rfl
theorem g17_3 {a0 a1 a2 a3 a4 a5 a6 a7 a8 a9 a10 a11 a12 a13 a14 a15 a16 : Oper} : (#[a0, a1, a2, a3, a4, a5, a6, a7, a8, a9, a10, a11, a12, a13, a14, a15, a16] : Array Oper)[3]? = some a3 := rfl
theorem g17_4 {a0 a1 a2 a3 a4 a5 a6 a7 a8 a9 a10 a11 a12 a13 a14 a15 a16 : Oper} : (#[a0, a1, a2, a3, a4, a5, a6, a7, a8, a9, a10, a11, a12, a13, a14, a15, a16] : Array Oper)[4]? = some a4 := rfl
theorem g17_5 {a0 a1 a2 a3 a4 a5 a6 a7 a8 a9 a10 a11 a12 a13 a14 a15 a16 : Oper} : (#[a0, a1, a2, a3, a4, a5, a6, a7, a8, a9, a10, a11, a12, a13, a14, a15, a16] : Array Oper)[5]? = some a5 := rfl
theorem g17_6 {a0 a1 a2 a3 a4 a5 a6 a7 a8 a9 a10 a11 a12 a13 a14 a15 a16 : Oper} : (#[a0, a1, a2, a3, a4, a5, a6, a7, a8, a9, a10, a11, a12, a13, a14, a15, a16] : Array Oper)[6]? = some a6 := rfl
theorem g17_7 {a0 a1 a2 a3 a4 a5 a6 a7 a8 a9 a10 a11 a12 a13 a14 a15 a16 : Oper} : (#[a0, a1, a2, a3, a4, a5, a6, a7, a8, a9, a10, a11, a12, a13, a14, a15, a16] : Array Oper)[7]? = some a7 := rfl
theorem g17_8 {a0 a1 a2 a3 a4 a5 a6 a7 a8 a9 a10 a11 a12 a13 a14 a15 a16 : Oper} : (#[a0, a1, a2, a3, a4, a5, a6, a7, a8, a9, a10, a11, a12, a13, a14, a15, a16] : Array Oper)[8]? = some a8 := rfl
theorem g17_9 {a0 a1 a2 a3 a4 a5 a6 a7 a8 a9 a10 a11 a12 a13 a14 a15 a16 : Oper} : (#[a0, a1, a2, a3, a4, a5, a6, a7, a8, a9, a10, a11, a12, a13, a14, a15, a16] : Array Oper)[9]? = some a9 := rfl
theorem g17_10 {a0 a1 a2 a3 a4 a5 a6 a7 a8 a9 a10 a11 a12 a13 a14 a15 a16 : Oper} : (#[a0, a1, a2, a3, a4, a5, a6, a7, a8, a9, a10, a11, a12, a13, a14, a15, a16] : Array Oper)[10]? = some a10 := rfl
theorem g17_11 {a0 a1 a2 a3 a4 a5 a6 a7 a8 a9 a10 a11 a12 a13 a14 a15 a16 : Oper} : (#[a0, a1, a2, a3, a4, a5, a6, a7, a8, a9, a10, a11, a12, a13, a14, a15, a16] : Array Oper)[11]? = some a11 := rfl
theorem g17_12 {a0 a1 a2 a3 a4 a5 a6 a7 a8 a9 a10 a11 a12 a13 a14 a15 a16 : Oper} : (#[a0, a1, a2, a3, a4, a5, a6, a7, a8, a9, a10, a11, a12, a13, a14, a15, a16] : Array Oper)[12]? = some a12 := rfl
theorem g17_13 {a0 a1 a2 a3 a4 a5 a6 a7 a8 a9 a10 a11 a12 a13 a14 a15 a16 : Oper} : (#[a0, a1, a2, a3, a4, a5, a6, a7, a8, a9, a10, a11, a12, a13, a14, a15, a16] : Array Oper)[13]? = some a13 := rfl
theorem g17_14 {a0 a1 a2 a3 a4 a5 a6 a7 a8 a9 a10 a11 a12 a13 a14 a15 a16 : Oper} : (#[a0, a1, a2, a3, a4, a5, a6, a7, a8, a9, a10, a11, a12, a13, a14, a15, a16] : Array Oper)[14]? = some a14 := rfl
theorem g17_15 {a0 a1 a2 a3 a4 a5 a6 a7 a8 a9 a10 a11 a12 a13 a14 a15 a16 : Oper} : (#[a0, a1, a2, a3, a4, a5, a6, a7, a8, a9, a10, a11, a12, a13, a14, a15, a16] : Array Oper)[15]? = some a15 := rfl
theorem g17_16 {a0 a1 a2 a3 a4 a5 a6 a7 a8 a9 a10 a11 a12 a13 a14 a15 a16 : Oper} : (#[a0, a1, a2, a3, a4, a5, a6, a7, a8, a9, a10, a11, a12, a13, a14, a15, a16] : Array Oper)[16]? = some a16 := rfl
/-- the boxes of Do -/
theorem do_boxes (W : World) (N : Nat) (lv hv sv : Value) (rk : Int) (dn : Nat) (x : Sx) : ∃ w0, ((W.alloc (.cells #[.int .i64 (N : Int), lv, hv, sv, .int .i64 rk, .int .i64 (dn : Int)] 87)).alloc (.cells #[.int .i64 x.dk, .int .i64 x.bed, .int .i64 x.ndl, .int .i64 x.car, .int .i64 x.tt] 24)).alloc (.cells #[.int .i64 0, .slice none 0 0, .slice none 0 0, .slice none 0 0, .int .i64 0, .int .i64 0] 87) = w0 ∧ SB w0 W.heap.size N lv hv sv rk dn ∧ XB w0 (W.heap.size + 1) x ∧ SB w0 (W.heap.size + 2) 0 (.slice none 0 0) (.slice none 0 0) (.slice none 0 0) 0 0 ∧ Below W.heap.size W w0 := by
  refine ⟨_, rfl, ((SB.new W N lv hv sv rk dn).keep (bnew _ _)).keep (bnew _ _), ?_, ?_, btrans (btrans (bnew _ _) (bnew _ _)) (bnew _ _)⟩
  · have := (two44 W (.cells #[.int .i64 (N : Int), lv, hv, sv, .int .i64 rk, .int .i64 (dn : Int)] 87) x.dk x.bed x.ndl x.car x.tt).keep (bnew _ (.cells #[.int .i64 0, .slice none 0 0, .slice none 0 0, .slice none 0 0, .int .i64 0, .int .i64 0] 87))
    exact this
  · have := SB.new ((W.alloc (.cells #[.int .i64 (N : Int), lv, hv, sv, .int .i64 rk, .int .i64 (dn : Int)] 87)).alloc (.cells #[.int .i64 x.dk, .int .i64 x.bed, .int .i64 x.ndl, .int .i64 x.car, .int .i64 x.tt] 24)) 0 (.slice none 0 0) (.slice none 0 0) (.slice none 0 0) 0 0
    simpa using this
/-- a machine comes back -/
def RDoP (W : World) (N : Nat) (r : Rs) (e : Ending) (w' : World) : Prop := ∃ v, e = .returned v ∧ SR w' N v r ∧ Below W.heap.size W w'

set_option maxRecDepth 100000 in
set_option maxHeartbeats 4000000 in
theorem rdo_miss {W : World} {N : Nat} {q1 q2 q3 : Option Addr} {m1 c1 m2 c2 m3 c3 : Nat} {r : Rs} {x : Sx} (hlo : LO W 0 (.slice q1 m1 c1) r.loops) (hhr : HR W 0 (.slice q2 m2 c2) r.held) (hnr : NR W 0 (.slice q3 m3 c3) r.loose) (hI : RIv r) (hN : N ≤ 128) (hz : wrE N (absS r) x = 0) (hk : x.dk = 3) : Calls Try.prog 52 #[rsV N (.slice q1 m1 c1) (.slice q2 m2 c2) (.slice q3 m3 c3) r.rack r.done, sxV x] W (RDoP W N (rdS r x)) := by
  have HE := hide (show rdS r x = { r with done := r.done + 1 } by unfold rdS rdX; simp [hk])
  have g1 : (x.dk == 1) = false := by simp [hk]
  have g2 : (x.dk == 2) = false := by simp [hk]
  have g4 : (x.dk == 4) = false := by simp [hk]
  have g5 : (x.dk == 5) = false := by simp [hk]
  have g6 : (x.dk == 6) = false := by simp [hk]
  clear hk
  have u_ := hN
  clear u_
  obtain ⟨hIv, -, hhl⟩ := id hI
  obtain ⟨i1, i2, i3, i4, i5, i6⟩ := hIv
  obtain ⟨-, -, hd, -, hbn⟩ := wrE_zero hz
  have i2' : r.loops.length ≤ r.done := i2
  have i3' : r.loose.length ≤ 8 * r.done := i3
  have hd' : r.done < 4096 := hd
  have hm1 : m1 = r.loops.length := by obtain ⟨a, b, e⟩ := hlo.form; simpa using (Value.slice.inj e).2.1
  have hm2 : m2 = r.held.length := by obtain ⟨a, b, e⟩ := hhr.form; simpa using (Value.slice.inj e).2.1
  have hm3 : m3 = r.loose.length := by obtain ⟨a, b, e⟩ := hnr.form; simpa using (Value.slice.inj e).2.1
  have HLO := hide hlo
  have HHR := hide hhr
  have HNR := hide hnr
  obtain ⟨rk, hrk⟩ : ∃ rk, rk = r.rack := ⟨_, rfl⟩
  obtain ⟨dn, hdn⟩ : ∃ dn, dn = r.done := ⟨_, rfl⟩
  rw [← hdn] at i2' i3' hd' hhl
  rw [← hrk, ← hdn]
  have Hrk := hide hrk
  have Hdn := hide hdn
  have Hm1 := hide hm1
  have Hm2 := hide hm2
  have Hm3 := hide hm3
  have m1le : m1 ≤ 4096 := by omega
  have m2le : m2 ≤ 4096 := by omega
  have m3le : m3 ≤ 40000 := by omega
  clear hlo hhr hnr hrk hdn hm1 hm2 hm3 i1 i2 i3 i4 i5 i6 hd
  obtain ⟨w0, hw0, hSB0, hX0, hZ0, hB0⟩ := do_boxes W N (.slice q1 m1 c1) (.slice q2 m2 c2) (.slice q3 m3 c3) rk dn x
  have HSB0 := hide hSB0
  have HX0 := hide hX0
  have HZ0 := hide hZ0
  have B0 := hide hB0
  clear hSB0 hX0 hZ0 hB0
  clear hbn hz hI
  go_enter Try.func52, Try.ntmps52
  go_upto_region 1 with fail
  try rw [hw0]
  clear hw0
  obtain ⟨sb, hsb⟩ : ∃ sb, sb = W.heap.size := ⟨_, rfl⟩
  obtain ⟨xb, hxb⟩ : ∃ xb, xb = W.heap.size + 1 := ⟨_, rfl⟩
  obtain ⟨zb, hzb⟩ : ∃ zb, zb = W.heap.size + 2 := ⟨_, rfl⟩
  rw [← hzb] at HZ0
  rw [← hxb] at HX0
  rw [← hsb] at HSB0
  rw [← hzb, ← hxb, ← hsb]
  have Hsz := hide (show sb = W.heap.size ∧ zb = W.heap.size + 2 ∧ sb ≠ xb ∧ sb ≠ zb ∧ xb ≠ zb by omega)
  clear hsb hxb hzb
  have HSB1 := hide ((unhide HSB0).count (dn + 1))
  have K1 := hide (kset w0 sb 5 (.int .i64 ((dn + 1 : Nat) : Int)))
  have HX1 := hide ((unhide HX0).kept (unhide K1) (fun e => (unhide Hsz).2.2.1 e.symm))
  have HZ1 := hide ((unhide HZ0).kept (unhide K1) (fun e => (unhide Hsz).2.2.2.1 e.symm))
  have B1 := hide (Kept.back (unhide B0) (unhide K1) (unhide B0).size (fun i e => by have := (unhide Hsz).1; omega))
  have t54 := (unhide HSB0).1.2
  have HLO1 := hide (((unhide HLO).keep (unhide B0)).kept (unhide K1) (fun i e => e ▸ t54))
  have HHR1 := hide (((unhide HHR).keep (unhide B0)).kept (unhide K1) (fun i e => e ▸ t54))
  have HNR1 := hide (((unhide HNR).keep (unhide B0)).kept54 (unhide K1) (fun i e => e ▸ t54))
  obtain ⟨-, ⟨s0', s1', s2', s3', s4', s5'⟩, sf⟩ := unhide HSB0
  have sf5 := sf 5 (by decide)
  have eww : ∃ w1, w0.setCell ⟨sb, 5, none⟩ (.int .i64 ((dn + 1 : Nat) : Int)) = w1 := ⟨_, rfl⟩
  obtain ⟨w1, hw1⟩ := eww
  rw [hw1] at HSB1 HX1 HZ1 B1 HLO1 HHR1 HNR1
  have hw1' : w0.setCell ⟨sb, 5, none⟩ (.int .i64 ((dn : Int) + 1)) = w1 := by rw [← hw1]; rfl
  clear sf t54 K1 HLO HHR HNR B0 HX0 HZ0 hw1 HSB0
  go_upto_region 2 with fail
  try rw [hw1']
  clear hw1' s0' s1' s2' s3' s4' s5' sf5
  obtain ⟨dn1, hdn1⟩ : ∃ d, d = dn + 1 := ⟨_, rfl⟩
  rw [← hdn1] at HSB1
  have Hdn1 := hide hdn1
  clear hdn1
  have HOn := hide (on_any (N := N) (lv := .slice q1 m1 c1) (sv := .slice q3 m3 c3) (rk := rk) (dn := dn1) (unhide HHR1) (by rw [← unhide Hm2]; exact m2le) x.bed x.ndl)
  obtain ⟨-, ⟨s0', s1', s2', s3', s4', s5'⟩, -⟩ := unhide HSB1
  obtain ⟨-, x0, x1, x2, x3, x4⟩ := unhide HX1
  go_wp2_with fail
  refine (unhide HOn).mono ?_
  rintro e w2 ⟨lv, rfl, hlv, hb2⟩
  have HL := hide hlv
  have B2 := hide (btrans (unhide B1) hb2)
  have HSB := hide ((unhide HSB1).keep hb2)
  have HX := hide ((unhide HX1).keep hb2)
  have HZ := hide ((unhide HZ1).keep hb2)
  have HLO := hide ((unhide HLO1).keep hb2)
  have HHR := hide ((unhide HHR1).keep hb2)
  have HNR := hide ((unhide HNR1).keep hb2)
  obtain ⟨ll, hll⟩ : ∃ ll, ll = (onL r.held x.bed x.ndl).length := ⟨_, rfl⟩
  have hll4 : ll ≤ m2 := by have := tk_len r.held x.bed x.ndl; rw [unhide Hm2]; omega
  obtain ⟨lq, lc, hlq⟩ := hlv.form
  rw [← hll] at hlq
  subst hlq
  have Hll := hide hll
  have hsz2 := Nat.le_trans (unhide B1).size hb2.size
  clear hlv hb2 HSB1 HX1 HZ1 HLO1 HHR1 HNR1 HOn B1 hll s0' s1' s2' s3' s4' s5' x0 x1 x2 x3 x4
  obtain ⟨-, ⟨s0', s1', s2', s3', s4', s5'⟩, sf⟩ := unhide HSB
  have sf1 := sf 1 (by decide)
  have sf2 := sf 2 (by decide)
  have sf3 := sf 3 (by decide)
  have sf4 := sf 4 (by decide)
  clear sf
  obtain ⟨-, x0, x1, x2, x3, x4⟩ := unhide HX
  obtain ⟨-, ⟨s0', s1', s2', s3', s4', s5'⟩, -⟩ := unhide HSB
  obtain ⟨x9, hx9, hS9, hK9⟩ : ∃ x9, put54 w2 zb N (.slice q1 m1 c1) (.slice q2 m2 c2) (.slice q3 m3 c3) rk dn1 = x9 ∧ SB x9 zb N (.slice q1 m1 c1) (.slice q2 m2 c2) (.slice q3 m3 c3) rk dn1 ∧ Kept (fun i => i = zb) w2 x9 := ⟨_, rfl, (unhide HZ).put _ _ _ _ _ _, put54_kept _ _ _ _ _ _ _ _⟩
  unfold put54 at hx9
  have HS9 := hide hS9
  have HK9 := hide hK9
  clear hS9 hK9
  obtain ⟨-, ⟨u0', u1', u2', u3', u4', u5'⟩, uf⟩ := unhide HZ
  have uf0 := uf 0 (by decide)
  have uf1 := uf 1 (by decide)
  have uf2 := uf 2 (by decide)
  have uf3 := uf 3 (by decide)
  have uf4 := uf 4 (by decide)
  have uf5 := uf 5 (by decide)
  clear uf
  go_wp2
  obtain ⟨-, ⟨z0, z1, z2, z3, z4, z5⟩, -⟩ := unhide HS9
  refine bodyPost_ret (v := rsV N (.slice q1 m1 c1) (.slice q2 m2 c2) (.slice q3 m3 c3) rk dn1) ?_ rfl ?_
  · simp [results, Try.results52, go_sem, z0, z1, z2, z3, z4, z5]
  · have t54 := (unhide HZ).1.2
    unfold RDoP
    refine ⟨_, rfl, ?_, Kept.back (unhide B2) (unhide HK9) (unhide B2).size (fun i e => by have := (unhide Hsz).2.1; omega)⟩
    rw [unhide HE]
    exact ⟨_, _, _, by rw [unhide Hrk, unhide Hdn1, unhide Hdn], (unhide HLO).kept (unhide HK9) (fun i e => e ▸ t54), (unhide HHR).kept (unhide HK9) (fun i e => e ▸ t54), (unhide HNR).kept54 (unhide HK9) (fun i e => e ▸ t54)⟩

set_option maxRecDepth 100000 in
set_option maxHeartbeats 4000000 in
theorem rdo_rack {W : World} {N : Nat} {q1 q2 q3 : Option Addr} {m1 c1 m2 c2 m3 c3 : Nat} {r : Rs} {x : Sx} (hlo : LO W 0 (.slice q1 m1 c1) r.loops) (hhr : HR W 0 (.slice q2 m2 c2) r.held) (hnr : NR W 0 (.slice q3 m3 c3) r.loose) (hI : RIv r) (hN : N ≤ 128) (hz : wrE N (absS r) x = 0) (hk : x.dk = 6) : Calls Try.prog 52 #[rsV N (.slice q1 m1 c1) (.slice q2 m2 c2) (.slice q3 m3 c3) r.rack r.done, sxV x] W (RDoP W N (rdS r x)) := by
  have HE := hide (show rdS r x = { r with rack := x.tt, done := r.done + 1 } by unfold rdS rdX; simp [hk])
  have g1 : (x.dk == 1) = false := by simp [hk]
  have g2 : (x.dk == 2) = false := by simp [hk]
  have g4 : (x.dk == 4) = false := by simp [hk]
  have g5 : (x.dk == 5) = false := by simp [hk]
  have g6 : (x.dk == 6) = true := by simp [hk]
  clear hk
  have u_ := hN
  clear u_
  obtain ⟨hIv, -, hhl⟩ := id hI
  obtain ⟨i1, i2, i3, i4, i5, i6⟩ := hIv
  obtain ⟨-, -, hd, -, hbn⟩ := wrE_zero hz
  have i2' : r.loops.length ≤ r.done := i2
  have i3' : r.loose.length ≤ 8 * r.done := i3
  have hd' : r.done < 4096 := hd
  have hm1 : m1 = r.loops.length := by obtain ⟨a, b, e⟩ := hlo.form; simpa using (Value.slice.inj e).2.1
  have hm2 : m2 = r.held.length := by obtain ⟨a, b, e⟩ := hhr.form; simpa using (Value.slice.inj e).2.1
  have hm3 : m3 = r.loose.length := by obtain ⟨a, b, e⟩ := hnr.form; simpa using (Value.slice.inj e).2.1
  have HLO := hide hlo
  have HHR := hide hhr
  have HNR := hide hnr
  obtain ⟨rk, hrk⟩ : ∃ rk, rk = r.rack := ⟨_, rfl⟩
  obtain ⟨dn, hdn⟩ : ∃ dn, dn = r.done := ⟨_, rfl⟩
  rw [← hdn] at i2' i3' hd' hhl
  rw [← hrk, ← hdn]
  have Hrk := hide hrk
  have Hdn := hide hdn
  have Hm1 := hide hm1
  have Hm2 := hide hm2
  have Hm3 := hide hm3
  have m1le : m1 ≤ 4096 := by omega
  have m2le : m2 ≤ 4096 := by omega
  have m3le : m3 ≤ 40000 := by omega
  clear hlo hhr hnr hrk hdn hm1 hm2 hm3 i1 i2 i3 i4 i5 i6 hd
  obtain ⟨w0, hw0, hSB0, hX0, hZ0, hB0⟩ := do_boxes W N (.slice q1 m1 c1) (.slice q2 m2 c2) (.slice q3 m3 c3) rk dn x
  have HSB0 := hide hSB0
  have HX0 := hide hX0
  have HZ0 := hide hZ0
  have B0 := hide hB0
  clear hSB0 hX0 hZ0 hB0
  clear hbn hz hI
  go_enter Try.func52, Try.ntmps52
  go_upto_region 1 with fail
  try rw [hw0]
  clear hw0
  obtain ⟨sb, hsb⟩ : ∃ sb, sb = W.heap.size := ⟨_, rfl⟩
  obtain ⟨xb, hxb⟩ : ∃ xb, xb = W.heap.size + 1 := ⟨_, rfl⟩
  obtain ⟨zb, hzb⟩ : ∃ zb, zb = W.heap.size + 2 := ⟨_, rfl⟩
  rw [← hzb] at HZ0
  rw [← hxb] at HX0
  rw [← hsb] at HSB0
  rw [← hzb, ← hxb, ← hsb]
  have Hsz := hide (show sb = W.heap.size ∧ zb = W.heap.size + 2 ∧ sb ≠ xb ∧ sb ≠ zb ∧ xb ≠ zb by omega)
  clear hsb hxb hzb
  have HSB1 := hide ((unhide HSB0).count (dn + 1))
  have K1 := hide (kset w0 sb 5 (.int .i64 ((dn + 1 : Nat) : Int)))
  have HX1 := hide ((unhide HX0).kept (unhide K1) (fun e => (unhide Hsz).2.2.1 e.symm))
  have HZ1 := hide ((unhide HZ0).kept (unhide K1) (fun e => (unhide Hsz).2.2.2.1 e.symm))
  have B1 := hide (Kept.back (unhide B0) (unhide K1) (unhide B0).size (fun i e => by have := (unhide Hsz).1; omega))
  have t54 := (unhide HSB0).1.2
  have HLO1 := hide (((unhide HLO).keep (unhide B0)).kept (unhide K1) (fun i e => e ▸ t54))
  have HHR1 := hide (((unhide HHR).keep (unhide B0)).kept (unhide K1) (fun i e => e ▸ t54))
  have HNR1 := hide (((unhide HNR).keep (unhide B0)).kept54 (unhide K1) (fun i e => e ▸ t54))
  obtain ⟨-, ⟨s0', s1', s2', s3', s4', s5'⟩, sf⟩ := unhide HSB0
  have sf5 := sf 5 (by decide)
  have eww : ∃ w1, w0.setCell ⟨sb, 5, none⟩ (.int .i64 ((dn + 1 : Nat) : Int)) = w1 := ⟨_, rfl⟩
  obtain ⟨w1, hw1⟩ := eww
  rw [hw1] at HSB1 HX1 HZ1 B1 HLO1 HHR1 HNR1
  have hw1' : w0.setCell ⟨sb, 5, none⟩ (.int .i64 ((dn : Int) + 1)) = w1 := by rw [← hw1]; rfl
  clear sf t54 K1 HLO HHR HNR B0 HX0 HZ0 hw1 HSB0
  go_upto_region 2 with fail
  try rw [hw1']
  clear hw1' s0' s1' s2' s3' s4' s5' sf5
  obtain ⟨dn1, hdn1⟩ : ∃ d, d = dn + 1 := ⟨_, rfl⟩
  rw [← hdn1] at HSB1
  have Hdn1 := hide hdn1
  clear hdn1
  have HOn := hide (on_any (N := N) (lv := .slice q1 m1 c1) (sv := .slice q3 m3 c3) (rk := rk) (dn := dn1) (unhide HHR1) (by rw [← unhide Hm2]; exact m2le) x.bed x.ndl)
  obtain ⟨-, ⟨s0', s1', s2', s3', s4', s5'⟩, -⟩ := unhide HSB1
  obtain ⟨-, x0, x1, x2, x3, x4⟩ := unhide HX1
  go_wp2_with fail
  refine (unhide HOn).mono ?_
  rintro e w2 ⟨lv, rfl, hlv, hb2⟩
  have HL := hide hlv
  have B2 := hide (btrans (unhide B1) hb2)
  have HSB := hide ((unhide HSB1).keep hb2)
  have HX := hide ((unhide HX1).keep hb2)
  have HZ := hide ((unhide HZ1).keep hb2)
  have HLO := hide ((unhide HLO1).keep hb2)
  have HHR := hide ((unhide HHR1).keep hb2)
  have HNR := hide ((unhide HNR1).keep hb2)
  obtain ⟨ll, hll⟩ : ∃ ll, ll = (onL r.held x.bed x.ndl).length := ⟨_, rfl⟩
  have hll4 : ll ≤ m2 := by have := tk_len r.held x.bed x.ndl; rw [unhide Hm2]; omega
  obtain ⟨lq, lc, hlq⟩ := hlv.form
  rw [← hll] at hlq
  subst hlq
  have Hll := hide hll
  have hsz2 := Nat.le_trans (unhide B1).size hb2.size
  clear hlv hb2 HSB1 HX1 HZ1 HLO1 HHR1 HNR1 HOn B1 hll s0' s1' s2' s3' s4' s5' x0 x1 x2 x3 x4
  obtain ⟨-, ⟨s0', s1', s2', s3', s4', s5'⟩, sf⟩ := unhide HSB
  have sf1 := sf 1 (by decide)
  have sf2 := sf 2 (by decide)
  have sf3 := sf 3 (by decide)
  have sf4 := sf 4 (by decide)
  clear sf
  obtain ⟨-, x0, x1, x2, x3, x4⟩ := unhide HX
  obtain ⟨w3, hw3, hSB3, hK3⟩ : ∃ w3, w2.setCell ⟨sb, 4, none⟩ (.int .i64 x.tt) = w3 ∧ SB w3 sb N (.slice q1 m1 c1) (.slice q2 m2 c2) (.slice q3 m3 c3) x.tt dn1 ∧ Kept (fun i => i = sb) w2 w3 := ⟨_, rfl, (unhide HSB).rack x.tt, kset _ _ _ _⟩
  have t54 := (unhide HSB).1.2
  have HSB3 := hide hSB3
  have HZ3 := hide ((unhide HZ).kept hK3 (fun e => (unhide Hsz).2.2.2.1 e.symm))
  have HLO3 := hide ((unhide HLO).kept hK3 (fun i e => e ▸ t54))
  have HHR3 := hide ((unhide HHR).kept hK3 (fun i e => e ▸ t54))
  have HNR3 := hide ((unhide HNR).kept54 hK3 (fun i e => e ▸ t54))
  have B3 := hide (Kept.back (unhide B2) hK3 (unhide B2).size (fun i e => by have := (unhide Hsz).1; omega))
  clear hSB3 hK3 t54
  go_upto_region 24 with fail
  try rw [hw3]
  clear hw3
  clear s0' s1' s2' s3' s4' s5' sf1 sf2 sf3 sf4 x0 x1 x2 x3 x4
  obtain ⟨-, ⟨s0', s1', s2', s3', s4', s5'⟩, -⟩ := unhide HSB3
  obtain ⟨x9, hx9, hS9, hK9⟩ : ∃ x9, put54 w3 zb N (.slice q1 m1 c1) (.slice q2 m2 c2) (.slice q3 m3 c3) x.tt dn1 = x9 ∧ SB x9 zb N (.slice q1 m1 c1) (.slice q2 m2 c2) (.slice q3 m3 c3) x.tt dn1 ∧ Kept (fun i => i = zb) w3 x9 := ⟨_, rfl, (unhide HZ3).put _ _ _ _ _ _, put54_kept _ _ _ _ _ _ _ _⟩
  unfold put54 at hx9
  have HS9 := hide hS9
  have HK9 := hide hK9
  clear hS9 hK9
  obtain ⟨-, ⟨u0', u1', u2', u3', u4', u5'⟩, uf⟩ := unhide HZ3
  have uf0 := uf 0 (by decide)
  have uf1 := uf 1 (by decide)
  have uf2 := uf 2 (by decide)
  have uf3 := uf 3 (by decide)
  have uf4 := uf 4 (by decide)
  have uf5 := uf 5 (by decide)
  clear uf
  go_wp2
  obtain ⟨-, ⟨z0, z1, z2, z3, z4, z5⟩, -⟩ := unhide HS9
  refine bodyPost_ret (v := rsV N (.slice q1 m1 c1) (.slice q2 m2 c2) (.slice q3 m3 c3) x.tt dn1) ?_ rfl ?_
  · simp [results, Try.results52, go_sem, z0, z1, z2, z3, z4, z5]
  · have t54 := (unhide HZ3).1.2
    unfold RDoP
    refine ⟨_, rfl, ?_, Kept.back (unhide B3) (unhide HK9) (unhide B3).size (fun i e => by have := (unhide Hsz).2.1; omega)⟩
    rw [unhide HE]
    exact ⟨_, _, _, by rw [unhide Hdn1, unhide Hdn], (unhide HLO3).kept (unhide HK9) (fun i e => e ▸ t54), (unhide HHR3).kept (unhide HK9) (fun i e => e ▸ t54), (unhide HNR3).kept54 (unhide HK9) (fun i e => e ▸ t54)⟩

end Go.Proofs.Ytancniamgfppiaa
