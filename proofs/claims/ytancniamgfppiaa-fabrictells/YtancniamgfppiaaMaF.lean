/-
  take, hang.
-/
import Derived.Test.YtancniamgfppiaaMaC
namespace Go.Proofs.Ytancniamgfppiaa
open Go.RowKit

theorem g24_0 {a0 a1 a2 a3 a4 a5 a6 a7 a8 a9 a10 a11 a12 a13 a14 a15 a16 a17 a18 a19 a20 a21 a22 a23 : Oper} : (#[a0, a1, a2, a3, a4, a5, a6, a7, a8, a9, a10, a11, a12, a13, a14, a15, a16, a17, a18, a19, a20, a21, a22, a23] : Array Oper)[0]? = some a0 := rfl
theorem g24_1 {a0 a1 a2 a3 a4 a5 a6 a7 a8 a9 a10 a11 a12 a13 a14 a15 a16 a17 a18 a19 a20 a21 a22 a23 : Oper} : (#[a0, a1, a2, a3, a4, a5, a6, a7, a8, a9, a10, a11, a12, a13, a14, a15, a16, a17, a18, a19, a20, a21, a22, a23] : Array Oper)[1]? = some a1 := rfl
theorem g24_2 {a0 a1 a2 a3 a4 a5 a6 a7 a8 a9 a10 a11 a12 a13 a14 a15 a16 a17 a18 a19 a20 a21 a22 a23 : Oper} : (#[a0, a1, a2, a3, a4, a5, a6, a7, a8, a9, a10, a11, a12, a13, a14, a15, a16, a17, a18, a19, a20, a21, a22, a23] : Array Oper)[2]? = some a2 := rfl
theorem g24_3 {a0 a1 a2 a3 a4 a5 a6 a7 a8 a9 a10 a11 a12 a13 a14 a15 a16 a17 a18 a19 a20 a21 a22 a23 : Oper} : (#[a0, a1, a2, a3, a4, a5, a6, a7, a8, a9, a10, a11, a12, a13, a14, a15, a16, a17, a18, a19, a20, a21, a22, a23] : Array Oper)[3]? = some a3 := rfl
theorem g24_4 {a0 a1 a2 a3 a4 a5 a6 a7 a8 a9 a10 a11 a12 a13 a14 a15 a16 a17 a18 a19 a20 a21 a22 a23 : Oper} : (#[a0, a1, a2, a3, a4, a5, a6, a7, a8, a9, a10, a11, a12, a13, a14, a15, a16, a17, a18, a19, a20, a21, a22, a23] : Array Oper)[4]? = some a4 := rfl
theorem g24_5 {a0 a1 a2 a3 a4 a5 a6 a7 a8 a9 a10 a11 a12 a13 a14 a15 a16 a17 a18 a19 a20 a21 a22 a23 : Oper} : (#[a0, a1, a2, a3, a4, a5, a6, a7, a8, a9, a10, a11, a12, a13, a14, a15, a16, a17, a18, a19, a20, a21, a22, a23] : Array Oper)[5]? = some a5 := rfl
theorem g24_6 {a0 a1 a2 a3 a4 a5 a6 a7 a8 a9 a10 a11 a12 a13 a14 a15 a16 a17 a18 a19 a20 a21 a22 a23 : Oper} : (#[a0, a1, a2, a3, a4, a5, a6, a7, a8, a9, a10, a11, a12, a13, a14, a15, a16, a17, a18, a19, a20, a21, a22, a23] : Array Oper)[6]? = some a6 := rfl
theorem g24_7 {a0 a1 a2 a3 a4 a5 a6 a7 a8 a9 a10 a11 a12 a13 a14 a15 a16 a17 a18 a19 a20 a21 a22 a23 : Oper} : (#[a0, a1, a2, a3, a4, a5, a6, a7, a8, a9, a10, a11, a12, a13, a14, a15, a16, a17, a18, a19, a20, a21, a22, a23] : Array Oper)[7]? = some a7 := rfl
theorem g24_8 {a0 a1 a2 a3 a4 a5 a6 a7 a8 a9 a10 a11 a12 a13 a14 a15 a16 a17 a18 a19 a20 a21 a22 a23 : Oper} : (#[a0, a1, a2, a3, a4, a5, a6, a7, a8, a9, a10, a11, a12, a13, a14, a15, a16, a17, a18, a19, a20, a21, a22, a23] : Array Oper)[8]? = some a8 := rfl
theorem g24_9 {a0 a1 a2 a3 a4 a5 a6 a7 a8 a9 a10 a11 a12 a13 a14 a15 a16 a17 a18 a19 a20 a21 a22 a23 : Oper} : (#[a0, a1, a2, a3, a4, a5, a6, a7, a8, a9, a10, a11, a12, a13, a14, a15, a16, a17, a18, a19, a20, a21, a22, a23] : Array Oper)[9]? = some a9 := rfl
theorem g24_10 {a0 a1 a2 a3 a4 a5 a6 a7 a8 a9 a10 a11 a12 a13 a14 a15 a16 a17 a18 a19 a20 a21 a22 a23 : Oper} : (#[a0, a1, a2, a3, a4, a5, a6, a7, a8, a9, a10, a11, a12, a13, a14, a15, a16, a17, a18, a19, a20, a21, a22, a23] : Array Oper)[10]? = some a10 := rfl
theorem g24_11 {a0 a1 a2 a3 a4 a5 a6 a7 a8 a9 a10 a11 a12 a13 a14 a15 a16 a17 a18 a19 a20 a21 a22 a23 : Oper} : (#[a0, a1, a2, a3, a4, a5, a6, a7, a8, a9, a10, a11, a12, a13, a14, a15, a16, a17, a18, a19, a20, a21, a22, a23] : Array Oper)[11]? = some a11 := rfl
theorem g24_12 {a0 a1 a2 a3 a4 a5 a6 a7 a8 a9 a10 a11 a12 a13 a14 a15 a16 a17 a18 a19 a20 a21 a22 a23 : Oper} : (#[a0, a1, a2, a3, a4, a5, a6, a7, a8, a9, a10, a11, a12, a13, a14, a15, a16, a17, a18, a19, a20, a21, a22, a23] : Array Oper)[12]? = some a12 := rfl
theorem g24_13 {a0 a1 a2 a3 a4 a5 a6 a7 a8 a9 a10 a11 a12 a13 a14 a15 a16 a17 a18 a19 a20 a21 a22 a23 : Oper} : (#[a0, a1, a2, a3, a4, a5, a6, a7, a8, a9, a10, a11, a12, a13, a14, a15, a16, a17, a18, a19, a20, a21, a22, a23] : Array Oper)[13]? = some a13 := rfl
theorem g24_14 {a0 a1 a2 a3 a4 a5 a6 a7 a8 a9 a10 a11 a12 a13 a14 a15 a16 a17 a18 a19 a20 a21 a22 a23 : Oper} : (#[a0, a1, a2, a3, a4, a5, a6, a7, a8, a9, a10, a11, a12, a13, a14, a15, a16, a17, a18, a19, a20, a21, a22, a23] : Array Oper)[14]? = some a14 := rfl
theorem g24_15 {a0 a1 a2 a3 a4 a5 a6 a7 a8 a9 a10 a11 a12 a13 a14 a15 a16 a17 a18 a19 a20 a21 a22 a23 : Oper} : (#[a0, a1, a2, a3, a4, a5, a6, a7, a8, a9, a10, a11, a12, a13, a14, a15, a16, a17, a18, a19, a20, a21, a22, a23] : Array Oper)[15]? = some a15 := rfl
theorem g24_16 {a0 a1 a2 a3 a4 a5 a6 a7 a8 a9 a10 a11 a12 a13 a14 a15 a16 a17 a18 a19 a20 a21 a22 a23 : Oper} : (#[a0, a1, a2, a3, a4, a5, a6, a7, a8, a9, a10, a11, a12, a13, a14, a15, a16, a17, a18, a19, a20, a21, a22, a23] : Array Oper)[16]? = some a16 := rfl
theorem g24_17 {a0 a1 a2 a3 a4 a5 a6 a7 a8 a9 a10 a11 a12 a13 a14 a15 a16 a17 a18 a19 a20 a21 a22 a23 : Oper} : (#[a0, a1, a2, a3, a4, a5, a6, a7, a8, a9, a10, a11, a12, a13, a14, a15, a16, a17, a18, a19, a20, a21, a22, a23] : Array Oper)[17]? = some a17 := rfl
theorem g24_18 {a0 a1 a2 a3 a4 a5 a6 a7 a8 a9 a10 a11 a12 a13 a14 a15 a16 a17 a18 a19 a20 a21 a22 a23 : Oper} : (#[a0, a1, a2, a3, a4, a5, a6, a7, a8, a9, a10, a11, a12, a13, a14, a15, a16, a17, a18, a19, a20, a21, a22, a23] : Array Oper)[18]? = some a18 := rfl
theorem g24_19 {a0 a1 a2 a3 a4 a5 a6 a7 a8 a9 a10 a11 a12 a13 a14 a15 a16 a17 a18 a19 a20 a21 a22 a23 : Oper} : (#[a0, a1, a2, a3, a4, a5, a6, a7, a8, a9, a10, a11, a12, a13, a14, a15, a16, a17, a18, a19, a20, a21, a22, a23] : Array Oper)[19]? = some a19 := rfl
theorem g24_20 {a0 a1 a2 a3 a4 a5 a6 a7 a8 a9 a10 a11 a12 a13 a14 a15 a16 a17 a18 a19 a20 a21 a22 a23 : Oper} : (#[a0, a1, a2, a3, a4, a5, a6, a7, a8, a9, a10, a11, a12, a13, a14, a15, a16, a17, a18, a19, a20, a21, a22, a23] : Array Oper)[20]? = some a20 := rfl
theorem g24_21 {a0 a1 a2 a3 a4 a5 a6 a7 a8 a9 a10 a11 a12 a13 a14 a15 a16 a17 a18 a19 a20 a21 a22 a23 : Oper} : (#[a0, a1, a2, a3, a4, a5, a6, a7, a8, a9, a10, a11, a12, a13, a14, a15, a16, a17, a18, a19, a20, a21, a22, a23] : Array Oper)[21]? = some a21 := rfl
theorem g24_22 {a0 a1 a2 a3 a4 a5 a6 a7 a8 a9 a10 a11 a12 a13 a14 a15 a16 a17 a18 a19 a20 a21 a22 a23 : Oper} : (#[a0, a1, a2, a3, a4, a5, a6, a7, a8, a9, a10, a11, a12, a13, a14, a15, a16, a17, a18, a19, a20, a21, a22, a23] : Array Oper)[22]? = some a22 := rfl
theorem g24_23 {a0 a1 a2 a3 a4 a5 a6 a7 a8 a9 a10 a11 a12 a13 a14 a15 a16 a17 a18 a19 a20 a21 a22 a23 : Oper} : (#[a0, a1, a2, a3, a4, a5, a6, a7, a8, a9, a10, a11, a12, a13, a14, a15, a16, a17, a18, a19, a20, a21, a22, a23] : Array Oper)[23]? = some a23 := rfl

/-- a needle's loops are taken -/
def TakeP (B : Nat) (W : World) (m N : Nat) (s : St) (g : Mg) (b n : Nat) (e : Ending) (w' : World) : Prop :=
  e = .returned (g.h b n) ∧ ∃ g', MB B w' m N { s with on := upd s.on b n [] } g' ∧ NR w' B (g.h b n) (s.on b n) ∧ Ow g' (g.h b n) (3, 0) ∧ Kt B W w' ∧ g'.sv = g.sv
/-- loops have come to a needle -/
def HangP (B : Nat) (W : World) (m N : Nat) (s : St) (g : Mg) (b n : Nat) (ys : List Nat) (e : Ending) (w' : World) : Prop :=
  e = .returned (.tuple #[]) ∧ ∃ g', MB B w' m N { s with on := upd s.on b n (s.on b n ++ ys) } g' ∧ (∀ v xs, NR W B v xs → Ow g v (3, 0) → NR w' B v xs ∧ Ow g' v (3, 0)) ∧ Kt B W w' ∧ g'.lv = g.lv
theorem MB.bedK {B : Nat} {W V : World} {m N : Nat} {s : St} {g : Mg} (k : MB B W m N s g) {b : Nat} (hb : b < 2) (e : Kept (fun i => i = g.bb b) W V) : Kt B W V :=
  Kt.of e (fun i q => ⟨by rw [q]; exact (k.bed b hb).2, .inr (.inl (by rw [q]; exact (k.bed b hb).1.1.2))⟩)
theorem take_fin {B : Nat} {W w1 : World} {m N : Nat} {s : St} {g : Mg} {b n : Nat} (hb : b < 2) (hn : n < N) (k : MB B w1 m N s g) (h : Kt B W w1) :
    ∃ g', MB B (w1.setCell ⟨g.bb b, n, none⟩ (.slice none 0 0)) m N { s with on := upd s.on b n [] } g' ∧ NR (w1.setCell ⟨g.bb b, n, none⟩ (.slice none 0 0)) B (g.h b n) (s.on b n) ∧ Ow g' (g.h b n) (3, 0) ∧ Kt B W (w1.setCell ⟨g.bb b, n, none⟩ (.slice none 0 0)) ∧ g'.sv = g.sv :=
  ⟨_, (k.take hb hn).1, (k.take hb hn).2.1, (k.take hb hn).2.2, h.trans (k.bedK hb (kset _ _ _ _)), rfl⟩
theorem MB.rowK {B : Nat} {W V : World} {m N : Nat} {s : St} {g : Mg} (k : MB B W m N s g) {b n : Nat} (hb : b < 2) (hn : n < N) (e : Kept (fun i => i = g.bb b ∨ (g.h b n).ownBlock = some i) W V) : Kt B W V :=
  Kt.of e (fun i q => by
    rcases q with q | q
    · exact ⟨by rw [q]; exact (k.bed b hb).2, .inr (.inl (by rw [q]; exact (k.bed b hb).1.1.2))⟩
    · exact ⟨(World.ownsRow.lt (k.ndl b n hb hn).1 i q).1, .inr (.inr (.inl (own_tg (k.ndl b n hb hn).1 q)))⟩)
theorem MB.old {B : Nat} {W V : World} {m N : Nat} {s : St} {g : Mg} (k : MB B W m N s g) {b n : Nat} (hb : b < 2) (hn : n < N) (e : Kept (fun i => i = g.bb b ∨ (g.h b n).ownBlock = some i) W V) (u : Value) : ∀ v xs, NR W B v xs → Ow g v (3, 0) → NR V B v xs ∧ Ow (hangG g b n W.heap.size u) v (3, 0) := by
  intro v xs h1 h2
  refine ⟨h1.but e (fun i hi q => ?_), fun k' hk => ?_⟩
  · rcases q with q | q
    · exact tg_not (show Tg W i 27 from q ▸ (k.bed b hb).1.1.2) (by decide) (own_tg h1 hi)
    · have := (h2 i hi).symm.trans ((k.ndl b n hb hn).2 i q)
      cases this
      omega
  · show (if k' < W.heap.size then g.ow k' else (b, n)) = (3, 0)
    rw [if_pos (World.ownsRow.lt h1 k' hk).2]
    exact h2 k' hk

set_option maxRecDepth 100000 in
set_option maxHeartbeats 2000000 in
theorem take_0 {B : Nat} {W : World} {m N : Nat} {s : St} {g : Mg} (k : MB B W m N s g) {n : Nat} (hn : n < N) : Calls Try.prog 43 #[mp m, plV 0 n] W (TakeP B W m N s g 0 n) := by
  have hb : 0 < 2 := by decide
  have B0 := hide (bnew W (.cells #[.int .i64 0, .int .i64 n] 75))
  have HP := hide (PB.new W 0 n)
  have HK := hide (k.keep (unhide B0))
  have hlt := (k.bed 0 hb).1.1.1
  obtain ⟨q, cap, hq⟩ := (k.ndl 0 n hb hn).1.form
  have q1 : (n : Int) < (N : Int) := by omega
  have q2 : (0 : Int) ≤ (n : Int) := by omega
  have n1 : g.bb 0 ≠ W.heap.size := by omega
  have n2 : m ≠ g.bb 0 := k.box.1.2.ne (k.bed 0 hb).1.1.2 (by decide)
  clear hlt
  unfold TakeP
  go_enter Try.func43, Try.ntmps43
  go_upto_region 1 with fail
  generalize W.alloc (.cells #[.int .i64 0, .int .i64 n] 75) = w0 at *
  have c0 := (unhide HK).box.2.1.1
  have c1 := (unhide HK).box.2.1.2.1
  have c2 := (unhide HK).cell hb hn
  rw [hq] at c2
  have f2 := (((unhide HK).bed 0 hb).1.2 n hn).2
  obtain ⟨-, p0, p1⟩ := unhide HP
  have HQ := hide hq
  clear hq
  go_quiet (fail)
  go_wp2_with fail
  go_region
  all_goals go_wp2
  all_goals go_ret
  all_goals
    have E := unhide HQ
    exact ⟨by rw [E]; rfl, take_fin hb hn ((unhide HK).keep (btrans (Joins.below_draws _ _ _) (bdrew _))) ((Kt.keep (unhide B0)).trans (Kt.keep (btrans (Joins.below_draws _ _ _) (bdrew _))))⟩
set_option maxRecDepth 100000 in
set_option maxHeartbeats 2000000 in
theorem take_1 {B : Nat} {W : World} {m N : Nat} {s : St} {g : Mg} (k : MB B W m N s g) {n : Nat} (hn : n < N) : Calls Try.prog 43 #[mp m, plV 1 n] W (TakeP B W m N s g 1 n) := by
  have hb : 1 < 2 := by decide
  have B0 := hide (bnew W (.cells #[.int .i64 1, .int .i64 n] 75))
  have HP := hide (PB.new W 1 n)
  have HK := hide (k.keep (unhide B0))
  have hlt := (k.bed 1 hb).1.1.1
  obtain ⟨q, cap, hq⟩ := (k.ndl 1 n hb hn).1.form
  have q1 : (n : Int) < (N : Int) := by omega
  have q2 : (0 : Int) ≤ (n : Int) := by omega
  have n1 : g.bb 1 ≠ W.heap.size := by omega
  have n2 : m ≠ g.bb 1 := k.box.1.2.ne (k.bed 1 hb).1.1.2 (by decide)
  clear hlt
  unfold TakeP
  go_enter Try.func43, Try.ntmps43
  go_upto_region 1 with fail
  generalize W.alloc (.cells #[.int .i64 1, .int .i64 n] 75) = w0 at *
  have c0 := (unhide HK).box.2.1.1
  have c1 := (unhide HK).box.2.1.2.1
  have c2 := (unhide HK).cell hb hn
  rw [hq] at c2
  have f2 := (((unhide HK).bed 1 hb).1.2 n hn).2
  obtain ⟨-, p0, p1⟩ := unhide HP
  have HQ := hide hq
  clear hq
  go_quiet (fail)
  go_wp2_with fail
  go_region
  all_goals go_wp2
  all_goals go_ret
  all_goals
    have E := unhide HQ
    exact ⟨by rw [E]; rfl, take_fin hb hn ((unhide HK).keep (btrans (Joins.below_draws _ _ _) (bdrew _))) ((Kt.keep (unhide B0)).trans (Kt.keep (btrans (Joins.below_draws _ _ _) (bdrew _))))⟩
set_option maxRecDepth 100000 in
set_option maxHeartbeats 2000000 in
theorem hang_0 {B C : Nat} {W : World} {m N : Nat} {s : St} {g : Mg} (k : MB B W m N s g) (hBW : B ≤ W.heap.size) {n : Nat} (hn : n < N) {y : Value} {ys : List Nat} (hy : NR W C y ys) (hl : (s.on 0 n).length + ys.length ≤ 100000) : Calls Try.prog 44 #[mp m, plV 0 n, y] W (HangP B W m N s g 0 n ys) := by
  have hb : 0 < 2 := by decide
  have B0 := hide (bnew W (.cells #[.int .i64 0, .int .i64 n] 75))
  have HP := hide (PB.new W 0 n)
  have HK := hide (k.keep (unhide B0))
  have HY0 := hide (hy.keep (unhide B0))
  have HB0 := hide (show B ≤ (W.alloc (.cells #[.int .i64 0, .int .i64 n] 75)).heap.size by simp; omega)
  have Hold := hide (fun v xs (h : NR W B v xs) => h.keep (unhide B0))
  obtain ⟨q, cap, hq⟩ := (k.ndl 0 n hb hn).1.form
  have q1 : (n : Int) < (N : Int) := by omega
  have q2 : (0 : Int) ≤ (n : Int) := by omega
  unfold HangP
  clear hy hBW
  go_enter Try.func44, Try.ntmps44
  go_upto_region 1 with fail
  generalize W.alloc (.cells #[.int .i64 0, .int .i64 n] 75) = w0 at *
  obtain ⟨bx, hbx⟩ : ∃ bx, bx = W.heap.size := ⟨_, rfl⟩
  rw [← hbx] at HP
  rw [← hbx]
  clear hbx k
  have HV := hide (((unhide HK).ndl 0 n hb hn).1.keep (bdrew _))
  have HC2 := hide ((unhide HK).keep (bdrew _) |>.cell hb hn)
  have HQ := hide hq
  rw [hq] at HV HC2
  clear hq
  have HY := hide ((unhide HY0).keep (bdrew _))
  have HB := hide (show B ≤ w0.drew.heap.size from unhide HB0)
  have HPk := hide (show ∀ V, Kept (fun i => i = g.bb 0 ∨ (g.h 0 n).ownBlock = some i) w0 V → PB V bx 0 n from fun V e => ((unhide HK).rowK hb hn e).pb (unhide HP))
  have HMk := hide (show ∀ V, Kept (fun i => i = g.bb 0 ∨ (g.h 0 n).ownBlock = some i) w0 V → V.cell? ⟨m, 0, none⟩ = some (.slice (some ⟨g.bb 0, 0, none⟩) N N) from fun V e => e.cell (unhide HK).lt (fun q => by
    rcases q with q | q
    · exact absurd q ((unhide HK).box.1.2.ne ((unhide HK).bed 0 hb).1.1.2 (by decide))
    · exact absurd rfl ((unhide HK).box.1.2.ne (own_tg ((unhide HK).ndl 0 n hb hn).1 q) (by decide))) ((unhide HK).slot hb))
  have HB4 := hide (show ∀ V, Kept (fun i => (Value.slice q (s.on 0 n).length cap).ownBlock = some i) w0.drew V → V.cell? ⟨g.bb 0, n, none⟩ = some (.slice q (s.on 0 n).length cap) ∧ V.frozen? ⟨g.bb 0, n, none⟩ = false from fun V e => by
    have r := ((unhide HK).keep (bdrew _) |>.bed 0 hb).1
    have r2 := r.kept e (fun q' => absurd rfl (r.1.2.ne (own_tg (unhide HV) q') (by decide)))
    have := r2.2 n hn
    rw [unhide HQ] at this
    exact this)
  obtain ⟨ln, hln⟩ : ∃ ln, ln = (s.on 0 n).length := ⟨_, rfl⟩
  unfold NR at HV HY
  have HLn := hide hln
  rw [← hln] at HV HC2 HB4 HQ hl
  clear hln
  refine wp_region_noPanic ?_
  refine wp_region_held_drew (S := fun V => Kept (fun i => i = g.bb 0 ∨ (g.h 0 n).ownBlock = some i) w0 V) (by kernel_rfl) ((Kept.refl _ _).dr) ?_
  intro _
  refine wpAnyH_take (i := 0) (oi := _) (v := mp m) g24_0 (by kernel_rfl) (by kernel_rfl) (by kernel_rfl) (fun _ _ _ h => h) (Or.inl ⟨by rfl, ?_⟩) (by assumption) ?_
  · intro V hSw
    try dsimp only at hSw
    go_simp
  simp only [Act.put, List.setIfInBounds_toArray, List.set_cons_zero, List.set_cons_succ]
  refine wpAnyH_take (i := 1) (oi := _) (v := mp bx) g24_1 (by kernel_rfl) (by kernel_rfl) (by kernel_rfl) (fun _ _ _ h => h) (Or.inl ⟨by rfl, ?_⟩) (by assumption) ?_
  · intro V hSw
    try dsimp only at hSw
    go_simp
  simp only [Act.put, List.setIfInBounds_toArray, List.set_cons_zero, List.set_cons_succ]
  refine wpAnyH_take (i := 2) (oi := _) (v := .int .i64 0) g24_2 (by kernel_rfl) (by kernel_rfl) (by kernel_rfl) (fun _ _ _ h => h) (Or.inl ⟨by rfl, ?_⟩) (by assumption) ?_
  · intro V hSw
    try dsimp only at hSw
    have hp := unhide HPk V hSw
    obtain ⟨-, p0, p1⟩ := hp
    go_simp
  simp only [Act.put, List.setIfInBounds_toArray, List.set_cons_zero, List.set_cons_succ]
  refine wpAnyH_take (i := 3) (oi := _) (v := mp m) g24_3 (by kernel_rfl) (by kernel_rfl) (by kernel_rfl) (fun _ _ _ h => h) (Or.inl ⟨by rfl, ?_⟩) (by assumption) ?_
  · intro V hSw
    try dsimp only at hSw
    go_simp
  simp only [Act.put, List.setIfInBounds_toArray, List.set_cons_zero, List.set_cons_succ]
  refine wpAnyH_take (i := 4) (oi := _) (v := mp m) g24_4 (by kernel_rfl) (by kernel_rfl) (by kernel_rfl) (fun _ _ _ h => h) (Or.inl ⟨by rfl, ?_⟩) (by assumption) ?_
  · intro V hSw
    try dsimp only at hSw
    go_simp
  simp only [Act.put, List.setIfInBounds_toArray, List.set_cons_zero, List.set_cons_succ]
  refine wpAnyH_take (i := 5) (oi := _) (v := .pointer (some ⟨m, 0, none⟩)) g24_5 (by kernel_rfl) (by kernel_rfl) (by kernel_rfl) (fun _ _ _ h => h) (Or.inl ⟨by rfl, ?_⟩) (by assumption) ?_
  · intro V hSw
    try dsimp only at hSw
    go_simp
  simp only [Act.put, List.setIfInBounds_toArray, List.set_cons_zero, List.set_cons_succ]
  refine wpAnyH_take (i := 6) (oi := _) (v := .slice (some ⟨g.bb 0, 0, none⟩) N N) g24_6 (by kernel_rfl) (by kernel_rfl) (by kernel_rfl) (fun _ _ _ h => h) (Or.inl ⟨by rfl, ?_⟩) (by assumption) ?_
  · intro V hSw
    try dsimp only at hSw
    have hm := unhide HMk V hSw
    go_simp
  simp only [Act.put, List.setIfInBounds_toArray, List.set_cons_zero, List.set_cons_succ]
  refine wpAnyH_take (i := 7) (oi := _) (v := .pointer (some ⟨bx, 1, none⟩)) g24_7 (by kernel_rfl) (by kernel_rfl) (by kernel_rfl) (fun _ _ _ h => h) (Or.inl ⟨by rfl, ?_⟩) (by assumption) ?_
  · intro V hSw
    try dsimp only at hSw
    go_simp
  simp only [Act.put, List.setIfInBounds_toArray, List.set_cons_zero, List.set_cons_succ]
  refine wpAnyH_take (i := 8) (oi := _) (v := .int .i64 n) g24_8 (by kernel_rfl) (by kernel_rfl) (by kernel_rfl) (fun _ _ _ h => h) (Or.inl ⟨by rfl, ?_⟩) (by assumption) ?_
  · intro V hSw
    try dsimp only at hSw
    have hp := unhide HPk V hSw
    obtain ⟨-, p0, p1⟩ := hp
    go_simp
  simp only [Act.put, List.setIfInBounds_toArray, List.set_cons_zero, List.set_cons_succ]
  refine wpAnyH_take (i := 9) (oi := _) (v := mp m) g24_9 (by kernel_rfl) (by kernel_rfl) (by kernel_rfl) (fun _ _ _ h => h) (Or.inl ⟨by rfl, ?_⟩) (by assumption) ?_
  · intro V hSw
    try dsimp only at hSw
    go_simp
  simp only [Act.put, List.setIfInBounds_toArray, List.set_cons_zero, List.set_cons_succ]
  refine wpAnyH_take (i := 10) (oi := _) (v := mp bx) g24_10 (by kernel_rfl) (by kernel_rfl) (by kernel_rfl) (fun _ _ _ h => h) (Or.inl ⟨by rfl, ?_⟩) (by assumption) ?_
  · intro V hSw
    try dsimp only at hSw
    go_simp
  simp only [Act.put, List.setIfInBounds_toArray, List.set_cons_zero, List.set_cons_succ]
  refine wpAnyH_take (i := 11) (oi := _) (v := .int .i64 0) g24_11 (by kernel_rfl) (by kernel_rfl) (by kernel_rfl) (fun _ _ _ h => h) (Or.inl ⟨by rfl, ?_⟩) (by assumption) ?_
  · intro V hSw
    try dsimp only at hSw
    have hp := unhide HPk V hSw
    obtain ⟨-, p0, p1⟩ := hp
    go_simp
  simp only [Act.put, List.setIfInBounds_toArray, List.set_cons_zero, List.set_cons_succ]
  refine wpAnyH_take (i := 12) (oi := _) (v := mp m) g24_12 (by kernel_rfl) (by kernel_rfl) (by kernel_rfl) (fun _ _ _ h => h) (Or.inl ⟨by rfl, ?_⟩) (by assumption) ?_
  · intro V hSw
    try dsimp only at hSw
    go_simp
  simp only [Act.put, List.setIfInBounds_toArray, List.set_cons_zero, List.set_cons_succ]
  refine wpAnyH_take (i := 13) (oi := _) (v := mp m) g24_13 (by kernel_rfl) (by kernel_rfl) (by kernel_rfl) (fun _ _ _ h => h) (Or.inl ⟨by rfl, ?_⟩) (by assumption) ?_
  · intro V hSw
    try dsimp only at hSw
    go_simp
  simp only [Act.put, List.setIfInBounds_toArray, List.set_cons_zero, List.set_cons_succ]
  refine wpAnyH_take (i := 14) (oi := _) (v := .pointer (some ⟨m, 0, none⟩)) g24_14 (by kernel_rfl) (by kernel_rfl) (by kernel_rfl) (fun _ _ _ h => h) (Or.inl ⟨by rfl, ?_⟩) (by assumption) ?_
  · intro V hSw
    try dsimp only at hSw
    go_simp
  simp only [Act.put, List.setIfInBounds_toArray, List.set_cons_zero, List.set_cons_succ]
  refine wpAnyH_take (i := 15) (oi := _) (v := .slice (some ⟨g.bb 0, 0, none⟩) N N) g24_15 (by kernel_rfl) (by kernel_rfl) (by kernel_rfl) (fun _ _ _ h => h) (Or.inl ⟨by rfl, ?_⟩) (by assumption) ?_
  · intro V hSw
    try dsimp only at hSw
    have hm := unhide HMk V hSw
    go_simp
  simp only [Act.put, List.setIfInBounds_toArray, List.set_cons_zero, List.set_cons_succ]
  refine wpAnyH_take (i := 16) (oi := _) (v := .pointer (some ⟨bx, 1, none⟩)) g24_16 (by kernel_rfl) (by kernel_rfl) (by kernel_rfl) (fun _ _ _ h => h) (Or.inl ⟨by rfl, ?_⟩) (by assumption) ?_
  · intro V hSw
    try dsimp only at hSw
    go_simp
  simp only [Act.put, List.setIfInBounds_toArray, List.set_cons_zero, List.set_cons_succ]
  refine wpAnyH_take (i := 17) (oi := _) (v := .int .i64 n) g24_17 (by kernel_rfl) (by kernel_rfl) (by kernel_rfl) (fun _ _ _ h => h) (Or.inl ⟨by rfl, ?_⟩) (by assumption) ?_
  · intro V hSw
    try dsimp only at hSw
    have hp := unhide HPk V hSw
    obtain ⟨-, p0, p1⟩ := hp
    go_simp
  simp only [Act.put, List.setIfInBounds_toArray, List.set_cons_zero, List.set_cons_succ]
  refine wpAnyH_take (i := 18) (oi := _) (v := .pointer (some ⟨g.bb 0, n, none⟩)) g24_18 (by kernel_rfl) (by kernel_rfl) (by kernel_rfl) (fun _ _ _ h => h) (Or.inl ⟨by rfl, ?_⟩) (by assumption) ?_
  · intro V hSw
    try dsimp only at hSw
    go_simp
  simp only [Act.put, List.setIfInBounds_toArray, List.set_cons_zero, List.set_cons_succ]
  refine wpAnyH_take (i := 20) (oi := _) (v := y) g24_20 (by kernel_rfl) (by kernel_rfl) (by kernel_rfl) (fun _ _ _ h => h) (Or.inl ⟨by rfl, ?_⟩) (by assumption) ?_
  · intro V hSw
    try dsimp only at hSw
    go_simp
  simp only [Act.put, List.setIfInBounds_toArray, List.set_cons_zero, List.set_cons_succ]
  refine wpAnyH_ready (rs := [19]) (by kernel_rfl) (by simp) ?_
  refine AllReadyH.cons (o := _) g24_19 (fun K hK => ?_) AllReadyH.nil
  have c2 := unhide HC2
  go_simp
  refine hK.out _ _ ((Kept.refl _ _).dr) (fun _ => ?_)
  clear hK K
  refine wpAnyH_ready (rs := [21]) (by kernel_rfl) (by simp) ?_
  refine AllReadyH.cons (o := _) g24_21 (fun K hK => ?_) AllReadyH.nil
  refine wp_app rfl Try.underlying27 info3 rfl (by decide) (v := .slice q ln cap) (y := y) rfl rfl (unhide HV) (unhide HY) numsV_one (by unfold maxLen; omega) (by omega) (unhide HB) ?_
  intro v' w4 hown' hgrow hat
  have HG4 := hide hgrow
  have HO4 := hide hown'
  have HA4 := hide hat
  have K4a := hide (show Kept (fun i => (Value.slice q ln cap).ownBlock = some i) w0.drew w4 from grown_kept hgrow (fun r e => .inl e))
  have K4 := hide (show Kept (fun i => i = g.bb 0 ∨ (g.h 0 n).ownBlock = some i) w0 w4 from ((Kept.refl _ w0).dr).trans (grown_kept hgrow (fun r e => .inl (.inr (by rw [unhide HQ]; exact e)))))
  obtain ⟨q', cap', rfl⟩ := own_form hown'
  clear hown' hgrow hat
  refine hK.out _ _ (unhide K4) (fun _ => ?_)
  clear hK K
  refine wpAnyH_take (i := 22) (oi := _) (v := .pointer (some ⟨g.bb 0, n, none⟩)) g24_22 (by kernel_rfl) (by kernel_rfl) (by kernel_rfl) (fun _ _ _ h => h) (Or.inl ⟨by rfl, ?_⟩) (by assumption) ?_
  · intro V hSw
    try dsimp only at hSw
    go_simp
  simp only [Act.put, List.setIfInBounds_toArray, List.set_cons_zero, List.set_cons_succ]
  refine wpAnyH_ready (rs := [23]) (by kernel_rfl) (by simp) ?_
  refine AllReadyH.cons (o := _) g24_23 (fun K hK => ?_) AllReadyH.nil
  obtain ⟨c4, f4⟩ := unhide HB4 w4 (unhide K4a)
  go_simp
  refine hK.out _ _ ((unhide K4).set n _ (.inl (.inl rfl))) (fun _ => ?_)
  clear hK K
  refine wpAnyH_done (by kernel_rfl) ?_ _
  refine NoPanic.normal ?_
  first | go_end0 | (go_wp2; go_end0)
  have hv4 : NR w4 B (.slice q' (ln + ys.length) cap') (s.on 0 n ++ ys) := by
    have h := unhide HO4
    rw [unhide HLn] at h
    unfold NR
    rw [numsV_app, List.length_append, unhide HLn]
    exact h
  have hg4 : w0.drew.grownBy w4 (g.h 0 n).ownBlock := by rw [unhide HQ]; exact unhide HG4
  have ha4 : (Value.slice q' (ln + ys.length) cap').ownBlock = (g.h 0 n).ownBlock ∨ (Value.slice q' (ln + ys.length) cap').ownBlock = some w0.drew.heap.size := by rw [unhide HQ]; exact unhide HA4
  have k1 := (unhide HK).keep (bdrew _)
  have e5 := (unhide K4).set n (.slice q' (ln + ys.length) cap') (.inl (.inl rfl))
  exact ⟨rfl, _, k1.hang hb hn hg4 hv4 ha4, fun v xs h1 h2 => (unhide HK).old hb hn e5 _ v xs (unhide Hold v xs h1) h2, (Kt.keep (unhide B0)).trans ((unhide HK).rowK hb hn e5), rfl⟩
set_option maxRecDepth 100000 in
set_option maxHeartbeats 2000000 in
theorem hang_1 {B C : Nat} {W : World} {m N : Nat} {s : St} {g : Mg} (k : MB B W m N s g) (hBW : B ≤ W.heap.size) {n : Nat} (hn : n < N) {y : Value} {ys : List Nat} (hy : NR W C y ys) (hl : (s.on 1 n).length + ys.length ≤ 100000) : Calls Try.prog 44 #[mp m, plV 1 n, y] W (HangP B W m N s g 1 n ys) := by
  have hb : 1 < 2 := by decide
  have B0 := hide (bnew W (.cells #[.int .i64 1, .int .i64 n] 75))
  have HP := hide (PB.new W 1 n)
  have HK := hide (k.keep (unhide B0))
  have HY0 := hide (hy.keep (unhide B0))
  have HB0 := hide (show B ≤ (W.alloc (.cells #[.int .i64 1, .int .i64 n] 75)).heap.size by simp; omega)
  have Hold := hide (fun v xs (h : NR W B v xs) => h.keep (unhide B0))
  obtain ⟨q, cap, hq⟩ := (k.ndl 1 n hb hn).1.form
  have q1 : (n : Int) < (N : Int) := by omega
  have q2 : (0 : Int) ≤ (n : Int) := by omega
  unfold HangP
  clear hy hBW
  go_enter Try.func44, Try.ntmps44
  go_upto_region 1 with fail
  generalize W.alloc (.cells #[.int .i64 1, .int .i64 n] 75) = w0 at *
  obtain ⟨bx, hbx⟩ : ∃ bx, bx = W.heap.size := ⟨_, rfl⟩
  rw [← hbx] at HP
  rw [← hbx]
  clear hbx k
  have HV := hide (((unhide HK).ndl 1 n hb hn).1.keep (bdrew _))
  have HC2 := hide ((unhide HK).keep (bdrew _) |>.cell hb hn)
  have HQ := hide hq
  rw [hq] at HV HC2
  clear hq
  have HY := hide ((unhide HY0).keep (bdrew _))
  have HB := hide (show B ≤ w0.drew.heap.size from unhide HB0)
  have HPk := hide (show ∀ V, Kept (fun i => i = g.bb 1 ∨ (g.h 1 n).ownBlock = some i) w0 V → PB V bx 1 n from fun V e => ((unhide HK).rowK hb hn e).pb (unhide HP))
  have HMk := hide (show ∀ V, Kept (fun i => i = g.bb 1 ∨ (g.h 1 n).ownBlock = some i) w0 V → V.cell? ⟨m, 1, none⟩ = some (.slice (some ⟨g.bb 1, 0, none⟩) N N) from fun V e => e.cell (unhide HK).lt (fun q => by
    rcases q with q | q
    · exact absurd q ((unhide HK).box.1.2.ne ((unhide HK).bed 1 hb).1.1.2 (by decide))
    · exact absurd rfl ((unhide HK).box.1.2.ne (own_tg ((unhide HK).ndl 1 n hb hn).1 q) (by decide))) ((unhide HK).slot hb))
  have HB4 := hide (show ∀ V, Kept (fun i => (Value.slice q (s.on 1 n).length cap).ownBlock = some i) w0.drew V → V.cell? ⟨g.bb 1, n, none⟩ = some (.slice q (s.on 1 n).length cap) ∧ V.frozen? ⟨g.bb 1, n, none⟩ = false from fun V e => by
    have r := ((unhide HK).keep (bdrew _) |>.bed 1 hb).1
    have r2 := r.kept e (fun q' => absurd rfl (r.1.2.ne (own_tg (unhide HV) q') (by decide)))
    have := r2.2 n hn
    rw [unhide HQ] at this
    exact this)
  obtain ⟨ln, hln⟩ : ∃ ln, ln = (s.on 1 n).length := ⟨_, rfl⟩
  unfold NR at HV HY
  have HLn := hide hln
  rw [← hln] at HV HC2 HB4 HQ hl
  clear hln
  refine wp_region_noPanic ?_
  refine wp_region_held_drew (S := fun V => Kept (fun i => i = g.bb 1 ∨ (g.h 1 n).ownBlock = some i) w0 V) (by kernel_rfl) ((Kept.refl _ _).dr) ?_
  intro _
  refine wpAnyH_take (i := 0) (oi := _) (v := mp m) g24_0 (by kernel_rfl) (by kernel_rfl) (by kernel_rfl) (fun _ _ _ h => h) (Or.inl ⟨by rfl, ?_⟩) (by assumption) ?_
  · intro V hSw
    try dsimp only at hSw
    go_simp
  simp only [Act.put, List.setIfInBounds_toArray, List.set_cons_zero, List.set_cons_succ]
  refine wpAnyH_take (i := 1) (oi := _) (v := mp bx) g24_1 (by kernel_rfl) (by kernel_rfl) (by kernel_rfl) (fun _ _ _ h => h) (Or.inl ⟨by rfl, ?_⟩) (by assumption) ?_
  · intro V hSw
    try dsimp only at hSw
    go_simp
  simp only [Act.put, List.setIfInBounds_toArray, List.set_cons_zero, List.set_cons_succ]
  refine wpAnyH_take (i := 2) (oi := _) (v := .int .i64 1) g24_2 (by kernel_rfl) (by kernel_rfl) (by kernel_rfl) (fun _ _ _ h => h) (Or.inl ⟨by rfl, ?_⟩) (by assumption) ?_
  · intro V hSw
    try dsimp only at hSw
    have hp := unhide HPk V hSw
    obtain ⟨-, p0, p1⟩ := hp
    go_simp
  simp only [Act.put, List.setIfInBounds_toArray, List.set_cons_zero, List.set_cons_succ]
  refine wpAnyH_take (i := 3) (oi := _) (v := mp m) g24_3 (by kernel_rfl) (by kernel_rfl) (by kernel_rfl) (fun _ _ _ h => h) (Or.inl ⟨by rfl, ?_⟩) (by assumption) ?_
  · intro V hSw
    try dsimp only at hSw
    go_simp
  simp only [Act.put, List.setIfInBounds_toArray, List.set_cons_zero, List.set_cons_succ]
  refine wpAnyH_take (i := 4) (oi := _) (v := mp m) g24_4 (by kernel_rfl) (by kernel_rfl) (by kernel_rfl) (fun _ _ _ h => h) (Or.inl ⟨by rfl, ?_⟩) (by assumption) ?_
  · intro V hSw
    try dsimp only at hSw
    go_simp
  simp only [Act.put, List.setIfInBounds_toArray, List.set_cons_zero, List.set_cons_succ]
  refine wpAnyH_take (i := 5) (oi := _) (v := .pointer (some ⟨m, 1, none⟩)) g24_5 (by kernel_rfl) (by kernel_rfl) (by kernel_rfl) (fun _ _ _ h => h) (Or.inl ⟨by rfl, ?_⟩) (by assumption) ?_
  · intro V hSw
    try dsimp only at hSw
    go_simp
  simp only [Act.put, List.setIfInBounds_toArray, List.set_cons_zero, List.set_cons_succ]
  refine wpAnyH_take (i := 6) (oi := _) (v := .slice (some ⟨g.bb 1, 0, none⟩) N N) g24_6 (by kernel_rfl) (by kernel_rfl) (by kernel_rfl) (fun _ _ _ h => h) (Or.inl ⟨by rfl, ?_⟩) (by assumption) ?_
  · intro V hSw
    try dsimp only at hSw
    have hm := unhide HMk V hSw
    go_simp
  simp only [Act.put, List.setIfInBounds_toArray, List.set_cons_zero, List.set_cons_succ]
  refine wpAnyH_take (i := 7) (oi := _) (v := .pointer (some ⟨bx, 1, none⟩)) g24_7 (by kernel_rfl) (by kernel_rfl) (by kernel_rfl) (fun _ _ _ h => h) (Or.inl ⟨by rfl, ?_⟩) (by assumption) ?_
  · intro V hSw
    try dsimp only at hSw
    go_simp
  simp only [Act.put, List.setIfInBounds_toArray, List.set_cons_zero, List.set_cons_succ]
  refine wpAnyH_take (i := 8) (oi := _) (v := .int .i64 n) g24_8 (by kernel_rfl) (by kernel_rfl) (by kernel_rfl) (fun _ _ _ h => h) (Or.inl ⟨by rfl, ?_⟩) (by assumption) ?_
  · intro V hSw
    try dsimp only at hSw
    have hp := unhide HPk V hSw
    obtain ⟨-, p0, p1⟩ := hp
    go_simp
  simp only [Act.put, List.setIfInBounds_toArray, List.set_cons_zero, List.set_cons_succ]
  refine wpAnyH_take (i := 9) (oi := _) (v := mp m) g24_9 (by kernel_rfl) (by kernel_rfl) (by kernel_rfl) (fun _ _ _ h => h) (Or.inl ⟨by rfl, ?_⟩) (by assumption) ?_
  · intro V hSw
    try dsimp only at hSw
    go_simp
  simp only [Act.put, List.setIfInBounds_toArray, List.set_cons_zero, List.set_cons_succ]
  refine wpAnyH_take (i := 10) (oi := _) (v := mp bx) g24_10 (by kernel_rfl) (by kernel_rfl) (by kernel_rfl) (fun _ _ _ h => h) (Or.inl ⟨by rfl, ?_⟩) (by assumption) ?_
  · intro V hSw
    try dsimp only at hSw
    go_simp
  simp only [Act.put, List.setIfInBounds_toArray, List.set_cons_zero, List.set_cons_succ]
  refine wpAnyH_take (i := 11) (oi := _) (v := .int .i64 1) g24_11 (by kernel_rfl) (by kernel_rfl) (by kernel_rfl) (fun _ _ _ h => h) (Or.inl ⟨by rfl, ?_⟩) (by assumption) ?_
  · intro V hSw
    try dsimp only at hSw
    have hp := unhide HPk V hSw
    obtain ⟨-, p0, p1⟩ := hp
    go_simp
  simp only [Act.put, List.setIfInBounds_toArray, List.set_cons_zero, List.set_cons_succ]
  refine wpAnyH_take (i := 12) (oi := _) (v := mp m) g24_12 (by kernel_rfl) (by kernel_rfl) (by kernel_rfl) (fun _ _ _ h => h) (Or.inl ⟨by rfl, ?_⟩) (by assumption) ?_
  · intro V hSw
    try dsimp only at hSw
    go_simp
  simp only [Act.put, List.setIfInBounds_toArray, List.set_cons_zero, List.set_cons_succ]
  refine wpAnyH_take (i := 13) (oi := _) (v := mp m) g24_13 (by kernel_rfl) (by kernel_rfl) (by kernel_rfl) (fun _ _ _ h => h) (Or.inl ⟨by rfl, ?_⟩) (by assumption) ?_
  · intro V hSw
    try dsimp only at hSw
    go_simp
  simp only [Act.put, List.setIfInBounds_toArray, List.set_cons_zero, List.set_cons_succ]
  refine wpAnyH_take (i := 14) (oi := _) (v := .pointer (some ⟨m, 1, none⟩)) g24_14 (by kernel_rfl) (by kernel_rfl) (by kernel_rfl) (fun _ _ _ h => h) (Or.inl ⟨by rfl, ?_⟩) (by assumption) ?_
  · intro V hSw
    try dsimp only at hSw
    go_simp
  simp only [Act.put, List.setIfInBounds_toArray, List.set_cons_zero, List.set_cons_succ]
  refine wpAnyH_take (i := 15) (oi := _) (v := .slice (some ⟨g.bb 1, 0, none⟩) N N) g24_15 (by kernel_rfl) (by kernel_rfl) (by kernel_rfl) (fun _ _ _ h => h) (Or.inl ⟨by rfl, ?_⟩) (by assumption) ?_
  · intro V hSw
    try dsimp only at hSw
    have hm := unhide HMk V hSw
    go_simp
  simp only [Act.put, List.setIfInBounds_toArray, List.set_cons_zero, List.set_cons_succ]
  refine wpAnyH_take (i := 16) (oi := _) (v := .pointer (some ⟨bx, 1, none⟩)) g24_16 (by kernel_rfl) (by kernel_rfl) (by kernel_rfl) (fun _ _ _ h => h) (Or.inl ⟨by rfl, ?_⟩) (by assumption) ?_
  · intro V hSw
    try dsimp only at hSw
    go_simp
  simp only [Act.put, List.setIfInBounds_toArray, List.set_cons_zero, List.set_cons_succ]
  refine wpAnyH_take (i := 17) (oi := _) (v := .int .i64 n) g24_17 (by kernel_rfl) (by kernel_rfl) (by kernel_rfl) (fun _ _ _ h => h) (Or.inl ⟨by rfl, ?_⟩) (by assumption) ?_
  · intro V hSw
    try dsimp only at hSw
    have hp := unhide HPk V hSw
    obtain ⟨-, p0, p1⟩ := hp
    go_simp
  simp only [Act.put, List.setIfInBounds_toArray, List.set_cons_zero, List.set_cons_succ]
  refine wpAnyH_take (i := 18) (oi := _) (v := .pointer (some ⟨g.bb 1, n, none⟩)) g24_18 (by kernel_rfl) (by kernel_rfl) (by kernel_rfl) (fun _ _ _ h => h) (Or.inl ⟨by rfl, ?_⟩) (by assumption) ?_
  · intro V hSw
    try dsimp only at hSw
    go_simp
  simp only [Act.put, List.setIfInBounds_toArray, List.set_cons_zero, List.set_cons_succ]
  refine wpAnyH_take (i := 20) (oi := _) (v := y) g24_20 (by kernel_rfl) (by kernel_rfl) (by kernel_rfl) (fun _ _ _ h => h) (Or.inl ⟨by rfl, ?_⟩) (by assumption) ?_
  · intro V hSw
    try dsimp only at hSw
    go_simp
  simp only [Act.put, List.setIfInBounds_toArray, List.set_cons_zero, List.set_cons_succ]
  refine wpAnyH_ready (rs := [19]) (by kernel_rfl) (by simp) ?_
  refine AllReadyH.cons (o := _) g24_19 (fun K hK => ?_) AllReadyH.nil
  have c2 := unhide HC2
  go_simp
  refine hK.out _ _ ((Kept.refl _ _).dr) (fun _ => ?_)
  clear hK K
  refine wpAnyH_ready (rs := [21]) (by kernel_rfl) (by simp) ?_
  refine AllReadyH.cons (o := _) g24_21 (fun K hK => ?_) AllReadyH.nil
  refine wp_app rfl Try.underlying27 info3 rfl (by decide) (v := .slice q ln cap) (y := y) rfl rfl (unhide HV) (unhide HY) numsV_one (by unfold maxLen; omega) (by omega) (unhide HB) ?_
  intro v' w4 hown' hgrow hat
  have HG4 := hide hgrow
  have HO4 := hide hown'
  have HA4 := hide hat
  have K4a := hide (show Kept (fun i => (Value.slice q ln cap).ownBlock = some i) w0.drew w4 from grown_kept hgrow (fun r e => .inl e))
  have K4 := hide (show Kept (fun i => i = g.bb 1 ∨ (g.h 1 n).ownBlock = some i) w0 w4 from ((Kept.refl _ w0).dr).trans (grown_kept hgrow (fun r e => .inl (.inr (by rw [unhide HQ]; exact e)))))
  obtain ⟨q', cap', rfl⟩ := own_form hown'
  clear hown' hgrow hat
  refine hK.out _ _ (unhide K4) (fun _ => ?_)
  clear hK K
  refine wpAnyH_take (i := 22) (oi := _) (v := .pointer (some ⟨g.bb 1, n, none⟩)) g24_22 (by kernel_rfl) (by kernel_rfl) (by kernel_rfl) (fun _ _ _ h => h) (Or.inl ⟨by rfl, ?_⟩) (by assumption) ?_
  · intro V hSw
    try dsimp only at hSw
    go_simp
  simp only [Act.put, List.setIfInBounds_toArray, List.set_cons_zero, List.set_cons_succ]
  refine wpAnyH_ready (rs := [23]) (by kernel_rfl) (by simp) ?_
  refine AllReadyH.cons (o := _) g24_23 (fun K hK => ?_) AllReadyH.nil
  obtain ⟨c4, f4⟩ := unhide HB4 w4 (unhide K4a)
  go_simp
  refine hK.out _ _ ((unhide K4).set n _ (.inl (.inl rfl))) (fun _ => ?_)
  clear hK K
  refine wpAnyH_done (by kernel_rfl) ?_ _
  refine NoPanic.normal ?_
  first | go_end0 | (go_wp2; go_end0)
  have hv4 : NR w4 B (.slice q' (ln + ys.length) cap') (s.on 1 n ++ ys) := by
    have h := unhide HO4
    rw [unhide HLn] at h
    unfold NR
    rw [numsV_app, List.length_append, unhide HLn]
    exact h
  have hg4 : w0.drew.grownBy w4 (g.h 1 n).ownBlock := by rw [unhide HQ]; exact unhide HG4
  have ha4 : (Value.slice q' (ln + ys.length) cap').ownBlock = (g.h 1 n).ownBlock ∨ (Value.slice q' (ln + ys.length) cap').ownBlock = some w0.drew.heap.size := by rw [unhide HQ]; exact unhide HA4
  have k1 := (unhide HK).keep (bdrew _)
  have e5 := (unhide K4).set n (.slice q' (ln + ys.length) cap') (.inl (.inl rfl))
  exact ⟨rfl, _, k1.hang hb hn hg4 hv4 ha4, fun v xs h1 h2 => (unhide HK).old hb hn e5 _ v xs (unhide Hold v xs h1) h2, (Kt.keep (unhide B0)).trans ((unhide HK).rowK hb hn e5), rfl⟩
theorem take_any {B : Nat} {W : World} {m N : Nat} {s : St} {g : Mg} (k : MB B W m N s g) {b n : Nat} (hb : b < 2) (hn : n < N) : Calls Try.prog 43 #[mp m, plV b n] W (TakeP B W m N s g b n) := by
  match b, hb with
  | 0, _ => exact take_0 k hn
  | 1, _ => exact take_1 k hn
theorem hang_any {B C : Nat} {W : World} {m N : Nat} {s : St} {g : Mg} (k : MB B W m N s g) (hBW : B ≤ W.heap.size) {b n : Nat} (hb : b < 2) (hn : n < N) {y : Value} {ys : List Nat} (hy : NR W C y ys) (hl : (s.on b n).length + ys.length ≤ 100000) : Calls Try.prog 44 #[mp m, plV b n, y] W (HangP B W m N s g b n ys) := by
  match b, hb with
  | 0, _ => exact hang_0 k hBW hn hy hl
  | 1, _ => exact hang_1 k hBW hn hy hl
end Go.Proofs.Ytancniamgfppiaa
