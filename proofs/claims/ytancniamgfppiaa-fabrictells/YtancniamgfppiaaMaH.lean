/-
  Do: a stitch.
-/
import Derived.Test.YtancniamgfppiaaMaE
import Derived.Test.YtancniamgfppiaaMaG
namespace Go.Proofs.Ytancniamgfppiaa
open Go.RowKit

theorem g8_0 {a0 a1 a2 a3 a4 a5 a6 a7 : Oper} : (#[a0, a1, a2, a3, a4, a5, a6, a7] : Array Oper)[0]? = some a0 := rfl
theorem g8_1 {a0 a1 a2 a3 a4 a5 a6 a7 : Oper} : (#[a0, a1, a2, a3, a4, a5, a6, a7] : Array Oper)[1]? = some a1 := rfl
theorem g8_2 {a0 a1 a2 a3 a4 a5 a6 a7 : Oper} : (#[a0, a1, a2, a3, a4, a5, a6, a7] : Array Oper)[2]? = some a2 := rfl
theorem g8_3 {a0 a1 a2 a3 a4 a5 a6 a7 : Oper} : (#[a0, a1, a2, a3, a4, a5, a6, a7] : Array Oper)[3]? = some a3 := rfl
theorem g8_4 {a0 a1 a2 a3 a4 a5 a6 a7 : Oper} : (#[a0, a1, a2, a3, a4, a5, a6, a7] : Array Oper)[4]? = some a4 := rfl
theorem g8_5 {a0 a1 a2 a3 a4 a5 a6 a7 : Oper} : (#[a0, a1, a2, a3, a4, a5, a6, a7] : Array Oper)[5]? = some a5 := rfl
theorem g8_6 {a0 a1 a2 a3 a4 a5 a6 a7 : Oper} : (#[a0, a1, a2, a3, a4, a5, a6, a7] : Array Oper)[6]? = some a6 := rfl
theorem g8_7 {a0 a1 a2 a3 a4 a5 a6 a7 : Oper} : (#[a0, a1, a2, a3, a4, a5, a6, a7] : Array Oper)[7]? = some a7 := rfl
theorem g12_0 {a0 a1 a2 a3 a4 a5 a6 a7 a8 a9 a10 a11 : Oper} : (#[a0, a1, a2, a3, a4, a5, a6, a7, a8, a9, a10, a11] : Array Oper)[0]? = some a0 := rfl
theorem g12_1 {a0 a1 a2 a3 a4 a5 a6 a7 a8 a9 a10 a11 : Oper} : (#[a0, a1, a2, a3, a4, a5, a6, a7, a8, a9, a10, a11] : Array Oper)[1]? = some a1 := rfl
theorem g12_2 {a0 a1 a2 a3 a4 a5 a6 a7 a8 a9 a10 a11 : Oper} : (#[a0, a1, a2, a3, a4, a5, a6, a7, a8, a9, a10, a11] : Array Oper)[2]? = some a2 := rfl
theorem g12_3 {a0 a1 a2 a3 a4 a5 a6 a7 a8 a9 a10 a11 : Oper} : (#[a0, a1, a2, a3, a4, a5, a6, a7, a8, a9, a10, a11] : Array Oper)[3]? = some a3 := rfl
theorem g12_4 {a0 a1 a2 a3 a4 a5 a6 a7 a8 a9 a10 a11 : Oper} : (#[a0, a1, a2, a3, a4, a5, a6, a7, a8, a9, a10, a11] : Array Oper)[4]? = some a4 := rfl
theorem g12_5 {a0 a1 a2 a3 a4 a5 a6 a7 a8 a9 a10 a11 : Oper} : (#[a0, a1, a2, a3, a4, a5, a6, a7, a8, a9, a10, a11] : Array Oper)[5]? = some a5 := rfl
theorem g12_6 {a0 a1 a2 a3 a4 a5 a6 a7 a8 a9 a10 a11 : Oper} : (#[a0, a1, a2, a3, a4, a5, a6, a7, a8, a9, a10, a11] : Array Oper)[6]? = some a6 := rfl
theorem g12_7 {a0 a1 a2 a3 a4 a5 a6 a7 a8 a9 a10 a11 : Oper} : (#[a0, a1, a2, a3, a4, a5, a6, a7, a8, a9, a10, a11] : Array Oper)[7]? = some a7 := rfl
theorem g12_8 {a0 a1 a2 a3 a4 a5 a6 a7 a8 a9 a10 a11 : Oper} : (#[a0, a1, a2, a3, a4, a5, a6, a7, a8, a9, a10, a11] : Array Oper)[8]? = some a8 := rfl
theorem g12_9 {a0 a1 a2 a3 a4 a5 a6 a7 a8 a9 a10 a11 : Oper} : (#[a0, a1, a2, a3, a4, a5, a6, a7, a8, a9, a10, a11] : Array Oper)[9]? = some a9 := rfl
theorem g12_10 {a0 a1 a2 a3 a4 a5 a6 a7 a8 a9 a10 a11 : Oper} : (#[a0, a1, a2, a3, a4, a5, a6, a7, a8, a9, a10, a11] : Array Oper)[10]? = some a10 := rfl
theorem g12_11 {a0 a1 a2 a3 a4 a5 a6 a7 a8 a9 a10 a11 : Oper} : (#[a0, a1, a2, a3, a4, a5, a6, a7, a8, a9, a10, a11] : Array Oper)[11]? = some a11 := rfl

/-- a stitch is done, or refused -/
def DoP (B : Nat) (W : World) (m N : Nat) (s' : St) (er : Int) (e : Ending) (w' : World) : Prop := e = .returned (.int .i64 er) ∧ ∃ g', MB B w' m N s' g' ∧ Kt B W w'
theorem MB.big {B : Nat} {W : World} {m N : Nat} {s : St} {g : Mg} (k : MB B W m N s g) : B ≤ W.heap.size := Nat.le_of_lt (Nat.lt_of_le_of_lt k.low k.lt)
theorem upd_upd (f : Nat → Nat → List Nat) (b n : Nat) (xs ys : List Nat) : upd (upd f b n xs) b n ys = upd f b n ys := by
  funext b' n'
  unfold upd
  by_cases h : b' = b ∧ n' = n <;> simp [h]

set_option maxRecDepth 100000 in
set_option maxHeartbeats 2000000 in
theorem do_err {B : Nat} {W : World} {m N : Nat} {s : St} {g : Mg} (k : MB B W m N s g) (hI : Iv s) (hN : N ≤ 128) (x : Sx) (h : wrE N s x ≠ 0) : Calls Try.prog 34 #[mp m, sxV x] W (DoP B W m N s (wrE N s x)) := by
  have B0 := hide (bnew W (.cells #[.int .i64 x.dk, .int .i64 x.bed, .int .i64 x.ndl, .int .i64 x.car, .int .i64 x.tt] 24))
  have HX0 := hide (XB.new W x)
  have HK0 := hide (k.keep (unhide B0))
  have HWr := hide (wrong_any (unhide HK0) hI hN x)
  unfold Ans at HWr
  generalize wrE N s x = er at *
  have h' : (er != 0) = true := by simpa using h
  clear h hI hN k
  go_enter Try.func34, Try.ntmps34
  go_upto_region 1 with fail
  generalize W.alloc (.cells #[.int .i64 x.dk, .int .i64 x.bed, .int .i64 x.ndl, .int .i64 x.car, .int .i64 x.tt] 24) = w0 at *
  obtain ⟨xb, hxb⟩ : ∃ xb, xb = W.heap.size := ⟨_, rfl⟩
  rw [← hxb] at HX0
  rw [← hxb]
  clear hxb
  obtain ⟨-, x0, x1, x2, x3, x4⟩ := unhide HX0
  go_wp2_with fail
  refine (unhide HWr).mono ?_
  rintro e w1 ⟨rfl, hb1⟩
  have B1 := hide (btrans (unhide B0) hb1)
  have HX1 := hide ((unhide HX0).keep hb1)
  have HK1 := hide ((unhide HK0).keep hb1)
  clear hb1 B0 HX0 HK0 HWr x0 x1 x2 x3 x4
  go_wp2
  go_ret
  unfold DoP
  exact ⟨rfl, g, unhide HK1, Kt.keep (unhide B1)⟩

set_option maxRecDepth 100000 in
set_option maxHeartbeats 2000000 in
theorem do_miss {B : Nat} {W : World} {m N : Nat} {s : St} {g : Mg} (k : MB B W m N s g) (hI : Iv s) (hN : N ≤ 128) (x : Sx) (hz : wrE N s x = 0) (hk : x.dk = 3) : Calls Try.prog 34 #[mp m, sxV x] W (DoP B W m N (doS s x) 0) := by
  obtain ⟨-, -, hd, -, hbn⟩ := wrE_zero hz
  obtain ⟨-, hlp, hls, hon, -, -⟩ := id hI
  have B0 := hide (bnew W (.cells #[.int .i64 x.dk, .int .i64 x.bed, .int .i64 x.ndl, .int .i64 x.car, .int .i64 x.tt] 24))
  have HX0 := hide (XB.new W x)
  have HK0 := hide (k.keep (unhide B0))
  have HWr := hide (wrong_any (unhide HK0) hI hN x)
  unfold Ans at HWr
  rw [hz] at HWr
  have HE := hide (show doS s x = cnt s by unfold doS doX; simp [hk])
  have g1 : (x.dk == 1) = false := by simp [hk]
  have g2 : (x.dk == 2) = false := by simp [hk]
  have g4 : (x.dk == 4) = false := by simp [hk]
  have g5 : (x.dk == 5) = false := by simp [hk]
  have g6 : (x.dk == 6) = false := by simp [hk]
  clear hbn k hk hI hz
  go_enter Try.func34, Try.ntmps34
  go_upto_region 1 with fail
  generalize W.alloc (.cells #[.int .i64 x.dk, .int .i64 x.bed, .int .i64 x.ndl, .int .i64 x.car, .int .i64 x.tt] 24) = w0 at *
  obtain ⟨xb, hxb⟩ : ∃ xb, xb = W.heap.size := ⟨_, rfl⟩
  rw [← hxb] at HX0
  rw [← hxb]
  clear hxb
  obtain ⟨-, x0, x1, x2, x3, x4⟩ := unhide HX0
  go_wp2_with fail
  refine (unhide HWr).mono ?_
  rintro e w1 ⟨rfl, hb1⟩
  have B1 := hide (btrans (unhide B0) hb1)
  have HX1 := hide ((unhide HX0).keep hb1)
  have HK1 := hide ((unhide HK0).keep hb1)
  clear hb1 B0 HX0 HK0 HWr x0 x1 x2 x3 x4
  obtain ⟨-, x0, x1, x2, x3, x4⟩ := unhide HX1
  go_upto_region 5 with fail
  have B2 := hide (btrans (unhide B1) (bnew w1 (.cells #[.int .i64 x.bed, .int .i64 x.ndl] 75)))
  have HP := hide (PB.new w1 x.bed x.ndl)
  have HX := hide ((unhide HX1).keep (bnew w1 (.cells #[.int .i64 x.bed, .int .i64 x.ndl] 75)))
  have HK := hide ((unhide HK1).keep (bnew w1 (.cells #[.int .i64 x.bed, .int .i64 x.ndl] 75)))
  clear B1 HX1 HK1 x0 x1 x2 x3 x4
  generalize w1.alloc (.cells #[.int .i64 x.bed, .int .i64 x.ndl] 75) = w2 at *
  obtain ⟨pb, hpb⟩ : ∃ pb, pb = w1.heap.size := ⟨_, rfl⟩
  rw [← hpb] at HP
  rw [← hpb]
  clear hpb
  obtain ⟨-, x0, x1, x2, x3, x4⟩ := unhide HX
  have HK0' := hide (Kt.refl B w2)
  have c5 := (unhide HK).box.2.1.2.2.2.2.2
  have f5 := (unhide HK).box.2.2.2.2.2
  have hd5 := hd
  have M9 := hide (unhide HK).count
  have K9 := hide ((unhide HK0').trans ((unhide HK).boxK 5 (.int .i64 ((s.done + 1 : Nat) : Int))))
  go_wp2
  go_ret
  unfold DoP
  exact ⟨rfl, _, by rw [unhide HE]; exact unhide M9, (Kt.keep (unhide B2)).trans (unhide K9)⟩

set_option maxRecDepth 100000 in
set_option maxHeartbeats 2000000 in
theorem do_rack {B : Nat} {W : World} {m N : Nat} {s : St} {g : Mg} (k : MB B W m N s g) (hI : Iv s) (hN : N ≤ 128) (x : Sx) (hz : wrE N s x = 0) (hk : x.dk = 6) : Calls Try.prog 34 #[mp m, sxV x] W (DoP B W m N (doS s x) 0) := by
  obtain ⟨-, -, hd, -, hbn⟩ := wrE_zero hz
  obtain ⟨-, hlp, hls, hon, -, -⟩ := id hI
  have B0 := hide (bnew W (.cells #[.int .i64 x.dk, .int .i64 x.bed, .int .i64 x.ndl, .int .i64 x.car, .int .i64 x.tt] 24))
  have HX0 := hide (XB.new W x)
  have HK0 := hide (k.keep (unhide B0))
  have HWr := hide (wrong_any (unhide HK0) hI hN x)
  unfold Ans at HWr
  rw [hz] at HWr
  have HE := hide (show doS s x = cnt { s with rack := x.tt } by unfold doS doX; simp [hk])
  have g1 : (x.dk == 1) = false := by simp [hk]
  have g2 : (x.dk == 2) = false := by simp [hk]
  have g4 : (x.dk == 4) = false := by simp [hk]
  have g5 : (x.dk == 5) = false := by simp [hk]
  have g6 : (x.dk == 6) = true := by simp [hk]
  clear hbn k hk hI hz
  go_enter Try.func34, Try.ntmps34
  go_upto_region 1 with fail
  generalize W.alloc (.cells #[.int .i64 x.dk, .int .i64 x.bed, .int .i64 x.ndl, .int .i64 x.car, .int .i64 x.tt] 24) = w0 at *
  obtain ⟨xb, hxb⟩ : ∃ xb, xb = W.heap.size := ⟨_, rfl⟩
  rw [← hxb] at HX0
  rw [← hxb]
  clear hxb
  obtain ⟨-, x0, x1, x2, x3, x4⟩ := unhide HX0
  go_wp2_with fail
  refine (unhide HWr).mono ?_
  rintro e w1 ⟨rfl, hb1⟩
  have B1 := hide (btrans (unhide B0) hb1)
  have HX1 := hide ((unhide HX0).keep hb1)
  have HK1 := hide ((unhide HK0).keep hb1)
  clear hb1 B0 HX0 HK0 HWr x0 x1 x2 x3 x4
  obtain ⟨-, x0, x1, x2, x3, x4⟩ := unhide HX1
  go_upto_region 5 with fail
  have B2 := hide (btrans (unhide B1) (bnew w1 (.cells #[.int .i64 x.bed, .int .i64 x.ndl] 75)))
  have HP := hide (PB.new w1 x.bed x.ndl)
  have HX := hide ((unhide HX1).keep (bnew w1 (.cells #[.int .i64 x.bed, .int .i64 x.ndl] 75)))
  have HK := hide ((unhide HK1).keep (bnew w1 (.cells #[.int .i64 x.bed, .int .i64 x.ndl] 75)))
  clear B1 HX1 HK1 x0 x1 x2 x3 x4
  generalize w1.alloc (.cells #[.int .i64 x.bed, .int .i64 x.ndl] 75) = w2 at *
  obtain ⟨pb, hpb⟩ : ∃ pb, pb = w1.heap.size := ⟨_, rfl⟩
  rw [← hpb] at HP
  rw [← hpb]
  clear hpb
  obtain ⟨-, x0, x1, x2, x3, x4⟩ := unhide HX
  have c2 := (unhide HK).box.2.1.2.2.1
  have f2 := (unhide HK).box.2.2.1
  have M3 := hide ((unhide HK).rack x.tt)
  have K3 := hide ((unhide HK).boxK 2 (.int .i64 x.tt))
  go_upto_region 16 with fail
  generalize w2.setCell ⟨m, 2, none⟩ (.int .i64 x.tt) = w3 at *
  clear c2 f2 x0 x1 x2 x3 x4 HK HX HP
  have c5 := (unhide M3).box.2.1.2.2.2.2.2
  have f5 := (unhide M3).box.2.2.2.2.2
  have hd5 := hd
  have M9 := hide (unhide M3).count
  have K9 := hide ((unhide K3).trans ((unhide M3).boxK 5 (.int .i64 ((s.done + 1 : Nat) : Int))))
  go_wp2
  go_ret
  unfold DoP
  exact ⟨rfl, _, by rw [unhide HE]; exact unhide M9, (Kt.keep (unhide B2)).trans (unhide K9)⟩

set_option maxRecDepth 100000 in
set_option maxHeartbeats 2000000 in
theorem do_tuck {B : Nat} {W : World} {m N : Nat} {s : St} {g : Mg} (k : MB B W m N s g) (hI : Iv s) (hN : N ≤ 128) (x : Sx) (hz : wrE N s x = 0) (hk : x.dk = 2) : Calls Try.prog 34 #[mp m, sxV x] W (DoP B W m N (doS s x) 0) := by
  obtain ⟨-, -, hd, -, hbn⟩ := wrE_zero hz
  obtain ⟨-, hlp, hls, hon, -, -⟩ := id hI
  have B0 := hide (bnew W (.cells #[.int .i64 x.dk, .int .i64 x.bed, .int .i64 x.ndl, .int .i64 x.car, .int .i64 x.tt] 24))
  have HX0 := hide (XB.new W x)
  have HK0 := hide (k.keep (unhide B0))
  have HWr := hide (wrong_any (unhide HK0) hI hN x)
  unfold Ans at HWr
  rw [hz] at HWr
  obtain ⟨b, n, hbb, hnn, hb, hn, -, hw⟩ := hbn (by omega)
  have eb : x.bed.toNat = b := by omega
  have en : x.ndl.toNat = n := by omega
  have HE := hide (show doS s x = cnt { s with on := upd s.on b n (s.on b n ++ [s.loops.length]), loops := s.loops ++ [(x.car, [])] } by unfold doS doX; simp [hk, eb, en])
  have g1 : (x.dk == 1) = false := by simp [hk]
  have g2 : (x.dk == 2) = true := by simp [hk]
  have g4 : (x.dk == 4) = false := by simp [hk]
  have g5 : (x.dk == 5) = false := by simp [hk]
  have g6 : (x.dk == 6) = false := by simp [hk]
  clear hbn hk hI hz eb en
  have Hbb := hide hbb
  have Hnn := hide hnn
  clear hbb hnn
  go_enter Try.func34, Try.ntmps34
  go_upto_region 1 with fail
  generalize W.alloc (.cells #[.int .i64 x.dk, .int .i64 x.bed, .int .i64 x.ndl, .int .i64 x.car, .int .i64 x.tt] 24) = w0 at *
  obtain ⟨xb, hxb⟩ : ∃ xb, xb = W.heap.size := ⟨_, rfl⟩
  rw [← hxb] at HX0
  rw [← hxb]
  clear hxb
  obtain ⟨-, x0, x1, x2, x3, x4⟩ := unhide HX0
  go_wp2_with fail
  refine (unhide HWr).mono ?_
  rintro e w1 ⟨rfl, hb1⟩
  have B1 := hide (btrans (unhide B0) hb1)
  have HX1 := hide ((unhide HX0).keep hb1)
  have HK1 := hide ((unhide HK0).keep hb1)
  clear hb1 B0 HX0 HK0 HWr x0 x1 x2 x3 x4
  obtain ⟨-, x0, x1, x2, x3, x4⟩ := unhide HX1
  go_upto_region 5 with fail
  have B2 := hide (btrans (unhide B1) (bnew w1 (.cells #[.int .i64 x.bed, .int .i64 x.ndl] 75)))
  have HP := hide (PB.new w1 x.bed x.ndl)
  have HX := hide ((unhide HX1).keep (bnew w1 (.cells #[.int .i64 x.bed, .int .i64 x.ndl] 75)))
  have HK := hide ((unhide HK1).keep (bnew w1 (.cells #[.int .i64 x.bed, .int .i64 x.ndl] 75)))
  clear B1 HX1 HK1 x0 x1 x2 x3 x4
  generalize w1.alloc (.cells #[.int .i64 x.bed, .int .i64 x.ndl] 75) = w2 at *
  obtain ⟨pb, hpb⟩ : ∃ pb, pb = w1.heap.size := ⟨_, rfl⟩
  rw [← hpb] at HP
  rw [← hpb]
  clear hpb
  obtain ⟨-, x0, x1, x2, x3, x4⟩ := unhide HX
  have HPl := hide (show Calls Try.prog 42 #[mp m, plV x.bed x.ndl, .int .i64 x.car, .slice none 0 0] w2 (PullP B w2 m N s b n x.car []) from by
    rw [unhide Hbb, unhide Hnn]
    exact pull_any (unhide HK) (unhide HK).big hb hn (NR.nil _ _) (fun k' hk' => by cases hk') x.car (hon b n) (by omega))
  obtain ⟨-, p0, p1⟩ := unhide HP
  go_wp2_with fail
  refine (unhide HPl).mono ?_
  rintro e w3 ⟨rfl, g3, hk3, hkt3⟩
  have M3 := hide hk3
  have K3 := hide hkt3
  clear hk3 hkt3 HPl x0 x1 x2 x3 x4 p0 p1
  have c5 := (unhide M3).box.2.1.2.2.2.2.2
  have f5 := (unhide M3).box.2.2.2.2.2
  have hd5 := hd
  have M9 := hide (unhide M3).count
  have K9 := hide ((unhide K3).trans ((unhide M3).boxK 5 (.int .i64 ((s.done + 1 : Nat) : Int))))
  go_wp2
  go_ret
  unfold DoP
  exact ⟨rfl, _, by rw [unhide HE]; exact unhide M9, (Kt.keep (unhide B2)).trans (unhide K9)⟩

set_option maxRecDepth 100000 in
set_option maxHeartbeats 2000000 in
theorem do_knit {B : Nat} {W : World} {m N : Nat} {s : St} {g : Mg} (k : MB B W m N s g) (hI : Iv s) (hN : N ≤ 128) (x : Sx) (hz : wrE N s x = 0) (hk : x.dk = 1) : Calls Try.prog 34 #[mp m, sxV x] W (DoP B W m N (doS s x) 0) := by
  obtain ⟨-, -, hd, -, hbn⟩ := wrE_zero hz
  obtain ⟨-, hlp, hls, hon, -, -⟩ := id hI
  have B0 := hide (bnew W (.cells #[.int .i64 x.dk, .int .i64 x.bed, .int .i64 x.ndl, .int .i64 x.car, .int .i64 x.tt] 24))
  have HX0 := hide (XB.new W x)
  have HK0 := hide (k.keep (unhide B0))
  have HWr := hide (wrong_any (unhide HK0) hI hN x)
  unfold Ans at HWr
  rw [hz] at HWr
  obtain ⟨b, n, hbb, hnn, hb, hn, -, hw⟩ := hbn (by omega)
  have eb : x.bed.toNat = b := by omega
  have en : x.ndl.toNat = n := by omega
  have HE := hide (show doS s x = cnt { s with on := upd (upd s.on b n []) b n (upd s.on b n [] b n ++ [s.loops.length]), loops := s.loops ++ [(x.car, s.on b n)] } by unfold doS doX; simp [hk, eb, en, upd_upd, upd_same])
  have g1 : (x.dk == 1) = true := by simp [hk]
  have g2 : (x.dk == 2) = false := by simp [hk]
  have g4 : (x.dk == 4) = false := by simp [hk]
  have g5 : (x.dk == 5) = false := by simp [hk]
  have g6 : (x.dk == 6) = false := by simp [hk]
  clear hbn hk hI hz eb en
  have Hbb := hide hbb
  have Hnn := hide hnn
  clear hbb hnn
  go_enter Try.func34, Try.ntmps34
  go_upto_region 1 with fail
  generalize W.alloc (.cells #[.int .i64 x.dk, .int .i64 x.bed, .int .i64 x.ndl, .int .i64 x.car, .int .i64 x.tt] 24) = w0 at *
  obtain ⟨xb, hxb⟩ : ∃ xb, xb = W.heap.size := ⟨_, rfl⟩
  rw [← hxb] at HX0
  rw [← hxb]
  clear hxb
  obtain ⟨-, x0, x1, x2, x3, x4⟩ := unhide HX0
  go_wp2_with fail
  refine (unhide HWr).mono ?_
  rintro e w1 ⟨rfl, hb1⟩
  have B1 := hide (btrans (unhide B0) hb1)
  have HX1 := hide ((unhide HX0).keep hb1)
  have HK1 := hide ((unhide HK0).keep hb1)
  clear hb1 B0 HX0 HK0 HWr x0 x1 x2 x3 x4
  obtain ⟨-, x0, x1, x2, x3, x4⟩ := unhide HX1
  go_upto_region 5 with fail
  have B2 := hide (btrans (unhide B1) (bnew w1 (.cells #[.int .i64 x.bed, .int .i64 x.ndl] 75)))
  have HP := hide (PB.new w1 x.bed x.ndl)
  have HX := hide ((unhide HX1).keep (bnew w1 (.cells #[.int .i64 x.bed, .int .i64 x.ndl] 75)))
  have HK := hide ((unhide HK1).keep (bnew w1 (.cells #[.int .i64 x.bed, .int .i64 x.ndl] 75)))
  clear B1 HX1 HK1 x0 x1 x2 x3 x4
  generalize w1.alloc (.cells #[.int .i64 x.bed, .int .i64 x.ndl] 75) = w2 at *
  obtain ⟨pb, hpb⟩ : ∃ pb, pb = w1.heap.size := ⟨_, rfl⟩
  rw [← hpb] at HP
  rw [← hpb]
  clear hpb
  obtain ⟨-, x0, x1, x2, x3, x4⟩ := unhide HX
  have HT := hide (show Calls Try.prog 43 #[mp m, plV x.bed x.ndl] w2.drew (TakeP B w2.drew m N s g b n) from by
    rw [unhide Hbb, unhide Hnn]
    exact take_any ((unhide HK).keep (bdrew _)) hb hn)
  have HPl := hide (show ∀ V g', MB B V m N { s with on := upd s.on b n [] } g' → NR V B (g.h b n) (s.on b n) → Ow g' (g.h b n) (3, 0) → Calls Try.prog 42 #[mp m, plV x.bed x.ndl, .int .i64 x.car, g.h b n] V (PullP B V m N { s with on := upd s.on b n [] } b n x.car (s.on b n)) from fun V g' h1 h2 h3 => by
    rw [unhide Hbb, unhide Hnn]
    exact pull_any h1 h1.big hb hn h2 h3 x.car (by dsimp only; rw [upd_same]; simp) (by dsimp only; omega))
  go_wp2_with fail
  refine wp_region_noPanic ?_
  refine wp_region_held_drew (S := fun V => Kt B w2 V) (by kernel_rfl) (Kt.keep (bdrew _)) ?_
  intro _
  refine wpAnyH_take (i := 0) (oi := _) (v := mp m) g8_0 (by kernel_rfl) (by kernel_rfl) (by kernel_rfl) (fun _ _ _ h => h) (Or.inl ⟨by rfl, ?_⟩) (by assumption) ?_
  · intro V hSw
    try dsimp only at hSw
    go_simp
  simp only [Act.put, List.setIfInBounds_toArray, List.set_cons_zero, List.set_cons_succ]
  refine wpAnyH_take (i := 1) (oi := _) (v := plV x.bed x.ndl) g8_1 (by kernel_rfl) (by kernel_rfl) (by kernel_rfl) (fun _ _ _ h => h) (Or.inl ⟨by rfl, ?_⟩) (by assumption) ?_
  · intro V hSw
    try dsimp only at hSw
    obtain ⟨-, p0, p1⟩ := hSw.pb (unhide HP)
    go_simp
  simp only [Act.put, List.setIfInBounds_toArray, List.set_cons_zero, List.set_cons_succ]
  refine wpAnyH_take (i := 2) (oi := _) (v := .pointer (some ⟨xb, 3, none⟩)) g8_2 (by kernel_rfl) (by kernel_rfl) (by kernel_rfl) (fun _ _ _ h => h) (Or.inl ⟨by rfl, ?_⟩) (by assumption) ?_
  · intro V hSw
    try dsimp only at hSw
    go_simp
  simp only [Act.put, List.setIfInBounds_toArray, List.set_cons_zero, List.set_cons_succ]
  refine wpAnyH_take (i := 3) (oi := _) (v := .int .i64 x.car) g8_3 (by kernel_rfl) (by kernel_rfl) (by kernel_rfl) (fun _ _ _ h => h) (Or.inl ⟨by rfl, ?_⟩) (by assumption) ?_
  · intro V hSw
    try dsimp only at hSw
    obtain ⟨-, y0, y1, y2, y3, y4⟩ := hSw.xb (unhide HX)
    go_simp
  simp only [Act.put, List.setIfInBounds_toArray, List.set_cons_zero, List.set_cons_succ]
  refine wpAnyH_take (i := 4) (oi := _) (v := mp m) g8_4 (by kernel_rfl) (by kernel_rfl) (by kernel_rfl) (fun _ _ _ h => h) (Or.inl ⟨by rfl, ?_⟩) (by assumption) ?_
  · intro V hSw
    try dsimp only at hSw
    go_simp
  simp only [Act.put, List.setIfInBounds_toArray, List.set_cons_zero, List.set_cons_succ]
  refine wpAnyH_take (i := 5) (oi := _) (v := plV x.bed x.ndl) g8_5 (by kernel_rfl) (by kernel_rfl) (by kernel_rfl) (fun _ _ _ h => h) (Or.inl ⟨by rfl, ?_⟩) (by assumption) ?_
  · intro V hSw
    try dsimp only at hSw
    obtain ⟨-, p0, p1⟩ := hSw.pb (unhide HP)
    go_simp
  simp only [Act.put, List.setIfInBounds_toArray, List.set_cons_zero, List.set_cons_succ]
  refine wpAnyH_ready (rs := [6]) (by kernel_rfl) (by simp) ?_
  refine AllReadyH.cons (o := _) g8_6 (fun K hK => ?_) AllReadyH.nil
  go_simp
  refine (unhide HT).mono ?_
  rintro e w6 ⟨rfl, g6, hk6, hn6, ho6, hkt6, hsv6⟩
  have M6 := hide hk6
  have N6 := hide hn6
  have O6 := hide ho6
  have K6 := hide ((Kt.keep (bdrew w2)).trans hkt6)
  clear hk6 hn6 ho6 hkt6 hsv6
  refine hK.out _ _ (unhide K6) (fun _ => ?_)
  clear hK K
  refine wpAnyH_ready (rs := [7]) (by kernel_rfl) (by simp) ?_
  refine AllReadyH.cons (o := _) g8_7 (fun K hK => ?_) AllReadyH.nil
  go_simp
  refine (unhide HPl w6 g6 (unhide M6) (unhide N6) (unhide O6)).mono ?_
  rintro e w7 ⟨rfl, g7, hk7, hkt7⟩
  have M7 := hide hk7
  have K7 := hide ((unhide K6).trans hkt7)
  clear hk7 hkt7
  refine hK.out _ _ (unhide K7) (fun _ => ?_)
  clear hK K
  refine wpAnyH_done (by kernel_rfl) ?_ _
  refine NoPanic.normal ?_
  clear x0 x1 x2 x3 x4 HT HPl M6 N6 O6 K6
  have c5 := (unhide M7).box.2.1.2.2.2.2.2
  have f5 := (unhide M7).box.2.2.2.2.2
  have hd5 := hd
  have M9 := hide (unhide M7).count
  have K9 := hide ((unhide K7).trans ((unhide M7).boxK 5 (.int .i64 ((s.done + 1 : Nat) : Int))))
  go_wp2
  go_ret
  unfold DoP
  exact ⟨rfl, _, by rw [unhide HE]; exact unhide M9, (Kt.keep (unhide B2)).trans (unhide K9)⟩

set_option maxRecDepth 100000 in
set_option maxHeartbeats 2000000 in
theorem do_move {B : Nat} {W : World} {m N : Nat} {s : St} {g : Mg} (k : MB B W m N s g) (hI : Iv s) (hN : N ≤ 128) (x : Sx) (hz : wrE N s x = 0) (hk : x.dk = 4) : Calls Try.prog 34 #[mp m, sxV x] W (DoP B W m N (doS s x) 0) := by
  obtain ⟨-, -, hd, -, hbn⟩ := wrE_zero hz
  obtain ⟨-, hlp, hls, hon, -, -⟩ := id hI
  have B0 := hide (bnew W (.cells #[.int .i64 x.dk, .int .i64 x.bed, .int .i64 x.ndl, .int .i64 x.car, .int .i64 x.tt] 24))
  have HX0 := hide (XB.new W x)
  have HK0 := hide (k.keep (unhide B0))
  have HWr := hide (wrong_any (unhide HK0) hI hN x)
  unfold Ans at HWr
  rw [hz] at HWr
  obtain ⟨b, n, hbb, hnn, hb, hn, -, hw⟩ := hbn (by omega)
  have eb : x.bed.toNat = b := by omega
  have en : x.ndl.toNat = n := by omega
  rw [hk] at hw
  obtain ⟨hfc, -, hw8⟩ := wnE_zero hw
  have hf := (hasB_iff _ _ _).1 (hfc rfl)
  obtain ⟨fb, hfb⟩ : ∃ fb, fb = fcB b := ⟨_, rfl⟩
  obtain ⟨fn, hfn⟩ : ∃ fn : Nat, fcN s.rack b n = fn := ⟨(fcN s.rack b n).toNat, by omega⟩
  have hne : ¬ (fb = b ∧ fn = n) := fun q => by have := q.1; rw [hfb] at this; unfold fcB at this; split at this <;> omega
  have hfb2 : fb < 2 := by omega
  have hfn2 : fn < N := by omega
  have HE := hide (show doS s x = cnt { s with on := upd (upd s.on b n []) fb fn (upd s.on b n [] fb fn ++ s.on b n) } by
    unfold doS doX
    have e2 : (fcN s.rack b x.ndl).toNat = fn := by rw [hnn, hfn]; rfl
    rw [if_neg (by omega), if_neg (by omega), if_pos hk, eb, en, e2, ← hfb, upd_other _ _ hne])
  have g1 : (x.dk == 1) = false := by simp [hk]
  have g2 : (x.dk == 2) = false := by simp [hk]
  have g4 : (x.dk == 4) = true := by simp [hk]
  have g5 : (x.dk == 5) = false := by simp [hk]
  have g6 : (x.dk == 6) = false := by simp [hk]
  clear hbn hk hz eb en hfc hw hf
  have Hbb := hide hbb
  have Hnn := hide hnn
  have Hfb := hide hfb
  have Hfn := hide hfn
  clear hbb hnn hfb hfn
  go_enter Try.func34, Try.ntmps34
  go_upto_region 1 with fail
  generalize W.alloc (.cells #[.int .i64 x.dk, .int .i64 x.bed, .int .i64 x.ndl, .int .i64 x.car, .int .i64 x.tt] 24) = w0 at *
  obtain ⟨xb, hxb⟩ : ∃ xb, xb = W.heap.size := ⟨_, rfl⟩
  rw [← hxb] at HX0
  rw [← hxb]
  clear hxb
  obtain ⟨-, x0, x1, x2, x3, x4⟩ := unhide HX0
  go_wp2_with fail
  refine (unhide HWr).mono ?_
  rintro e w1 ⟨rfl, hb1⟩
  have B1 := hide (btrans (unhide B0) hb1)
  have HX1 := hide ((unhide HX0).keep hb1)
  have HK1 := hide ((unhide HK0).keep hb1)
  clear hb1 B0 HX0 HK0 HWr x0 x1 x2 x3 x4
  obtain ⟨-, x0, x1, x2, x3, x4⟩ := unhide HX1
  go_upto_region 5 with fail
  have B2 := hide (btrans (unhide B1) (bnew w1 (.cells #[.int .i64 x.bed, .int .i64 x.ndl] 75)))
  have HP := hide (PB.new w1 x.bed x.ndl)
  have HX := hide ((unhide HX1).keep (bnew w1 (.cells #[.int .i64 x.bed, .int .i64 x.ndl] 75)))
  have HK := hide ((unhide HK1).keep (bnew w1 (.cells #[.int .i64 x.bed, .int .i64 x.ndl] 75)))
  clear B1 HX1 HK1 x0 x1 x2 x3 x4
  generalize w1.alloc (.cells #[.int .i64 x.bed, .int .i64 x.ndl] 75) = w2 at *
  obtain ⟨pb, hpb⟩ : ∃ pb, pb = w1.heap.size := ⟨_, rfl⟩
  rw [← hpb] at HP
  rw [← hpb]
  clear hpb
  obtain ⟨-, x0, x1, x2, x3, x4⟩ := unhide HX
  have HF := hide (show Calls Try.prog 45 #[mp m, plV x.bed x.ndl] w2.drew fun e w' => e = .returned (plV fb fn) ∧ Below w2.drew.heap.size w2.drew w' from by
    have := facing_any ((unhide HK).keep (bdrew _)) hI hN hb hn
    rw [unhide Hbb, unhide Hnn]
    rw [unhide Hfn, ← unhide Hfb] at this
    exact this)
  have HT := hide (show ∀ V, MB B V m N s g → Calls Try.prog 43 #[mp m, plV x.bed x.ndl] V (TakeP B V m N s g b n) from fun V h1 => by
    rw [unhide Hbb, unhide Hnn]
    exact take_any h1 hb hn)
  have HH := hide (show ∀ V g', MB B V m N { s with on := upd s.on b n [] } g' → NR V B (g.h b n) (s.on b n) → Calls Try.prog 44 #[mp m, plV fb fn, g.h b n] V (HangP B V m N { s with on := upd s.on b n [] } g' fb fn (s.on b n)) from fun V g' h1 h2 =>
    hang_any h1 h1.big hfb2 hfn2 h2 (by have h8 := hon b n; have h9 := hon fb fn; dsimp only; rw [upd_other _ _ hne]; omega))
  clear hI
  go_wp2_with fail
  refine wp_region_noPanic ?_
  refine wp_region_held_drew (S := fun V => Kt B w2 V) (by kernel_rfl) (Kt.keep (bdrew _)) ?_
  intro _
  refine wpAnyH_take (i := 0) (oi := _) (v := mp m) g8_0 (by kernel_rfl) (by kernel_rfl) (by kernel_rfl) (fun _ _ _ h => h) (Or.inl ⟨by rfl, ?_⟩) (by assumption) ?_
  · intro V hSw
    try dsimp only at hSw
    go_simp
  simp only [Act.put, List.setIfInBounds_toArray, List.set_cons_zero, List.set_cons_succ]
  refine wpAnyH_take (i := 1) (oi := _) (v := mp m) g8_1 (by kernel_rfl) (by kernel_rfl) (by kernel_rfl) (fun _ _ _ h => h) (Or.inl ⟨by rfl, ?_⟩) (by assumption) ?_
  · intro V hSw
    try dsimp only at hSw
    go_simp
  simp only [Act.put, List.setIfInBounds_toArray, List.set_cons_zero, List.set_cons_succ]
  refine wpAnyH_take (i := 2) (oi := _) (v := plV x.bed x.ndl) g8_2 (by kernel_rfl) (by kernel_rfl) (by kernel_rfl) (fun _ _ _ h => h) (Or.inl ⟨by rfl, ?_⟩) (by assumption) ?_
  · intro V hSw
    try dsimp only at hSw
    obtain ⟨-, p0, p1⟩ := hSw.pb (unhide HP)
    go_simp
  simp only [Act.put, List.setIfInBounds_toArray, List.set_cons_zero, List.set_cons_succ]
  refine wpAnyH_take (i := 4) (oi := _) (v := mp m) g8_4 (by kernel_rfl) (by kernel_rfl) (by kernel_rfl) (fun _ _ _ h => h) (Or.inl ⟨by rfl, ?_⟩) (by assumption) ?_
  · intro V hSw
    try dsimp only at hSw
    go_simp
  simp only [Act.put, List.setIfInBounds_toArray, List.set_cons_zero, List.set_cons_succ]
  refine wpAnyH_take (i := 5) (oi := _) (v := plV x.bed x.ndl) g8_5 (by kernel_rfl) (by kernel_rfl) (by kernel_rfl) (fun _ _ _ h => h) (Or.inl ⟨by rfl, ?_⟩) (by assumption) ?_
  · intro V hSw
    try dsimp only at hSw
    obtain ⟨-, p0, p1⟩ := hSw.pb (unhide HP)
    go_simp
  simp only [Act.put, List.setIfInBounds_toArray, List.set_cons_zero, List.set_cons_succ]
  refine wpAnyH_ready (rs := [3]) (by kernel_rfl) (by simp) ?_
  refine AllReadyH.cons (o := _) g8_3 (fun K hK => ?_) AllReadyH.nil
  go_simp
  refine (unhide HF).mono ?_
  rintro e w5 ⟨rfl, hb5⟩
  have K5 := hide (show Kt B w2 w5 from Kt.keep (btrans (bdrew w2) hb5))
  have M5 := hide ((unhide HK).keep (btrans (bdrew w2) hb5))
  clear hb5
  refine hK.out _ _ (unhide K5) (fun _ => ?_)
  clear hK K
  refine wpAnyH_ready (rs := [6]) (by kernel_rfl) (by simp) ?_
  refine AllReadyH.cons (o := _) g8_6 (fun K hK => ?_) AllReadyH.nil
  go_simp
  refine (unhide HT _ (unhide M5)).mono ?_
  rintro e w6 ⟨rfl, g6, hk6, hn6, ho6, hkt6, hsv6⟩
  have M6 := hide hk6
  have N6 := hide hn6
  have K6 := hide ((unhide K5).trans hkt6)
  clear hk6 hn6 ho6 hkt6 hsv6
  refine hK.out _ _ (unhide K6) (fun _ => ?_)
  clear hK K
  refine wpAnyH_ready (rs := [7]) (by kernel_rfl) (by simp) ?_
  refine AllReadyH.cons (o := _) g8_7 (fun K hK => ?_) AllReadyH.nil
  go_simp
  refine (unhide HH w6 g6 (unhide M6) (unhide N6)).mono ?_
  rintro e w7 ⟨rfl, g7, hk7, hold7, hkt7, hlv7⟩
  have M7 := hide hk7
  have K7 := hide ((unhide K6).trans hkt7)
  clear hk7 hkt7 hold7 hlv7
  refine hK.out _ _ (unhide K7) (fun _ => ?_)
  clear hK K
  refine wpAnyH_done (by kernel_rfl) ?_ _
  refine NoPanic.normal ?_
  clear x0 x1 x2 x3 x4 HT HH HF M6 N6 K6 M5 K5
  have c5 := (unhide M7).box.2.1.2.2.2.2.2
  have f5 := (unhide M7).box.2.2.2.2.2
  have hd5 := hd
  have M9 := hide (unhide M7).count
  have K9 := hide ((unhide K7).trans ((unhide M7).boxK 5 (.int .i64 ((s.done + 1 : Nat) : Int))))
  go_wp2
  go_ret
  unfold DoP
  exact ⟨rfl, _, by rw [unhide HE]; exact unhide M9, (Kt.keep (unhide B2)).trans (unhide K9)⟩

set_option maxRecDepth 100000 in
set_option maxHeartbeats 2000000 in
theorem do_drop {B : Nat} {W : World} {m N : Nat} {s : St} {g : Mg} (k : MB B W m N s g) (hI : Iv s) (hN : N ≤ 128) (x : Sx) (hz : wrE N s x = 0) (hk : x.dk = 5) : Calls Try.prog 34 #[mp m, sxV x] W (DoP B W m N (doS s x) 0) := by
  obtain ⟨-, -, hd, -, hbn⟩ := wrE_zero hz
  obtain ⟨-, hlp, hls, hon, -, -⟩ := id hI
  have B0 := hide (bnew W (.cells #[.int .i64 x.dk, .int .i64 x.bed, .int .i64 x.ndl, .int .i64 x.car, .int .i64 x.tt] 24))
  have HX0 := hide (XB.new W x)
  have HK0 := hide (k.keep (unhide B0))
  have HWr := hide (wrong_any (unhide HK0) hI hN x)
  unfold Ans at HWr
  rw [hz] at HWr
  obtain ⟨b, n, hbb, hnn, hb, hn, -, hw⟩ := hbn (by omega)
  have eb : x.bed.toNat = b := by omega
  have en : x.ndl.toNat = n := by omega
  have HE := hide (show doS s x = cnt { s with on := upd s.on b n [], loose := s.loose ++ s.on b n } by unfold doS doX; simp [hk, eb, en])
  have g1 : (x.dk == 1) = false := by simp [hk]
  have g2 : (x.dk == 2) = false := by simp [hk]
  have g4 : (x.dk == 4) = false := by simp [hk]
  have g5 : (x.dk == 5) = true := by simp [hk]
  have g6 : (x.dk == 6) = false := by simp [hk]
  clear hbn hk hI hz eb en
  have Hbb := hide hbb
  have Hnn := hide hnn
  clear hbb hnn
  go_enter Try.func34, Try.ntmps34
  go_upto_region 1 with fail
  generalize W.alloc (.cells #[.int .i64 x.dk, .int .i64 x.bed, .int .i64 x.ndl, .int .i64 x.car, .int .i64 x.tt] 24) = w0 at *
  obtain ⟨xb, hxb⟩ : ∃ xb, xb = W.heap.size := ⟨_, rfl⟩
  rw [← hxb] at HX0
  rw [← hxb]
  clear hxb
  obtain ⟨-, x0, x1, x2, x3, x4⟩ := unhide HX0
  go_wp2_with fail
  refine (unhide HWr).mono ?_
  rintro e w1 ⟨rfl, hb1⟩
  have B1 := hide (btrans (unhide B0) hb1)
  have HX1 := hide ((unhide HX0).keep hb1)
  have HK1 := hide ((unhide HK0).keep hb1)
  clear hb1 B0 HX0 HK0 HWr x0 x1 x2 x3 x4
  obtain ⟨-, x0, x1, x2, x3, x4⟩ := unhide HX1
  go_upto_region 5 with fail
  have B2 := hide (btrans (unhide B1) (bnew w1 (.cells #[.int .i64 x.bed, .int .i64 x.ndl] 75)))
  have HP := hide (PB.new w1 x.bed x.ndl)
  have HX := hide ((unhide HX1).keep (bnew w1 (.cells #[.int .i64 x.bed, .int .i64 x.ndl] 75)))
  have HK := hide ((unhide HK1).keep (bnew w1 (.cells #[.int .i64 x.bed, .int .i64 x.ndl] 75)))
  clear B1 HX1 HK1 x0 x1 x2 x3 x4
  generalize w1.alloc (.cells #[.int .i64 x.bed, .int .i64 x.ndl] 75) = w2 at *
  obtain ⟨pb, hpb⟩ : ∃ pb, pb = w1.heap.size := ⟨_, rfl⟩
  rw [← hpb] at HP
  rw [← hpb]
  clear hpb
  obtain ⟨-, x0, x1, x2, x3, x4⟩ := unhide HX
  have HT := hide (show Calls Try.prog 43 #[mp m, plV x.bed x.ndl] w2.drew (TakeP B w2.drew m N s g b n) from by
    rw [unhide Hbb, unhide Hnn]
    exact take_any ((unhide HK).keep (bdrew _)) hb hn)
  obtain ⟨sq, sc, hsv⟩ := (unhide HK).lse.1.form
  have HC4 := hide ((unhide HK).keep (bdrew _)).box.2.1.2.2.2.2.1
  rw [hsv] at HC4
  have hsl8 : s.loose.length ≤ 32768 := by omega
  obtain ⟨sl, hsl⟩ : ∃ sl, sl = s.loose.length := ⟨_, rfl⟩
  rw [← hsl] at HC4 hsl8 hsv
  have HSv := hide hsv
  have HSl := hide hsl
  clear hsl
  clear hsv
  go_wp2_with fail
  refine wp_region_noPanic ?_
  refine wp_region_held_drew (S := fun V => Kt B w2 V) (by kernel_rfl) (Kt.keep (bdrew _)) ?_
  intro _
  refine wpAnyH_take (i := 0) (oi := _) (v := mp m) g12_0 (by kernel_rfl) (by kernel_rfl) (by kernel_rfl) (fun _ _ _ h => h) (Or.inl ⟨by rfl, ?_⟩) (by assumption) ?_
  · intro V hSw
    try dsimp only at hSw
    go_simp
  simp only [Act.put, List.setIfInBounds_toArray, List.set_cons_zero, List.set_cons_succ]
  refine wpAnyH_take (i := 1) (oi := _) (v := mp m) g12_1 (by kernel_rfl) (by kernel_rfl) (by kernel_rfl) (fun _ _ _ h => h) (Or.inl ⟨by rfl, ?_⟩) (by assumption) ?_
  · intro V hSw
    try dsimp only at hSw
    go_simp
  simp only [Act.put, List.setIfInBounds_toArray, List.set_cons_zero, List.set_cons_succ]
  refine wpAnyH_take (i := 2) (oi := _) (v := mp m) g12_2 (by kernel_rfl) (by kernel_rfl) (by kernel_rfl) (fun _ _ _ h => h) (Or.inl ⟨by rfl, ?_⟩) (by assumption) ?_
  · intro V hSw
    try dsimp only at hSw
    go_simp
  simp only [Act.put, List.setIfInBounds_toArray, List.set_cons_zero, List.set_cons_succ]
  refine wpAnyH_take (i := 3) (oi := _) (v := .pointer (some ⟨m, 4, none⟩)) g12_3 (by kernel_rfl) (by kernel_rfl) (by kernel_rfl) (fun _ _ _ h => h) (Or.inl ⟨by rfl, ?_⟩) (by assumption) ?_
  · intro V hSw
    try dsimp only at hSw
    go_simp
  simp only [Act.put, List.setIfInBounds_toArray, List.set_cons_zero, List.set_cons_succ]
  refine wpAnyH_take (i := 5) (oi := _) (v := mp m) g12_5 (by kernel_rfl) (by kernel_rfl) (by kernel_rfl) (fun _ _ _ h => h) (Or.inl ⟨by rfl, ?_⟩) (by assumption) ?_
  · intro V hSw
    try dsimp only at hSw
    go_simp
  simp only [Act.put, List.setIfInBounds_toArray, List.set_cons_zero, List.set_cons_succ]
  refine wpAnyH_take (i := 6) (oi := _) (v := plV x.bed x.ndl) g12_6 (by kernel_rfl) (by kernel_rfl) (by kernel_rfl) (fun _ _ _ h => h) (Or.inl ⟨by rfl, ?_⟩) (by assumption) ?_
  · intro V hSw
    try dsimp only at hSw
    obtain ⟨-, p0, p1⟩ := hSw.pb (unhide HP)
    go_simp
  simp only [Act.put, List.setIfInBounds_toArray, List.set_cons_zero, List.set_cons_succ]
  refine wpAnyH_ready (rs := [4, 7]) (by kernel_rfl) (by simp) ?_
  refine (AllReadyH.cons (o := _) g12_4 (fun K hK => ?_) (AllReadyH.cons (o := _) g12_7 (fun K hK => ?_) AllReadyH.nil))
  · have c4 := unhide HC4
    go_simp
    refine hK.out _ _ (Kt.keep (bdrew _)) (fun _ => ?_)
    clear hK K
    refine wpAnyH_ready (rs := [7]) (by kernel_rfl) (by simp) ?_
    refine AllReadyH.cons (o := _) g12_7 (fun K hK => ?_) AllReadyH.nil
    go_simp
    refine (unhide HT).mono ?_
    rintro e w6 ⟨rfl, g6, hk6, hn6, ho6, hkt6, hsv6⟩
    have M6 := hide hk6
    have N6 := hide hn6
    have K6 := hide ((Kt.keep (bdrew w2)).trans hkt6)
    have E6 := hide (show g6.sv = .slice sq sl sc from hsv6.trans (unhide HSv))
    have R6 := hide (show w6.ownsRow B 3 1 (.slice sq sl sc) sl (numsV s.loose) from by
      have h1 : w6.ownsRow B 3 1 g6.sv s.loose.length (numsV s.loose) := hk6.lse.1
      rw [unhide E6, ← unhide HSl] at h1
      exact h1)
    clear hk6 hn6 ho6 hkt6 hsv6
    refine hK.out _ _ (unhide K6) (fun _ => ?_)
    clear hK K
    refine wpAnyH_ready (rs := [8]) (by kernel_rfl) (by simp) ?_
    refine AllReadyH.cons (o := _) g12_8 (fun K hK => ?_) AllReadyH.nil
    refine wp_app rfl Try.underlying27 info3 rfl (by decide) (v := .slice sq sl sc) (y := g.h b n) rfl rfl (unhide R6) (unhide N6) numsV_one (by unfold maxLen; have := hon b n; omega) (by have := hon b n; omega) (unhide M6).big ?_
    intro v' w8 hown' hgrow hat
    have HG8 := hide hgrow
    have HO8 := hide hown'
    have HA8 := hide hat
    have T8 := hide (show Kt B w2 w8 from (unhide K6).trans (Kt.of (grown_kept (S := fun i => g6.sv.ownBlock = some i) (by rw [unhide E6]; exact hgrow) (fun r e => .inl e)) (fun i q => ⟨(World.ownsRow.lt (unhide M6).lse.1 i q).1, .inr (.inr (.inl (own_tg (unhide M6).lse.1 q)))⟩)))
    have C8 := hide (show w8.cell? ⟨m, 4, none⟩ = some (.slice sq sl sc) ∧ w8.frozen? ⟨m, 4, none⟩ = false from by
          have k8 := (unhide M6).box.kept (grown_kept (S := fun i => (Value.slice sq sl sc).ownBlock = some i) hgrow (fun r e => .inl e)) (fun q => absurd rfl ((unhide M6).box.1.2.ne (own_tg (unhide R6) q) (by decide)))
          have := k8.2.1.2.2.2.2.1
          rw [unhide E6] at this
          exact ⟨this, k8.2.2.2.2.1⟩)
    obtain ⟨q', cap', rfl⟩ := own_form hown'
    clear hown' hgrow hat
    refine hK.out _ _ (unhide T8) (fun _ => ?_)
    clear hK K
    refine wpAnyH_take (i := 9) (oi := _) (v := mp m) g12_9 (by kernel_rfl) (by kernel_rfl) (by kernel_rfl) (fun _ _ _ h => h) (Or.inl ⟨by rfl, ?_⟩) (by assumption) ?_
    · intro V hSw
      try dsimp only at hSw
      go_simp
    simp only [Act.put, List.setIfInBounds_toArray, List.set_cons_zero, List.set_cons_succ]
    refine wpAnyH_take (i := 10) (oi := _) (v := .pointer (some ⟨m, 4, none⟩)) g12_10 (by kernel_rfl) (by kernel_rfl) (by kernel_rfl) (fun _ _ _ h => h) (Or.inl ⟨by rfl, ?_⟩) (by assumption) ?_
    · intro V hSw
      try dsimp only at hSw
      go_simp
    simp only [Act.put, List.setIfInBounds_toArray, List.set_cons_zero, List.set_cons_succ]
    refine wpAnyH_ready (rs := [11]) (by kernel_rfl) (by simp) ?_
    refine AllReadyH.cons (o := _) g12_11 (fun K hK => ?_) AllReadyH.nil
    obtain ⟨c8, f8⟩ := unhide C8
    go_simp
    have hg8 : w6.grownBy w8 g6.sv.ownBlock := by rw [unhide E6]; exact unhide HG8
    have M7 := hide ((unhide M6).drop (v := .slice q' (sl + (s.on b n).length) cap') (ys := s.on b n) hg8 (by have h := unhide HO8; rw [unhide HSl] at h; unfold NR; rw [numsV_app, List.length_append, unhide HSl]; exact h) (by rw [unhide E6]; exact unhide HA8))
    have K7 := hide ((unhide K6).trans ((unhide M6).dropK hg8 (.slice q' (sl + (s.on b n).length) cap')))
    clear hg8
    refine hK.out _ _ (unhide K7) (fun _ => ?_)
    clear hK K
    refine wpAnyH_done (by kernel_rfl) ?_ _
    refine NoPanic.normal ?_
    clear x0 x1 x2 x3 x4 HT M6 N6 K6
    have c5 := (unhide M7).box.2.1.2.2.2.2.2
    have f5 := (unhide M7).box.2.2.2.2.2
    have hd5 := hd
    have M9 := hide (unhide M7).count
    have K9 := hide ((unhide K7).trans ((unhide M7).boxK 5 (.int .i64 ((s.done + 1 : Nat) : Int))))
    go_wp2
    go_ret
    unfold DoP
    exact ⟨rfl, _, by rw [unhide HE]; exact unhide M9, (Kt.keep (unhide B2)).trans (unhide K9)⟩
  · go_simp
    refine (unhide HT).mono ?_
    rintro e w6 ⟨rfl, g6, hk6, hn6, ho6, hkt6, hsv6⟩
    have M6 := hide hk6
    have N6 := hide hn6
    have K6 := hide ((Kt.keep (bdrew w2)).trans hkt6)
    have E6 := hide (show g6.sv = .slice sq sl sc from hsv6.trans (unhide HSv))
    have R6 := hide (show w6.ownsRow B 3 1 (.slice sq sl sc) sl (numsV s.loose) from by
      have h1 : w6.ownsRow B 3 1 g6.sv s.loose.length (numsV s.loose) := hk6.lse.1
      rw [unhide E6, ← unhide HSl] at h1
      exact h1)
    clear hk6 hn6 ho6 hkt6 hsv6
    refine hK.out _ _ (unhide K6) (fun _ => ?_)
    clear hK K
    refine wpAnyH_ready (rs := [4]) (by kernel_rfl) (by simp) ?_
    refine AllReadyH.cons (o := _) g12_4 (fun K hK => ?_) AllReadyH.nil
    have c4 := unhide (hide (show w6.cell? ⟨m, 4, none⟩ = some (.slice sq sl sc) from by rw [← unhide E6]; exact (unhide M6).box.2.1.2.2.2.2.1))
    go_simp
    refine hK.out _ _ (unhide K6) (fun _ => ?_)
    clear hK K
    refine wpAnyH_ready (rs := [8]) (by kernel_rfl) (by simp) ?_
    refine AllReadyH.cons (o := _) g12_8 (fun K hK => ?_) AllReadyH.nil
    refine wp_app rfl Try.underlying27 info3 rfl (by decide) (v := .slice sq sl sc) (y := g.h b n) rfl rfl (unhide R6) (unhide N6) numsV_one (by unfold maxLen; have := hon b n; omega) (by have := hon b n; omega) (unhide M6).big ?_
    intro v' w8 hown' hgrow hat
    have HG8 := hide hgrow
    have HO8 := hide hown'
    have HA8 := hide hat
    have T8 := hide (show Kt B w2 w8 from (unhide K6).trans (Kt.of (grown_kept (S := fun i => g6.sv.ownBlock = some i) (by rw [unhide E6]; exact hgrow) (fun r e => .inl e)) (fun i q => ⟨(World.ownsRow.lt (unhide M6).lse.1 i q).1, .inr (.inr (.inl (own_tg (unhide M6).lse.1 q)))⟩)))
    have C8 := hide (show w8.cell? ⟨m, 4, none⟩ = some (.slice sq sl sc) ∧ w8.frozen? ⟨m, 4, none⟩ = false from by
          have k8 := (unhide M6).box.kept (grown_kept (S := fun i => (Value.slice sq sl sc).ownBlock = some i) hgrow (fun r e => .inl e)) (fun q => absurd rfl ((unhide M6).box.1.2.ne (own_tg (unhide R6) q) (by decide)))
          have := k8.2.1.2.2.2.2.1
          rw [unhide E6] at this
          exact ⟨this, k8.2.2.2.2.1⟩)
    obtain ⟨q', cap', rfl⟩ := own_form hown'
    clear hown' hgrow hat
    refine hK.out _ _ (unhide T8) (fun _ => ?_)
    clear hK K
    refine wpAnyH_take (i := 9) (oi := _) (v := mp m) g12_9 (by kernel_rfl) (by kernel_rfl) (by kernel_rfl) (fun _ _ _ h => h) (Or.inl ⟨by rfl, ?_⟩) (by assumption) ?_
    · intro V hSw
      try dsimp only at hSw
      go_simp
    simp only [Act.put, List.setIfInBounds_toArray, List.set_cons_zero, List.set_cons_succ]
    refine wpAnyH_take (i := 10) (oi := _) (v := .pointer (some ⟨m, 4, none⟩)) g12_10 (by kernel_rfl) (by kernel_rfl) (by kernel_rfl) (fun _ _ _ h => h) (Or.inl ⟨by rfl, ?_⟩) (by assumption) ?_
    · intro V hSw
      try dsimp only at hSw
      go_simp
    simp only [Act.put, List.setIfInBounds_toArray, List.set_cons_zero, List.set_cons_succ]
    refine wpAnyH_ready (rs := [11]) (by kernel_rfl) (by simp) ?_
    refine AllReadyH.cons (o := _) g12_11 (fun K hK => ?_) AllReadyH.nil
    obtain ⟨c8, f8⟩ := unhide C8
    go_simp
    have hg8 : w6.grownBy w8 g6.sv.ownBlock := by rw [unhide E6]; exact unhide HG8
    have M7 := hide ((unhide M6).drop (v := .slice q' (sl + (s.on b n).length) cap') (ys := s.on b n) hg8 (by have h := unhide HO8; rw [unhide HSl] at h; unfold NR; rw [numsV_app, List.length_append, unhide HSl]; exact h) (by rw [unhide E6]; exact unhide HA8))
    have K7 := hide ((unhide K6).trans ((unhide M6).dropK hg8 (.slice q' (sl + (s.on b n).length) cap')))
    clear hg8
    refine hK.out _ _ (unhide K7) (fun _ => ?_)
    clear hK K
    refine wpAnyH_done (by kernel_rfl) ?_ _
    refine NoPanic.normal ?_
    clear x0 x1 x2 x3 x4 HT M6 N6 K6
    have c5 := (unhide M7).box.2.1.2.2.2.2.2
    have f5 := (unhide M7).box.2.2.2.2.2
    have hd5 := hd
    have M9 := hide (unhide M7).count
    have K9 := hide ((unhide K7).trans ((unhide M7).boxK 5 (.int .i64 ((s.done + 1 : Nat) : Int))))
    go_wp2
    go_ret
    unfold DoP
    exact ⟨rfl, _, by rw [unhide HE]; exact unhide M9, (Kt.keep (unhide B2)).trans (unhide K9)⟩

end Go.Proofs.Ytancniamgfppiaa
