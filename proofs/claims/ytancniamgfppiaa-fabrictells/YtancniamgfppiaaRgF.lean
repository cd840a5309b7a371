/-
  FabricTells: what the program tells is what the document tells.
-/
import Derived.Test.YtancniamgfppiaaRgC
import Derived.Test.YtancniamgfppiaaRgE
import Derived.Test.YtancniamgfppiaaFB
namespace Go.Proofs.Ytancniamgfppiaa
open Go.RowKit

theorem ft20_0 {a0 a1 a2 a3 a4 a5 a6 a7 a8 a9 a10 a11 a12 a13 a14 a15 a16 a17 a18 a19 : Oper} : (#[a0, a1, a2, a3, a4, a5, a6, a7, a8, a9, a10, a11, a12, a13, a14, a15, a16, a17, a18, a19] : Array Oper)[0]? = some a0 := rfl
theorem ft20_1 {a0 a1 a2 a3 a4 a5 a6 a7 a8 a9 a10 a11 a12 a13 a14 a15 a16 a17 a18 a19 : Oper} : (#[a0, a1, a2, a3, a4, a5, a6, a7, a8, a9, a10, a11, a12, a13, a14, a15, a16, a17, a18, a19] : Array Oper)[1]? = some a1 := rfl
theorem ft20_2 {a0 a1 a2 a3 a4 a5 a6 a7 a8 a9 a10 a11 a12 a13 a14 a15 a16 a17 a18 a19 : Oper} : (#[a0, a1, a2, a3, a4, a5, a6, a7, a8, a9, a10, a11, a12, a13, a14, a15, a16, a17, a18, a19] : Array Oper)[2]? = some a2 := rfl
theorem ft20_3 {a0 a1 a2 a3 a4 a5 a6 a7 a8 a9 a10 a11 a12 a13 a14 a15 a16 a17 a18 a19 : Oper} : (#[a0, a1, a2, a3, a4, a5, a6, a7, a8, a9, a10, a11, a12, a13, a14, a15, a16, a17, a18, a19] : Array Oper)[3]? = some a3 := rfl
theorem ft20_4 {a0 a1 a2 a3 a4 a5 a6 a7 a8 a9 a10 a11 a12 a13 a14 a15 a16 a17 a18 a19 : Oper} : (#[a0, a1, a2, a3, a4, a5, a6, a7, a8, a9, a10, a11, a12, a13, a14, a15, a16, a17, a18, a19] : Array Oper)[4]? = some a4 := rfl
theorem ft20_5 {a0 a1 a2 a3 a4 a5 a6 a7 a8 a9 a10 a11 a12 a13 a14 a15 a16 a17 a18 a19 : Oper} : (#[a0, a1, a2, a3, a4, a5, a6, a7, a8, a9, a10, a11, a12, a13, a14, a15, a16, a17, a18, a19] : Array Oper)[5]? = some a5 := rfl
theorem ft20_6 {a0 a1 a2 a3 a4 a5 a6 a7 a8 a9 a10 a11 a12 a13 a14 a15 a16 a17 a18 a19 : Oper} : (#[a0, a1, a2, a3, a4, a5, a6, a7, a8, a9, a10, a11, a12, a13, a14, a15, a16, a17, a18, a19] : Array Oper)[6]? = some a6 := rfl
theorem ft20_7 {a0 a1 a2 a3 a4 a5 a6 a7 a8 a9 a10 a11 a12 a13 a14 a15 a16 a17 a18 a19 : Oper} : (#[a0, a1, a2, a3, a4, a5, a6, a7, a8, a9, a10, a11, a12, a13, a14, a15, a16, a17, a18, a19] : Array Oper)[7]? = some a7 := rfl
theorem ft20_8 {a0 a1 a2 a3 a4 a5 a6 a7 a8 a9 a10 a11 a12 a13 a14 a15 a16 a17 a18 a19 : Oper} : (#[a0, a1, a2, a3, a4, a5, a6, a7, a8, a9, a10, a11, a12, a13, a14, a15, a16, a17, a18, a19] : Array Oper)[8]? = some a8 := rfl
theorem ft20_9 {a0 a1 a2 a3 a4 a5 a6 a7 a8 a9 a10 a11 a12 a13 a14 a15 a16 a17 a18 a19 : Oper} : (#[a0, a1, a2, a3, a4, a5, a6, a7, a8, a9, a10, a11, a12, a13, a14, a15, a16, a17, a18, a19] : Array Oper)[9]? = some a9 := rfl
theorem ft20_10 {a0 a1 a2 a3 a4 a5 a6 a7 a8 a9 a10 a11 a12 a13 a14 a15 a16 a17 a18 a19 : Oper} : (#[a0, a1, a2, a3, a4, a5, a6, a7, a8, a9, a10, a11, a12, a13, a14, a15, a16, a17, a18, a19] : Array Oper)[10]? = some a10 := rfl
theorem ft20_11 {a0 a1 a2 a3 a4 a5 a6 a7 a8 a9 a10 a11 a12 a13 a14 a15 a16 a17 a18 a19 : Oper} : (#[a0, a1, a2, a3, a4, a5, a6, a7, a8, a9, a10, a11, a12, a13, a14, a15, a16, a17, a18, a19] : Array Oper)[11]? = some a11 := rfl
theorem ft20_12 {a0 a1 a2 a3 a4 a5 a6 a7 a8 a9 a10 a11 a12 a13 a14 a15 a16 a17 a18 a19 : Oper} : (#[a0, a1, a2, a3, a4, a5, a6, a7, a8, a9, a10, a11, a12, a13, a14, a15, a16, a17, a18, a19] : Array Oper)[12]? = some a12 := rfl
theorem ft20_13 {a0 a1 a2 a3 a4 a5 a6 a7 a8 a9 a10 a11 a12 a13 a14 a15 a16 a17 a18 a19 : Oper} : (#[a0, a1, a2, a3, a4, a5, a6, a7, a8, a9, a10, a11, a12, a13, a14, a15, a16, a17, a18, a19] : Array Oper)[13]? = some a13 := rfl
theorem ft20_14 {a0 a1 a2 a3 a4 a5 a6 a7 a8 a9 a10 a11 a12 a13 a14 a15 a16 a17 a18 a19 : Oper} : (#[a0, a1, a2, a3, a4, a5, a6, a7, a8, a9, a10, a11, a12, a13, a14, a15, a16, a17, a18, a19] : Array Oper)[14]? = some a14 := rfl
theorem ft20_15 {a0 a1 a2 a3 a4 a5 a6 a7 a8 a9 a10 a11 a12 a13 a14 a15 a16 a17 a18 a19 : Oper} : (#[a0, a1, a2, a3, a4, a5, a6, a7, a8, a9, a10, a11, a12, a13, a14, a15, a16, a17, a18, a19] : Array Oper)[15]? = some a15 := rfl
theorem ft20_16 {a0 a1 a2 a3 a4 a5 a6 a7 a8 a9 a10 a11 a12 a13 a14 a15 a16 a17 a18 a19 : Oper} : (#[a0, a1, a2, a3, a4, a5, a6, a7, a8, a9, a10, a11, a12, a13, a14, a15, a16, a17, a18, a19] : Array Oper)[16]? = some a16 := rfl
theorem ft20_17 {a0 a1 a2 a3 a4 a5 a6 a7 a8 a9 a10 a11 a12 a13 a14 a15 a16 a17 a18 a19 : Oper} : (#[a0, a1, a2, a3, a4, a5, a6, a7, a8, a9, a10, a11, a12, a13, a14, a15, a16, a17, a18, a19] : Array Oper)[17]? = some a17 := rfl
theorem ft20_18 {a0 a1 a2 a3 a4 a5 a6 a7 a8 a9 a10 a11 a12 a13 a14 a15 a16 a17 a18 a19 : Oper} : (#[a0, a1, a2, a3, a4, a5, a6, a7, a8, a9, a10, a11, a12, a13, a14, a15, a16, a17, a18, a19] : Array Oper)[18]? = some a18 := rfl
theorem ft20_19 {a0 a1 a2 a3 a4 a5 a6 a7 a8 a9 a10 a11 a12 a13 a14 a15 a16 a17 a18 a19 : Oper} : (#[a0, a1, a2, a3, a4, a5, a6, a7, a8, a9, a10, a11, a12, a13, a14, a15, a16, a17, a18, a19] : Array Oper)[19]? = some a19 := rfl
/-- a Cloth that answers so -/
def ClIs (F : Nat) (args : Array Value) (K : Kn) (er at_ : Int) (V : World) : Prop := Calls Try.prog F args V fun e w' => ∃ v, e = .returned (.tuple #[v, fltV er at_]) ∧ KR w' 0 v K ∧ Below V.heap.size V w'
set_option maxRecDepth 100000 in
set_option maxHeartbeats 8000000 in
theorem tells_core {n r : Int} {W : World} {q : Option Addr} {l c : Nat} {K : Kn} {er at_ : Int} {tl : List Sx} (x y : Sx) (hl : tl.length * 40 + 4096 ≤ 140737488355328) (h7 : ∀ V, Below W.heap.size W V → ClIs 7 #[.int .i64 n, .slice q l c] K er at_ V) (h8 : ∀ V, Below W.heap.size W V → ClIs 8 #[.int .i64 n, .slice q l c] K er at_ V) (h12 : ∀ V, Below W.heap.size W V → Lst 12 q l c V tl) (h13 : ∀ V, Below W.heap.size W V → Lst 13 q l c V tl) (hf : Fit K) : LawIs 3 #[.int .i64 n, .slice q l c, sxV x, sxV y, .int .i64 r] W := by
  unfold LawIs
  unfold ClIs at h7 h8
  unfold Lst at h12 h13
  have H7 := hide h7
  have H8 := hide h8
  have H12 := hide h12
  have H13 := hide h13
  have HF := hide hf
  have HM1 := hide (fun V => may_any x y r V)
  have HM2 := hide (fun V => rmay_any x y r V)
  unfold Ans at HM1 HM2
  generalize mayB x y r = mb at *
  obtain ⟨rk1, hrk1⟩ : ∃ rk, rk = K.rack := ⟨_, rfl⟩
  have Hrk1 := hide hrk1
  obtain ⟨t1, t2, t3⟩ := x_boxes W x y
  have HX := hide t1
  have HY := hide t2
  have B0 := hide t3
  clear t1 t2 t3 h7 h8 h12 h13 hf hrk1
  go_enter Try.func3, Try.ntmps3
  go_upto_region 1 with fail
  generalize (W.alloc (.cells #[.int .i64 x.dk, .int .i64 x.bed, .int .i64 x.ndl, .int .i64 x.car, .int .i64 x.tt] 24)).alloc (.cells #[.int .i64 y.dk, .int .i64 y.bed, .int .i64 y.ndl, .int .i64 y.car, .int .i64 y.tt] 24) = w0 at *
  obtain ⟨yb, hyb⟩ : ∃ b, b = W.heap.size + 1 := ⟨_, rfl⟩
  rw [← hyb] at HY
  rw [← hyb]
  obtain ⟨xb, hxb⟩ : ∃ b, b = W.heap.size := ⟨_, rfl⟩
  rw [← hxb] at HX
  rw [← hxb]
  clear hyb hxb
  go_wp2_with fail
  refine (unhide H7 _ (unhide B0)).mono ?_
  rintro e w1 ⟨v1, rfl, hR1, hb1⟩
  obtain ⟨a1, a2, a3, a4, a5, a6, a7, a8, a9, a10, a11, a12, rfl⟩ := hR1.parts
  rw [← unhide Hrk1] at hR1
  rw [← unhide Hrk1]
  obtain ⟨tb1, tb2, tb3⟩ := two_boxes w1 (.slice a1 a2 a3) (.slice a4 a5 a6) (.slice a7 a8 a9) (.slice a10 a12 a11) rk1 er at_
  have HA2 := hide tb1
  have HE2 := hide tb2
  have HR2 := hide (hR1.keep tb3)
  have hb2 := btrans hb1 tb3
  have HX2 := hide ((unhide HX).keep hb2)
  have HY2 := hide ((unhide HY).keep hb2)
  have S2 := hide (btrans (unhide B0) hb2)
  clear tb1 tb2 tb3 hR1 hb1 hb2 H7 HX HY B0
  go_upto_region 2 with fail
  generalize (w1.alloc (.cells #[.slice a1 a2 a3, .slice a4 a5 a6, .slice a7 a8 a9, .slice a10 a12 a11, .int .i64 rk1] 29)).alloc (.cells #[.int .i64 er, .int .i64 at_] 32) = w2 at *
  generalize w1.heap.size + 1 = eb at *
  generalize w1.heap.size = ab at *
  go_wp2_with fail
  refine (unhide H8 _ (unhide S2)).mono ?_
  rintro e w3 ⟨v3, rfl, hR3, hb3⟩
  obtain ⟨b1, b2, b3, b4, b5, b6, b7, b8, b9, b10, b11, b12, rfl⟩ := hR3.parts
  rw [← unhide Hrk1] at hR3
  rw [← unhide Hrk1]
  obtain ⟨tb1, tb2, tb3⟩ := two_boxes w3 (.slice b1 b2 b3) (.slice b4 b5 b6) (.slice b7 b8 b9) (.slice b10 b12 b11) rk1 er at_
  have HB4 := hide tb1
  have HG4 := hide tb2
  have hb4 := btrans hb3 tb3
  have HA4 := hide ((unhide HA2).keep hb4)
  have HE4 := hide ((unhide HE2).keep hb4)
  have HX4 := hide ((unhide HX2).keep hb4)
  have HY4 := hide ((unhide HY2).keep hb4)
  have S4 := hide (btrans (unhide S2) hb4)
  have HQa := hide ((unhide HR2).keep hb4)
  have HQb := hide (hR3.keep tb3)
  clear tb1 tb2 tb3 hR3 hb3 hb4 H8 HA2 HE2 HR2 S2 HX2 HY2
  go_upto_region 3 with fail
  generalize (w3.alloc (.cells #[.slice b1 b2 b3, .slice b4 b5 b6, .slice b7 b8 b9, .slice b10 b12 b11, .int .i64 rk1] 29)).alloc (.cells #[.int .i64 er, .int .i64 at_] 32) = w4 at *
  generalize w3.heap.size + 1 = gb at *
  generalize w3.heap.size = bb at *
  have HSame := hide (fun V (hV : Below w4.heap.size w4 V) => same_any ((unhide HQa).keep hV) ((unhide HQb).keep hV) (unhide HF))
  clear HQa HQb
  have gx : (er == er) = true := by simp
  have gy : (at_ == at_) = true := by simp
  have gm : (mb != mb) = false := by simp
  refine wp_region_noPanic ?_
  refine wp_region_held_drew (S := fun V => Below w4.heap.size w4 V) (by kernel_rfl) (bdrew _) ?_
  intro _
  refine wpAnyH_take (i := 0) (oi := _) (v := .agg #[.slice a1 a2 a3, .slice a4 a5 a6, .slice a7 a8 a9, .slice a10 a12 a11, .int .i64 rk1]) ft20_0 (by kernel_rfl) (by kernel_rfl) (by kernel_rfl) (fun _ _ _ h => h) (Or.inl ⟨by rfl, ?_⟩) (by assumption) ?_
  · intro V hSw
    try dsimp only at hSw
    obtain ⟨-, ⟨k0, k1, k2, k3, k4⟩, -⟩ := (unhide HA4).keep hSw
    go_simp
  simp only [Act.put, List.setIfInBounds_toArray, List.set_cons_zero, List.set_cons_succ]
  refine wpAnyH_take (i := 1) (oi := _) (v := .agg #[.slice b1 b2 b3, .slice b4 b5 b6, .slice b7 b8 b9, .slice b10 b12 b11, .int .i64 rk1]) ft20_1 (by kernel_rfl) (by kernel_rfl) (by kernel_rfl) (fun _ _ _ h => h) (Or.inl ⟨by rfl, ?_⟩) (by assumption) ?_
  · intro V hSw
    try dsimp only at hSw
    obtain ⟨-, ⟨k0, k1, k2, k3, k4⟩, -⟩ := (unhide HB4).keep hSw
    go_simp
  simp only [Act.put, List.setIfInBounds_toArray, List.set_cons_zero, List.set_cons_succ]
  refine wpAnyH_ready (rs := [2]) (by kernel_rfl) (by simp) ?_
  refine AllReadyH.cons (o := _) ft20_2 (fun K hK => ?_) AllReadyH.nil
  go_simp
  refine (unhide HSame _ (bdrew w4)).mono ?_
  rintro e w5 ⟨rfl, hb5⟩
  have S5 := hide (btrans (bdrew w4) hb5)
  clear hb5
  refine hK.out _ _ (unhide S5) (fun _ => ?_)
  clear hK K
  refine wpAnyH_take (i := 3) (oi := _) (v := .bool false) ft20_3 (by kernel_rfl) (by kernel_rfl) (by kernel_rfl) (fun _ _ _ h => h) (Or.inl ⟨by rfl, ?_⟩) (by assumption) ?_
  · intro V hSw
    try dsimp only at hSw
    go_simp
  simp only [Act.put, List.setIfInBounds_toArray, List.set_cons_zero, List.set_cons_succ]
  refine wpAnyH_take (i := 4) (oi := _) (v := .bool false) ft20_4 (by kernel_rfl) (by kernel_rfl) (by kernel_rfl) (fun _ _ _ h => h) (Or.inl ⟨by rfl, ?_⟩) (by assumption) ?_
  · intro V hSw
    try dsimp only at hSw
    go_simp
  simp only [Act.put, List.setIfInBounds_toArray, List.set_cons_zero, List.set_cons_succ]
  refine wpAnyH_take (i := 5) (oi := _) (v := fltV er at_) ft20_5 (by kernel_rfl) (by kernel_rfl) (by kernel_rfl) (fun _ _ _ h => h) (Or.inl ⟨by rfl, ?_⟩) (by assumption) ?_
  · intro V hSw
    try dsimp only at hSw
    obtain ⟨-, ⟨e0, e1⟩, -⟩ := (unhide HE4).keep hSw
    go_simp
  simp only [Act.put, List.setIfInBounds_toArray, List.set_cons_zero, List.set_cons_succ]
  refine wpAnyH_take (i := 6) (oi := _) (v := fltV er at_) ft20_6 (by kernel_rfl) (by kernel_rfl) (by kernel_rfl) (fun _ _ _ h => h) (Or.inl ⟨by rfl, ?_⟩) (by assumption) ?_
  · intro V hSw
    try dsimp only at hSw
    obtain ⟨-, ⟨e0, e1⟩, -⟩ := (unhide HG4).keep hSw
    go_simp
  simp only [Act.put, List.setIfInBounds_toArray, List.set_cons_zero, List.set_cons_succ]
  refine wpAnyH_take (i := 7) (oi := _) (v := .bool false) ft20_7 (by kernel_rfl) (by kernel_rfl) (by kernel_rfl) (fun _ _ _ h => h) (Or.inl ⟨by rfl, ?_⟩) (by assumption) ?_
  · intro V hSw
    try dsimp only at hSw
    go_simp
  simp only [Act.put, List.setIfInBounds_toArray, List.set_cons_zero, List.set_cons_succ]
  refine wpAnyH_take (i := 8) (oi := _) (v := .bool false) ft20_8 (by kernel_rfl) (by kernel_rfl) (by kernel_rfl) (fun _ _ _ h => h) (Or.inl ⟨by rfl, ?_⟩) (by assumption) ?_
  · intro V hSw
    try dsimp only at hSw
    go_simp
  simp only [Act.put, List.setIfInBounds_toArray, List.set_cons_zero, List.set_cons_succ]
  refine wpAnyH_take (i := 9) (oi := _) (v := .bool false) ft20_9 (by kernel_rfl) (by kernel_rfl) (by kernel_rfl) (fun _ _ _ h => h) (Or.inl ⟨by rfl, ?_⟩) (by assumption) ?_
  · intro V hSw
    try dsimp only at hSw
    go_simp
  simp only [Act.put, List.setIfInBounds_toArray, List.set_cons_zero, List.set_cons_succ]
  refine wpAnyH_take (i := 10) (oi := _) (v := sxV x) ft20_10 (by kernel_rfl) (by kernel_rfl) (by kernel_rfl) (fun _ _ _ h => h) (Or.inl ⟨by rfl, ?_⟩) (by assumption) ?_
  · intro V hSw
    try dsimp only at hSw
    obtain ⟨-, m0, m1, m2, m3, m4⟩ := (unhide HX4).keep hSw
    go_simp
  simp only [Act.put, List.setIfInBounds_toArray, List.set_cons_zero, List.set_cons_succ]
  refine wpAnyH_take (i := 11) (oi := _) (v := sxV y) ft20_11 (by kernel_rfl) (by kernel_rfl) (by kernel_rfl) (fun _ _ _ h => h) (Or.inl ⟨by rfl, ?_⟩) (by assumption) ?_
  · intro V hSw
    try dsimp only at hSw
    obtain ⟨-, m0, m1, m2, m3, m4⟩ := (unhide HY4).keep hSw
    go_simp
  simp only [Act.put, List.setIfInBounds_toArray, List.set_cons_zero, List.set_cons_succ]
  refine wpAnyH_take (i := 12) (oi := _) (v := .int .i64 r) ft20_12 (by kernel_rfl) (by kernel_rfl) (by kernel_rfl) (fun _ _ _ h => h) (Or.inl ⟨by rfl, ?_⟩) (by assumption) ?_
  · intro V hSw
    try dsimp only at hSw
    go_simp
  simp only [Act.put, List.setIfInBounds_toArray, List.set_cons_zero, List.set_cons_succ]
  refine wpAnyH_take (i := 14) (oi := _) (v := sxV x) ft20_14 (by kernel_rfl) (by kernel_rfl) (by kernel_rfl) (fun _ _ _ h => h) (Or.inl ⟨by rfl, ?_⟩) (by assumption) ?_
  · intro V hSw
    try dsimp only at hSw
    obtain ⟨-, m0, m1, m2, m3, m4⟩ := (unhide HX4).keep hSw
    go_simp
  simp only [Act.put, List.setIfInBounds_toArray, List.set_cons_zero, List.set_cons_succ]
  refine wpAnyH_take (i := 15) (oi := _) (v := sxV y) ft20_15 (by kernel_rfl) (by kernel_rfl) (by kernel_rfl) (fun _ _ _ h => h) (Or.inl ⟨by rfl, ?_⟩) (by assumption) ?_
  · intro V hSw
    try dsimp only at hSw
    obtain ⟨-, m0, m1, m2, m3, m4⟩ := (unhide HY4).keep hSw
    go_simp
  simp only [Act.put, List.setIfInBounds_toArray, List.set_cons_zero, List.set_cons_succ]
  refine wpAnyH_take (i := 16) (oi := _) (v := .int .i64 r) ft20_16 (by kernel_rfl) (by kernel_rfl) (by kernel_rfl) (fun _ _ _ h => h) (Or.inl ⟨by rfl, ?_⟩) (by assumption) ?_
  · intro V hSw
    try dsimp only at hSw
    go_simp
  simp only [Act.put, List.setIfInBounds_toArray, List.set_cons_zero, List.set_cons_succ]
  refine wpAnyH_ready (rs := [13]) (by kernel_rfl) (by simp) ?_
  refine AllReadyH.cons (o := _) ft20_13 (fun K hK => ?_) AllReadyH.nil
  go_simp
  refine (unhide HM1 _).mono ?_
  rintro e w6 ⟨rfl, hb6⟩
  have S6 := hide (btrans (unhide S5) hb6)
  clear hb6
  refine hK.out _ _ (unhide S6) (fun _ => ?_)
  clear hK K
  refine wpAnyH_ready (rs := [17]) (by kernel_rfl) (by simp) ?_
  refine AllReadyH.cons (o := _) ft20_17 (fun K hK => ?_) AllReadyH.nil
  go_simp
  refine (unhide HM2 _).mono ?_
  rintro e w7 ⟨rfl, hb7⟩
  have S7 := hide (btrans (unhide S6) hb7)
  clear hb7
  refine hK.out _ _ (unhide S7) (fun _ => ?_)
  clear hK K
  refine wpAnyH_take (i := 18) (oi := _) (v := .bool false) ft20_18 (by kernel_rfl) (by kernel_rfl) (by kernel_rfl) (fun _ _ _ h => h) (Or.inl ⟨by rfl, ?_⟩) (by assumption) ?_
  · intro V hSw
    try dsimp only at hSw
    go_simp
  simp only [Act.put, List.setIfInBounds_toArray, List.set_cons_zero, List.set_cons_succ]
  refine wpAnyH_take (i := 19) (oi := _) (v := .bool false) ft20_19 (by kernel_rfl) (by kernel_rfl) (by kernel_rfl) (fun _ _ _ h => h) (Or.inl ⟨by rfl, ?_⟩) (by assumption) ?_
  · intro V hSw
    try dsimp only at hSw
    go_simp
  simp only [Act.put, List.setIfInBounds_toArray, List.set_cons_zero, List.set_cons_succ]
  refine wpAnyH_done (by kernel_rfl) ?_ _
  refine NoPanic.normal ?_
  have S8 := hide (btrans (unhide S4) (unhide S7))
  clear HSame HM1 HM2 HA4 HB4 HE4 HG4 HX4 HY4 S4 S5 S6 S7
  go_wp2_with fail
  refine (unhide H12 _ (unhide S8)).mono ?_
  rintro e w9 ⟨tv, rfl, hO9, hb9⟩
  obtain ⟨tq, tc, rfl⟩ := own_form hO9
  have HO9 := hide hO9
  have S9 := hide (btrans (unhide S8) hb9)
  clear hO9 hb9
  obtain ⟨nt, hnt⟩ : ∃ n, n = tl.length := ⟨_, rfl⟩
  rw [← hnt] at hl
  rw [← hnt]
  have Hnt := hide hnt
  clear hnt
  go_wp2_with fail
  refine (unhide H13 _ (unhide S9)).mono ?_
  rintro e w10 ⟨uv, rfl, hO10, hb10⟩
  obtain ⟨uq, uc, rfl⟩ := own_form hO10
  have S10 := hide (btrans (unhide S9) hb10)
  have HSu := hide (show Sc w10 uq nt (fun j => tl.getD j x0) from by have := hO10; rw [unhide Hnt]; exact own_sc this)
  have HSt := hide (show Sc w10 tq nt (fun j => tl.getD j x0) from by rw [unhide Hnt]; exact own_sc (own_keep (unhide HO9) hb10))
  clear hO10 hb10 HO9
  rw [← unhide Hnt]
  generalize (fun j => tl.getD j x0) = h at *
  have gq : ((nt : Int) != (nt : Int)) = false := by simp
  go_wp2
  go_loopw [61] (fun i wr => ∃ x : Nat, x ≤ nt ∧ i = .int .i64 x ∧ Below w10.heap.size w10 wr) (fun i _ => nt - (intOf i).toNat)
  case atStart => exact ⟨0, Nat.zero_le _, rfl, Below.refl _ _⟩
  case round =>
    obtain ⟨x, hx, rfl, hB⟩ := hrel
    have HB := hide hB
    clear hB
    by_cases hlt : x < nt
    · have q1 : (x : Int) < (nt : Int) := by omega
      have q2 : (0 : Int) ≤ (x : Int) := by omega
      obtain ⟨b5, o5, rfl, c0, c1, c2, c3, c4⟩ := ((unhide HSt).keep (unhide HB)).at hlt
      obtain ⟨b6, o6, rfl, s0, s1, s2, s3, s4⟩ := ((unhide HSu).keep (unhide HB)).at hlt
      go_wp2
      go_quiet (fail)
      go_wp2
      go_roundw
      case rel => exact ⟨x + 1, by omega, by go_num, (unhide HB).trans (Joins.below_draws _ _ _)⟩
      case measure => simp [intOf]; omega
    · obtain rfl : nt = x := by omega
      have cl : ¬ ((nt : Int) < (nt : Int)) := by omega
      go_wp2
      go_ret
      exact ⟨rfl, btrans (unhide S10) (unhide HB)⟩
theorem tells_no {n r : Int} {W : World} {q : Option Addr} {l c : Nat} {f : Nat → Sx} {er at_ : Int} (x y : Sx) (hs : Sc W q l f) (hl : l * 40 + 4096 ≤ 140737488355328) (her : er ≠ 0) (h7 : ∀ V, Below W.heap.size W V → RunNo 15 #[.int .i64 n, .slice q l c] V er at_) (h8 : ∀ V, Below W.heap.size W V → RunNo 18 #[.int .i64 n, .slice q l c] V er at_) : LawIs 3 #[.int .i64 n, .slice q l c, sxV x, sxV y, .int .i64 r] W := by
  have hle := tidy_le (lsG f l)
  rw [lsG_len] at hle
  refine tells_core (K := k0) (er := er) (at_ := at_) (tl := tidyL (lsG f l)) x y (by omega) (fun V hV => ?_) (fun V hV => ?_) (fun V hV => tidy_any (hs.keep hV) hl) (fun V hV => rtidy_any (hs.keep hV) hl) Fit.zero
  · exact (cloth_no her (fun U hU => h7 U (btrans hV hU))).mono (by rintro e w ⟨rfl, hb⟩; exact ⟨_, rfl, KR.zero _ _, hb⟩)
  · exact (rcloth_no her (fun U hU => h8 U (btrans hV hU))).mono (by rintro e w ⟨rfl, hb⟩; exact ⟨_, rfl, KR.zero _ _, hb⟩)
theorem tells_any (n r : Int) (W : World) (q : Option Addr) (l c : Nat) (f : Nat → Sx) (x y : Sx) (hs : Sc W q l f) (hl : l * 40 + 4096 ≤ 140737488355328) : LawIs 3 #[.int .i64 n, .slice q l c, sxV x, sxV y, .int .i64 r] W := by
  by_cases h : n < 1 ∨ 128 < n
  · exact tells_no x y hs hl (by decide) (fun V _ => run_new n V q l c h) (fun V _ => rrun_new n V q l c h)
  · obtain ⟨N, rfl⟩ : ∃ N : Nat, n = N := ⟨n.toNat, by omega⟩
    have h1 : 1 ≤ N := by omega
    have hN : N ≤ 128 := by omega
    rcases first_bad N f l with h0 | ⟨k, k1, k2, k3⟩
    · have hle := tidy_le (lsG f l)
      rw [lsG_len] at hle
      refine tells_core (K := reN (tell N (knS N f l))) (er := 0) (at_ := 0) (tl := tidyL (lsG f l)) x y (by omega) (fun V hV => ?_) (fun V hV => ?_) (fun V hV => tidy_any (hs.keep hV) hl) (fun V hV => rtidy_any (hs.keep hV) hl) (fit_re N f l hN)
      · exact (cloth_ok (c := c) h1 hN (hs.keep hV) hl h0).mono (by rintro e w ⟨v, rfl, hr, hb⟩; exact ⟨v, rfl, hr.le (Nat.zero_le _), hb⟩)
      · exact rcloth_ok (c := c) h1 hN (hs.keep hV) hl h0
    · exact tells_no x y hs hl k3 (fun V hV => run_bad h1 hN (hs.keep hV) hl k k1 k2 k3) (fun V hV => rrun_bad h1 hN (hs.keep hV) hl k k1 k2 k3)
end Go.Proofs.Ytancniamgfppiaa
