/-
  Package passes: howFar.
-/
import Derived.Test.YtpdknodnlamphaaF0
namespace Go.Proofs.Ytpdknodnlamphaa
open Go.RowKit Go.Shelf

attribute [local go_sem] Oper.semAt_some

theorem g10_0 {a0 a1 a2 a3 a4 a5 a6 a7 a8 a9 : Oper} : (#[a0, a1, a2, a3, a4, a5, a6, a7, a8, a9] : Array Oper)[0]? = some a0 := rfl
theorem g10_1 {a0 a1 a2 a3 a4 a5 a6 a7 a8 a9 : Oper} : (#[a0, a1, a2, a3, a4, a5, a6, a7, a8, a9] : Array Oper)[1]? = some a1 := rfl
theorem g10_2 {a0 a1 a2 a3 a4 a5 a6 a7 a8 a9 : Oper} : (#[a0, a1, a2, a3, a4, a5, a6, a7, a8, a9] : Array Oper)[2]? = some a2 := rfl
theorem g10_3 {a0 a1 a2 a3 a4 a5 a6 a7 a8 a9 : Oper} : (#[a0, a1, a2, a3, a4, a5, a6, a7, a8, a9] : Array Oper)[3]? = some a3 := rfl
theorem g10_4 {a0 a1 a2 a3 a4 a5 a6 a7 a8 a9 : Oper} : (#[a0, a1, a2, a3, a4, a5, a6, a7, a8, a9] : Array Oper)[4]? = some a4 := rfl
theorem g10_5 {a0 a1 a2 a3 a4 a5 a6 a7 a8 a9 : Oper} : (#[a0, a1, a2, a3, a4, a5, a6, a7, a8, a9] : Array Oper)[5]? = some a5 := rfl
theorem g10_6 {a0 a1 a2 a3 a4 a5 a6 a7 a8 a9 : Oper} : (#[a0, a1, a2, a3, a4, a5, a6, a7, a8, a9] : Array Oper)[6]? = some a6 := rfl
theorem g10_7 {a0 a1 a2 a3 a4 a5 a6 a7 a8 a9 : Oper} : (#[a0, a1, a2, a3, a4, a5, a6, a7, a8, a9] : Array Oper)[7]? = some a7 := rfl
theorem g10_8 {a0 a1 a2 a3 a4 a5 a6 a7 a8 a9 : Oper} : (#[a0, a1, a2, a3, a4, a5, a6, a7, a8, a9] : Array Oper)[8]? = some a8 := rfl
theorem g10_9 {a0 a1 a2 a3 a4 a5 a6 a7 a8 a9 : Oper} : (#[a0, a1, a2, a3, a4, a5, a6, a7, a8, a9] : Array Oper)[9]? = some a9 := rfl
/-- what a way to stand more is read from -/
def S11 (N e8 Bn g i : Nat) (v : Value) (kk : Int) (x m : List Int) (U : World) : Prop :=
  U.cell? ⟨N + 1 + 1, 0, none⟩ = some (.map (some (N + 1))) ∧ U.cell? ⟨N + 1 + 1 + 1 + 1, 0, none⟩ = some v ∧ U.cell? ⟨e8, 0, none⟩ = some (.int .i64 (i : Nat)) ∧
  U.cell? ⟨Bn, 0, none⟩ = some (.int .i64 (gt x 0)) ∧ U.cell? ⟨Bn, 1, none⟩ = some (.int .i64 (gt x 1)) ∧ U.cell? ⟨Bn, 2, none⟩ = some (.int .i64 (gt x 2)) ∧ U.cell? ⟨Bn, 3, none⟩ = some (.int .i64 (gt x 3)) ∧ U.cell? ⟨Bn, 4, none⟩ = some (.int .i64 (gt x 4)) ∧
  U.cell? ⟨g, i * 5, none⟩ = some (.int .i64 (gt m 0)) ∧ U.cell? ⟨g, i * 5 + 1, none⟩ = some (.int .i64 (gt m 1)) ∧ U.cell? ⟨g, i * 5 + 2, none⟩ = some (.int .i64 (gt m 2)) ∧ U.cell? ⟨g, i * 5 + 3, none⟩ = some (.int .i64 (gt m 3)) ∧ U.cell? ⟨g, i * 5 + 4, none⟩ = some (.int .i64 (gt m 4)) ∧
  (Instr.lookup 40 (.map (some (N + 1))) (stV m) false).run Try.prog U = .ok (.int .i64 kk) U
set_option pp.maxSteps 200000 in
set_option pp.deepTerms true in
set_option maxRecDepth 100000 in
set_option maxHeartbeats 4000000 in
theorem howFar_any (z : Pz) (h1 : 1 ≤ z.n) (h5 : z.n ≤ 5) (hsl : 1 ≤ z.sl ∧ z.sl ≤ 11) (hE : OkS z z.E) (st : List Int) (hst : OkS z st)
    (q : Option Addr) (c B0 : Nat) (W : World) (hB0 : B0 ≤ W.heap.size) (hq : Iq B0 W q z.n z.t) :
    Calls Try.prog 18 #[wkV q z.n c z.sl, stV st] W fun e w' => ∃ bm G, e = .returned (.map (some bm)) ∧ MpI w' 38 bm (encG G) ∧ Far z G st ∧ Below W.heap.size W w' := by
  obtain ⟨w2, hw2, K2, A2, hs2, b2⟩ : ∃ w2, (W.alloc (.cells #[.slice q z.n c, .int .i64 z.sl] 36)).alloc (.cells #[.int .i64 (gt st 0), .int .i64 (gt st 1), .int .i64 (gt st 2), .int .i64 (gt st 3), .int .i64 (gt st 4)] 38) = w2 ∧ KB w2 W.heap.size q z.n c z.sl ∧ SR w2 (W.heap.size + 1) (gt st) ∧ w2.heap.size = W.heap.size + 2 ∧ Below W.heap.size W w2 := by
    refine ⟨_, rfl, (KB.new _ _ _ _ _ _).keep (bnew _ _), ?_, by simp, bal (bnew _ _)⟩
    have := SR.new (W.alloc (.cells #[.slice q z.n c, .int .i64 z.sl] 36)) (gt st) 38
    simpa using this
  have Hq2 : Iq B0 w2 q z.n z.t := by
    obtain ⟨b, o, e, hb, hc⟩ := hq
    exact ⟨b, o, e, hb, fun i hi => keepC b2 (by omega) (hc i hi)⟩
  have HS := hide (standingOn_any q z.n c z.t w2 (Hq2.is (by omega)) h1 h5)
  obtain ⟨-, k0, k1⟩ := id K2
  refine (callsIn_wide (n := 9)).1 (callsIn_of_wp_marks Try.func18 rfl trivial ?_ rfl)
  simp only [Try.ntmps18, List.size_toArray, List.length_cons, List.length_nil, Nat.reduceAdd, Nat.reduceSub, Array.replicate_succ, Array.replicate_zero, List.push_toArray, List.append_toArray, List.nil_append, List.cons_append]
  gi_wp2_with fail
  refine ⟨trivial, (callsIn_wide.2 (unhide HS)).mono ?_⟩
  rintro e u ⟨rfl, hbu⟩
  clear k0 k1 hw2
  rw [show tl z.n z.t = z.E from rfl]
  have b3 := btrans hbu (bnew u (.cells #[.int .i64 (gt z.E 0), .int .i64 (gt z.E 1), .int .i64 (gt z.E 2), .int .i64 (gt z.E 3), .int .i64 (gt z.E 4)] 38))
  have R3 := SR.new u (gt z.E) 38
  have hmm := @run_makeMap Try.prog
  obtain ⟨u3, hu3⟩ : ∃ u3, u.alloc (.cells #[.int .i64 (gt z.E 0), .int .i64 (gt z.E 1), .int .i64 (gt z.E 2), .int .i64 (gt z.E 3), .int .i64 (gt z.E 4)] 38) = u3 := ⟨_, rfl⟩
  rw [hu3] at b3 R3
  obtain ⟨kl, hkl⟩ := key_st (okS_bound hE)
  have M4 := MpI.new u3 38
  have R4 := R3.keep (bnew u3 (.map #[] 0))
  have b4 := btrans b3 (bnew u3 (.map #[] 0))
  obtain ⟨u4, hu4⟩ : ∃ u4, u3.alloc (.map #[] 0) = u4 := ⟨_, rfl⟩
  have hs4 : u4.heap.size = u3.heap.size + 1 := by rw [← hu4]; simp
  have hs3 : u3.heap.size = u.heap.size + 1 := by rw [← hu3]; simp
  rw [hu4] at M4 R4 b4
  obtain ⟨u5, hput, M5, g5, hs5⟩ := M4.put keyed38 Try.underlying40 hkl (fun p hp => by cases hp) 0
  have c0 := (R4.2 0 (by omega)).1
  have c1 := (R4.2 1 (by omega)).1
  have c2 := (R4.2 2 (by omega)).1
  have c3 := (R4.2 3 (by omega)).1
  have c4 := (R4.2 4 (by omega)).1
  rw [hs3] at hput M5 g5
  replace hput : (Instr.mapUpdate 40 (.map (some (u.heap.size + 1))) (stV z.E) (.int .i64 0)).run Try.prog u4 = .ok () u5 := hput
  have R5 : SR u5 u.heap.size (gt z.E) := R4.kept (grown_kept (S := fun i => i = u.heap.size + 1) g5 (fun r e => .inl (Option.some.inj e).symm)) (by omega)
  have d0 := (R5.2 0 (by omega)).1
  have d1 := (R5.2 1 (by omega)).1
  have d2 := (R5.2 2 (by omega)).1
  have d3 := (R5.2 3 (by omega)).1
  have d4 := (R5.2 4 (by omega)).1
  have H0 : ∃ v0, ((((u5.alloc (.cells #[.map (some (u.heap.size + 1))] 40)).alloc (.cells #[.int .i64 (gt z.E 0), .int .i64 (gt z.E 1), .int .i64 (gt z.E 2), .int .i64 (gt z.E 3), .int .i64 (gt z.E 4)] 38)).alloc (.cells #[.slice (some ⟨u.heap.size + 1 + 1 + 1, 0, none⟩) 1 1] 58)).alloc (.cells #[.int .i64 0] 3)) = v0 ∧
      Hw z W st q c B0 (u.heap.size + 1) (u.heap.size + 1 + 1) (u.heap.size + 1 + 1 + 1 + 1) (u.heap.size + 1 + 1 + 1) [(z.E, 0)] (.slice (some ⟨u.heap.size + 1 + 1 + 1, 0, none⟩) 1 1) v0 ∧ Boxed v0 (u.heap.size + 1 + 1 + 1 + 1 + 1) 3 (.int .i64 0) := by
    have Kq : Kept (fun i => i = u.heap.size + 1) u4 u5 := grown_kept g5 (fun r e => .inl (Option.some.inj e).symm)
    have hN0 : W.heap.size + 2 ≤ u.heap.size := by have := hbu.size; omega
    have k5 := K2.keep b4
    have a5 := (A2.keep b4).kept Kq (by omega)
    have bw4 : Below W.heap.size W u4 := b2.trans (b4.mono (by omega))
    have bw5 : Below W.heap.size W u5 := Kq.back bw4 (by have := b4.size; omega) (fun i hi => by omega)
    obtain ⟨v1, hv1⟩ : ∃ v1, u5.alloc (.cells #[.map (some (u.heap.size + 1))] 40) = v1 := ⟨_, rfl⟩
    have s1 : v1.heap.size = u.heap.size + 1 + 1 + 1 := by rw [← hv1]; simp; omega
    have e1 : u5.heap.size = u.heap.size + 1 + 1 := by omega
    have m1 : v1.cell? ⟨u.heap.size + 1 + 1, 0, none⟩ = some (.map (some (u.heap.size + 1))) := by rw [← hv1, ← e1]; simp [go_sem]
    have q1 : Below u5.heap.size u5 v1 := by rw [← hv1]; exact bnew _ _
    obtain ⟨v2, hv2⟩ : ∃ v2, v1.alloc (.cells #[.int .i64 (gt z.E 0), .int .i64 (gt z.E 1), .int .i64 (gt z.E 2), .int .i64 (gt z.E 3), .int .i64 (gt z.E 4)] 38) = v2 := ⟨_, rfl⟩
    have s2 : v2.heap.size = u.heap.size + 1 + 1 + 1 + 1 := by rw [← hv2]; simp; omega
    have q2 : Below v1.heap.size v1 v2 := by rw [← hv2]; exact bnew _ _
    have r2 : v2.ownsRow (u.heap.size + 1 + 1 + 1) 38 5 (.slice (some ⟨u.heap.size + 1 + 1 + 1, 0, none⟩) 1 1) 1 (rowsG [(z.E, 0)]) := by
      rw [← hv2, ← s1]
      exact own_lit (e := 38) (z := 5) (k := 1) v1 _ (Nat.le_refl _) (by unfold maxLen; omega) rfl
    obtain ⟨v3, hv3⟩ : ∃ v3, v2.alloc (.cells #[.slice (some ⟨u.heap.size + 1 + 1 + 1, 0, none⟩) 1 1] 58) = v3 := ⟨_, rfl⟩
    have s3 : v3.heap.size = u.heap.size + 1 + 1 + 1 + 1 + 1 := by rw [← hv3]; simp; omega
    have q3 : Below v2.heap.size v2 v3 := by rw [← hv3]; exact bnew _ _
    have f3 : Boxed v3 (u.heap.size + 1 + 1 + 1 + 1) 58 (.slice (some ⟨u.heap.size + 1 + 1 + 1, 0, none⟩) 1 1) := by rw [← hv3, ← s2]; exact Boxed.new _ _ _
    have q4 := bnew v3 (.cells #[.int .i64 0] 3)
    have c4' := Boxed.new v3 3 (.int .i64 0)
    rw [s3] at c4'
    have q34 := btrans q3 q4
    have q24 := btrans q2 q34
    have q14 := btrans q1 q24
    rw [hv1, hv2, hv3]
    refine ⟨_, rfl, ⟨?_, a5.keep q14, keepC q24 (by omega) m1, boxed_keep f3 q4, own_keep r2 q34, ?_, ?_, bw5.trans (q14.mono bw5.size)⟩, c4'⟩
    · have h5 : KB u5 W.heap.size q z.n c z.sl := ⟨Nat.lt_of_lt_of_le k5.1 Kq.size, Kq.cell k5.1 (by omega) k5.2.1, Kq.cell k5.1 (by omega) k5.2.2⟩
      exact h5.keep q14
    · have := M5.keep q14
      exact this
    · obtain ⟨b, o, e, hb, hc⟩ := hq
      exact ⟨b, o, e, hb, fun i hi => keepC (bw5.trans (q14.mono bw5.size)) (by omega) (hc i hi)⟩
  obtain ⟨v0, hv0, HW0, HC0⟩ := H0
  have Hv0 := hide hv0
  clear hv0
  gi_wp2_with fail
  rw [unhide Hv0]
  have hN2 : W.heap.size + 2 ≤ u.heap.size := by have := hbu.size; omega
  clear Hv0 hput M5 g5 hs5 c0 c1 c2 c3 c4 d0 d1 d2 d3 d4 R5 R4 R3 M4 hs4 hs3 hu4 hu3 b4 b3 hmm hkl HS Hq2 K2 A2 hs2 b2 hbu hq
  clear u5 u4 u3 w2 kl
  generalize u.heap.size = N at *
  clear u
  refine wpIn_loop (HfI z W st q c B0 N)
    (fun a V => 248833 - ixOf a V) ?_ ?_
  · exact ⟨_, 0, _, _, ⟨rfl, rfl, rfl, rfl, rfl, rfl, rfl, rfl, rfl, rfl⟩, Nat.le_refl _, HC0, HW0, Mk.nil _ _ _, Bf.first z, by simp⟩
  · rintro ⟨T, ds⟩ V ⟨e8, i, G, v, ⟨hT, t0, t1, t2, t3, t4, t5, t6, t7, t8⟩, he8, hC, hH, hM, hBf, hi⟩
    dsimp only at hT t0 t1 t2 t3 t4 t5 t6 t7 t8 hM
    obtain ⟨uu, hTe⟩ := lit66 T hT _ _ _ _ _ _ _ _ _ t0 t1 t2 t3 t4 t5 t6 t7 t8
    subst hTe
    clear hT t0 t1 t2 t3 t4 t5 t6 t7 t8 HW0 HC0
    have c8 := hC.cell
    have Hc8 := hide c8
    have c7 := hH.f.cell
    obtain ⟨g, cap, rfl⟩ := own_slice hH.r (by have := hBf.head; cases G with | nil => simp at this | cons _ _ => simp)
    by_cases hlt : i < G.length
    · obtain ⟨⟨m, k⟩, hmk⟩ : ∃ mk, G[i]? = some mk := ⟨_, List.getElem?_eq_getElem hlt⟩
      have r0 := (World.ownsRow.cellAt hH.r (i * 5 + 0) (by have := rowsG_len G; omega)).trans (rowsG_at hmk 0 (by omega))
      have r1 := (World.ownsRow.cellAt hH.r (i * 5 + 1) (by have := rowsG_len G; omega)).trans (rowsG_at hmk 1 (by omega))
      have r2 := (World.ownsRow.cellAt hH.r (i * 5 + 2) (by have := rowsG_len G; omega)).trans (rowsG_at hmk 2 (by omega))
      have r3 := (World.ownsRow.cellAt hH.r (i * 5 + 3) (by have := rowsG_len G; omega)).trans (rowsG_at hmk 3 (by omega))
      have r4 := (World.ownsRow.cellAt hH.r (i * 5 + 4) (by have := rowsG_len G; omega)).trans (rowsG_at hmk 4 (by omega))
      have s0 := (hH.s.2 0 (by omega)).1
      have s1 := (hH.s.2 1 (by omega)).1
      have s2 := (hH.s.2 2 (by omega)).1
      have s3 := (hH.s.2 3 (by omega)).1
      have s4 := (hH.s.2 4 (by omega)).1
      simp only [Nat.add_zero] at r0
      have li : ((i : Nat) : Int) < (G.length : Int) := by omega
      have HH := hide hH
      have HM := hide hM
      have HBf := hide hBf
      have Hmk := hide hmk
      have HC := hide hC
      have hmo := (hBf.sts hE _ (List.mem_of_getElem? hmk))
      clear hH hM hBf hmk hC
      have hm5 : m.length < 6 := by have : m.length = z.n := hmo.1; omega
      by_cases hme : m = st
      · have q0 := equal_yes (okS_bound hst) V.drew
        rw [hme] at r0 r1 r2 r3 r4
        have HFin := hide (show Far z G st from by have := unhide Hmk; rw [hme] at this; exact (unhide HBf).far_at this)
        have d6 := (unhide HH).m
        clear hme
        gi_wp2_with fail
        gi_region
        gi_wp2
        refine leave_marks (B := N + 1 + 1 + 1) (T := V.heap.size) (X := fun V => MpI V 38 (N + 1) (encG G) ∧ Below W.heap.size W V) (fun V D hD ⟨hm, hb⟩ hd => ⟨hm.block (World.putObj_heap_other (by omega)), hb.trans ⟨rfl, rfl, rfl, by simp, fun k hk => World.putObj_heap_other (by omega)⟩⟩) (fun V ⟨hm, hb⟩ => ⟨.map (some (N + 1)), ?_, N + 1, G, rfl, hm, unhide HFin, hb⟩) ds V.drew ((unhide HM).keep (bdrew V)) ⟨(unhide HH).mp.keep (bdrew V), (unhide HH).b.trans ((bdrew V).mono (unhide HH).b.size)⟩
        simp [results, Try.f18, go_sem]
      · have q0 := equal_no (okS_bound hmo) (okS_bound hst) (hmo.1.trans hst.1.symm) hm5 hme V.drew
        clear hme
        gi_wp2_with fail
        gi_region
        have b1 := bdrew V
        have H1 := (unhide HH).keep b1
        have M1 := (unhide HM).keep b1
        have C1 := boxed_keep (unhide HC) b1
        clear q0 c7 c8 r0 r1 r2 r3 r4 s0 s1 s2 s3 s4 HH HM HC
        generalize V.drew = V1 at *
        have c8 := C1.cell
        have c7 := H1.f.cell
        have r0 := (World.ownsRow.cellAt H1.r (i * 5 + 0) (by have := rowsG_len G; omega)).trans (rowsG_at (unhide Hmk) 0 (by omega))
        have r1 := (World.ownsRow.cellAt H1.r (i * 5 + 1) (by have := rowsG_len G; omega)).trans (rowsG_at (unhide Hmk) 1 (by omega))
        have r2 := (World.ownsRow.cellAt H1.r (i * 5 + 2) (by have := rowsG_len G; omega)).trans (rowsG_at (unhide Hmk) 2 (by omega))
        have r3 := (World.ownsRow.cellAt H1.r (i * 5 + 3) (by have := rowsG_len G; omega)).trans (rowsG_at (unhide Hmk) 3 (by omega))
        have r4 := (World.ownsRow.cellAt H1.r (i * 5 + 4) (by have := rowsG_len G; omega)).trans (rowsG_at (unhide Hmk) 4 (by omega))
        simp only [Nat.add_zero] at r0
        obtain ⟨-, k0, k1⟩ := id H1.w
        have hmix := mixed
        gi_wp2_with fail
        refine wpIn_mono (Q := Just ({ tmps := #[wkV q z.n c z.sl, stV st, .pointer (some ⟨W.heap.size, 0, none⟩), .pointer (some ⟨W.heap.size + 1, 0, none⟩), .map none, .pointer (some ⟨N, 0, none⟩), .pointer (some ⟨N + 1 + 1, 0, none⟩), .pointer (some ⟨N + 1 + 1 + 1 + 1, 0, none⟩), .pointer (some ⟨e8, 0, none⟩), uu 9, uu 10, uu 11, uu 12, uu 13, uu 14, uu 15, uu 16, uu 17, uu 18, uu 19, uu 20, .int .i64 (i : Nat), .slice (some ⟨g, 0, none⟩) G.length cap, .int .i64 (G.length : Nat), .bool true, .bool true, .slice (some ⟨g, 0, none⟩) G.length cap, .int .i64 (i : Nat), .pointer (some ⟨g, i * 5, none⟩), .agg #[.int .i64 (gt m 0), .int .i64 (gt m 1), .int .i64 (gt m 2), .int .i64 (gt m 3), .int .i64 (gt m 4)], .agg #[.int .i64 (gt st 0), .int .i64 (gt st 1), .int .i64 (gt st 2), .int .i64 (gt st 3), .int .i64 (gt st 4)], .bool true, .bool true, uu 33, uu 34, .agg #[.slice q z.n c, .int .i64 z.sl], .slice (some ⟨g, 0, none⟩) G.length cap, .int .i64 (i : Nat), .pointer (some ⟨g, i * 5, none⟩), .agg #[.int .i64 (gt m 0), .int .i64 (gt m 1), .int .i64 (gt m 2), .int .i64 (gt m 3), .int .i64 (gt m 4)], .func (.func 31) #[] #[.pointer (some ⟨V1.heap.size, 0, none⟩), .pointer (some ⟨V1.heap.size + 1, 0, none⟩)], uu 41, uu 42, uu 43, uu 44, uu 45, uu 46, uu 47, uu 48, uu 49, uu 50, uu 51, uu 52, uu 53, uu 54, uu 55, uu 56, uu 57, uu 58, uu 59, uu 60, uu 61, uu 62, uu 63, uu 64, uu 65], defers := ds }) (((V1.alloc (.cells #[.slice q z.n c, .int .i64 z.sl] 36)).alloc (.cells #[.int .i64 (gt m 0), .int .i64 (gt m 1), .int .i64 (gt m 2), .int .i64 (gt m 3), .int .i64 (gt m 4)] 38)).drew)) ?_ ?_
        · gi_region_with_o (refine ⟨trivial, ?_⟩; gi_at_call 30; refine (callsIn_wide.2 (from_any q z.n c z.sl m _)).mono ?_; rintro e w7 ⟨rfl, rfl⟩)
          all_goals exact ⟨rfl, rfl⟩
        intro e a w hJ
        cases e with
        | normal =>
          obtain ⟨rfl, rfl⟩ := hJ
          clear c7 c8 r0 r1 r2 r3 r4 k0 k1
          gi_wp2_with fail
          have bw := btrans (btrans (bnew V1 (.cells #[.slice q z.n c, .int .i64 z.sl] 36)) (bnew _ (.cells #[.int .i64 (gt m 0), .int .i64 (gt m 1), .int .i64 (gt m 2), .int .i64 (gt m 3), .int .i64 (gt m 4)] 38))) (bdrew _)
          have K7 := ((KB.new V1 q z.n c z.sl 36).keep (bnew _ (.cells #[.int .i64 (gt m 0), .int .i64 (gt m 1), .int .i64 (gt m 2), .int .i64 (gt m 3), .int .i64 (gt m 4)] 38))).keep (bdrew _)
          have A7 := (SR.new (V1.alloc (.cells #[.slice q z.n c, .int .i64 z.sl] 36)) (gt m) 38).keep (bdrew _)
          rw [World.size_alloc] at A7
          have H7 := H1.keep bw
          have M7 := M1.keep bw
          have C7 := boxed_keep C1 bw
          have hs7 : (((V1.alloc (.cells #[.slice q z.n c, .int .i64 z.sl] 36)).alloc (.cells #[.int .i64 (gt m 0), .int .i64 (gt m 1), .int .i64 (gt m 2), .int .i64 (gt m 3), .int .i64 (gt m 4)] 38)).drew).heap.size = V1.heap.size + 2 := by show ((V1.alloc _).alloc _).heap.size = _; simp
          have hgl : g < V1.heap.size := (H1.r.lt g rfl).2
          have hbs : V.heap.size ≤ V1.heap.size := b1.size
          have hN1 := H1.f.lt
          have HF7 := hide (from1_gives z m hmo h1 h5 hsl B0 V1.heap.size (V1.heap.size + 1) c q _ (by rw [hs7]; have := H1.b.size; omega) K7 A7 H7.d)
          have HRw := hide (show Rw z W st q c B0 N m k i e8 V1.heap.size ds [] _ from ⟨G, _, H7, C7, M7.more hbs, unhide HBf, unhide Hmk, fun x hx => (by cases hx), fun g' hg' => .inl (by have : g = g' := Option.some.inj hg'; omega)⟩)
          clear H1 M1 C1 bw K7 A7 H7 M7 C7 HBf
          generalize (((V1.alloc (.cells #[.slice q z.n c, .int .i64 z.sl] 36)).alloc (.cells #[.int .i64 (gt m 0), .int .i64 (gt m 1), .int .i64 (gt m 2), .int .i64 (gt m 3), .int .i64 (gt m 4)] 38)).drew) = w at *
          generalize hn2 : V1.heap.size = n2 at *
          refine over (gf := 31) (lb := #[.pointer (some ⟨n2, 0, none⟩), .pointer (some ⟨n2 + 1, 0, none⟩)]) rfl (enters_of Try.func31 (by kernel_rfl) rfl) (unhide HF7) (fun b hb => by omega) (fun _ => rfl)
            (Rw z W st q c B0 N m k i e8 n2 ds) (fun _ _ => False) (Rw.own (by omega) (by omega) (by omega)) (fun _ _ _ _ h _ _ => h) (unhide HRw)
            (fun x a V => ∃ Bn, n2 + 4 ≤ Bn ∧ SR V Bn (gt (bh m x.1)) ∧ a = { tmps := #[wkV q z.n c z.sl, stV st, .pointer (some ⟨W.heap.size, 0, none⟩), .pointer (some ⟨W.heap.size + 1, 0, none⟩), .map none, .pointer (some ⟨N, 0, none⟩), .pointer (some ⟨N + 1 + 1, 0, none⟩), .pointer (some ⟨N + 1 + 1 + 1 + 1, 0, none⟩), .pointer (some ⟨e8, 0, none⟩), uu 9, .pointer (some ⟨Bn, 0, none⟩), uu 11, uu 12, uu 13, uu 14, uu 15, uu 16, uu 17, uu 18, uu 19, uu 20, .int .i64 (i : Nat), .slice (some ⟨g, 0, none⟩) G.length cap, .int .i64 (G.length : Nat), .bool true, .bool true, .slice (some ⟨g, 0, none⟩) G.length cap, .int .i64 (i : Nat), .pointer (some ⟨g, i * 5, none⟩), .agg #[.int .i64 (gt m 0), .int .i64 (gt m 1), .int .i64 (gt m 2), .int .i64 (gt m 3), .int .i64 (gt m 4)], .agg #[.int .i64 (gt st 0), .int .i64 (gt st 1), .int .i64 (gt st 2), .int .i64 (gt st 3), .int .i64 (gt st 4)], .bool true, .bool true, uu 33, uu 34, .agg #[.slice q z.n c, .int .i64 z.sl], .slice (some ⟨g, 0, none⟩) G.length cap, .int .i64 (i : Nat), .pointer (some ⟨g, i * 5, none⟩), .agg #[.int .i64 (gt m 0), .int .i64 (gt m 1), .int .i64 (gt m 2), .int .i64 (gt m 3), .int .i64 (gt m 4)], .func (.func 31) #[] #[.pointer (some ⟨n2, 0, none⟩), .pointer (some ⟨n2 + 1, 0, none⟩)], .agg #[.int .i64 x.1.1, .int .i64 (x.1.2 : Nat)], stV (bh m x.1), uu 43, uu 44, uu 45, uu 46, uu 47, uu 48, uu 49, uu 50, uu 51, uu 52, uu 53, uu 54, uu 55, uu 56, uu 57, uu 58, uu 59, uu 60, uu 61, uu 62, uu 63, uu 64, uu 65], defers := [] })
            (fun x a => fun u X Y row hs hg hr => by
              obtain ⟨Bn, hn, hsr, e⟩ := hs
              exact ⟨Bn, hn, SR.own u X Y row hsr hg hr, e⟩) ?assign ?body ?done ?stop
          case assign =>
            intro pre x V K hlt hi hK
            have HI := hide hi
            clear hi
            unfold handed
            gi_wp2
            obtain ⟨G', v', e1, e2, e3, e4⟩ := unhide HI
            exact hK _ _ (KC.below (bnew _ _)) ⟨G', v', e1.keep (bnew _ _), boxed_keep e2 (bnew _ _), e3.keep (bnew _ _), e4⟩ ⟨V.heap.size, by omega, SR.new _ _ _, rfl⟩
          case body =>
            rintro pre ⟨⟨b, w'⟩, hx1, hx2⟩ a V hlt ⟨G', v, hH, hC, hM, hBf, hmk, hKn, hgb⟩ ⟨Bn, hBn, hR, rfl⟩
            dsimp only at hR ⊢
            have c0 := (hR.2 0 (by omega)).1
            have c1 := (hR.2 1 (by omega)).1
            have c2 := (hR.2 2 (by omega)).1
            have c3 := (hR.2 3 (by omega)).1
            have c4 := (hR.2 4 (by omega)).1
            have m0 := hH.m
            obtain ⟨kl, hkl⟩ := key_st (okS_bound hx2)
            by_cases hkn : Kn G' (bh m (b, w'))
            · have L1 := (by
                obtain ⟨j, hj⟩ := id hkn
                exact ⟨j, hH.mp.found keyed38 Try.underlying40 (x := stV (bh m (b, w'))) (v := j) (List.mem_map.2 ⟨_, hj, rfl⟩) true⟩ : ∃ j : Nat, (Instr.lookup 40 (.map (some (N + 1))) (stV (bh m (b, w'))) true).run Try.prog V = .ok (if true = true then .tuple #[.int .i64 (j : Int), .bool true] else .int .i64 (j : Int)) V)
              obtain ⟨j, L1⟩ := L1
              simp only [if_true] at L1
              have HRx := hide (show Rw z W st q c B0 N m k i e8 n2 ds (pre ++ [⟨(b, w'), hx1, hx2⟩]) V from ⟨G', v, hH, hC, hM, hBf, hmk, hKn.snoc hkn, hgb⟩)
              generalize ((j : Nat) : Int) = jj at *
              clear hH hC hM hBf hmk hKn hgb hR hkn
              gi_wp2
              exact ⟨KC.refl _ _, unhide HRx⟩
            · have L1 := hH.mp.missed keyed38 Try.underlying40 hkl (fun p hp e => by
                obtain ⟨g, hg, rfl⟩ := List.mem_map.1 hp
                have hgo := rc_ok hE (hBf.ok g hg).1
                have e2 : g.1 = bh m (b, w') := stV_inj (hgo.1.trans hx2.1.symm) (by have := hgo.1; omega) e
                exact hkn ⟨g.2, by rw [← e2]; exact hg⟩) true
              simp only [if_true] at L1
              have hG' := hBf.few hE (show z.n < 6 by omega)
              have hk := hBf.small hE (show z.n < 6 by omega) hmk
              have hil : i < G'.length := (List.getElem?_eq_some_iff.1 hmk).1
              obtain ⟨g', cap', rfl⟩ := own_slice hH.r (by omega)
              have bd := bdrew V
              have Hd := hH.keep bd
              have Cd := boxed_keep hC bd
              have Rd := hR.keep bd
              have hnk : ∀ p ∈ encG G', p.1 ≠ stV (bh m (b, w')) := fun p hp e => by
                obtain ⟨g, hg, rfl⟩ := List.mem_map.1 hp
                have hgo := rc_ok hE (hBf.ok g hg).1
                have e2 : g.1 = bh m (b, w') := stV_inj (hgo.1.trans hx2.1.symm) (by have := hgo.1; omega) e
                exact hkn ⟨g.2, by rw [← e2]; exact hg⟩
              obtain ⟨V1', hput, MP1, gr1, hs1⟩ := Hd.mp.put keyed38 Try.underlying40 hkl hnk (k + 1)
              have Kp1 : Kept (fun j => j = N + 1) V.drew V1' := grown_kept gr1 (fun r e => .inl (Option.some.inj e).symm)
              have Kp0 : Kept (fun j => j = N + 1) V V1' := (Kept.of bd).trans Kp1
              obtain ⟨g2, cap2, V2', V3', happ, f2, hV3, HW3, KW3, hg2⟩ := Hw.added hB0 hN2 hG' hH MP1 Kp0
              have hle : N + 1 + 1 + 1 ≤ g' := (hH.r.lt g' rfl).1
              have hgl' : g' < V.heap.size := (hH.r.lt g' rfl).2
              have tg : Tg V g' 38 := own_tg hH.r rfl
              have te8 : Tg V e8 3 := ⟨_, _, hC⟩
              have te7 : Tg V (N + 1 + 1 + 1 + 1) 58 := ⟨_, _, hH.f⟩
              have ne1 : e8 ≠ g' := te8.ne tg (by decide)
              have C3 : Boxed V3' e8 3 (.int .i64 (i : Nat)) := (KW3.2.2.2.2 e8 hC.lt (fun e => by
                rcases e with e | e | e
                · omega
                · omega
                · exact ne1 (Option.some.inj e).symm)).trans hC
              have M3 : Mk (N + 1 + 1 + 1) n2 ds V3' := by
                obtain ⟨Ds, e, hp, hD⟩ := hM
                refine ⟨Ds, e, hp, fun D hm => ⟨(hD D hm).1, (KW3.2.2.2.2 D (Array.getElem?_eq_some_iff.1 (hD D hm).2).1 (fun e => ?_)).trans (hD D hm).2⟩⟩
                have h3 := (hD D hm).2
                rcases e with e | e | e
                · have := (hD D hm).1.1; omega
                · obtain ⟨_, _, h4⟩ := te7
                  rw [← e, h3] at h4
                  cases h4
                · obtain ⟨_, _, h4⟩ := tg
                  rw [show g' = D from Option.some.inj e, h3] at h4
                  cases h4
              have hcs := hgb g' rfl
              have HRx := hide (show KC (fun b => (b < B0 ∨ b = n2 ∨ b = n2 + 1 ∨ (w.heap.size + 2 ≤ b ∧ b < w.heap.size + 2 + 4)) ∨ b = w.heap.size ∨ b = w.heap.size + 1) V V3' ∧ Rw z W st q c B0 N m k i e8 n2 ds (pre ++ [⟨(b, w'), hx1, hx2⟩]) V3' from
                ⟨KC.kept KW3 (fun j hj e => by
                  rcases e with e | e | e
                  · omega
                  · omega
                  · have : g' = j := Option.some.inj e; omega), _, _, HW3, C3, M3, hBf.add hmk hx1 hx2 hkn, by rw [List.getElem?_append_left hil]; exact hmk, AllK.snoc (fun y hy => (hKn y hy).app) ⟨k + 1, List.mem_append.2 (.inr (by simp))⟩, fun j hj => by
                  have e : g2 = j := Option.some.inj hj
                  have hz := Kp0.size
                  rcases hg2 with q | q
                  · have : g' = g2 := Option.some.inj q; omega
                  · omega⟩)
              have f1' : Boxed V1' (N + 1 + 1 + 1 + 1) 58 (.slice (some ⟨g', 0, none⟩) G'.length cap') := (Kp0.2.2.2.2 _ hH.f.lt (by omega)).trans hH.f
              have R1' : SR V1' Bn (gt (bh m (b, w'))) := hR.kept Kp0 (by omega)
              have cell1 : ∀ {j o : Nat} {v : Value}, j ≠ N + 1 → V.drew.cell? ⟨j, o, none⟩ = some v → V1'.cell? ⟨j, o, none⟩ = some v := fun hj h => Kp1.cell (World.block_lt_of_cell? V.drew _ h) hj h
              have rw' : ∀ j, j < 5 → V.drew.cell? ⟨g', i * 5 + j, none⟩ = some (.int .i64 (gt m j)) := fun j hj => (World.ownsRow.cellAt Hd.r (i * 5 + j) (by have := rowsG_len G'; omega)).trans (rowsG_at hmk j hj)
              obtain ⟨kk, k1, e1, e2, w1, w2, w3⟩ : ∃ kk k1 : Int, kk = (k : Nat) ∧ k1 = ((k + 1 : Nat) : Int) ∧ kk + 1 = k1 ∧ IntKind.i64.wrap k1 = k1 ∧ wrap64 k1 = k1 := ⟨_, _, rfl, rfl, by omega, Go.IntWalk.i64_in _ (by omega), Go.IntWalk.wrap64_in _ (by omega)⟩
              have L2 := Hd.mp.found keyed38 Try.underlying40 (x := stV m) (v := k) (List.mem_map.2 ⟨_, List.mem_of_getElem? hmk, rfl⟩) false
              have L3 := MP1.found keyed38 Try.underlying40 (x := stV m) (v := k) (List.mem_append.2 (.inl (List.mem_map.2 ⟨_, List.mem_of_getElem? hmk, rfl⟩))) false
              simp only [Bool.false_eq_true, if_false] at L2 L3
              rw [← e1] at L2 L3
              rw [← e2] at hput
              have HS0 : S11 N e8 Bn g' i (.slice (some ⟨g', 0, none⟩) G'.length cap') kk (bh m (b, w')) m V.drew := ⟨Hd.m, Hd.f.cell, Cd.cell, (Rd.2 0 (by omega)).1, (Rd.2 1 (by omega)).1, (Rd.2 2 (by omega)).1, (Rd.2 3 (by omega)).1, (Rd.2 4 (by omega)).1, rw' 0 (by omega), rw' 1 (by omega), rw' 2 (by omega), rw' 3 (by omega), rw' 4 (by omega), L2⟩
              have HS1 := hide (show S11 N e8 Bn g' i (.slice (some ⟨g', 0, none⟩) G'.length cap') kk (bh m (b, w')) m V1' from ⟨cell1 (by omega) Hd.m, cell1 (by omega) Hd.f.cell, cell1 (by omega) Cd.cell, (R1'.2 0 (by omega)).1, (R1'.2 1 (by omega)).1, (R1'.2 2 (by omega)).1, (R1'.2 3 (by omega)).1, (R1'.2 4 (by omega)).1, cell1 (by omega) (rw' 0 (by omega)), cell1 (by omega) (rw' 1 (by omega)), cell1 (by omega) (rw' 2 (by omega)), cell1 (by omega) (rw' 3 (by omega)), cell1 (by omega) (rw' 4 (by omega)), L3⟩)
              have li : ((i : Nat) : Int) < (G'.length : Int) := by omega
              have f7 := f1'.cell
              have f8 := f1'.frozen
              have f2c := f2.cell
              have f2f := f2.frozen
              have n0 := (R1'.2 0 (by omega)).1
              have n1 := (R1'.2 1 (by omega)).1
              have n2' := (R1'.2 2 (by omega)).1
              have n3 := (R1'.2 3 (by omega)).1
              have n4 := (R1'.2 4 (by omega)).1
              clear hH hC hM hBf hmk hKn hgb hR hkn Hd Cd Rd MP1 gr1 Kp1 Kp0 HW3 KW3 hg2 tg te8 te7 ne1 C3 M3 hcs R1' cell1 rw' L2 L3 e1 e2 f1' f2 hnk bd hs1
              gi_wp2_with fail
              refine region_round (S := S11 N e8 Bn g' i (.slice (some ⟨g', 0, none⟩) G'.length cap') kk (bh m (b, w')) m) mixed (by rintro (_ | _ | _ | _ | _ | _ | _ | _ | _ | _ | j) o ho c <;> simp at ho <;> (subst ho; simp)) (fun ⟨_, _, h⟩ => h) HS0 ?_
              intro hS0
              refine wpAnyH_take (i := 0) (oi := _) (v := .map (some (N + 1))) g10_0 (by kernel_rfl) (by kernel_rfl) (by kernel_rfl) (fun _ _ _ h => h) (Or.inl ⟨by rfl, ?_⟩) (by assumption) ?_
              · intro V hSw
                obtain ⟨q1, q2, q3, q40, q41, q42, q43, q44, q50, q51, q52, q53, q54, q6⟩ := hSw
                go_simp
              simp only [Act.put, List.setIfInBounds_toArray, List.set_cons_zero, List.set_cons_succ]
              refine wpAnyH_take (i := 1) (oi := _) (v := .agg #[.int .i64 (gt (bh m (b, w')) 0), .int .i64 (gt (bh m (b, w')) 1), .int .i64 (gt (bh m (b, w')) 2), .int .i64 (gt (bh m (b, w')) 3), .int .i64 (gt (bh m (b, w')) 4)]) g10_1 (by kernel_rfl) (by kernel_rfl) (by kernel_rfl) (fun _ _ _ h => h) (Or.inl ⟨by rfl, ?_⟩) (by assumption) ?_
              · intro V hSw
                obtain ⟨q1, q2, q3, q40, q41, q42, q43, q44, q50, q51, q52, q53, q54, q6⟩ := hSw
                go_simp
              simp only [Act.put, List.setIfInBounds_toArray, List.set_cons_zero, List.set_cons_succ]
              refine wpAnyH_take (i := 2) (oi := _) (v := .map (some (N + 1))) g10_2 (by kernel_rfl) (by kernel_rfl) (by kernel_rfl) (fun _ _ _ h => h) (Or.inl ⟨by rfl, ?_⟩) (by assumption) ?_
              · intro V hSw
                obtain ⟨q1, q2, q3, q40, q41, q42, q43, q44, q50, q51, q52, q53, q54, q6⟩ := hSw
                go_simp
              simp only [Act.put, List.setIfInBounds_toArray, List.set_cons_zero, List.set_cons_succ]
              refine wpAnyH_take (i := 3) (oi := _) (v := .slice (some ⟨g', 0, none⟩) G'.length cap') g10_3 (by kernel_rfl) (by kernel_rfl) (by kernel_rfl) (fun _ _ _ h => h) (Or.inl ⟨by rfl, ?_⟩) (by assumption) ?_
              · intro V hSw
                obtain ⟨q1, q2, q3, q40, q41, q42, q43, q44, q50, q51, q52, q53, q54, q6⟩ := hSw
                go_simp
              simp only [Act.put, List.setIfInBounds_toArray, List.set_cons_zero, List.set_cons_succ]
              refine wpAnyH_take (i := 4) (oi := _) (v := .int .i64 (i : Nat)) g10_4 (by kernel_rfl) (by kernel_rfl) (by kernel_rfl) (fun _ _ _ h => h) (Or.inl ⟨by rfl, ?_⟩) (by assumption) ?_
              · intro V hSw
                obtain ⟨q1, q2, q3, q40, q41, q42, q43, q44, q50, q51, q52, q53, q54, q6⟩ := hSw
                go_simp
              simp only [Act.put, List.setIfInBounds_toArray, List.set_cons_zero, List.set_cons_succ]
              refine wpAnyH_take (i := 5) (oi := _) (v := .pointer (some ⟨g', i * 5, none⟩)) g10_5 (by kernel_rfl) (by kernel_rfl) (by kernel_rfl) (fun _ _ _ h => h) (Or.inl ⟨by rfl, ?_⟩) (by assumption) ?_
              · intro V hSw
                obtain ⟨q1, q2, q3, q40, q41, q42, q43, q44, q50, q51, q52, q53, q54, q6⟩ := hSw
                go_simp
              simp only [Act.put, List.setIfInBounds_toArray, List.set_cons_zero, List.set_cons_succ]
              refine wpAnyH_take (i := 6) (oi := _) (v := .agg #[.int .i64 (gt m 0), .int .i64 (gt m 1), .int .i64 (gt m 2), .int .i64 (gt m 3), .int .i64 (gt m 4)]) g10_6 (by kernel_rfl) (by kernel_rfl) (by kernel_rfl) (fun _ _ _ h => h) (Or.inl ⟨by rfl, ?_⟩) (by assumption) ?_
              · intro V hSw
                obtain ⟨q1, q2, q3, q40, q41, q42, q43, q44, q50, q51, q52, q53, q54, q6⟩ := hSw
                go_simp
              simp only [Act.put, List.setIfInBounds_toArray, List.set_cons_zero, List.set_cons_succ]
              refine wpAnyH_take (i := 7) (oi := _) (v := .int .i64 kk) g10_7 (by kernel_rfl) (by kernel_rfl) (by kernel_rfl) (fun _ _ _ h => h) (Or.inl ⟨by rfl, ?_⟩) (by assumption) ?_
              · intro V hSw
                obtain ⟨q1, q2, q3, q40, q41, q42, q43, q44, q50, q51, q52, q53, q54, q6⟩ := hSw
                go_simp
              simp only [Act.put, List.setIfInBounds_toArray, List.set_cons_zero, List.set_cons_succ]
              refine wpAnyH_take (i := 8) (oi := _) (v := .int .i64 k1) g10_8 (by kernel_rfl) (by kernel_rfl) (by kernel_rfl) (fun _ _ _ h => h) (Or.inl ⟨by rfl, ?_⟩) (by assumption) ?_
              · intro V hSw
                obtain ⟨q1, q2, q3, q40, q41, q42, q43, q44, q50, q51, q52, q53, q54, q6⟩ := hSw
                go_simp
              simp only [Act.put, List.setIfInBounds_toArray, List.set_cons_zero, List.set_cons_succ]
              refine wpAnyH_ready (rs := [9]) (by kernel_rfl) (by simp) ?_
              refine AllReadyH.cons (o := _) g10_9 (fun K hK => ?_) AllReadyH.nil
              go_simp
              refine hK.out _ _ (unhide HS1) (fun _ => ?_)
              clear hK K hS0 hput
              refine wpAnyH_done (by kernel_rfl) ?_ _
              gi_wp2_with (gi_at_builtin; refine app_in rfl rfl rfl rfl happ ?_)
              exact unhide HRx
          case done =>
            rintro xs U hS ⟨G', v, hH, hC, hM, hBf, hmk, hKn, hgb⟩ hD
            have hBf' := hBf.next hmk (fun p hp hs => by
              have hpm : p ∈ fromP z m := mem_fromP.2 ⟨hp, hs⟩
              rw [← hS] at hpm
              obtain ⟨x, hx, rfl⟩ := List.mem_map.1 hpm
              exact hKn x hx)
            have hil : i < G'.length := (List.getElem?_eq_some_iff.1 hmk).1
            have hG' := hBf.few hE (show z.n < 6 by omega)
            have c8 := hC.cell
            have hDl : w.heap.size < U.heap.size := (Array.getElem?_eq_some_iff.1 hD).1
            have bU : Below U.heap.size U (U.alloc (.cells #[.int .i64 ((i : Nat) + 1 : Int)] 3)) := bnew U _
            have HFin := hide (show (∃ (e8' j : Nat) (G'' : Gd) (v' : Value), e8' = U.heap.size ∧ N + 1 + 1 + 1 + 1 + 1 ≤ e8' ∧ Boxed (U.alloc (.cells #[.int .i64 ((i : Nat) + 1 : Int)] 3)) e8' 3 (.int .i64 (j : Nat)) ∧ Hw z W st q c B0 (N + 1) (N + 1 + 1) (N + 1 + 1 + 1 + 1) (N + 1 + 1 + 1) G'' v' (U.alloc (.cells #[.int .i64 ((i : Nat) + 1 : Int)] 3)) ∧
                Mk (N + 1 + 1 + 1) (U.alloc (.cells #[.int .i64 ((i : Nat) + 1 : Int)] 3)).heap.size (mark w.heap.size :: ds) (U.alloc (.cells #[.int .i64 ((i : Nat) + 1 : Int)] 3)) ∧ Bf z G'' j ∧ j ≤ G''.length) ∧
                248833 - (intOf (((U.alloc (.cells #[.int .i64 ((i : Nat) + 1 : Int)] 3)).cell? ⟨U.heap.size, 0, none⟩).getD undef)).toNat < 248833 - (intOf ((V.cell? ⟨e8, 0, none⟩).getD undef)).toNat from by
              have hb := Boxed.new U 3 (.int .i64 ((i : Nat) + 1 : Int))
              refine ⟨⟨U.heap.size, i + 1, G', v, rfl, by omega, hb, hH.keep bU, ((hM.cons (by omega) (by omega) hD).keep bU).more (by have := bU.size; omega), hBf', hil⟩, ?_⟩
              rw [hb.cell, unhide Hc8]
              simp [intOf]
              omega)
            clear hH hC hM hBf hmk hKn hgb hBf' bU
            gi_wp2
            obtain ⟨⟨e8', j, G'', v', rfl, h2, h3, h4, h5', h6, h7⟩, hm⟩ := unhide HFin
            rw [hs7] at h5'
            exact ⟨⟨U.heap.size, j, G'', v', ⟨rfl, rfl, rfl, rfl, rfl, rfl, rfl, rfl, rfl, rfl⟩, h2, h3, h4, h5', h6, h7⟩, hm⟩
          case stop =>
            intro pre V _ h _
            exact h.elim
        | _ => exact hJ.elim
    · have HFin := hide (show Far z G st from hBf.far_end (by omega) st)
      have d6 := hH.m
      have HH := hide hH
      have HM := hide hM
      have li : ¬ ((i : Nat) : Int) < (G.length : Int) := by omega
      have li2 : decide (i < G.length) = false := by simpa using hlt
      have li3 : decide (((i : Nat) : Int) < (G.length : Int)) = false := by simpa using hlt
      clear hH hM hBf hC
      gi_wp2_with fail
      refine wpIn_wide.2 ?_
      go_quiet (fail)
      gi_wp2
      refine leave_marks (B := N + 1 + 1 + 1) (T := V.heap.size) (X := fun V => MpI V 38 (N + 1) (encG G) ∧ Below W.heap.size W V) (fun V D hD ⟨hm, hb⟩ hd => ⟨hm.block (World.putObj_heap_other (by omega)), hb.trans ⟨rfl, rfl, rfl, by simp, fun k hk => World.putObj_heap_other (by omega)⟩⟩) (fun V ⟨hm, hb⟩ => ⟨.map (some (N + 1)), ?_, N + 1, G, rfl, hm, unhide HFin, hb⟩) ds (V.drewN nq) ((unhide HM).keep (Joins.below_draws _ V nq)) ⟨(unhide HH).mp.keep (Joins.below_draws _ V nq), (unhide HH).b.trans (Joins.below_draws _ V nq)⟩
      simp [results, Try.f18, go_sem]
end Go.Proofs.Ytpdknodnlamphaa
