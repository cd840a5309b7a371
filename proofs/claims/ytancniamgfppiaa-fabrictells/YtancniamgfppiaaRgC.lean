/-
  The document's Cloth.
-/
import Derived.Test.YtancniamgfppiaaRgB
import Derived.Test.YtancniamgfppiaaRfL
namespace Go.Proofs.Ytancniamgfppiaa
open Go.RowKit

theorem u14_0 {a0 a1 a2 a3 a4 a5 a6 a7 a8 a9 a10 a11 a12 a13 : Oper} : (#[a0, a1, a2, a3, a4, a5, a6, a7, a8, a9, a10, a11, a12, a13] : Array Oper)[0]? = some a0 := rfl
theorem u14_1 {a0 a1 a2 a3 a4 a5 a6 a7 a8 a9 a10 a11 a12 a13 : Oper} : (#[a0, a1, a2, a3, a4, a5, a6, a7, a8, a9, a10, a11, a12, a13] : Array Oper)[1]? = some a1 := rfl
theorem u14_2 {a0 a1 a2 a3 a4 a5 a6 a7 a8 a9 a10 a11 a12 a13 : Oper} : (#[a0, a1, a2, a3, a4, a5, a6, a7, a8, a9, a10, a11, a12, a13] : Array Oper)[2]? = some a2 := rfl
theorem u14_3 {a0 a1 a2 a3 a4 a5 a6 a7 a8 a9 a10 a11 a12 a13 : Oper} : (#[a0, a1, a2, a3, a4, a5, a6, a7, a8, a9, a10, a11, a12, a13] : Array Oper)[3]? = some a3 := rfl
theorem u14_4 {a0 a1 a2 a3 a4 a5 a6 a7 a8 a9 a10 a11 a12 a13 : Oper} : (#[a0, a1, a2, a3, a4, a5, a6, a7, a8, a9, a10, a11, a12, a13] : Array Oper)[4]? = some a4 := rfl
theorem u14_5 {a0 a1 a2 a3 a4 a5 a6 a7 a8 a9 a10 a11 a12 a13 : Oper} : (#[a0, a1, a2, a3, a4, a5, a6, a7, a8, a9, a10, a11, a12, a13] : Array Oper)[5]? = some a5 := rfl
theorem u14_6 {a0 a1 a2 a3 a4 a5 a6 a7 a8 a9 a10 a11 a12 a13 : Oper} : (#[a0, a1, a2, a3, a4, a5, a6, a7, a8, a9, a10, a11, a12, a13] : Array Oper)[6]? = some a6 := rfl
theorem u14_7 {a0 a1 a2 a3 a4 a5 a6 a7 a8 a9 a10 a11 a12 a13 : Oper} : (#[a0, a1, a2, a3, a4, a5, a6, a7, a8, a9, a10, a11, a12, a13] : Array Oper)[7]? = some a7 := rfl
theorem u14_8 {a0 a1 a2 a3 a4 a5 a6 a7 a8 a9 a10 a11 a12 a13 : Oper} : (#[a0, a1, a2, a3, a4, a5, a6, a7, a8, a9, a10, a11, a12, a13] : Array Oper)[8]? = some a8 := rfl
theorem u14_9 {a0 a1 a2 a3 a4 a5 a6 a7 a8 a9 a10 a11 a12 a13 : Oper} : (#[a0, a1, a2, a3, a4, a5, a6, a7, a8, a9, a10, a11, a12, a13] : Array Oper)[9]? = some a9 := rfl
theorem u14_10 {a0 a1 a2 a3 a4 a5 a6 a7 a8 a9 a10 a11 a12 a13 : Oper} : (#[a0, a1, a2, a3, a4, a5, a6, a7, a8, a9, a10, a11, a12, a13] : Array Oper)[10]? = some a10 := rfl
theorem u14_11 {a0 a1 a2 a3 a4 a5 a6 a7 a8 a9 a10 a11 a12 a13 : Oper} : (#[a0, a1, a2, a3, a4, a5, a6, a7, a8, a9, a10, a11, a12, a13] : Array Oper)[11]? = some a11 := rfl
theorem u14_12 {a0 a1 a2 a3 a4 a5 a6 a7 a8 a9 a10 a11 a12 a13 : Oper} : (#[a0, a1, a2, a3, a4, a5, a6, a7, a8, a9, a10, a11, a12, a13] : Array Oper)[12]? = some a12 := rfl
theorem u14_13 {a0 a1 a2 a3 a4 a5 a6 a7 a8 a9 a10 a11 a12 a13 : Oper} : (#[a0, a1, a2, a3, a4, a5, a6, a7, a8, a9, a10, a11, a12, a13] : Array Oper)[13]? = some a13 := rfl
theorem u13_0 {a0 a1 a2 a3 a4 a5 a6 a7 a8 a9 a10 a11 a12 : Oper} : (#[a0, a1, a2, a3, a4, a5, a6, a7, a8, a9, a10, a11, a12] : Array Oper)[0]? = some a0 := rfl
theorem u13_1 {a0 a1 a2 a3 a4 a5 a6 a7 a8 a9 a10 a11 a12 : Oper} : (#[a0, a1, a2, a3, a4, a5, a6, a7, a8, a9, a10, a11, a12] : Array Oper)[1]? = some a1 := rfl
theorem u13_2 {a0 a1 a2 a3 a4 a5 a6 a7 a8 a9 a10 a11 a12 : Oper} : (#[a0, a1, a2, a3, a4, a5, a6, a7, a8, a9, a10, a11, a12] : Array Oper)[2]? = some a2 := rfl
theorem u13_3 {a0 a1 a2 a3 a4 a5 a6 a7 a8 a9 a10 a11 a12 : Oper} : (#[a0, a1, a2, a3, a4, a5, a6, a7, a8, a9, a10, a11, a12] : Array Oper)[3]? = some a3 := rfl
theorem u13_4 {a0 a1 a2 a3 a4 a5 a6 a7 a8 a9 a10 a11 a12 : Oper} : (#[a0, a1, a2, a3, a4, a5, a6, a7, a8, a9, a10, a11, a12] : Array Oper)[4]? = some a4 := rfl
theorem u13_5 {a0 a1 a2 a3 a4 a5 a6 a7 a8 a9 a10 a11 a12 : Oper} : (#[a0, a1, a2, a3, a4, a5, a6, a7, a8, a9, a10, a11, a12] : Array Oper)[5]? = some a5 := rfl
theorem u13_6 {a0 a1 a2 a3 a4 a5 a6 a7 a8 a9 a10 a11 a12 : Oper} : (#[a0, a1, a2, a3, a4, a5, a6, a7, a8, a9, a10, a11, a12] : Array Oper)[6]? = some a6 := rfl
theorem u13_7 {a0 a1 a2 a3 a4 a5 a6 a7 a8 a9 a10 a11 a12 : Oper} : (#[a0, a1, a2, a3, a4, a5, a6, a7, a8, a9, a10, a11, a12] : Array Oper)[7]? = some a7 := rfl
theorem u13_8 {a0 a1 a2 a3 a4 a5 a6 a7 a8 a9 a10 a11 a12 : Oper} : (#[a0, a1, a2, a3, a4, a5, a6, a7, a8, a9, a10, a11, a12] : Array Oper)[8]? = some a8 := rfl
theorem u13_9 {a0 a1 a2 a3 a4 a5 a6 a7 a8 a9 a10 a11 a12 : Oper} : (#[a0, a1, a2, a3, a4, a5, a6, a7, a8, a9, a10, a11, a12] : Array Oper)[9]? = some a9 := rfl
theorem u13_10 {a0 a1 a2 a3 a4 a5 a6 a7 a8 a9 a10 a11 a12 : Oper} : (#[a0, a1, a2, a3, a4, a5, a6, a7, a8, a9, a10, a11, a12] : Array Oper)[10]? = some a10 := rfl
theorem u13_11 {a0 a1 a2 a3 a4 a5 a6 a7 a8 a9 a10 a11 a12 : Oper} : (#[a0, a1, a2, a3, a4, a5, a6, a7, a8, a9, a10, a11, a12] : Array Oper)[11]? = some a11 := rfl
theorem u13_12 {a0 a1 a2 a3 a4 a5 a6 a7 a8 a9 a10 a11 a12 : Oper} : (#[a0, a1, a2, a3, a4, a5, a6, a7, a8, a9, a10, a11, a12] : Array Oper)[12]? = some a12 := rfl
set_option maxRecDepth 100000 in
set_option maxHeartbeats 4000000 in
theorem rcloth_no {W : World} {n : Int} {q : Option Addr} {l c : Nat} {er at_ : Int} (her : er ≠ 0) (h : ∀ V, Below W.heap.size W V → RunNo 18 #[.int .i64 n, .slice q l c] V er at_) : RunNo 8 #[.int .i64 n, .slice q l c] W er at_ := by
  unfold RunNo at h ⊢
  have HR := hide h
  have B0 := hide (btrans (bnew W (.cells #[.slice none 0 0, .slice none 0 0, .slice none 0 0, .slice none 0 0, .int .i64 0] 29)) (bnew _ (.cells #[.int .i64 0, .int .i64 0] 32)))
  obtain ⟨tb1, tb2, -⟩ := two_boxes W (.slice none 0 0) (.slice none 0 0) (.slice none 0 0) (.slice none 0 0) 0 0 0
  have HKb := hide tb1
  have HFb := hide tb2
  have g0 : (er != 0) = true := by simpa using her
  clear h tb1 tb2 her
  go_enter Try.func8, Try.ntmps8
  go_upto_region 1 with fail
  generalize ((W.alloc (.cells #[.slice none 0 0, .slice none 0 0, .slice none 0 0, .slice none 0 0, .int .i64 0] 29)).alloc (.cells #[.int .i64 0, .int .i64 0] 32)) = w0 at *
  obtain ⟨kb, hkb⟩ : ∃ kb, kb = W.heap.size := ⟨_, rfl⟩
  obtain ⟨fb, hfb⟩ : ∃ fb, fb = W.heap.size + 1 := ⟨_, rfl⟩
  rw [← hkb] at HKb
  rw [← hfb] at HFb
  rw [← hfb]
  rw [← hkb]
  have Hkb := hide (show W.heap.size ≤ kb ∧ W.heap.size ≤ fb ∧ kb ≠ fb by omega)
  clear hkb hfb
  go_wp2_with fail
  refine (unhide HR _ (unhide B0)).mono ?_
  rintro e w1 ⟨rfl, hb1⟩
  obtain ⟨tb1, tb2, tb3⟩ := two_boxes w1 (.slice none 0 0) (.slice none 0 0) (.slice none 0 0) (.slice none 0 0) 0 er at_
  have HF2 := hide tb2
  have S2 := hide (btrans hb1 tb3)
  clear hb1 tb1 tb2 tb3
  go_upto_region 2 with fail
  generalize ((w1.alloc (.cells #[.slice none 0 0, .slice none 0 0, .slice none 0 0, .slice none 0 0, .int .i64 0] 29)).alloc (.cells #[.int .i64 er, .int .i64 at_] 32)) = w2 at *
  generalize w1.heap.size = kb2 at *
  obtain ⟨fb2, hfb2⟩ : ∃ b, b = kb2 + 1 := ⟨_, rfl⟩
  rw [← hfb2] at HF2
  rw [← hfb2]
  clear hfb2
  have HKc := hide ((unhide HKb).keep (unhide S2))
  have HFc := hide ((unhide HFb).keep (unhide S2))
  obtain ⟨-, ⟨q0, q1⟩, -⟩ := unhide HF2
  obtain ⟨-, ⟨r0, r1, r2, r3, r4⟩, rf⟩ := unhide HKc
  have rf0 := rf 0 (by decide)
  have rf1 := rf 1 (by decide)
  have rf2 := rf 2 (by decide)
  have rf3 := rf 3 (by decide)
  have rf4 := rf 4 (by decide)
  clear rf
  obtain ⟨-, ⟨s0, s1⟩, t0, t1⟩ := unhide HFc
  have n1 : kb ≠ fb2 := (unhide HKc).1.2.ne (unhide HF2).1.2 (by decide)
  have n2 : fb2 ≠ kb := fun e => n1 e.symm
  have n3 : kb ≠ fb := (unhide Hkb).2.2
  have n4 : fb ≠ kb := fun e => n3 e.symm
  have Hend := hide (show FB (put30 (put27 w2 kb (.slice none 0 0) (.slice none 0 0) (.slice none 0 0) (.slice none 0 0) 0) fb er at_) fb er at_ ∧ KB (put30 (put27 w2 kb (.slice none 0 0) (.slice none 0 0) (.slice none 0 0) (.slice none 0 0) 0) fb er at_) kb (.slice none 0 0) (.slice none 0 0) (.slice none 0 0) (.slice none 0 0) 0 ∧ Below W.heap.size W (put30 (put27 w2 kb (.slice none 0 0) (.slice none 0 0) (.slice none 0 0) (.slice none 0 0) 0) fb er at_) from by
    have k1 := put27_kept w2 kb (.slice none 0 0) (.slice none 0 0) (.slice none 0 0) (.slice none 0 0) 0
    have k2 := put30_kept (put27 w2 kb (.slice none 0 0) (.slice none 0 0) (.slice none 0 0) (.slice none 0 0) 0) fb er at_
    have b2 := btrans (unhide B0) (unhide S2)
    exact ⟨((unhide HFc).kept k1 n4).put _ _, ((unhide HKc).put _ _ _ _ _).kept k2 n3, Kept.back (Kept.back b2 k1 b2.size (fun i e => by rw [e]; exact (unhide Hkb).1)) k2 (Nat.le_trans b2.size k1.size) (fun i e => by rw [e]; exact (unhide Hkb).2.1)⟩)
  go_wp2
  go_region
  go_wp2
  unfold put30 put27 at Hend
  generalize ((((((w2.setCell ⟨kb, 0, none⟩ (.slice none 0 0)).setCell ⟨kb, 1, none⟩ (.slice none 0 0)).setCell ⟨kb, 2, none⟩ (.slice none 0 0)).setCell ⟨kb, 3, none⟩ (.slice none 0 0)).setCell ⟨kb, 4, none⟩ (.int .i64 0)).setCell ⟨fb, 0, none⟩ (.int .i64 er)).setCell ⟨fb, 1, none⟩ (.int .i64 at_) = wz at *
  obtain ⟨hF, hKk, hBl⟩ := unhide Hend
  obtain ⟨-, ⟨z0, z1, z2, z3, z4⟩, -⟩ := hKk.keep (bdrew wz)
  obtain ⟨-, ⟨t0, t1⟩, -⟩ := hF.keep (bdrew wz)
  refine bodyPost_ret (v := .tuple #[zeroK, fltV er at_]) ?_ rfl ⟨rfl, btrans hBl (bdrew wz)⟩
  simp [results, Try.results8, go_sem, z0, z1, z2, z3, z4, t0, t1]


/-- 'make' of loops where the order is drawn -/
theorem make_loops {V : World} {op : Oper} {act : Act} {K : Act → World → Prop} {Q : Exit → Act → World → Prop} (x : Operand) (k : Nat) (hk : k ≤ 4096) (h2 : op.op = Op.makeSlice 25 x x) (h3 : act.eval x = .int .i64 k)
    (next : ∀ V', DR V' V.heap.size k (fun _ => 0) (fun _ => .slice none 0 0) → Below V.heap.size V V' → K (act.put op.dst (.slice (some ⟨V.heap.size, 0, none⟩) k k)) V') : op.wp Try.prog act V K Q := by
  obtain ⟨t, ht, ht0, ht1, ht2⟩ := info_parts info41
  obtain ⟨V', hrun, hrow, hgrow⟩ := run_make_full (P := Try.prog) V V.heap.size 25 43 t (.agg #[.int .i64 0, .slice none 0 0]) 2 Try.underlying25 ht ht0 ht1 .i64 .i64 k (by rw [ht2]; omega) (by unfold maxLen; omega) (Nat.le_refl _)
  have hnext := next V' (own_dr hrow) ((Below.refl V.heap.size V).grown hgrow (Nat.le_refl _) (fun k hk => by cases hk))
  unfold Oper.wp
  simp [execOp, h2, h3, hrun, Result.andThen]
  exact hnext
/-- what stands behind the first lines -/
def RQ (w2 : World) (nl no : Nat) (rk : Int) (ls : List Nat) (kv : Value) (wd : World) : Prop := ∃ kb lg sq sc, kv = .pointer (some ⟨kb, 0, none⟩) ∧ (w2.heap.size ≤ kb ∧ w2.heap.size ≤ lg) ∧ KB wd kb (.slice (some ⟨lg, 0, none⟩) nl nl) (.slice none 0 0) (.slice none 0 0) (.slice sq no sc) rk ∧ DR wd lg nl (fun _ => 0) (fun _ => .slice none 0 0) ∧ NR wd w2.heap.size (.slice sq no sc) ls ∧ Below w2.heap.size w2 wd
theorem map_range (l : List (List Nat)) (F : Nat → Nat) : l.map (fun x => x.map F) = (List.range l.length).map fun j => (l.getD j []).map F := by
  apply List.ext_getElem?
  intro i
  rw [List.getElem?_map, List.getElem?_map]
  rcases Nat.lt_or_ge i l.length with d | d
  · rw [List.getElem?_range d, List.getElem?_eq_getElem d]
    simp [d]
  · rw [List.getElem?_eq_none d, List.getElem?_eq_none (by simpa using d)]
    rfl
/-- a loop in its box -/
def LB (W : World) (b : Nat) (c : Int) (v : Value) : Prop := (b < W.heap.size ∧ Tg W b 43) ∧ W.cell? ⟨b, 0, none⟩ = some (.int .i64 c) ∧ W.cell? ⟨b, 1, none⟩ = some v
theorem LB.keep {W V : World} {b : Nat} {c : Int} {v : Value} (h : LB W b c v) (e : Below W.heap.size W V) : LB V b c v := ⟨⟨Nat.lt_of_lt_of_le h.1.1 e.size, h.1.2.kept (Kept.of (S := fun _ => False) e) h.1.1 id⟩, keepC e h.1.1 h.2.1, keepC e h.1.1 h.2.2⟩
theorem LB.kept {S : Nat → Prop} {W V : World} {b : Nat} {c : Int} {v : Value} (h : LB W b c v) (e : Kept S W V) (hS : ¬ S b) : LB V b c v := ⟨⟨Nat.lt_of_lt_of_le h.1.1 e.size, h.1.2.kept e h.1.1 hS⟩, e.cell h.1.1 hS h.2.1, e.cell h.1.1 hS h.2.2⟩
theorem LB.new (W : World) (c : Int) (v : Value) : LB (W.alloc (.cells #[.int .i64 c, v] 43)) W.heap.size c v := ⟨⟨by simp, Tg.new _ _ _⟩, by simp [go_sem], by simp [go_sem]⟩
/-- the loops so far -/
def LQ (w3 : World) (lg nl : Nat) (c : Nat → Int) (R : Nat → List Nat) (x : Nat) (wr : World) : Prop := ∃ hh : Nat → Value, DR wr lg nl (dcF c nl x) (dhF c nl x hh) ∧ (∀ j, j < x → NR wr 0 (hh j) (R j)) ∧ Kept (fun i => i = lg) w3 wr
theorem LQ.next {w3 wr w6 : World} {lg nl x : Nat} {c : Nat → Int} {R : Nat → List Nat} {tv : Value} (h : LQ w3 lg nl c R x wr) (hC : Cs c nl) (hx : x < nl) (hb : Below wr.heap.size wr w6) (hv : NR w6 0 tv (R x)) :
    LQ w3 lg nl c R (x + 1) ((w6.setCell ⟨lg, nm c nl x * 2, none⟩ (.int .i64 (c x))).setCell ⟨lg, nm c nl x * 2 + 1, none⟩ tv) := by
  obtain ⟨hh, hD, hN, hK⟩ := h
  have hD6 := hD.kept (Kept.of (S := fun _ => False) hb) id
  have k1 : Kept (fun i => i = lg) w6 ((w6.setCell ⟨lg, nm c nl x * 2, none⟩ (.int .i64 (c x))).setCell ⟨lg, nm c nl x * 2 + 1, none⟩ tv) := ((Kept.refl (fun i => i = lg) w6).set (b := lg) _ _ (.inl rfl)).set (b := lg) _ _ (.inl rfl)
  have n3 : ∀ i, i = lg → ¬ Tg w6 i 3 := fun i e t => tg_not (show Tg w6 i 43 from e ▸ hD6.1.2) (by decide) t
  refine ⟨putV hh x tv, ?_, fun j hj => ?_, (hK.below hb).trans k1⟩
  · have e0 : ∀ p, p < nl → dhF c nl x hh p = dhF c nl x (putV hh x tv) p := fun p _ => by
      unfold dhF putV
      by_cases d : ix c nl p < x
      · rw [if_pos d, if_pos d, if_neg (by omega)]
      · rw [if_neg d, if_neg d]
    refine (hD6.put (nm c nl x) (c x) tv).congr (fun p hp => ?_)
    have := d_next hC hx (putV hh x tv) p hp
    refine ⟨this.1, ?_⟩
    rw [← this.2]
    unfold putV
    by_cases d : p = nm c nl x
    · rw [if_pos d, if_pos d, if_pos rfl]
    · rw [if_neg d, if_neg d]
      exact e0 p hp
  · unfold putV
    by_cases d : j = x
    · rw [if_pos d, d]; exact hv.kept k1 n3
    · rw [if_neg d]; exact ((hN j (by omega)).keep hb).kept k1 n3
theorem LQ.lpr {w3 wr : World} {lg nl : Nat} {k : Kn} (h : LQ w3 lg nl (carF k.loops) (fun j => (thrF k.loops j).map (nm (carF k.loops) nl)) nl wr) (hC : Cs (carF k.loops) nl) (hn : nl = k.loops.length) : LPR wr 0 (.slice (some ⟨lg, 0, none⟩) nl nl) (reN k).loops := by
  obtain ⟨hh, hd, hN, -⟩ := h
  have hlen : (ixL (carF k.loops) nl 8).length = nl := ixL_all hC
  refine .inr ⟨lg, nl, dcF (carF k.loops) nl nl, dhF (carF k.loops) nl nl hh, ?_, ?_, Nat.zero_le _, fun p e he => ?_⟩
  · show _ = Value.slice _ ((ixL (carF k.loops) k.loops.length 8).map _).length _
    rw [List.length_map, ← hn, hlen]
  · show CR wr lg ((ixL (carF k.loops) k.loops.length 8).map _).length _ _
    rw [List.length_map, ← hn, hlen]
    exact ⟨hd.1, fun j hj => ⟨(hd.2 j hj).1, (hd.2 j hj).2.1, (hd.2 j hj).2.2.2⟩⟩
  · have he2 : ((ixL (carF k.loops) k.loops.length 8).map fun x => (carF k.loops x, (thrF k.loops x).map (nm (carF k.loops) k.loops.length)))[p]? = some e := he
    rw [← hn, List.getElem?_map] at he2
    have hp : p < nl := by
      rcases Nat.lt_or_ge p (ixL (carF k.loops) nl 8).length with d | d
      · rw [hlen] at d; exact d
      · rw [List.getElem?_eq_none d] at he2; cases he2
    rw [ix_get hC hp] at he2
    cases he2
    have hi := (nm_ix hC hp).1
    unfold dcF dhF
    rw [if_pos hi, if_pos hi]
    exact ⟨rfl, hN _ hi⟩
set_option maxRecDepth 100000 in
set_option maxHeartbeats 16000000 in
theorem rcloth_ok {N : Nat} {W : World} {q : Option Addr} {n c : Nat} {f : Nat → Sx} (h1 : 1 ≤ N) (hN : N ≤ 128) (hs : Sc W q n f) (hn : n * 40 + 4096 ≤ 140737488355328) (hall : ∀ i, i < n → erS N f i = 0) : Calls Try.prog 8 #[.int .i64 (N : Int), .slice q n c] W fun e w' => ∃ v, e = .returned (.tuple #[v, fltV 0 0]) ∧ KR w' 0 v (reN (tell N (knS N f n))) ∧ Below W.heap.size W w' := by
  have HR := hide (fun V (hV : Below W.heap.size W V) => rrun_ok (c := c) h1 hN (hs.keep hV) hn hall)
  have HGn := hide (Gn.of (Bd.kn N f n) (Iv.kn N f n) (Th.kn N f n) hN)
  have Hfr := hide (show (tell N (knS N f n)).front.length = N by simp [tell])
  have Hbk := hide (show (tell N (knS N f n)).back.length = N by simp [tell])
  clear hs hall
  generalize tell N (knS N f n) = k at *
  have B0 := hide (btrans (bnew W (.cells #[.slice none 0 0, .slice none 0 0, .slice none 0 0, .slice none 0 0, .int .i64 0] 29)) (bnew _ (.cells #[.int .i64 0, .int .i64 0] 32)))
  obtain ⟨tb1, tb2, -⟩ := two_boxes W (.slice none 0 0) (.slice none 0 0) (.slice none 0 0) (.slice none 0 0) 0 0 0
  have HZb := hide tb1
  have HFb := hide tb2
  clear tb1 tb2
  go_enter Try.func8, Try.ntmps8
  go_upto_region 1 with fail
  generalize ((W.alloc (.cells #[.slice none 0 0, .slice none 0 0, .slice none 0 0, .slice none 0 0, .int .i64 0] 29)).alloc (.cells #[.int .i64 0, .int .i64 0] 32)) = w0 at *
  obtain ⟨zb, hzb⟩ : ∃ zb, zb = W.heap.size := ⟨_, rfl⟩
  obtain ⟨fb, hfb⟩ : ∃ fb, fb = W.heap.size + 1 := ⟨_, rfl⟩
  rw [← hzb] at HZb
  rw [← hfb] at HFb
  rw [← hfb]
  rw [← hzb]
  have Hzf := hide (show W.heap.size ≤ zb ∧ W.heap.size ≤ fb ∧ zb ≠ fb by omega)
  clear hzb hfb
  go_wp2_with fail
  refine (unhide HR _ (unhide B0)).mono ?_
  rintro e w1 ⟨v, rfl, hKR, hb1⟩
  have HRK := hide hKR
  obtain ⟨v1, v2, v3, v4, rfl, p1, p2, p3, p4⟩ := hKR
  obtain ⟨a1, a2, hv1⟩ := p1.frm
  obtain ⟨a4, a5, hv2⟩ := p2.frm
  obtain ⟨a7, a8, hv3⟩ := p3.frm
  obtain ⟨d1, d2, hv4⟩ := p4.form
  subst hv1 hv2 hv3 hv4
  have HPs := hide (And.intro p1 (And.intro p2 (And.intro p3 p4)))
  clear p1 p2 p3 p4 HR
  obtain ⟨nl, hnl⟩ : ∃ n, n = k.loops.length := ⟨_, rfl⟩
  obtain ⟨nf, hnf⟩ : ∃ n, n = k.front.length := ⟨_, rfl⟩
  obtain ⟨nb, hnb⟩ : ∃ n, n = k.back.length := ⟨_, rfl⟩
  obtain ⟨no, hno⟩ : ∃ n, n = k.loose.length := ⟨_, rfl⟩
  obtain ⟨rk, hrk⟩ : ∃ r, r = k.rack := ⟨_, rfl⟩
  have Hno := hide hno.symm
  have Hnl := hide hnl
  have Hnf := hide hnf
  have Hnb := hide hnb
  have Hrk := hide hrk
  have hl : nl ≤ 4096 := by rw [hnl]; exact (unhide HGn).fit.1
  rw [← hnl, ← hnf, ← hnb, ← hno, ← hrk] at HRK
  rw [← hnl, ← hnf, ← hnb, ← hno] at HPs
  rw [← hnl, ← hnf, ← hnb, ← hno, ← hrk]
  clear hnl hnf hnb hno hrk
  obtain ⟨tb1, tb2, tb3⟩ := two_boxes w1 (.slice a1 nl a2) (.slice a4 nf a5) (.slice a7 nb a8) (.slice d1 no d2) rk 0 0
  have HSB := hide tb1
  have HGB := hide tb2
  have S2 := hide (btrans hb1 tb3)
  have HRK2 := hide ((unhide HRK).keep tb3)
  have HPs2 := hide (show LPR _ 0 (.slice a1 nl a2) k.loops ∧ LR _ 0 (.slice a4 nf a5) k.front ∧ LR _ 0 (.slice a7 nb a8) k.back ∧ NR _ 0 (.slice d1 no d2) k.loose from ⟨(unhide HPs).1.keep tb3, (unhide HPs).2.1.keep tb3, (unhide HPs).2.2.1.keep tb3, (unhide HPs).2.2.2.keep tb3⟩)
  have Hsz := hide hb1.size
  clear hb1 tb1 tb2 tb3 HRK HPs
  go_upto_region 2 with fail
  generalize ((w1.alloc (.cells #[.slice a1 nl a2, .slice a4 nf a5, .slice a7 nb a8, .slice d1 no d2, .int .i64 rk] 29)).alloc (.cells #[.int .i64 0, .int .i64 0] 32)) = w2 at *
  obtain ⟨gb, hgb⟩ : ∃ b, b = w1.heap.size + 1 := ⟨_, rfl⟩
  rw [← hgb] at HGB
  rw [← hgb]
  obtain ⟨sb, hsb⟩ : ∃ b, b = w1.heap.size := ⟨_, rfl⟩
  rw [← hsb] at HSB
  rw [← hsb]
  have Hks := hide (show zb ≠ sb ∧ fb ≠ gb by have := (unhide HZb).1.1; have := (unhide HFb).1.1; have := unhide Hsz; omega)
  clear hsb hgb
  have HZ2 := hide ((unhide HZb).keep (unhide S2))
  have HF2 := hide ((unhide HFb).keep (unhide S2))
  have HW2 := hide (btrans (unhide B0) (unhide S2))
  clear HZb HFb S2 B0
  obtain ⟨cc, hcc⟩ : ∃ c, c = carF k.loops := ⟨_, rfl⟩
  have Hcc := hide hcc
  have HCs := hide (show Cs cc nl by rw [hcc, unhide Hnl]; exact (unhide HGn).cs)
  have HRn := hide (show ∀ V, Below w2.heap.size w2 V → ∀ (B : Nat) u xs, NR V B u xs → (∀ y, y ∈ xs → y < nl) → xs.length ≤ 100000 → Calls Try.prog 20 #[.agg #[.slice a1 nl a2, .slice a4 nf a5, .slice a7 nb a8, .slice d1 no d2, .int .i64 rk], u] V fun e w' => ∃ v', e = .returned v' ∧ NR w' V.heap.size v' (xs.map (nm cc nl)) ∧ Below V.heap.size V w' from fun V hV B u xs hu hin hx => by
    have := renamed_any (u := u) (xs := xs) ((unhide HRK2).keep hV) (unhide HGn).cs (unhide HGn).fit.1 hu (by rw [← unhide Hnl]; exact hin) hx
    rw [← unhide Hnl, ← hcc] at this
    exact this)
  have HNm := hide (show ∀ V, Below w2.heap.size w2 V → ∀ x, x < nl → Calls Try.prog 21 #[.agg #[.slice a1 nl a2, .slice a4 nf a5, .slice a7 nb a8, .slice d1 no d2, .int .i64 rk], .int .i64 (x : Int)] V fun e w' => e = .returned (.int .i64 ((nm cc nl x : Nat) : Int)) ∧ Below V.heap.size V w' from fun V hV x hx => by
    have := number_any (x := x) ((unhide HRK2).keep hV) (unhide HGn).cs (unhide HGn).fit.1 (by rw [← unhide Hnl]; exact hx)
    unfold Ans at this
    rw [← unhide Hnl, ← hcc] at this
    exact this)
  obtain ⟨LS, hLS⟩ : ∃ L, L = soL (k.loose.map (nm cc nl)) := ⟨_, rfl⟩
  have HRen := hide (show ∀ V, Below w2.heap.size w2 V → Calls Try.prog 20 #[.agg #[.slice a1 nl a2, .slice a4 nf a5, .slice a7 nb a8, .slice d1 no d2, .int .i64 rk], .slice d1 no d2] V fun e w' => ∃ v', e = .returned v' ∧ NR w' V.heap.size v' (k.loose.map (nm cc nl)) ∧ Below V.heap.size V w' from fun V hV => unhide HRn V hV 0 _ _ ((unhide HPs2).2.2.2.keep hV) (fun y hy => by rw [unhide Hnl]; exact (unhide HGn).lse y hy) (unhide HGn).fit.2.1)
  have HRis := hide (show ∀ V u, NR V w2.heap.size u (k.loose.map (nm cc nl)) → Calls Try.prog 19 #[u] V fun e w' => ∃ v', e = .returned v' ∧ NR w' V.heap.size v' LS ∧ Below V.heap.size V w' from fun V u hu => by rw [hLS]; exact rising_any hu (by rw [List.length_map]; exact (unhide HGn).fit.2.1))
  have HLS := hide (show LS.length = no by rw [hLS, (soL_perm _).length_eq, List.length_map]; exact unhide Hno)
  have HLSe := hide hLS
  clear hcc hLS
  obtain ⟨-, ⟨q0, q1⟩, -⟩ := unhide HGB
  go_upto_region 4 with fail
  clear q0 q1
  go_cut [8] (fun kv wd => RQ w2 nl no rk LS kv wd)
  case first =>
    refine wp_region_noPanic ?_
    refine wp_region_held_drew (S := fun V => KB V sb (.slice a1 nl a2) (.slice a4 nf a5) (.slice a7 nb a8) (.slice d1 no d2) rk) (by kernel_rfl) ((unhide HSB).keep (bdrew _)) ?_
    intro _
    obtain ⟨wd0, hwd0⟩ : ∃ w, w = w2.drew := ⟨_, rfl⟩
    have Bd0 := hide (show Below w2.heap.size w2 wd0 from by rw [hwd0]; exact bdrew _)
    rw [← hwd0]
    clear hwd0
    have hS0 : KB wd0 sb (.slice a1 nl a2) (.slice a4 nf a5) (.slice a7 nb a8) (.slice d1 no d2) rk := (unhide HSB).keep (unhide Bd0)
    refine wpAnyH_take (i := 0) (oi := _) (v := .pointer (some ⟨sb, 4, none⟩)) u14_0 (by kernel_rfl) (by kernel_rfl) (by kernel_rfl) (fun _ _ _ h => h) (Or.inl ⟨by rfl, ?_⟩) (by assumption) ?_
    · intro V hSw
      try dsimp only at hSw
      go_simp
    simp only [Act.put, List.setIfInBounds_toArray, List.set_cons_zero, List.set_cons_succ]
    refine wpAnyH_take (i := 1) (oi := _) (v := .int .i64 rk) u14_1 (by kernel_rfl) (by kernel_rfl) (by kernel_rfl) (fun _ _ _ h => h) (Or.inl ⟨by rfl, ?_⟩) (by assumption) ?_
    · intro V hSw
      try dsimp only at hSw
      obtain ⟨-, ⟨m0, m1, m2, m3, m4⟩, -⟩ := hSw
      go_simp
    simp only [Act.put, List.setIfInBounds_toArray, List.set_cons_zero, List.set_cons_succ]
    refine wpAnyH_take (i := 2) (oi := _) (v := .agg #[.slice a1 nl a2, .slice a4 nf a5, .slice a7 nb a8, .slice d1 no d2, .int .i64 rk]) u14_2 (by kernel_rfl) (by kernel_rfl) (by kernel_rfl) (fun _ _ _ h => h) (Or.inl ⟨by rfl, ?_⟩) (by assumption) ?_
    · intro V hSw
      try dsimp only at hSw
      obtain ⟨-, ⟨m0, m1, m2, m3, m4⟩, -⟩ := hSw
      go_simp
    simp only [Act.put, List.setIfInBounds_toArray, List.set_cons_zero, List.set_cons_succ]
    refine wpAnyH_take (i := 3) (oi := _) (v := .pointer (some ⟨sb, 3, none⟩)) u14_3 (by kernel_rfl) (by kernel_rfl) (by kernel_rfl) (fun _ _ _ h => h) (Or.inl ⟨by rfl, ?_⟩) (by assumption) ?_
    · intro V hSw
      try dsimp only at hSw
      go_simp
    simp only [Act.put, List.setIfInBounds_toArray, List.set_cons_zero, List.set_cons_succ]
    refine wpAnyH_take (i := 4) (oi := _) (v := .slice d1 no d2) u14_4 (by kernel_rfl) (by kernel_rfl) (by kernel_rfl) (fun _ _ _ h => h) (Or.inl ⟨by rfl, ?_⟩) (by assumption) ?_
    · intro V hSw
      try dsimp only at hSw
      obtain ⟨-, ⟨m0, m1, m2, m3, m4⟩, -⟩ := hSw
      go_simp
    simp only [Act.put, List.setIfInBounds_toArray, List.set_cons_zero, List.set_cons_succ]
    refine wpAnyH_take (i := 7) (oi := _) (v := .pointer (some ⟨sb, 0, none⟩)) u14_7 (by kernel_rfl) (by kernel_rfl) (by kernel_rfl) (fun _ _ _ h => h) (Or.inl ⟨by rfl, ?_⟩) (by assumption) ?_
    · intro V hSw
      try dsimp only at hSw
      go_simp
    simp only [Act.put, List.setIfInBounds_toArray, List.set_cons_zero, List.set_cons_succ]
    refine wpAnyH_take (i := 8) (oi := _) (v := .slice a1 nl a2) u14_8 (by kernel_rfl) (by kernel_rfl) (by kernel_rfl) (fun _ _ _ h => h) (Or.inl ⟨by rfl, ?_⟩) (by assumption) ?_
    · intro V hSw
      try dsimp only at hSw
      obtain ⟨-, ⟨m0, m1, m2, m3, m4⟩, -⟩ := hSw
      go_simp
    simp only [Act.put, List.setIfInBounds_toArray, List.set_cons_zero, List.set_cons_succ]
    refine wpAnyH_take (i := 9) (oi := _) (v := .int .i64 (nl : Int)) u14_9 (by kernel_rfl) (by kernel_rfl) (by kernel_rfl) (fun _ _ _ h => h) (Or.inl ⟨by rfl, ?_⟩) (by assumption) ?_
    · intro V hSw
      try dsimp only at hSw
      go_simp
    simp only [Act.put, List.setIfInBounds_toArray, List.set_cons_zero, List.set_cons_succ]
    refine wpAnyH_ready (rs := [5, 10, 12]) (by kernel_rfl) (by simp) ?_
    refine (AllReadyH.cons (o := _) u14_5 (fun K hK => ?_) (AllReadyH.cons (o := _) u14_10 (fun K hK => ?_) (AllReadyH.cons (o := _) u14_12 (fun K hK => ?_) AllReadyH.nil)))
    · go_simp
      refine (unhide HRen _ (unhide Bd0)).mono ?_
      rintro e w1x ⟨rv, rfl, hov, hbo⟩
      have Bq1 := hide (btrans (unhide Bd0) hbo)
      have Rq1 := hide (hov.le (unhide Bd0).size)
      obtain ⟨rq, rc, rfl⟩ : ∃ rq rc, rv = .slice rq no rc := by obtain ⟨a, b, e⟩ := hov.form; exact ⟨a, b, by rw [e, List.length_map, unhide Hno]⟩
      clear hov hbo
      refine hK.out _ _ ((unhide HSB).keep (unhide Bq1)) (fun _ => ?_)
      clear hK K
      refine wpAnyH_ready (rs := [6, 10, 12]) (by kernel_rfl) (by simp) ?_
      refine (AllReadyH.cons (o := _) u14_6 (fun K hK => ?_) (AllReadyH.cons (o := _) u14_10 (fun K hK => ?_) (AllReadyH.cons (o := _) u14_12 (fun K hK => ?_) AllReadyH.nil)))
      · go_simp
        refine (unhide HRis _ _ (unhide Rq1)).mono ?_
        rintro e w2x ⟨sv, rfl, hov, hbo⟩
        have Bq2 := hide (btrans (unhide Bq1) hbo)
        have Sq2 := hide (hov.le (unhide Bq1).size)
        have Rq2 := hide ((unhide Rq1).keep hbo)
        obtain ⟨sq, sc, rfl⟩ : ∃ sq sc, sv = .slice sq no sc := by obtain ⟨a, b, e⟩ := hov.form; exact ⟨a, b, by rw [e, unhide HLS]⟩
        clear hov hbo
        refine hK.out _ _ ((unhide HSB).keep (unhide Bq2)) (fun _ => ?_)
        clear hK K
        refine wpAnyH_ready (rs := [10, 12]) (by kernel_rfl) (by simp) ?_
        refine (AllReadyH.cons (o := _) u14_10 (fun K hK => ?_) (AllReadyH.cons (o := _) u14_12 (fun K hK => ?_) AllReadyH.nil))
        · refine make_loops _ nl hl rfl rfl ?_
          intro w3x hdr hbo
          have Bq3 := hide (btrans (unhide Bq2) hbo)
          have Mq3 := hide hdr
          have Rq3 := hide ((unhide Rq2).keep hbo)
          have Sq3 := hide ((unhide Sq2).keep hbo)
          obtain ⟨lg, hlg⟩ : ∃ lg, lg = w2x.heap.size := ⟨_, rfl⟩
          have Hlgg := hide (show w2.heap.size ≤ lg by rw [hlg]; exact (unhide Bq2).size)
          rw [← hlg] at Mq3
          rw [← hlg]
          clear hdr hbo hlg
          refine hK.out _ _ ((unhide HSB).keep (unhide Bq3)) (fun _ => ?_)
          clear hK K
          refine wpAnyH_take (i := 11) (oi := _) (v := .agg #[.slice (some ⟨lg, 0, none⟩) nl nl, .slice none 0 0, .slice none 0 0, .slice sq no sc, .int .i64 rk]) u14_11 (by kernel_rfl) (by kernel_rfl) (by kernel_rfl) (fun _ _ _ h => h) (Or.inl ⟨by rfl, ?_⟩) (by assumption) ?_
          · intro V hSw
            try dsimp only at hSw
            go_simp
          simp only [Act.put, List.setIfInBounds_toArray, List.set_cons_zero, List.set_cons_succ]
          refine wpAnyH_ready (rs := [12]) (by kernel_rfl) (by simp) ?_
          refine AllReadyH.cons (o := _) u14_12 (fun K hK => ?_) AllReadyH.nil
          go_simp
          have Bq4 := hide (btrans (unhide Bq3) (bnew w3x (.cells #[.slice none 0 0, .slice none 0 0, .slice none 0 0, .slice none 0 0, .int .i64 0] 29)))
          have Aq4 := hide (KB.new w3x (.slice none 0 0) (.slice none 0 0) (.slice none 0 0) (.slice none 0 0) 0)
          have Rq4 := hide ((unhide Rq3).keep (bnew w3x (.cells #[.slice none 0 0, .slice none 0 0, .slice none 0 0, .slice none 0 0, .int .i64 0] 29)))
          have Sq4 := hide ((unhide Sq3).keep (bnew w3x (.cells #[.slice none 0 0, .slice none 0 0, .slice none 0 0, .slice none 0 0, .int .i64 0] 29)))
          have Mq4 := hide ((unhide Mq3).kept (Kept.of (S := fun _ => False) (bnew w3x (.cells #[.slice none 0 0, .slice none 0 0, .slice none 0 0, .slice none 0 0, .int .i64 0] 29))) id)
          obtain ⟨kb, hkb⟩ : ∃ kb, kb = w3x.heap.size := ⟨_, rfl⟩
          have Hkbb := hide (show w2.heap.size ≤ kb by rw [hkb]; exact (unhide Bq3).size)
          rw [← hkb] at Aq4
          rw [← hkb]
          clear hkb
          generalize w3x.alloc (.cells #[.slice none 0 0, .slice none 0 0, .slice none 0 0, .slice none 0 0, .int .i64 0] 29) = w4x at *
          refine hK.out _ _ ((unhide HSB).keep (unhide Bq4)) (fun _ => ?_)
          clear hK K
          refine wpAnyH_ready (rs := [13]) (by kernel_rfl) (by simp) ?_
          refine AllReadyH.cons (o := _) u14_13 (fun K hK => ?_) AllReadyH.nil
          obtain ⟨-, ⟨r0, r1, r2, r3, r4⟩, rf⟩ := unhide Aq4
          have rf0 := rf 0 (by decide)
          have rf1 := rf 1 (by decide)
          have rf2 := rf 2 (by decide)
          have rf3 := rf 3 (by decide)
          have rf4 := rf 4 (by decide)
          clear rf
          have kz := put27_kept w4x kb (.slice (some ⟨lg, 0, none⟩) nl nl) (.slice none 0 0) (.slice none 0 0) (.slice sq no sc) rk
          have tz : ∀ {u : TypeId}, (29 : TypeId) ≠ u → ∀ i, i = kb → ¬ Tg w4x i u := fun h i e t => tg_not (show Tg w4x i 29 from e ▸ (unhide Aq4).1.2) h t
          have HQ := hide (show RQ w2 nl no rk LS (.pointer (some ⟨kb, 0, none⟩)) (put27 w4x kb (.slice (some ⟨lg, 0, none⟩) nl nl) (.slice none 0 0) (.slice none 0 0) (.slice sq no sc) rk) from ⟨kb, lg, sq, sc, rfl, ⟨unhide Hkbb, unhide Hlgg⟩, (unhide Aq4).put _ _ _ _ _, (unhide Mq4).kept kz (fun e => tz (by decide) _ e (unhide Mq4).1.2), (unhide Sq4).kept kz (tz (by decide)), Kept.back (unhide Bq4) kz (unhide Bq4).size (fun i e => by rw [e]; exact unhide Hkbb)⟩)
          have hSz : KB (put27 w4x kb (.slice (some ⟨lg, 0, none⟩) nl nl) (.slice none 0 0) (.slice none 0 0) (.slice sq no sc) rk) sb (.slice a1 nl a2) (.slice a4 nf a5) (.slice a7 nb a8) (.slice d1 no d2) rk := ((unhide HSB).keep (unhide Bq4)).kept kz (fun e => by have := unhide Hkbb; have := (unhide HSB).1.1; omega)
          clear kz tz
          go_simp
          refine hK.out _ _ hSz (fun _ => ?_)
          clear hK K hSz r0 r1 r2 r3 r4 rf0 rf1 rf2 rf3 rf4
          refine wpAnyH_done (by kernel_rfl) ?_ _
          refine NoPanic.normal ?_
          unfold put27 at HQ
          generalize (((((w4x.setCell ⟨kb, 0, none⟩ (.slice (some ⟨lg, 0, none⟩) nl nl)).setCell ⟨kb, 1, none⟩ (.slice none 0 0)).setCell ⟨kb, 2, none⟩ (.slice none 0 0)).setCell ⟨kb, 3, none⟩ (.slice sq no sc)).setCell ⟨kb, 4, none⟩ (.int .i64 rk)) = wz at *
          go_wp2
          go_meet
          case rel => exact unhide HQ
        · go_simp
          have Bq5 := hide (btrans (unhide Bq2) (bnew w2x (.cells #[.slice none 0 0, .slice none 0 0, .slice none 0 0, .slice none 0 0, .int .i64 0] 29)))
          have Aq5 := hide (KB.new w2x (.slice none 0 0) (.slice none 0 0) (.slice none 0 0) (.slice none 0 0) 0)
          have Rq5 := hide ((unhide Rq2).keep (bnew w2x (.cells #[.slice none 0 0, .slice none 0 0, .slice none 0 0, .slice none 0 0, .int .i64 0] 29)))
          have Sq5 := hide ((unhide Sq2).keep (bnew w2x (.cells #[.slice none 0 0, .slice none 0 0, .slice none 0 0, .slice none 0 0, .int .i64 0] 29)))
          obtain ⟨kb, hkb⟩ : ∃ kb, kb = w2x.heap.size := ⟨_, rfl⟩
          have Hkbb := hide (show w2.heap.size ≤ kb by rw [hkb]; exact (unhide Bq2).size)
          rw [← hkb] at Aq5
          rw [← hkb]
          clear hkb
          generalize w2x.alloc (.cells #[.slice none 0 0, .slice none 0 0, .slice none 0 0, .slice none 0 0, .int .i64 0] 29) = w5x at *
          refine hK.out _ _ ((unhide HSB).keep (unhide Bq5)) (fun _ => ?_)
          clear hK K
          refine wpAnyH_ready (rs := [10]) (by kernel_rfl) (by simp) ?_
          refine AllReadyH.cons (o := _) u14_10 (fun K hK => ?_) AllReadyH.nil
          refine make_loops _ nl hl rfl rfl ?_
          intro w6x hdr hbo
          have Bq6 := hide (btrans (unhide Bq5) hbo)
          have Mq6 := hide hdr
          have Rq6 := hide ((unhide Rq5).keep hbo)
          have Sq6 := hide ((unhide Sq5).keep hbo)
          have Aq6 := hide ((unhide Aq5).keep hbo)
          obtain ⟨lg, hlg⟩ : ∃ lg, lg = w5x.heap.size := ⟨_, rfl⟩
          have Hlgg := hide (show w2.heap.size ≤ lg by rw [hlg]; exact (unhide Bq5).size)
          rw [← hlg] at Mq6
          rw [← hlg]
          clear hdr hbo hlg
          refine hK.out _ _ ((unhide HSB).keep (unhide Bq6)) (fun _ => ?_)
          clear hK K
          refine wpAnyH_take (i := 11) (oi := _) (v := .agg #[.slice (some ⟨lg, 0, none⟩) nl nl, .slice none 0 0, .slice none 0 0, .slice sq no sc, .int .i64 rk]) u14_11 (by kernel_rfl) (by kernel_rfl) (by kernel_rfl) (fun _ _ _ h => h) (Or.inl ⟨by rfl, ?_⟩) (by assumption) ?_
          · intro V hSw
            try dsimp only at hSw
            go_simp
          simp only [Act.put, List.setIfInBounds_toArray, List.set_cons_zero, List.set_cons_succ]
          refine wpAnyH_ready (rs := [13]) (by kernel_rfl) (by simp) ?_
          refine AllReadyH.cons (o := _) u14_13 (fun K hK => ?_) AllReadyH.nil
          obtain ⟨-, ⟨r0, r1, r2, r3, r4⟩, rf⟩ := unhide Aq6
          have rf0 := rf 0 (by decide)
          have rf1 := rf 1 (by decide)
          have rf2 := rf 2 (by decide)
          have rf3 := rf 3 (by decide)
          have rf4 := rf 4 (by decide)
          clear rf
          have kz := put27_kept w6x kb (.slice (some ⟨lg, 0, none⟩) nl nl) (.slice none 0 0) (.slice none 0 0) (.slice sq no sc) rk
          have tz : ∀ {u : TypeId}, (29 : TypeId) ≠ u → ∀ i, i = kb → ¬ Tg w6x i u := fun h i e t => tg_not (show Tg w6x i 29 from e ▸ (unhide Aq6).1.2) h t
          have HQ := hide (show RQ w2 nl no rk LS (.pointer (some ⟨kb, 0, none⟩)) (put27 w6x kb (.slice (some ⟨lg, 0, none⟩) nl nl) (.slice none 0 0) (.slice none 0 0) (.slice sq no sc) rk) from ⟨kb, lg, sq, sc, rfl, ⟨unhide Hkbb, unhide Hlgg⟩, (unhide Aq6).put _ _ _ _ _, (unhide Mq6).kept kz (fun e => tz (by decide) _ e (unhide Mq6).1.2), (unhide Sq6).kept kz (tz (by decide)), Kept.back (unhide Bq6) kz (unhide Bq6).size (fun i e => by rw [e]; exact unhide Hkbb)⟩)
          have hSz : KB (put27 w6x kb (.slice (some ⟨lg, 0, none⟩) nl nl) (.slice none 0 0) (.slice none 0 0) (.slice sq no sc) rk) sb (.slice a1 nl a2) (.slice a4 nf a5) (.slice a7 nb a8) (.slice d1 no d2) rk := ((unhide HSB).keep (unhide Bq6)).kept kz (fun e => by have := unhide Hkbb; have := (unhide HSB).1.1; omega)
          clear kz tz
          go_simp
          refine hK.out _ _ hSz (fun _ => ?_)
          clear hK K hSz r0 r1 r2 r3 r4 rf0 rf1 rf2 rf3 rf4
          refine wpAnyH_done (by kernel_rfl) ?_ _
          refine NoPanic.normal ?_
          unfold put27 at HQ
          generalize (((((w6x.setCell ⟨kb, 0, none⟩ (.slice (some ⟨lg, 0, none⟩) nl nl)).setCell ⟨kb, 1, none⟩ (.slice none 0 0)).setCell ⟨kb, 2, none⟩ (.slice none 0 0)).setCell ⟨kb, 3, none⟩ (.slice sq no sc)).setCell ⟨kb, 4, none⟩ (.int .i64 rk)) = wz at *
          go_wp2
          go_meet
          case rel => exact unhide HQ
      · refine make_loops _ nl hl rfl rfl ?_
        intro w7x hdr hbo
        have Bq7 := hide (btrans (unhide Bq1) hbo)
        have Mq7 := hide hdr
        have Rq7 := hide ((unhide Rq1).keep hbo)
        obtain ⟨lg, hlg⟩ : ∃ lg, lg = w1x.heap.size := ⟨_, rfl⟩
        have Hlgg := hide (show w2.heap.size ≤ lg by rw [hlg]; exact (unhide Bq1).size)
        rw [← hlg] at Mq7
        rw [← hlg]
        clear hdr hbo hlg
        refine hK.out _ _ ((unhide HSB).keep (unhide Bq7)) (fun _ => ?_)
        clear hK K
        refine wpAnyH_ready (rs := [6, 12]) (by kernel_rfl) (by simp) ?_
        refine (AllReadyH.cons (o := _) u14_6 (fun K hK => ?_) (AllReadyH.cons (o := _) u14_12 (fun K hK => ?_) AllReadyH.nil))
        · go_simp
          refine (unhide HRis _ _ (unhide Rq7)).mono ?_
          rintro e w8x ⟨sv, rfl, hov, hbo⟩
          have Bq8 := hide (btrans (unhide Bq7) hbo)
          have Sq8 := hide (hov.le (unhide Bq7).size)
          have Rq8 := hide ((unhide Rq7).keep hbo)
          have Mq8 := hide ((unhide Mq7).kept (Kept.of (S := fun _ => False) hbo) id)
          obtain ⟨sq, sc, rfl⟩ : ∃ sq sc, sv = .slice sq no sc := by obtain ⟨a, b, e⟩ := hov.form; exact ⟨a, b, by rw [e, unhide HLS]⟩
          clear hov hbo
          refine hK.out _ _ ((unhide HSB).keep (unhide Bq8)) (fun _ => ?_)
          clear hK K
          refine wpAnyH_take (i := 11) (oi := _) (v := .agg #[.slice (some ⟨lg, 0, none⟩) nl nl, .slice none 0 0, .slice none 0 0, .slice sq no sc, .int .i64 rk]) u14_11 (by kernel_rfl) (by kernel_rfl) (by kernel_rfl) (fun _ _ _ h => h) (Or.inl ⟨by rfl, ?_⟩) (by assumption) ?_
          · intro V hSw
            try dsimp only at hSw
            go_simp
          simp only [Act.put, List.setIfInBounds_toArray, List.set_cons_zero, List.set_cons_succ]
          refine wpAnyH_ready (rs := [12]) (by kernel_rfl) (by simp) ?_
          refine AllReadyH.cons (o := _) u14_12 (fun K hK => ?_) AllReadyH.nil
          go_simp
          have Bq9 := hide (btrans (unhide Bq8) (bnew w8x (.cells #[.slice none 0 0, .slice none 0 0, .slice none 0 0, .slice none 0 0, .int .i64 0] 29)))
          have Aq9 := hide (KB.new w8x (.slice none 0 0) (.slice none 0 0) (.slice none 0 0) (.slice none 0 0) 0)
          have Rq9 := hide ((unhide Rq8).keep (bnew w8x (.cells #[.slice none 0 0, .slice none 0 0, .slice none 0 0, .slice none 0 0, .int .i64 0] 29)))
          have Mq9 := hide ((unhide Mq8).kept (Kept.of (S := fun _ => False) (bnew w8x (.cells #[.slice none 0 0, .slice none 0 0, .slice none 0 0, .slice none 0 0, .int .i64 0] 29))) id)
          have Sq9 := hide ((unhide Sq8).keep (bnew w8x (.cells #[.slice none 0 0, .slice none 0 0, .slice none 0 0, .slice none 0 0, .int .i64 0] 29)))
          obtain ⟨kb, hkb⟩ : ∃ kb, kb = w8x.heap.size := ⟨_, rfl⟩
          have Hkbb := hide (show w2.heap.size ≤ kb by rw [hkb]; exact (unhide Bq8).size)
          rw [← hkb] at Aq9
          rw [← hkb]
          clear hkb
          generalize w8x.alloc (.cells #[.slice none 0 0, .slice none 0 0, .slice none 0 0, .slice none 0 0, .int .i64 0] 29) = w9x at *
          refine hK.out _ _ ((unhide HSB).keep (unhide Bq9)) (fun _ => ?_)
          clear hK K
          refine wpAnyH_ready (rs := [13]) (by kernel_rfl) (by simp) ?_
          refine AllReadyH.cons (o := _) u14_13 (fun K hK => ?_) AllReadyH.nil
          obtain ⟨-, ⟨r0, r1, r2, r3, r4⟩, rf⟩ := unhide Aq9
          have rf0 := rf 0 (by decide)
          have rf1 := rf 1 (by decide)
          have rf2 := rf 2 (by decide)
          have rf3 := rf 3 (by decide)
          have rf4 := rf 4 (by decide)
          clear rf
          have kz := put27_kept w9x kb (.slice (some ⟨lg, 0, none⟩) nl nl) (.slice none 0 0) (.slice none 0 0) (.slice sq no sc) rk
          have tz : ∀ {u : TypeId}, (29 : TypeId) ≠ u → ∀ i, i = kb → ¬ Tg w9x i u := fun h i e t => tg_not (show Tg w9x i 29 from e ▸ (unhide Aq9).1.2) h t
          have HQ := hide (show RQ w2 nl no rk LS (.pointer (some ⟨kb, 0, none⟩)) (put27 w9x kb (.slice (some ⟨lg, 0, none⟩) nl nl) (.slice none 0 0) (.slice none 0 0) (.slice sq no sc) rk) from ⟨kb, lg, sq, sc, rfl, ⟨unhide Hkbb, unhide Hlgg⟩, (unhide Aq9).put _ _ _ _ _, (unhide Mq9).kept kz (fun e => tz (by decide) _ e (unhide Mq9).1.2), (unhide Sq9).kept kz (tz (by decide)), Kept.back (unhide Bq9) kz (unhide Bq9).size (fun i e => by rw [e]; exact unhide Hkbb)⟩)
          have hSz : KB (put27 w9x kb (.slice (some ⟨lg, 0, none⟩) nl nl) (.slice none 0 0) (.slice none 0 0) (.slice sq no sc) rk) sb (.slice a1 nl a2) (.slice a4 nf a5) (.slice a7 nb a8) (.slice d1 no d2) rk := ((unhide HSB).keep (unhide Bq9)).kept kz (fun e => by have := unhide Hkbb; have := (unhide HSB).1.1; omega)
          clear kz tz
          go_simp
          refine hK.out _ _ hSz (fun _ => ?_)
          clear hK K hSz r0 r1 r2 r3 r4 rf0 rf1 rf2 rf3 rf4
          refine wpAnyH_done (by kernel_rfl) ?_ _
          refine NoPanic.normal ?_
          unfold put27 at HQ
          generalize (((((w9x.setCell ⟨kb, 0, none⟩ (.slice (some ⟨lg, 0, none⟩) nl nl)).setCell ⟨kb, 1, none⟩ (.slice none 0 0)).setCell ⟨kb, 2, none⟩ (.slice none 0 0)).setCell ⟨kb, 3, none⟩ (.slice sq no sc)).setCell ⟨kb, 4, none⟩ (.int .i64 rk)) = wz at *
          go_wp2
          go_meet
          case rel => exact unhide HQ
        · go_simp
          have Bq10 := hide (btrans (unhide Bq7) (bnew w7x (.cells #[.slice none 0 0, .slice none 0 0, .slice none 0 0, .slice none 0 0, .int .i64 0] 29)))
          have Aq10 := hide (KB.new w7x (.slice none 0 0) (.slice none 0 0) (.slice none 0 0) (.slice none 0 0) 0)
          have Rq10 := hide ((unhide Rq7).keep (bnew w7x (.cells #[.slice none 0 0, .slice none 0 0, .slice none 0 0, .slice none 0 0, .int .i64 0] 29)))
          have Mq10 := hide ((unhide Mq7).kept (Kept.of (S := fun _ => False) (bnew w7x (.cells #[.slice none 0 0, .slice none 0 0, .slice none 0 0, .slice none 0 0, .int .i64 0] 29))) id)
          obtain ⟨kb, hkb⟩ : ∃ kb, kb = w7x.heap.size := ⟨_, rfl⟩
          have Hkbb := hide (show w2.heap.size ≤ kb by rw [hkb]; exact (unhide Bq7).size)
          rw [← hkb] at Aq10
          rw [← hkb]
          clear hkb
          generalize w7x.alloc (.cells #[.slice none 0 0, .slice none 0 0, .slice none 0 0, .slice none 0 0, .int .i64 0] 29) = w10x at *
          refine hK.out _ _ ((unhide HSB).keep (unhide Bq10)) (fun _ => ?_)
          clear hK K
          refine wpAnyH_ready (rs := [6]) (by kernel_rfl) (by simp) ?_
          refine AllReadyH.cons (o := _) u14_6 (fun K hK => ?_) AllReadyH.nil
          go_simp
          refine (unhide HRis _ _ (unhide Rq10)).mono ?_
          rintro e w11x ⟨sv, rfl, hov, hbo⟩
          have Bq11 := hide (btrans (unhide Bq10) hbo)
          have Sq11 := hide (hov.le (unhide Bq10).size)
          have Rq11 := hide ((unhide Rq10).keep hbo)
          have Mq11 := hide ((unhide Mq10).kept (Kept.of (S := fun _ => False) hbo) id)
          have Aq11 := hide ((unhide Aq10).keep hbo)
          obtain ⟨sq, sc, rfl⟩ : ∃ sq sc, sv = .slice sq no sc := by obtain ⟨a, b, e⟩ := hov.form; exact ⟨a, b, by rw [e, unhide HLS]⟩
          clear hov hbo
          refine hK.out _ _ ((unhide HSB).keep (unhide Bq11)) (fun _ => ?_)
          clear hK K
          refine wpAnyH_take (i := 11) (oi := _) (v := .agg #[.slice (some ⟨lg, 0, none⟩) nl nl, .slice none 0 0, .slice none 0 0, .slice sq no sc, .int .i64 rk]) u14_11 (by kernel_rfl) (by kernel_rfl) (by kernel_rfl) (fun _ _ _ h => h) (Or.inl ⟨by rfl, ?_⟩) (by assumption) ?_
          · intro V hSw
            try dsimp only at hSw
            go_simp
          simp only [Act.put, List.setIfInBounds_toArray, List.set_cons_zero, List.set_cons_succ]
          refine wpAnyH_ready (rs := [13]) (by kernel_rfl) (by simp) ?_
          refine AllReadyH.cons (o := _) u14_13 (fun K hK => ?_) AllReadyH.nil
          obtain ⟨-, ⟨r0, r1, r2, r3, r4⟩, rf⟩ := unhide Aq11
          have rf0 := rf 0 (by decide)
          have rf1 := rf 1 (by decide)
          have rf2 := rf 2 (by decide)
          have rf3 := rf 3 (by decide)
          have rf4 := rf 4 (by decide)
          clear rf
          have kz := put27_kept w11x kb (.slice (some ⟨lg, 0, none⟩) nl nl) (.slice none 0 0) (.slice none 0 0) (.slice sq no sc) rk
          have tz : ∀ {u : TypeId}, (29 : TypeId) ≠ u → ∀ i, i = kb → ¬ Tg w11x i u := fun h i e t => tg_not (show Tg w11x i 29 from e ▸ (unhide Aq11).1.2) h t
          have HQ := hide (show RQ w2 nl no rk LS (.pointer (some ⟨kb, 0, none⟩)) (put27 w11x kb (.slice (some ⟨lg, 0, none⟩) nl nl) (.slice none 0 0) (.slice none 0 0) (.slice sq no sc) rk) from ⟨kb, lg, sq, sc, rfl, ⟨unhide Hkbb, unhide Hlgg⟩, (unhide Aq11).put _ _ _ _ _, (unhide Mq11).kept kz (fun e => tz (by decide) _ e (unhide Mq11).1.2), (unhide Sq11).kept kz (tz (by decide)), Kept.back (unhide Bq11) kz (unhide Bq11).size (fun i e => by rw [e]; exact unhide Hkbb)⟩)
          have hSz : KB (put27 w11x kb (.slice (some ⟨lg, 0, none⟩) nl nl) (.slice none 0 0) (.slice none 0 0) (.slice sq no sc) rk) sb (.slice a1 nl a2) (.slice a4 nf a5) (.slice a7 nb a8) (.slice d1 no d2) rk := ((unhide HSB).keep (unhide Bq11)).kept kz (fun e => by have := unhide Hkbb; have := (unhide HSB).1.1; omega)
          clear kz tz
          go_simp
          refine hK.out _ _ hSz (fun _ => ?_)
          clear hK K hSz r0 r1 r2 r3 r4 rf0 rf1 rf2 rf3 rf4
          refine wpAnyH_done (by kernel_rfl) ?_ _
          refine NoPanic.normal ?_
          unfold put27 at HQ
          generalize (((((w11x.setCell ⟨kb, 0, none⟩ (.slice (some ⟨lg, 0, none⟩) nl nl)).setCell ⟨kb, 1, none⟩ (.slice none 0 0)).setCell ⟨kb, 2, none⟩ (.slice none 0 0)).setCell ⟨kb, 3, none⟩ (.slice sq no sc)).setCell ⟨kb, 4, none⟩ (.int .i64 rk)) = wz at *
          go_wp2
          go_meet
          case rel => exact unhide HQ
      · go_simp
        have Bq12 := hide (btrans (unhide Bq1) (bnew w1x (.cells #[.slice none 0 0, .slice none 0 0, .slice none 0 0, .slice none 0 0, .int .i64 0] 29)))
        have Aq12 := hide (KB.new w1x (.slice none 0 0) (.slice none 0 0) (.slice none 0 0) (.slice none 0 0) 0)
        have Rq12 := hide ((unhide Rq1).keep (bnew w1x (.cells #[.slice none 0 0, .slice none 0 0, .slice none 0 0, .slice none 0 0, .int .i64 0] 29)))
        obtain ⟨kb, hkb⟩ : ∃ kb, kb = w1x.heap.size := ⟨_, rfl⟩
        have Hkbb := hide (show w2.heap.size ≤ kb by rw [hkb]; exact (unhide Bq1).size)
        rw [← hkb] at Aq12
        rw [← hkb]
        clear hkb
        generalize w1x.alloc (.cells #[.slice none 0 0, .slice none 0 0, .slice none 0 0, .slice none 0 0, .int .i64 0] 29) = w12x at *
        refine hK.out _ _ ((unhide HSB).keep (unhide Bq12)) (fun _ => ?_)
        clear hK K
        refine wpAnyH_ready (rs := [6, 10]) (by kernel_rfl) (by simp) ?_
        refine (AllReadyH.cons (o := _) u14_6 (fun K hK => ?_) (AllReadyH.cons (o := _) u14_10 (fun K hK => ?_) AllReadyH.nil))
        · go_simp
          refine (unhide HRis _ _ (unhide Rq12)).mono ?_
          rintro e w13x ⟨sv, rfl, hov, hbo⟩
          have Bq13 := hide (btrans (unhide Bq12) hbo)
          have Sq13 := hide (hov.le (unhide Bq12).size)
          have Rq13 := hide ((unhide Rq12).keep hbo)
          have Aq13 := hide ((unhide Aq12).keep hbo)
          obtain ⟨sq, sc, rfl⟩ : ∃ sq sc, sv = .slice sq no sc := by obtain ⟨a, b, e⟩ := hov.form; exact ⟨a, b, by rw [e, unhide HLS]⟩
          clear hov hbo
          refine hK.out _ _ ((unhide HSB).keep (unhide Bq13)) (fun _ => ?_)
          clear hK K
          refine wpAnyH_ready (rs := [10]) (by kernel_rfl) (by simp) ?_
          refine AllReadyH.cons (o := _) u14_10 (fun K hK => ?_) AllReadyH.nil
          refine make_loops _ nl hl rfl rfl ?_
          intro w14x hdr hbo
          have Bq14 := hide (btrans (unhide Bq13) hbo)
          have Mq14 := hide hdr
          have Rq14 := hide ((unhide Rq13).keep hbo)
          have Aq14 := hide ((unhide Aq13).keep hbo)
          have Sq14 := hide ((unhide Sq13).keep hbo)
          obtain ⟨lg, hlg⟩ : ∃ lg, lg = w13x.heap.size := ⟨_, rfl⟩
          have Hlgg := hide (show w2.heap.size ≤ lg by rw [hlg]; exact (unhide Bq13).size)
          rw [← hlg] at Mq14
          rw [← hlg]
          clear hdr hbo hlg
          refine hK.out _ _ ((unhide HSB).keep (unhide Bq14)) (fun _ => ?_)
          clear hK K
          refine wpAnyH_take (i := 11) (oi := _) (v := .agg #[.slice (some ⟨lg, 0, none⟩) nl nl, .slice none 0 0, .slice none 0 0, .slice sq no sc, .int .i64 rk]) u14_11 (by kernel_rfl) (by kernel_rfl) (by kernel_rfl) (fun _ _ _ h => h) (Or.inl ⟨by rfl, ?_⟩) (by assumption) ?_
          · intro V hSw
            try dsimp only at hSw
            go_simp
          simp only [Act.put, List.setIfInBounds_toArray, List.set_cons_zero, List.set_cons_succ]
          refine wpAnyH_ready (rs := [13]) (by kernel_rfl) (by simp) ?_
          refine AllReadyH.cons (o := _) u14_13 (fun K hK => ?_) AllReadyH.nil
          obtain ⟨-, ⟨r0, r1, r2, r3, r4⟩, rf⟩ := unhide Aq14
          have rf0 := rf 0 (by decide)
          have rf1 := rf 1 (by decide)
          have rf2 := rf 2 (by decide)
          have rf3 := rf 3 (by decide)
          have rf4 := rf 4 (by decide)
          clear rf
          have kz := put27_kept w14x kb (.slice (some ⟨lg, 0, none⟩) nl nl) (.slice none 0 0) (.slice none 0 0) (.slice sq no sc) rk
          have tz : ∀ {u : TypeId}, (29 : TypeId) ≠ u → ∀ i, i = kb → ¬ Tg w14x i u := fun h i e t => tg_not (show Tg w14x i 29 from e ▸ (unhide Aq14).1.2) h t
          have HQ := hide (show RQ w2 nl no rk LS (.pointer (some ⟨kb, 0, none⟩)) (put27 w14x kb (.slice (some ⟨lg, 0, none⟩) nl nl) (.slice none 0 0) (.slice none 0 0) (.slice sq no sc) rk) from ⟨kb, lg, sq, sc, rfl, ⟨unhide Hkbb, unhide Hlgg⟩, (unhide Aq14).put _ _ _ _ _, (unhide Mq14).kept kz (fun e => tz (by decide) _ e (unhide Mq14).1.2), (unhide Sq14).kept kz (tz (by decide)), Kept.back (unhide Bq14) kz (unhide Bq14).size (fun i e => by rw [e]; exact unhide Hkbb)⟩)
          have hSz : KB (put27 w14x kb (.slice (some ⟨lg, 0, none⟩) nl nl) (.slice none 0 0) (.slice none 0 0) (.slice sq no sc) rk) sb (.slice a1 nl a2) (.slice a4 nf a5) (.slice a7 nb a8) (.slice d1 no d2) rk := ((unhide HSB).keep (unhide Bq14)).kept kz (fun e => by have := unhide Hkbb; have := (unhide HSB).1.1; omega)
          clear kz tz
          go_simp
          refine hK.out _ _ hSz (fun _ => ?_)
          clear hK K hSz r0 r1 r2 r3 r4 rf0 rf1 rf2 rf3 rf4
          refine wpAnyH_done (by kernel_rfl) ?_ _
          refine NoPanic.normal ?_
          unfold put27 at HQ
          generalize (((((w14x.setCell ⟨kb, 0, none⟩ (.slice (some ⟨lg, 0, none⟩) nl nl)).setCell ⟨kb, 1, none⟩ (.slice none 0 0)).setCell ⟨kb, 2, none⟩ (.slice none 0 0)).setCell ⟨kb, 3, none⟩ (.slice sq no sc)).setCell ⟨kb, 4, none⟩ (.int .i64 rk)) = wz at *
          go_wp2
          go_meet
          case rel => exact unhide HQ
        · refine make_loops _ nl hl rfl rfl ?_
          intro w15x hdr hbo
          have Bq15 := hide (btrans (unhide Bq12) hbo)
          have Mq15 := hide hdr
          have Rq15 := hide ((unhide Rq12).keep hbo)
          have Aq15 := hide ((unhide Aq12).keep hbo)
          obtain ⟨lg, hlg⟩ : ∃ lg, lg = w12x.heap.size := ⟨_, rfl⟩
          have Hlgg := hide (show w2.heap.size ≤ lg by rw [hlg]; exact (unhide Bq12).size)
          rw [← hlg] at Mq15
          rw [← hlg]
          clear hdr hbo hlg
          refine hK.out _ _ ((unhide HSB).keep (unhide Bq15)) (fun _ => ?_)
          clear hK K
          refine wpAnyH_ready (rs := [6]) (by kernel_rfl) (by simp) ?_
          refine AllReadyH.cons (o := _) u14_6 (fun K hK => ?_) AllReadyH.nil
          go_simp
          refine (unhide HRis _ _ (unhide Rq15)).mono ?_
          rintro e w16x ⟨sv, rfl, hov, hbo⟩
          have Bq16 := hide (btrans (unhide Bq15) hbo)
          have Sq16 := hide (hov.le (unhide Bq15).size)
          have Rq16 := hide ((unhide Rq15).keep hbo)
          have Aq16 := hide ((unhide Aq15).keep hbo)
          have Mq16 := hide ((unhide Mq15).kept (Kept.of (S := fun _ => False) hbo) id)
          obtain ⟨sq, sc, rfl⟩ : ∃ sq sc, sv = .slice sq no sc := by obtain ⟨a, b, e⟩ := hov.form; exact ⟨a, b, by rw [e, unhide HLS]⟩
          clear hov hbo
          refine hK.out _ _ ((unhide HSB).keep (unhide Bq16)) (fun _ => ?_)
          clear hK K
          refine wpAnyH_take (i := 11) (oi := _) (v := .agg #[.slice (some ⟨lg, 0, none⟩) nl nl, .slice none 0 0, .slice none 0 0, .slice sq no sc, .int .i64 rk]) u14_11 (by kernel_rfl) (by kernel_rfl) (by kernel_rfl) (fun _ _ _ h => h) (Or.inl ⟨by rfl, ?_⟩) (by assumption) ?_
          · intro V hSw
            try dsimp only at hSw
            go_simp
          simp only [Act.put, List.setIfInBounds_toArray, List.set_cons_zero, List.set_cons_succ]
          refine wpAnyH_ready (rs := [13]) (by kernel_rfl) (by simp) ?_
          refine AllReadyH.cons (o := _) u14_13 (fun K hK => ?_) AllReadyH.nil
          obtain ⟨-, ⟨r0, r1, r2, r3, r4⟩, rf⟩ := unhide Aq16
          have rf0 := rf 0 (by decide)
          have rf1 := rf 1 (by decide)
          have rf2 := rf 2 (by decide)
          have rf3 := rf 3 (by decide)
          have rf4 := rf 4 (by decide)
          clear rf
          have kz := put27_kept w16x kb (.slice (some ⟨lg, 0, none⟩) nl nl) (.slice none 0 0) (.slice none 0 0) (.slice sq no sc) rk
          have tz : ∀ {u : TypeId}, (29 : TypeId) ≠ u → ∀ i, i = kb → ¬ Tg w16x i u := fun h i e t => tg_not (show Tg w16x i 29 from e ▸ (unhide Aq16).1.2) h t
          have HQ := hide (show RQ w2 nl no rk LS (.pointer (some ⟨kb, 0, none⟩)) (put27 w16x kb (.slice (some ⟨lg, 0, none⟩) nl nl) (.slice none 0 0) (.slice none 0 0) (.slice sq no sc) rk) from ⟨kb, lg, sq, sc, rfl, ⟨unhide Hkbb, unhide Hlgg⟩, (unhide Aq16).put _ _ _ _ _, (unhide Mq16).kept kz (fun e => tz (by decide) _ e (unhide Mq16).1.2), (unhide Sq16).kept kz (tz (by decide)), Kept.back (unhide Bq16) kz (unhide Bq16).size (fun i e => by rw [e]; exact unhide Hkbb)⟩)
          have hSz : KB (put27 w16x kb (.slice (some ⟨lg, 0, none⟩) nl nl) (.slice none 0 0) (.slice none 0 0) (.slice sq no sc) rk) sb (.slice a1 nl a2) (.slice a4 nf a5) (.slice a7 nb a8) (.slice d1 no d2) rk := ((unhide HSB).keep (unhide Bq16)).kept kz (fun e => by have := unhide Hkbb; have := (unhide HSB).1.1; omega)
          clear kz tz
          go_simp
          refine hK.out _ _ hSz (fun _ => ?_)
          clear hK K hSz r0 r1 r2 r3 r4 rf0 rf1 rf2 rf3 rf4
          refine wpAnyH_done (by kernel_rfl) ?_ _
          refine NoPanic.normal ?_
          unfold put27 at HQ
          generalize (((((w16x.setCell ⟨kb, 0, none⟩ (.slice (some ⟨lg, 0, none⟩) nl nl)).setCell ⟨kb, 1, none⟩ (.slice none 0 0)).setCell ⟨kb, 2, none⟩ (.slice none 0 0)).setCell ⟨kb, 3, none⟩ (.slice sq no sc)).setCell ⟨kb, 4, none⟩ (.int .i64 rk)) = wz at *
          go_wp2
          go_meet
          case rel => exact unhide HQ
    · refine make_loops _ nl hl rfl rfl ?_
      intro w17x hdr hbo
      have Bq17 := hide (btrans (unhide Bd0) hbo)
      have Mq17 := hide hdr
      obtain ⟨lg, hlg⟩ : ∃ lg, lg = wd0.heap.size := ⟨_, rfl⟩
      have Hlgg := hide (show w2.heap.size ≤ lg by rw [hlg]; exact (unhide Bd0).size)
      rw [← hlg] at Mq17
      rw [← hlg]
      clear hdr hbo hlg
      refine hK.out _ _ ((unhide HSB).keep (unhide Bq17)) (fun _ => ?_)
      clear hK K
      refine wpAnyH_ready (rs := [5, 12]) (by kernel_rfl) (by simp) ?_
      refine (AllReadyH.cons (o := _) u14_5 (fun K hK => ?_) (AllReadyH.cons (o := _) u14_12 (fun K hK => ?_) AllReadyH.nil))
      · go_simp
        refine (unhide HRen _ (unhide Bq17)).mono ?_
        rintro e w18x ⟨rv, rfl, hov, hbo⟩
        have Bq18 := hide (btrans (unhide Bq17) hbo)
        have Rq18 := hide (hov.le (unhide Bq17).size)
        have Mq18 := hide ((unhide Mq17).kept (Kept.of (S := fun _ => False) hbo) id)
        obtain ⟨rq, rc, rfl⟩ : ∃ rq rc, rv = .slice rq no rc := by obtain ⟨a, b, e⟩ := hov.form; exact ⟨a, b, by rw [e, List.length_map, unhide Hno]⟩
        clear hov hbo
        refine hK.out _ _ ((unhide HSB).keep (unhide Bq18)) (fun _ => ?_)
        clear hK K
        refine wpAnyH_ready (rs := [6, 12]) (by kernel_rfl) (by simp) ?_
        refine (AllReadyH.cons (o := _) u14_6 (fun K hK => ?_) (AllReadyH.cons (o := _) u14_12 (fun K hK => ?_) AllReadyH.nil))
        · go_simp
          refine (unhide HRis _ _ (unhide Rq18)).mono ?_
          rintro e w19x ⟨sv, rfl, hov, hbo⟩
          have Bq19 := hide (btrans (unhide Bq18) hbo)
          have Sq19 := hide (hov.le (unhide Bq18).size)
          have Mq19 := hide ((unhide Mq18).kept (Kept.of (S := fun _ => False) hbo) id)
          have Rq19 := hide ((unhide Rq18).keep hbo)
          obtain ⟨sq, sc, rfl⟩ : ∃ sq sc, sv = .slice sq no sc := by obtain ⟨a, b, e⟩ := hov.form; exact ⟨a, b, by rw [e, unhide HLS]⟩
          clear hov hbo
          refine hK.out _ _ ((unhide HSB).keep (unhide Bq19)) (fun _ => ?_)
          clear hK K
          refine wpAnyH_take (i := 11) (oi := _) (v := .agg #[.slice (some ⟨lg, 0, none⟩) nl nl, .slice none 0 0, .slice none 0 0, .slice sq no sc, .int .i64 rk]) u14_11 (by kernel_rfl) (by kernel_rfl) (by kernel_rfl) (fun _ _ _ h => h) (Or.inl ⟨by rfl, ?_⟩) (by assumption) ?_
          · intro V hSw
            try dsimp only at hSw
            go_simp
          simp only [Act.put, List.setIfInBounds_toArray, List.set_cons_zero, List.set_cons_succ]
          refine wpAnyH_ready (rs := [12]) (by kernel_rfl) (by simp) ?_
          refine AllReadyH.cons (o := _) u14_12 (fun K hK => ?_) AllReadyH.nil
          go_simp
          have Bq20 := hide (btrans (unhide Bq19) (bnew w19x (.cells #[.slice none 0 0, .slice none 0 0, .slice none 0 0, .slice none 0 0, .int .i64 0] 29)))
          have Aq20 := hide (KB.new w19x (.slice none 0 0) (.slice none 0 0) (.slice none 0 0) (.slice none 0 0) 0)
          have Mq20 := hide ((unhide Mq19).kept (Kept.of (S := fun _ => False) (bnew w19x (.cells #[.slice none 0 0, .slice none 0 0, .slice none 0 0, .slice none 0 0, .int .i64 0] 29))) id)
          have Rq20 := hide ((unhide Rq19).keep (bnew w19x (.cells #[.slice none 0 0, .slice none 0 0, .slice none 0 0, .slice none 0 0, .int .i64 0] 29)))
          have Sq20 := hide ((unhide Sq19).keep (bnew w19x (.cells #[.slice none 0 0, .slice none 0 0, .slice none 0 0, .slice none 0 0, .int .i64 0] 29)))
          obtain ⟨kb, hkb⟩ : ∃ kb, kb = w19x.heap.size := ⟨_, rfl⟩
          have Hkbb := hide (show w2.heap.size ≤ kb by rw [hkb]; exact (unhide Bq19).size)
          rw [← hkb] at Aq20
          rw [← hkb]
          clear hkb
          generalize w19x.alloc (.cells #[.slice none 0 0, .slice none 0 0, .slice none 0 0, .slice none 0 0, .int .i64 0] 29) = w20x at *
          refine hK.out _ _ ((unhide HSB).keep (unhide Bq20)) (fun _ => ?_)
          clear hK K
          refine wpAnyH_ready (rs := [13]) (by kernel_rfl) (by simp) ?_
          refine AllReadyH.cons (o := _) u14_13 (fun K hK => ?_) AllReadyH.nil
          obtain ⟨-, ⟨r0, r1, r2, r3, r4⟩, rf⟩ := unhide Aq20
          have rf0 := rf 0 (by decide)
          have rf1 := rf 1 (by decide)
          have rf2 := rf 2 (by decide)
          have rf3 := rf 3 (by decide)
          have rf4 := rf 4 (by decide)
          clear rf
          have kz := put27_kept w20x kb (.slice (some ⟨lg, 0, none⟩) nl nl) (.slice none 0 0) (.slice none 0 0) (.slice sq no sc) rk
          have tz : ∀ {u : TypeId}, (29 : TypeId) ≠ u → ∀ i, i = kb → ¬ Tg w20x i u := fun h i e t => tg_not (show Tg w20x i 29 from e ▸ (unhide Aq20).1.2) h t
          have HQ := hide (show RQ w2 nl no rk LS (.pointer (some ⟨kb, 0, none⟩)) (put27 w20x kb (.slice (some ⟨lg, 0, none⟩) nl nl) (.slice none 0 0) (.slice none 0 0) (.slice sq no sc) rk) from ⟨kb, lg, sq, sc, rfl, ⟨unhide Hkbb, unhide Hlgg⟩, (unhide Aq20).put _ _ _ _ _, (unhide Mq20).kept kz (fun e => tz (by decide) _ e (unhide Mq20).1.2), (unhide Sq20).kept kz (tz (by decide)), Kept.back (unhide Bq20) kz (unhide Bq20).size (fun i e => by rw [e]; exact unhide Hkbb)⟩)
          have hSz : KB (put27 w20x kb (.slice (some ⟨lg, 0, none⟩) nl nl) (.slice none 0 0) (.slice none 0 0) (.slice sq no sc) rk) sb (.slice a1 nl a2) (.slice a4 nf a5) (.slice a7 nb a8) (.slice d1 no d2) rk := ((unhide HSB).keep (unhide Bq20)).kept kz (fun e => by have := unhide Hkbb; have := (unhide HSB).1.1; omega)
          clear kz tz
          go_simp
          refine hK.out _ _ hSz (fun _ => ?_)
          clear hK K hSz r0 r1 r2 r3 r4 rf0 rf1 rf2 rf3 rf4
          refine wpAnyH_done (by kernel_rfl) ?_ _
          refine NoPanic.normal ?_
          unfold put27 at HQ
          generalize (((((w20x.setCell ⟨kb, 0, none⟩ (.slice (some ⟨lg, 0, none⟩) nl nl)).setCell ⟨kb, 1, none⟩ (.slice none 0 0)).setCell ⟨kb, 2, none⟩ (.slice none 0 0)).setCell ⟨kb, 3, none⟩ (.slice sq no sc)).setCell ⟨kb, 4, none⟩ (.int .i64 rk)) = wz at *
          go_wp2
          go_meet
          case rel => exact unhide HQ
        · go_simp
          have Bq21 := hide (btrans (unhide Bq18) (bnew w18x (.cells #[.slice none 0 0, .slice none 0 0, .slice none 0 0, .slice none 0 0, .int .i64 0] 29)))
          have Aq21 := hide (KB.new w18x (.slice none 0 0) (.slice none 0 0) (.slice none 0 0) (.slice none 0 0) 0)
          have Mq21 := hide ((unhide Mq18).kept (Kept.of (S := fun _ => False) (bnew w18x (.cells #[.slice none 0 0, .slice none 0 0, .slice none 0 0, .slice none 0 0, .int .i64 0] 29))) id)
          have Rq21 := hide ((unhide Rq18).keep (bnew w18x (.cells #[.slice none 0 0, .slice none 0 0, .slice none 0 0, .slice none 0 0, .int .i64 0] 29)))
          obtain ⟨kb, hkb⟩ : ∃ kb, kb = w18x.heap.size := ⟨_, rfl⟩
          have Hkbb := hide (show w2.heap.size ≤ kb by rw [hkb]; exact (unhide Bq18).size)
          rw [← hkb] at Aq21
          rw [← hkb]
          clear hkb
          generalize w18x.alloc (.cells #[.slice none 0 0, .slice none 0 0, .slice none 0 0, .slice none 0 0, .int .i64 0] 29) = w21x at *
          refine hK.out _ _ ((unhide HSB).keep (unhide Bq21)) (fun _ => ?_)
          clear hK K
          refine wpAnyH_ready (rs := [6]) (by kernel_rfl) (by simp) ?_
          refine AllReadyH.cons (o := _) u14_6 (fun K hK => ?_) AllReadyH.nil
          go_simp
          refine (unhide HRis _ _ (unhide Rq21)).mono ?_
          rintro e w22x ⟨sv, rfl, hov, hbo⟩
          have Bq22 := hide (btrans (unhide Bq21) hbo)
          have Sq22 := hide (hov.le (unhide Bq21).size)
          have Mq22 := hide ((unhide Mq21).kept (Kept.of (S := fun _ => False) hbo) id)
          have Rq22 := hide ((unhide Rq21).keep hbo)
          have Aq22 := hide ((unhide Aq21).keep hbo)
          obtain ⟨sq, sc, rfl⟩ : ∃ sq sc, sv = .slice sq no sc := by obtain ⟨a, b, e⟩ := hov.form; exact ⟨a, b, by rw [e, unhide HLS]⟩
          clear hov hbo
          refine hK.out _ _ ((unhide HSB).keep (unhide Bq22)) (fun _ => ?_)
          clear hK K
          refine wpAnyH_take (i := 11) (oi := _) (v := .agg #[.slice (some ⟨lg, 0, none⟩) nl nl, .slice none 0 0, .slice none 0 0, .slice sq no sc, .int .i64 rk]) u14_11 (by kernel_rfl) (by kernel_rfl) (by kernel_rfl) (fun _ _ _ h => h) (Or.inl ⟨by rfl, ?_⟩) (by assumption) ?_
          · intro V hSw
            try dsimp only at hSw
            go_simp
          simp only [Act.put, List.setIfInBounds_toArray, List.set_cons_zero, List.set_cons_succ]
          refine wpAnyH_ready (rs := [13]) (by kernel_rfl) (by simp) ?_
          refine AllReadyH.cons (o := _) u14_13 (fun K hK => ?_) AllReadyH.nil
          obtain ⟨-, ⟨r0, r1, r2, r3, r4⟩, rf⟩ := unhide Aq22
          have rf0 := rf 0 (by decide)
          have rf1 := rf 1 (by decide)
          have rf2 := rf 2 (by decide)
          have rf3 := rf 3 (by decide)
          have rf4 := rf 4 (by decide)
          clear rf
          have kz := put27_kept w22x kb (.slice (some ⟨lg, 0, none⟩) nl nl) (.slice none 0 0) (.slice none 0 0) (.slice sq no sc) rk
          have tz : ∀ {u : TypeId}, (29 : TypeId) ≠ u → ∀ i, i = kb → ¬ Tg w22x i u := fun h i e t => tg_not (show Tg w22x i 29 from e ▸ (unhide Aq22).1.2) h t
          have HQ := hide (show RQ w2 nl no rk LS (.pointer (some ⟨kb, 0, none⟩)) (put27 w22x kb (.slice (some ⟨lg, 0, none⟩) nl nl) (.slice none 0 0) (.slice none 0 0) (.slice sq no sc) rk) from ⟨kb, lg, sq, sc, rfl, ⟨unhide Hkbb, unhide Hlgg⟩, (unhide Aq22).put _ _ _ _ _, (unhide Mq22).kept kz (fun e => tz (by decide) _ e (unhide Mq22).1.2), (unhide Sq22).kept kz (tz (by decide)), Kept.back (unhide Bq22) kz (unhide Bq22).size (fun i e => by rw [e]; exact unhide Hkbb)⟩)
          have hSz : KB (put27 w22x kb (.slice (some ⟨lg, 0, none⟩) nl nl) (.slice none 0 0) (.slice none 0 0) (.slice sq no sc) rk) sb (.slice a1 nl a2) (.slice a4 nf a5) (.slice a7 nb a8) (.slice d1 no d2) rk := ((unhide HSB).keep (unhide Bq22)).kept kz (fun e => by have := unhide Hkbb; have := (unhide HSB).1.1; omega)
          clear kz tz
          go_simp
          refine hK.out _ _ hSz (fun _ => ?_)
          clear hK K hSz r0 r1 r2 r3 r4 rf0 rf1 rf2 rf3 rf4
          refine wpAnyH_done (by kernel_rfl) ?_ _
          refine NoPanic.normal ?_
          unfold put27 at HQ
          generalize (((((w22x.setCell ⟨kb, 0, none⟩ (.slice (some ⟨lg, 0, none⟩) nl nl)).setCell ⟨kb, 1, none⟩ (.slice none 0 0)).setCell ⟨kb, 2, none⟩ (.slice none 0 0)).setCell ⟨kb, 3, none⟩ (.slice sq no sc)).setCell ⟨kb, 4, none⟩ (.int .i64 rk)) = wz at *
          go_wp2
          go_meet
          case rel => exact unhide HQ
      · go_simp
        have Bq23 := hide (btrans (unhide Bq17) (bnew w17x (.cells #[.slice none 0 0, .slice none 0 0, .slice none 0 0, .slice none 0 0, .int .i64 0] 29)))
        have Aq23 := hide (KB.new w17x (.slice none 0 0) (.slice none 0 0) (.slice none 0 0) (.slice none 0 0) 0)
        have Mq23 := hide ((unhide Mq17).kept (Kept.of (S := fun _ => False) (bnew w17x (.cells #[.slice none 0 0, .slice none 0 0, .slice none 0 0, .slice none 0 0, .int .i64 0] 29))) id)
        obtain ⟨kb, hkb⟩ : ∃ kb, kb = w17x.heap.size := ⟨_, rfl⟩
        have Hkbb := hide (show w2.heap.size ≤ kb by rw [hkb]; exact (unhide Bq17).size)
        rw [← hkb] at Aq23
        rw [← hkb]
        clear hkb
        generalize w17x.alloc (.cells #[.slice none 0 0, .slice none 0 0, .slice none 0 0, .slice none 0 0, .int .i64 0] 29) = w23x at *
        refine hK.out _ _ ((unhide HSB).keep (unhide Bq23)) (fun _ => ?_)
        clear hK K
        refine wpAnyH_ready (rs := [5]) (by kernel_rfl) (by simp) ?_
        refine AllReadyH.cons (o := _) u14_5 (fun K hK => ?_) AllReadyH.nil
        go_simp
        refine (unhide HRen _ (unhide Bq23)).mono ?_
        rintro e w24x ⟨rv, rfl, hov, hbo⟩
        have Bq24 := hide (btrans (unhide Bq23) hbo)
        have Rq24 := hide (hov.le (unhide Bq23).size)
        have Mq24 := hide ((unhide Mq23).kept (Kept.of (S := fun _ => False) hbo) id)
        have Aq24 := hide ((unhide Aq23).keep hbo)
        obtain ⟨rq, rc, rfl⟩ : ∃ rq rc, rv = .slice rq no rc := by obtain ⟨a, b, e⟩ := hov.form; exact ⟨a, b, by rw [e, List.length_map, unhide Hno]⟩
        clear hov hbo
        refine hK.out _ _ ((unhide HSB).keep (unhide Bq24)) (fun _ => ?_)
        clear hK K
        refine wpAnyH_ready (rs := [6]) (by kernel_rfl) (by simp) ?_
        refine AllReadyH.cons (o := _) u14_6 (fun K hK => ?_) AllReadyH.nil
        go_simp
        refine (unhide HRis _ _ (unhide Rq24)).mono ?_
        rintro e w25x ⟨sv, rfl, hov, hbo⟩
        have Bq25 := hide (btrans (unhide Bq24) hbo)
        have Sq25 := hide (hov.le (unhide Bq24).size)
        have Mq25 := hide ((unhide Mq24).kept (Kept.of (S := fun _ => False) hbo) id)
        have Aq25 := hide ((unhide Aq24).keep hbo)
        have Rq25 := hide ((unhide Rq24).keep hbo)
        obtain ⟨sq, sc, rfl⟩ : ∃ sq sc, sv = .slice sq no sc := by obtain ⟨a, b, e⟩ := hov.form; exact ⟨a, b, by rw [e, unhide HLS]⟩
        clear hov hbo
        refine hK.out _ _ ((unhide HSB).keep (unhide Bq25)) (fun _ => ?_)
        clear hK K
        refine wpAnyH_take (i := 11) (oi := _) (v := .agg #[.slice (some ⟨lg, 0, none⟩) nl nl, .slice none 0 0, .slice none 0 0, .slice sq no sc, .int .i64 rk]) u14_11 (by kernel_rfl) (by kernel_rfl) (by kernel_rfl) (fun _ _ _ h => h) (Or.inl ⟨by rfl, ?_⟩) (by assumption) ?_
        · intro V hSw
          try dsimp only at hSw
          go_simp
        simp only [Act.put, List.setIfInBounds_toArray, List.set_cons_zero, List.set_cons_succ]
        refine wpAnyH_ready (rs := [13]) (by kernel_rfl) (by simp) ?_
        refine AllReadyH.cons (o := _) u14_13 (fun K hK => ?_) AllReadyH.nil
        obtain ⟨-, ⟨r0, r1, r2, r3, r4⟩, rf⟩ := unhide Aq25
        have rf0 := rf 0 (by decide)
        have rf1 := rf 1 (by decide)
        have rf2 := rf 2 (by decide)
        have rf3 := rf 3 (by decide)
        have rf4 := rf 4 (by decide)
        clear rf
        have kz := put27_kept w25x kb (.slice (some ⟨lg, 0, none⟩) nl nl) (.slice none 0 0) (.slice none 0 0) (.slice sq no sc) rk
        have tz : ∀ {u : TypeId}, (29 : TypeId) ≠ u → ∀ i, i = kb → ¬ Tg w25x i u := fun h i e t => tg_not (show Tg w25x i 29 from e ▸ (unhide Aq25).1.2) h t
        have HQ := hide (show RQ w2 nl no rk LS (.pointer (some ⟨kb, 0, none⟩)) (put27 w25x kb (.slice (some ⟨lg, 0, none⟩) nl nl) (.slice none 0 0) (.slice none 0 0) (.slice sq no sc) rk) from ⟨kb, lg, sq, sc, rfl, ⟨unhide Hkbb, unhide Hlgg⟩, (unhide Aq25).put _ _ _ _ _, (unhide Mq25).kept kz (fun e => tz (by decide) _ e (unhide Mq25).1.2), (unhide Sq25).kept kz (tz (by decide)), Kept.back (unhide Bq25) kz (unhide Bq25).size (fun i e => by rw [e]; exact unhide Hkbb)⟩)
        have hSz : KB (put27 w25x kb (.slice (some ⟨lg, 0, none⟩) nl nl) (.slice none 0 0) (.slice none 0 0) (.slice sq no sc) rk) sb (.slice a1 nl a2) (.slice a4 nf a5) (.slice a7 nb a8) (.slice d1 no d2) rk := ((unhide HSB).keep (unhide Bq25)).kept kz (fun e => by have := unhide Hkbb; have := (unhide HSB).1.1; omega)
        clear kz tz
        go_simp
        refine hK.out _ _ hSz (fun _ => ?_)
        clear hK K hSz r0 r1 r2 r3 r4 rf0 rf1 rf2 rf3 rf4
        refine wpAnyH_done (by kernel_rfl) ?_ _
        refine NoPanic.normal ?_
        unfold put27 at HQ
        generalize (((((w25x.setCell ⟨kb, 0, none⟩ (.slice (some ⟨lg, 0, none⟩) nl nl)).setCell ⟨kb, 1, none⟩ (.slice none 0 0)).setCell ⟨kb, 2, none⟩ (.slice none 0 0)).setCell ⟨kb, 3, none⟩ (.slice sq no sc)).setCell ⟨kb, 4, none⟩ (.int .i64 rk)) = wz at *
        go_wp2
        go_meet
        case rel => exact unhide HQ
    · go_simp
      have Bq26 := hide (btrans (unhide Bd0) (bnew wd0 (.cells #[.slice none 0 0, .slice none 0 0, .slice none 0 0, .slice none 0 0, .int .i64 0] 29)))
      have Aq26 := hide (KB.new wd0 (.slice none 0 0) (.slice none 0 0) (.slice none 0 0) (.slice none 0 0) 0)
      obtain ⟨kb, hkb⟩ : ∃ kb, kb = wd0.heap.size := ⟨_, rfl⟩
      have Hkbb := hide (show w2.heap.size ≤ kb by rw [hkb]; exact (unhide Bd0).size)
      rw [← hkb] at Aq26
      rw [← hkb]
      clear hkb
      generalize wd0.alloc (.cells #[.slice none 0 0, .slice none 0 0, .slice none 0 0, .slice none 0 0, .int .i64 0] 29) = w26x at *
      refine hK.out _ _ ((unhide HSB).keep (unhide Bq26)) (fun _ => ?_)
      clear hK K
      refine wpAnyH_ready (rs := [5, 10]) (by kernel_rfl) (by simp) ?_
      refine (AllReadyH.cons (o := _) u14_5 (fun K hK => ?_) (AllReadyH.cons (o := _) u14_10 (fun K hK => ?_) AllReadyH.nil))
      · go_simp
        refine (unhide HRen _ (unhide Bq26)).mono ?_
        rintro e w27x ⟨rv, rfl, hov, hbo⟩
        have Bq27 := hide (btrans (unhide Bq26) hbo)
        have Rq27 := hide (hov.le (unhide Bq26).size)
        have Aq27 := hide ((unhide Aq26).keep hbo)
        obtain ⟨rq, rc, rfl⟩ : ∃ rq rc, rv = .slice rq no rc := by obtain ⟨a, b, e⟩ := hov.form; exact ⟨a, b, by rw [e, List.length_map, unhide Hno]⟩
        clear hov hbo
        refine hK.out _ _ ((unhide HSB).keep (unhide Bq27)) (fun _ => ?_)
        clear hK K
        refine wpAnyH_ready (rs := [6, 10]) (by kernel_rfl) (by simp) ?_
        refine (AllReadyH.cons (o := _) u14_6 (fun K hK => ?_) (AllReadyH.cons (o := _) u14_10 (fun K hK => ?_) AllReadyH.nil))
        · go_simp
          refine (unhide HRis _ _ (unhide Rq27)).mono ?_
          rintro e w28x ⟨sv, rfl, hov, hbo⟩
          have Bq28 := hide (btrans (unhide Bq27) hbo)
          have Sq28 := hide (hov.le (unhide Bq27).size)
          have Aq28 := hide ((unhide Aq27).keep hbo)
          have Rq28 := hide ((unhide Rq27).keep hbo)
          obtain ⟨sq, sc, rfl⟩ : ∃ sq sc, sv = .slice sq no sc := by obtain ⟨a, b, e⟩ := hov.form; exact ⟨a, b, by rw [e, unhide HLS]⟩
          clear hov hbo
          refine hK.out _ _ ((unhide HSB).keep (unhide Bq28)) (fun _ => ?_)
          clear hK K
          refine wpAnyH_ready (rs := [10]) (by kernel_rfl) (by simp) ?_
          refine AllReadyH.cons (o := _) u14_10 (fun K hK => ?_) AllReadyH.nil
          refine make_loops _ nl hl rfl rfl ?_
          intro w29x hdr hbo
          have Bq29 := hide (btrans (unhide Bq28) hbo)
          have Mq29 := hide hdr
          have Aq29 := hide ((unhide Aq28).keep hbo)
          have Rq29 := hide ((unhide Rq28).keep hbo)
          have Sq29 := hide ((unhide Sq28).keep hbo)
          obtain ⟨lg, hlg⟩ : ∃ lg, lg = w28x.heap.size := ⟨_, rfl⟩
          have Hlgg := hide (show w2.heap.size ≤ lg by rw [hlg]; exact (unhide Bq28).size)
          rw [← hlg] at Mq29
          rw [← hlg]
          clear hdr hbo hlg
          refine hK.out _ _ ((unhide HSB).keep (unhide Bq29)) (fun _ => ?_)
          clear hK K
          refine wpAnyH_take (i := 11) (oi := _) (v := .agg #[.slice (some ⟨lg, 0, none⟩) nl nl, .slice none 0 0, .slice none 0 0, .slice sq no sc, .int .i64 rk]) u14_11 (by kernel_rfl) (by kernel_rfl) (by kernel_rfl) (fun _ _ _ h => h) (Or.inl ⟨by rfl, ?_⟩) (by assumption) ?_
          · intro V hSw
            try dsimp only at hSw
            go_simp
          simp only [Act.put, List.setIfInBounds_toArray, List.set_cons_zero, List.set_cons_succ]
          refine wpAnyH_ready (rs := [13]) (by kernel_rfl) (by simp) ?_
          refine AllReadyH.cons (o := _) u14_13 (fun K hK => ?_) AllReadyH.nil
          obtain ⟨-, ⟨r0, r1, r2, r3, r4⟩, rf⟩ := unhide Aq29
          have rf0 := rf 0 (by decide)
          have rf1 := rf 1 (by decide)
          have rf2 := rf 2 (by decide)
          have rf3 := rf 3 (by decide)
          have rf4 := rf 4 (by decide)
          clear rf
          have kz := put27_kept w29x kb (.slice (some ⟨lg, 0, none⟩) nl nl) (.slice none 0 0) (.slice none 0 0) (.slice sq no sc) rk
          have tz : ∀ {u : TypeId}, (29 : TypeId) ≠ u → ∀ i, i = kb → ¬ Tg w29x i u := fun h i e t => tg_not (show Tg w29x i 29 from e ▸ (unhide Aq29).1.2) h t
          have HQ := hide (show RQ w2 nl no rk LS (.pointer (some ⟨kb, 0, none⟩)) (put27 w29x kb (.slice (some ⟨lg, 0, none⟩) nl nl) (.slice none 0 0) (.slice none 0 0) (.slice sq no sc) rk) from ⟨kb, lg, sq, sc, rfl, ⟨unhide Hkbb, unhide Hlgg⟩, (unhide Aq29).put _ _ _ _ _, (unhide Mq29).kept kz (fun e => tz (by decide) _ e (unhide Mq29).1.2), (unhide Sq29).kept kz (tz (by decide)), Kept.back (unhide Bq29) kz (unhide Bq29).size (fun i e => by rw [e]; exact unhide Hkbb)⟩)
          have hSz : KB (put27 w29x kb (.slice (some ⟨lg, 0, none⟩) nl nl) (.slice none 0 0) (.slice none 0 0) (.slice sq no sc) rk) sb (.slice a1 nl a2) (.slice a4 nf a5) (.slice a7 nb a8) (.slice d1 no d2) rk := ((unhide HSB).keep (unhide Bq29)).kept kz (fun e => by have := unhide Hkbb; have := (unhide HSB).1.1; omega)
          clear kz tz
          go_simp
          refine hK.out _ _ hSz (fun _ => ?_)
          clear hK K hSz r0 r1 r2 r3 r4 rf0 rf1 rf2 rf3 rf4
          refine wpAnyH_done (by kernel_rfl) ?_ _
          refine NoPanic.normal ?_
          unfold put27 at HQ
          generalize (((((w29x.setCell ⟨kb, 0, none⟩ (.slice (some ⟨lg, 0, none⟩) nl nl)).setCell ⟨kb, 1, none⟩ (.slice none 0 0)).setCell ⟨kb, 2, none⟩ (.slice none 0 0)).setCell ⟨kb, 3, none⟩ (.slice sq no sc)).setCell ⟨kb, 4, none⟩ (.int .i64 rk)) = wz at *
          go_wp2
          go_meet
          case rel => exact unhide HQ
        · refine make_loops _ nl hl rfl rfl ?_
          intro w30x hdr hbo
          have Bq30 := hide (btrans (unhide Bq27) hbo)
          have Mq30 := hide hdr
          have Aq30 := hide ((unhide Aq27).keep hbo)
          have Rq30 := hide ((unhide Rq27).keep hbo)
          obtain ⟨lg, hlg⟩ : ∃ lg, lg = w27x.heap.size := ⟨_, rfl⟩
          have Hlgg := hide (show w2.heap.size ≤ lg by rw [hlg]; exact (unhide Bq27).size)
          rw [← hlg] at Mq30
          rw [← hlg]
          clear hdr hbo hlg
          refine hK.out _ _ ((unhide HSB).keep (unhide Bq30)) (fun _ => ?_)
          clear hK K
          refine wpAnyH_ready (rs := [6]) (by kernel_rfl) (by simp) ?_
          refine AllReadyH.cons (o := _) u14_6 (fun K hK => ?_) AllReadyH.nil
          go_simp
          refine (unhide HRis _ _ (unhide Rq30)).mono ?_
          rintro e w31x ⟨sv, rfl, hov, hbo⟩
          have Bq31 := hide (btrans (unhide Bq30) hbo)
          have Sq31 := hide (hov.le (unhide Bq30).size)
          have Aq31 := hide ((unhide Aq30).keep hbo)
          have Rq31 := hide ((unhide Rq30).keep hbo)
          have Mq31 := hide ((unhide Mq30).kept (Kept.of (S := fun _ => False) hbo) id)
          obtain ⟨sq, sc, rfl⟩ : ∃ sq sc, sv = .slice sq no sc := by obtain ⟨a, b, e⟩ := hov.form; exact ⟨a, b, by rw [e, unhide HLS]⟩
          clear hov hbo
          refine hK.out _ _ ((unhide HSB).keep (unhide Bq31)) (fun _ => ?_)
          clear hK K
          refine wpAnyH_take (i := 11) (oi := _) (v := .agg #[.slice (some ⟨lg, 0, none⟩) nl nl, .slice none 0 0, .slice none 0 0, .slice sq no sc, .int .i64 rk]) u14_11 (by kernel_rfl) (by kernel_rfl) (by kernel_rfl) (fun _ _ _ h => h) (Or.inl ⟨by rfl, ?_⟩) (by assumption) ?_
          · intro V hSw
            try dsimp only at hSw
            go_simp
          simp only [Act.put, List.setIfInBounds_toArray, List.set_cons_zero, List.set_cons_succ]
          refine wpAnyH_ready (rs := [13]) (by kernel_rfl) (by simp) ?_
          refine AllReadyH.cons (o := _) u14_13 (fun K hK => ?_) AllReadyH.nil
          obtain ⟨-, ⟨r0, r1, r2, r3, r4⟩, rf⟩ := unhide Aq31
          have rf0 := rf 0 (by decide)
          have rf1 := rf 1 (by decide)
          have rf2 := rf 2 (by decide)
          have rf3 := rf 3 (by decide)
          have rf4 := rf 4 (by decide)
          clear rf
          have kz := put27_kept w31x kb (.slice (some ⟨lg, 0, none⟩) nl nl) (.slice none 0 0) (.slice none 0 0) (.slice sq no sc) rk
          have tz : ∀ {u : TypeId}, (29 : TypeId) ≠ u → ∀ i, i = kb → ¬ Tg w31x i u := fun h i e t => tg_not (show Tg w31x i 29 from e ▸ (unhide Aq31).1.2) h t
          have HQ := hide (show RQ w2 nl no rk LS (.pointer (some ⟨kb, 0, none⟩)) (put27 w31x kb (.slice (some ⟨lg, 0, none⟩) nl nl) (.slice none 0 0) (.slice none 0 0) (.slice sq no sc) rk) from ⟨kb, lg, sq, sc, rfl, ⟨unhide Hkbb, unhide Hlgg⟩, (unhide Aq31).put _ _ _ _ _, (unhide Mq31).kept kz (fun e => tz (by decide) _ e (unhide Mq31).1.2), (unhide Sq31).kept kz (tz (by decide)), Kept.back (unhide Bq31) kz (unhide Bq31).size (fun i e => by rw [e]; exact unhide Hkbb)⟩)
          have hSz : KB (put27 w31x kb (.slice (some ⟨lg, 0, none⟩) nl nl) (.slice none 0 0) (.slice none 0 0) (.slice sq no sc) rk) sb (.slice a1 nl a2) (.slice a4 nf a5) (.slice a7 nb a8) (.slice d1 no d2) rk := ((unhide HSB).keep (unhide Bq31)).kept kz (fun e => by have := unhide Hkbb; have := (unhide HSB).1.1; omega)
          clear kz tz
          go_simp
          refine hK.out _ _ hSz (fun _ => ?_)
          clear hK K hSz r0 r1 r2 r3 r4 rf0 rf1 rf2 rf3 rf4
          refine wpAnyH_done (by kernel_rfl) ?_ _
          refine NoPanic.normal ?_
          unfold put27 at HQ
          generalize (((((w31x.setCell ⟨kb, 0, none⟩ (.slice (some ⟨lg, 0, none⟩) nl nl)).setCell ⟨kb, 1, none⟩ (.slice none 0 0)).setCell ⟨kb, 2, none⟩ (.slice none 0 0)).setCell ⟨kb, 3, none⟩ (.slice sq no sc)).setCell ⟨kb, 4, none⟩ (.int .i64 rk)) = wz at *
          go_wp2
          go_meet
          case rel => exact unhide HQ
      · refine make_loops _ nl hl rfl rfl ?_
        intro w32x hdr hbo
        have Bq32 := hide (btrans (unhide Bq26) hbo)
        have Mq32 := hide hdr
        have Aq32 := hide ((unhide Aq26).keep hbo)
        obtain ⟨lg, hlg⟩ : ∃ lg, lg = w26x.heap.size := ⟨_, rfl⟩
        have Hlgg := hide (show w2.heap.size ≤ lg by rw [hlg]; exact (unhide Bq26).size)
        rw [← hlg] at Mq32
        rw [← hlg]
        clear hdr hbo hlg
        refine hK.out _ _ ((unhide HSB).keep (unhide Bq32)) (fun _ => ?_)
        clear hK K
        refine wpAnyH_ready (rs := [5]) (by kernel_rfl) (by simp) ?_
        refine AllReadyH.cons (o := _) u14_5 (fun K hK => ?_) AllReadyH.nil
        go_simp
        refine (unhide HRen _ (unhide Bq32)).mono ?_
        rintro e w33x ⟨rv, rfl, hov, hbo⟩
        have Bq33 := hide (btrans (unhide Bq32) hbo)
        have Rq33 := hide (hov.le (unhide Bq32).size)
        have Aq33 := hide ((unhide Aq32).keep hbo)
        have Mq33 := hide ((unhide Mq32).kept (Kept.of (S := fun _ => False) hbo) id)
        obtain ⟨rq, rc, rfl⟩ : ∃ rq rc, rv = .slice rq no rc := by obtain ⟨a, b, e⟩ := hov.form; exact ⟨a, b, by rw [e, List.length_map, unhide Hno]⟩
        clear hov hbo
        refine hK.out _ _ ((unhide HSB).keep (unhide Bq33)) (fun _ => ?_)
        clear hK K
        refine wpAnyH_ready (rs := [6]) (by kernel_rfl) (by simp) ?_
        refine AllReadyH.cons (o := _) u14_6 (fun K hK => ?_) AllReadyH.nil
        go_simp
        refine (unhide HRis _ _ (unhide Rq33)).mono ?_
        rintro e w34x ⟨sv, rfl, hov, hbo⟩
        have Bq34 := hide (btrans (unhide Bq33) hbo)
        have Sq34 := hide (hov.le (unhide Bq33).size)
        have Aq34 := hide ((unhide Aq33).keep hbo)
        have Mq34 := hide ((unhide Mq33).kept (Kept.of (S := fun _ => False) hbo) id)
        have Rq34 := hide ((unhide Rq33).keep hbo)
        obtain ⟨sq, sc, rfl⟩ : ∃ sq sc, sv = .slice sq no sc := by obtain ⟨a, b, e⟩ := hov.form; exact ⟨a, b, by rw [e, unhide HLS]⟩
        clear hov hbo
        refine hK.out _ _ ((unhide HSB).keep (unhide Bq34)) (fun _ => ?_)
        clear hK K
        refine wpAnyH_take (i := 11) (oi := _) (v := .agg #[.slice (some ⟨lg, 0, none⟩) nl nl, .slice none 0 0, .slice none 0 0, .slice sq no sc, .int .i64 rk]) u14_11 (by kernel_rfl) (by kernel_rfl) (by kernel_rfl) (fun _ _ _ h => h) (Or.inl ⟨by rfl, ?_⟩) (by assumption) ?_
        · intro V hSw
          try dsimp only at hSw
          go_simp
        simp only [Act.put, List.setIfInBounds_toArray, List.set_cons_zero, List.set_cons_succ]
        refine wpAnyH_ready (rs := [13]) (by kernel_rfl) (by simp) ?_
        refine AllReadyH.cons (o := _) u14_13 (fun K hK => ?_) AllReadyH.nil
        obtain ⟨-, ⟨r0, r1, r2, r3, r4⟩, rf⟩ := unhide Aq34
        have rf0 := rf 0 (by decide)
        have rf1 := rf 1 (by decide)
        have rf2 := rf 2 (by decide)
        have rf3 := rf 3 (by decide)
        have rf4 := rf 4 (by decide)
        clear rf
        have kz := put27_kept w34x kb (.slice (some ⟨lg, 0, none⟩) nl nl) (.slice none 0 0) (.slice none 0 0) (.slice sq no sc) rk
        have tz : ∀ {u : TypeId}, (29 : TypeId) ≠ u → ∀ i, i = kb → ¬ Tg w34x i u := fun h i e t => tg_not (show Tg w34x i 29 from e ▸ (unhide Aq34).1.2) h t
        have HQ := hide (show RQ w2 nl no rk LS (.pointer (some ⟨kb, 0, none⟩)) (put27 w34x kb (.slice (some ⟨lg, 0, none⟩) nl nl) (.slice none 0 0) (.slice none 0 0) (.slice sq no sc) rk) from ⟨kb, lg, sq, sc, rfl, ⟨unhide Hkbb, unhide Hlgg⟩, (unhide Aq34).put _ _ _ _ _, (unhide Mq34).kept kz (fun e => tz (by decide) _ e (unhide Mq34).1.2), (unhide Sq34).kept kz (tz (by decide)), Kept.back (unhide Bq34) kz (unhide Bq34).size (fun i e => by rw [e]; exact unhide Hkbb)⟩)
        have hSz : KB (put27 w34x kb (.slice (some ⟨lg, 0, none⟩) nl nl) (.slice none 0 0) (.slice none 0 0) (.slice sq no sc) rk) sb (.slice a1 nl a2) (.slice a4 nf a5) (.slice a7 nb a8) (.slice d1 no d2) rk := ((unhide HSB).keep (unhide Bq34)).kept kz (fun e => by have := unhide Hkbb; have := (unhide HSB).1.1; omega)
        clear kz tz
        go_simp
        refine hK.out _ _ hSz (fun _ => ?_)
        clear hK K hSz r0 r1 r2 r3 r4 rf0 rf1 rf2 rf3 rf4
        refine wpAnyH_done (by kernel_rfl) ?_ _
        refine NoPanic.normal ?_
        unfold put27 at HQ
        generalize (((((w34x.setCell ⟨kb, 0, none⟩ (.slice (some ⟨lg, 0, none⟩) nl nl)).setCell ⟨kb, 1, none⟩ (.slice none 0 0)).setCell ⟨kb, 2, none⟩ (.slice none 0 0)).setCell ⟨kb, 3, none⟩ (.slice sq no sc)).setCell ⟨kb, 4, none⟩ (.int .i64 rk)) = wz at *
        go_wp2
        go_meet
        case rel => exact unhide HQ
  case rest =>
  obtain ⟨kb, lg, sq, sc, rfl, hbd, hK3, hD3, hN3, hB3⟩ := hcut
  obtain ⟨w3, rfl⟩ : ∃ w, w = wc := ⟨_, rfl⟩
  have HK3 := hide hK3
  have HN3 := hide hN3
  have HB3 := hide hB3
  have Hbd := hide hbd
  have HL3 := hide (show LQ w3 lg nl cc (fun j => (thrF k.loops j).map (nm cc nl)) 0 w3 from ⟨fun _ => .slice none 0 0, hD3.congr (fun j _ => ⟨by simp [dcF], by simp [dhF]⟩), fun j hj => by omega, Kept.refl _ _⟩)
  have Htg := hide hD3.1.2
  have Htk := hide hK3.1.2
  have hkl : kb ≠ lg := hK3.1.2.ne hD3.1.2 (by decide)
  have Hkl := hide hkl
  clear hK3 hD3 hN3 hB3 hbd hkl HRen HRis
  have HSB3 := hide ((unhide HSB).keep (unhide HB3))
  obtain ⟨-, ⟨q0, q1, q2, q3, q4⟩, -⟩ := unhide HSB3
  go_wp2
  clear q0 q1 q2 q3 q4
  go_loopw [38] (fun i wr => ∃ x : Nat, x ≤ nl ∧ i = .int .i64 x ∧ LQ w3 lg nl cc (fun j => (thrF k.loops j).map (nm cc nl)) x wr) (fun i _ => nl - (intOf i).toNat)
  case atStart => exact ⟨0, Nat.zero_le _, rfl, unhide HL3⟩
  case round =>
    clear HL3
    obtain ⟨x, hx, rfl, hL⟩ := hrel
    have HL := hide hL
    have HKe := hide (show Kept (fun i => i = lg) w3 wr from hL.elim (fun _ h => h.2.2))
    have HB := hide (Kept.back (unhide HB3) (unhide HKe) (unhide HB3).size (fun i e => by rw [e]; exact (unhide Hbd).2))
    have HKr := hide ((unhide HK3).kept (unhide HKe) (unhide Hkl))
    have HSr := hide ((unhide HSB).keep (unhide HB))
    clear hL
    by_cases hlt : x < nl
    · have p1 : (x : Int) < (nl : Int) := by omega
      have p2 : (0 : Int) ≤ (x : Int) := by omega
      have hx2 : x < k.loops.length := by rw [← unhide Hnl]; exact hlt
      obtain ⟨g, cap, u, e0, e1, e2, e3⟩ := ((unhide HPs2).1.keep (unhide HB)).at hx2
      simp only [Value.slice.injEq] at e0
      obtain ⟨rfl, -, rfl⟩ := e0
      rw [carF_at hx2] at e1
      rw [thrF_at hx2] at e3
      obtain ⟨s, t, hu⟩ := e3.form
      obtain ⟨ln, hln⟩ : ∃ ln, ln = (thrF k.loops x).length := ⟨_, rfl⟩
      rw [← hln] at hu
      subst hu
      rw [← unhide Hcc] at e1
      obtain ⟨cx, hcx⟩ : ∃ z, z = cc x := ⟨_, rfl⟩
      rw [← hcx] at e1
      have Hcx := hide hcx
      have Hln := hide hln
      have hin : ∀ y, y ∈ thrF k.loops x → y < nl := fun y hy => by
        rw [← thrF_at hx2] at hy
        rw [unhide Hnl]
        exact (unhide HGn).thr _ (List.getElem_mem hx2) y hy
      have h8 : (thrF k.loops x).length ≤ 8 := by
        rw [← thrF_at hx2]
        exact (unhide HGn).fit.2.2.2.2.2.2 _ (List.getElem_mem hx2)
      have T1 := hide (bnew wr (.cells #[.int .i64 cx, .slice s ln t] 43))
      have HXB := hide (LB.new wr cx (.slice s ln t))
      have HB1 := hide (btrans (unhide HB) (unhide T1))
      have HKr1 := hide ((unhide HKr).keep (unhide T1))
      have HSr1 := hide ((unhide HSr).keep (unhide T1))
      have HTh := hide (e3.keep (unhide T1))
      have Hin := hide hin
      clear hcx hln hin e3 hx2
      go_upto_region 8 with fail
      generalize wr.alloc (.cells #[.int .i64 cx, .slice s ln t] 43) = w4 at *
      obtain ⟨xb, hxb⟩ : ∃ b, b = wr.heap.size := ⟨_, rfl⟩
      rw [← hxb] at HXB
      rw [← hxb]
      have Hxl := hide (show ¬ xb = lg from fun e => by have := (unhide HL).elim (fun _ h => h.1.1.1); omega)
      clear e1 e2 hxb
      refine wp_region_noPanic ?_
      refine wp_region_held_drew (S := fun V => KB V kb (.slice (some ⟨lg, 0, none⟩) nl nl) (.slice none 0 0) (.slice none 0 0) (.slice sq no sc) rk ∧ KB V sb (.slice (some ⟨g, 0, none⟩) nl a2) (.slice a4 nf a5) (.slice a7 nb a8) (.slice d1 no d2) rk ∧ LB V xb cx (.slice s ln t)) (by kernel_rfl) (⟨(unhide HKr1).keep (bdrew _), (unhide HSr1).keep (bdrew _), (unhide HXB).keep (bdrew _)⟩) ?_
      intro _
      refine wpAnyH_take (i := 0) (oi := _) (v := .pointer (some ⟨kb, 0, none⟩)) u14_0 (by kernel_rfl) (by kernel_rfl) (by kernel_rfl) (fun _ _ _ h => h) (Or.inl ⟨by rfl, ?_⟩) (by assumption) ?_
      · intro V hSw
        try dsimp only at hSw
        go_simp
      simp only [Act.put, List.setIfInBounds_toArray, List.set_cons_zero, List.set_cons_succ]
      refine wpAnyH_take (i := 1) (oi := _) (v := .slice (some ⟨lg, 0, none⟩) nl nl) u14_1 (by kernel_rfl) (by kernel_rfl) (by kernel_rfl) (fun _ _ _ h => h) (Or.inl ⟨by rfl, ?_⟩) (by assumption) ?_
      · intro V hSw
        try dsimp only at hSw
        obtain ⟨⟨-, ⟨m0, m1, m2, m3, m4⟩, -⟩, -, -⟩ := hSw
        go_simp
      simp only [Act.put, List.setIfInBounds_toArray, List.set_cons_zero, List.set_cons_succ]
      refine wpAnyH_take (i := 2) (oi := _) (v := .agg #[.slice (some ⟨g, 0, none⟩) nl a2, .slice a4 nf a5, .slice a7 nb a8, .slice d1 no d2, .int .i64 rk]) u14_2 (by kernel_rfl) (by kernel_rfl) (by kernel_rfl) (fun _ _ _ h => h) (Or.inl ⟨by rfl, ?_⟩) (by assumption) ?_
      · intro V hSw
        try dsimp only at hSw
        obtain ⟨-, ⟨-, ⟨m0, m1, m2, m3, m4⟩, -⟩, -⟩ := hSw
        go_simp
      simp only [Act.put, List.setIfInBounds_toArray, List.set_cons_zero, List.set_cons_succ]
      refine wpAnyH_take (i := 3) (oi := _) (v := .int .i64 (x : Int)) u14_3 (by kernel_rfl) (by kernel_rfl) (by kernel_rfl) (fun _ _ _ h => h) (Or.inl ⟨by rfl, ?_⟩) (by assumption) ?_
      · intro V hSw
        try dsimp only at hSw
        go_simp
      simp only [Act.put, List.setIfInBounds_toArray, List.set_cons_zero, List.set_cons_succ]
      refine wpAnyH_take (i := 5) (oi := _) (v := .pointer (some ⟨xb, 0, none⟩)) u14_5 (by kernel_rfl) (by kernel_rfl) (by kernel_rfl) (fun _ _ _ h => h) (Or.inl ⟨by rfl, ?_⟩) (by assumption) ?_
      · intro V hSw
        try dsimp only at hSw
        go_simp
      simp only [Act.put, List.setIfInBounds_toArray, List.set_cons_zero, List.set_cons_succ]
      refine wpAnyH_take (i := 6) (oi := _) (v := .int .i64 cx) u14_6 (by kernel_rfl) (by kernel_rfl) (by kernel_rfl) (fun _ _ _ h => h) (Or.inl ⟨by rfl, ?_⟩) (by assumption) ?_
      · intro V hSw
        try dsimp only at hSw
        obtain ⟨-, -, ⟨-, m0, m1⟩⟩ := hSw
        go_simp
      simp only [Act.put, List.setIfInBounds_toArray, List.set_cons_zero, List.set_cons_succ]
      refine wpAnyH_take (i := 7) (oi := _) (v := .agg #[.slice (some ⟨g, 0, none⟩) nl a2, .slice a4 nf a5, .slice a7 nb a8, .slice d1 no d2, .int .i64 rk]) u14_7 (by kernel_rfl) (by kernel_rfl) (by kernel_rfl) (fun _ _ _ h => h) (Or.inl ⟨by rfl, ?_⟩) (by assumption) ?_
      · intro V hSw
        try dsimp only at hSw
        obtain ⟨-, ⟨-, ⟨m0, m1, m2, m3, m4⟩, -⟩, -⟩ := hSw
        go_simp
      simp only [Act.put, List.setIfInBounds_toArray, List.set_cons_zero, List.set_cons_succ]
      refine wpAnyH_take (i := 8) (oi := _) (v := .pointer (some ⟨xb, 1, none⟩)) u14_8 (by kernel_rfl) (by kernel_rfl) (by kernel_rfl) (fun _ _ _ h => h) (Or.inl ⟨by rfl, ?_⟩) (by assumption) ?_
      · intro V hSw
        try dsimp only at hSw
        go_simp
      simp only [Act.put, List.setIfInBounds_toArray, List.set_cons_zero, List.set_cons_succ]
      refine wpAnyH_take (i := 9) (oi := _) (v := .slice s ln t) u14_9 (by kernel_rfl) (by kernel_rfl) (by kernel_rfl) (fun _ _ _ h => h) (Or.inl ⟨by rfl, ?_⟩) (by assumption) ?_
      · intro V hSw
        try dsimp only at hSw
        obtain ⟨-, -, ⟨-, m0, m1⟩⟩ := hSw
        go_simp
      simp only [Act.put, List.setIfInBounds_toArray, List.set_cons_zero, List.set_cons_succ]
      refine wpAnyH_ready (rs := [4]) (by kernel_rfl) (by simp) ?_
      refine AllReadyH.cons (o := _) u14_4 (fun K hK => ?_) AllReadyH.nil
      go_simp
      refine (unhide HNm _ (btrans (unhide HB1) (bdrew w4)) x hlt).mono ?_
      rintro e w5 ⟨rfl, hb5⟩
      have T5 := hide (btrans (bdrew w4) hb5)
      clear hb5
      refine hK.out _ _ (⟨(unhide HKr1).keep (unhide T5), (unhide HSr1).keep (unhide T5), (unhide HXB).keep (unhide T5)⟩) (fun _ => ?_)
      clear hK K
      refine wpAnyH_ready (rs := [10]) (by kernel_rfl) (by simp) ?_
      refine AllReadyH.cons (o := _) u14_10 (fun K hK => ?_) AllReadyH.nil
      go_simp
      refine (unhide HRn _ (btrans (unhide HB1) (unhide T5)) 0 _ _ ((unhide HTh).keep (unhide T5)) (unhide Hin) (by omega)).mono ?_
      rintro e w6 ⟨tv, rfl, hov, hb6⟩
      have T6 := hide (btrans (unhide T5) hb6)
      have HV6 := hide (hov.le (Nat.zero_le _))
      obtain ⟨tq, tc, rfl⟩ : ∃ tq tc, tv = .slice tq ln tc := by obtain ⟨a, b, e⟩ := hov.form; exact ⟨a, b, by rw [e, List.length_map, unhide Hln]⟩
      clear hov hb6
      refine hK.out _ _ (⟨(unhide HKr1).keep (unhide T6), (unhide HSr1).keep (unhide T6), (unhide HXB).keep (unhide T6)⟩) (fun _ => ?_)
      clear hK K
      have HLn := hide ((unhide HL).next (unhide HCs) hlt (btrans (unhide T1) (unhide T6)) (unhide HV6))
      have hy := nm_lt (unhide HCs) hlt
      obtain ⟨y, hye⟩ : ∃ y, y = nm cc nl x := ⟨_, rfl⟩
      rw [← hye, ← unhide Hcx] at HLn
      rw [← hye] at hy
      rw [← hye]
      have py1 : (y : Int) < (nl : Int) := by omega
      have py2 : (0 : Int) ≤ (y : Int) := by omega
      clear hye
      obtain ⟨hh, hD, -, -⟩ := unhide HL
      have HD6 := hide (hD.kept (Kept.of (S := fun _ => False) (btrans (unhide T1) (unhide T6))) id)
      clear hD
      refine wpAnyH_take (i := 11) (oi := _) (v := .agg #[.int .i64 cx, .slice tq ln tc]) u14_11 (by kernel_rfl) (by kernel_rfl) (by kernel_rfl) (fun _ _ _ h => h) (Or.inl ⟨by rfl, ?_⟩) (by assumption) ?_
      · intro V hSw
        try dsimp only at hSw
        go_simp
      simp only [Act.put, List.setIfInBounds_toArray, List.set_cons_zero, List.set_cons_succ]
      refine wpAnyH_take (i := 12) (oi := _) (v := .pointer (some ⟨lg, y * 2, none⟩)) u14_12 (by kernel_rfl) (by kernel_rfl) (by kernel_rfl) (fun _ _ _ h => h) (Or.inl ⟨by rfl, ?_⟩) (by assumption) ?_
      · intro V hSw
        try dsimp only at hSw
        go_simp
      simp only [Act.put, List.setIfInBounds_toArray, List.set_cons_zero, List.set_cons_succ]
      refine wpAnyH_ready (rs := [13]) (by kernel_rfl) (by simp) ?_
      refine AllReadyH.cons (o := _) u14_13 (fun K hK => ?_) AllReadyH.nil
      obtain ⟨z0, z1, z2, z3⟩ := (unhide HD6).2 y hy
      have kz : Kept (fun i => i = lg) w6 ((w6.setCell ⟨lg, y * 2, none⟩ (.int .i64 cx)).setCell ⟨lg, y * 2 + 1, none⟩ (.slice tq ln tc)) := ((Kept.refl (fun i => i = lg) w6).set (b := lg) _ _ (.inl rfl)).set (b := lg) _ _ (.inl rfl)
      have hSz : KB ((w6.setCell ⟨lg, y * 2, none⟩ (.int .i64 cx)).setCell ⟨lg, y * 2 + 1, none⟩ (.slice tq ln tc)) kb (.slice (some ⟨lg, 0, none⟩) nl nl) (.slice none 0 0) (.slice none 0 0) (.slice sq no sc) rk ∧ KB ((w6.setCell ⟨lg, y * 2, none⟩ (.int .i64 cx)).setCell ⟨lg, y * 2 + 1, none⟩ (.slice tq ln tc)) sb (.slice (some ⟨g, 0, none⟩) nl a2) (.slice a4 nf a5) (.slice a7 nb a8) (.slice d1 no d2) rk ∧ LB ((w6.setCell ⟨lg, y * 2, none⟩ (.int .i64 cx)).setCell ⟨lg, y * 2 + 1, none⟩ (.slice tq ln tc)) xb cx (.slice s ln t) := ⟨((unhide HKr1).keep (unhide T6)).kept kz (unhide Hkl), ((unhide HSr1).keep (unhide T6)).kept kz (fun e => by have := (unhide Hbd).2; have := (unhide HSB).1.1; omega), ((unhide HXB).keep (unhide T6)).kept kz (unhide Hxl)⟩
      clear kz
      go_simp
      refine hK.out _ _ hSz (fun _ => ?_)
      clear hK K hSz z0 z1 z2 z3
      refine wpAnyH_done (by kernel_rfl) ?_ _
      refine NoPanic.normal ?_
      go_wp2
      go_roundw
      case rel => exact ⟨x + 1, by omega, by go_num, unhide HLn⟩
      case measure => simp [intOf]; omega
    · obtain rfl : nl = x := by omega
      have cl : ¬ ((nl : Int) < (nl : Int)) := by omega
      obtain ⟨wt, rfl⟩ : ∃ w, w = wr := ⟨_, rfl⟩
      have HLP := hide (show LPR wt 0 (.slice (some ⟨lg, 0, none⟩) nl nl) (reN k).loops from by
        have := unhide HL
        rw [unhide Hcc] at this
        exact LQ.lpr this (by have := unhide HCs; rw [unhide Hcc] at this; exact this) (unhide Hnl))
      have HNt := hide ((unhide HN3).kept (unhide HKe) (fun i e t => tg_not t (by decide) (e ▸ unhide Htg)))
      have HBt := hide (unhide HB)
      have HBV := hide (show ∀ V, Kept (fun i => i = kb) wt V → Below w2.heap.size w2 V from fun V hV => Kept.back (unhide HBt) hV (unhide HBt).size (fun i e => by rw [e]; exact (unhide Hbd).1))
      have HSk := hide (fun V (hV : Kept (fun i => i = kb) wt V) => (unhide HSB).keep (unhide HBV V hV))
      have HTk := hide (unhide HKr).1.2
      have Hnn := hide (show nb = nf by rw [unhide Hnb, unhide Hnf, unhide Hfr, unhide Hbk])
      have hnf8 : nf ≤ 128 := by rw [unhide Hnf]; exact (unhide HGn).fit.2.2.1
      obtain ⟨Fr, hFr⟩ : ∃ F : Nat → List Nat, F = fun j => (k.front.getD j []).map (nm cc nl) := ⟨_, rfl⟩
      obtain ⟨Bk, hBk⟩ : ∃ F : Nat → List Nat, F = fun j => (k.back.getD j []).map (nm cc nl) := ⟨_, rfl⟩
      have HFr := hide hFr
      have HBk := hide hBk
      clear hFr hBk
      have HFF := HFr
      have HBB := HBk
      have HTQ := hide (show TQ wt kb (.slice (some ⟨lg, 0, none⟩) nl nl) (.slice sq no sc) rk ((List.range 0).map Fr) ((List.range 0).map Bk) wt from ⟨.slice none 0 0, .slice none 0 0, unhide HKr, ⟨[], rfl, World.ownsRow_nil _ _ _ _, fun e he => by cases he⟩, ⟨[], rfl, World.ownsRow_nil _ _ _ _, fun e he => by cases he⟩, (fun g hg => by cases hg), Kept.refl _ _⟩)
      obtain ⟨-, ⟨q0, q1, q2, q3, q4⟩, -⟩ := unhide HSr
      go_wp2
      clear q0 q1 q2 q3 q4 HL HKe HB HKr HSr
      go_loopw [60] (fun i wr => ∃ n : Nat, n ≤ nf ∧ i = .int .i64 n ∧ TQ wt kb (.slice (some ⟨lg, 0, none⟩) nl nl) (.slice sq no sc) rk ((List.range n).map Fr) ((List.range n).map Bk) wr) (fun i _ => nf - (intOf i).toNat)
      case atStart => exact ⟨0, Nat.zero_le _, rfl, unhide HTQ⟩
      case round =>
        clear HTQ
        obtain ⟨n, hnn, rfl, vf, vb, hK, hF, hB, hSep, hKe⟩ := hrel
        have HK := hide hK
        have HFr := hide hF
        have HBk := hide hB
        have HSep := hide hSep
        have HKe := hide hKe
        clear hK hF hB hSep hKe
        by_cases hlt : n < nf
        · have p1 : (n : Int) < (nf : Int) := by omega
          have p2 : (0 : Int) ≤ (n : Int) := by omega
          have p3 : (n : Int) < (nb : Int) := by have := unhide Hnn; omega
          have Hsu0 := hide (show (List.range (n + 1)).map Fr = (List.range n).map Fr ++ [Fr n] by simp [List.range_succ])
          have Hsu1 := hide (show (List.range (n + 1)).map Bk = (List.range n).map Bk ++ [Bk n] by simp [List.range_succ])
          have hjl1 : n < k.front.length := by rw [← unhide Hnf]; have := unhide Hnn; omega
          obtain ⟨rf, cap1, u1, e01, e11, e21⟩ := ((unhide HPs2).2.1).at hjl1
          simp only [Value.slice.injEq] at e01
          obtain ⟨rfl, -, rfl⟩ := e01
          obtain ⟨us1, ut1, hu1⟩ := e21.form
          obtain ⟨um1, hum1⟩ : ∃ m, m = (k.front[n]).length := ⟨_, rfl⟩
          rw [← hum1] at hu1
          subst hu1
          clear hum1
          have Hce1 := hide (show ∀ V, Kept (fun i => i = kb) wt V → V.cell? ⟨rf, n, none⟩ = some (.slice us1 um1 ut1) from fun V hV => keepC (unhide HBV V hV) (World.block_lt_of_cell? w2 _ e11) e11)
          have hfe1 : (k.front[n]).map (nm cc nl) = Fr n := by
            rw [unhide HFF]
            simp [hjl1]
          have hin1 : ∀ y, y ∈ k.front[n] → y < nl := fun y hy => by
            rw [unhide Hnl]
            exact (unhide HGn).fr _ (List.getElem_mem hjl1) y hy
          have h81 : (k.front[n]).length ≤ 8 := (unhide HGn).fit.2.2.2.2.1 _ (List.getElem_mem hjl1)
          have HRo1 := hide (And.intro e21 (And.intro hin1 (And.intro h81 hfe1)))
          clear e11 e21 hin1 h81 hfe1
          have hjl2 : n < k.back.length := by rw [← unhide Hnb]; have := unhide Hnn; omega
          obtain ⟨rg, cap2, u2, e02, e12, e22⟩ := ((unhide HPs2).2.2.1).at hjl2
          simp only [Value.slice.injEq] at e02
          obtain ⟨rfl, -, rfl⟩ := e02
          obtain ⟨us2, ut2, hu2⟩ := e22.form
          obtain ⟨um2, hum2⟩ : ∃ m, m = (k.back[n]).length := ⟨_, rfl⟩
          rw [← hum2] at hu2
          subst hu2
          clear hum2
          have Hce2 := hide (show ∀ V, Kept (fun i => i = kb) wt V → V.cell? ⟨rg, n, none⟩ = some (.slice us2 um2 ut2) from fun V hV => keepC (unhide HBV V hV) (World.block_lt_of_cell? w2 _ e12) e12)
          have hfe2 : (k.back[n]).map (nm cc nl) = Bk n := by
            rw [unhide HBB]
            simp [hjl2]
          have hin2 : ∀ y, y ∈ k.back[n] → y < nl := fun y hy => by
            rw [unhide Hnl]
            exact (unhide HGn).bk _ (List.getElem_mem hjl2) y hy
          have h82 : (k.back[n]).length ≤ 8 := (unhide HGn).fit.2.2.2.2.2.1 _ (List.getElem_mem hjl2)
          have HRo2 := hide (And.intro e22 (And.intro hin2 (And.intro h82 hfe2)))
          clear e12 e22 hin2 h82 hfe2
          have HOn1 := hide (show ∀ V, Below wr.heap.size wr V → Calls Try.prog 20 #[.agg #[.slice a1 nl a2, .slice (some ⟨rf, 0, none⟩) nf a5, .slice (some ⟨rg, 0, none⟩) nb a8, .slice d1 no d2, .int .i64 rk], .slice us1 um1 ut1] V fun e w' => ∃ v, e = .returned v ∧ NR w' V.heap.size v (Fr n) ∧ Below V.heap.size V w' from fun V hV => by
            have hBV := btrans (unhide HBV wr (unhide HKe)) hV
            have := unhide HRn V hBV 0 _ _ ((unhide HRo1).1.keep hBV) (unhide HRo1).2.1 (by have := (unhide HRo1).2.2.1; omega)
            rw [(unhide HRo1).2.2.2] at this
            exact this)
          obtain ⟨yl, hyl⟩ : ∃ yl, yl = (Fr n).length := ⟨_, rfl⟩
          have Hyl := hide hyl
          clear hyl
          obtain ⟨hs, hs1, hs2, hs3⟩ := unhide HFr
          have hhl : n = hs.length := by
            have h := congrArg List.length hs1
            simp at h
            omega
          rw [← hhl] at hs2
          have HRow := hide hs2
          have Hnr := hide hs3
          have Hhl := hide hhl
          have Hs1 := hide hs1
          clear hs1 hs2 hs3 hhl
          have H1 := hide (show ∀ (og : Option Addr) (oc : Nat), ∀ u ∈ (#[Value.slice og yl oc] : Array Value).toList, u.oneCell' = true from fun og oc u hu => by simp at hu; subst hu; rfl)
          obtain ⟨-, ⟨s0', s1', s2', s3', s4'⟩, -⟩ := unhide HSk wr (unhide HKe)
          go_upto_region 13 with fail
          clear s0' s1' s2' s3' s4'
          go_cut [] (fun wd => TQ wt kb (.slice (some ⟨lg, 0, none⟩) nl nl) (.slice sq no sc) rk ((List.range n).map Fr ++ [Fr n]) ((List.range n).map Bk) wd)
          case first =>
            refine wp_region_noPanic ?_
            refine wp_region_held_drew (S := fun V => Kept (fun i => i = kb) wt V) (by kernel_rfl) ((unhide HKe).dr) ?_
            intro _
            obtain ⟨wd0, hwd0⟩ : ∃ w, w = wr.drew := ⟨_, rfl⟩
            have Bd := hide (show Below wr.heap.size wr wd0 from by rw [hwd0]; exact bdrew _)
            rw [← hwd0]
            clear hwd0
            have hS0 : Kept (fun i => i = kb) wt wd0 := (unhide HKe).below (unhide Bd)
            refine wpAnyH_take (i := 0) (oi := _) (v := .pointer (some ⟨kb, 1, none⟩)) u13_0 (by kernel_rfl) (by kernel_rfl) (by kernel_rfl) (fun _ _ _ h => h) (Or.inl ⟨by rfl, ?_⟩) (by assumption) ?_
            · intro V hSw
              try dsimp only at hSw
              go_simp
            simp only [Act.put, List.setIfInBounds_toArray, List.set_cons_zero, List.set_cons_succ]
            refine wpAnyH_take (i := 2) (oi := _) (v := .agg #[.slice a1 nl a2, .slice (some ⟨rf, 0, none⟩) nf a5, .slice (some ⟨rg, 0, none⟩) nb a8, .slice d1 no d2, .int .i64 rk]) u13_2 (by kernel_rfl) (by kernel_rfl) (by kernel_rfl) (fun _ _ _ h => h) (Or.inl ⟨by rfl, ?_⟩) (by assumption) ?_
            · intro V hSw
              try dsimp only at hSw
              obtain ⟨-, ⟨m0, m1, m2, m3, m4⟩, -⟩ := unhide HSk V hSw
              go_simp
            simp only [Act.put, List.setIfInBounds_toArray, List.set_cons_zero, List.set_cons_succ]
            refine wpAnyH_take (i := 3) (oi := _) (v := .pointer (some ⟨sb, 1, none⟩)) u13_3 (by kernel_rfl) (by kernel_rfl) (by kernel_rfl) (fun _ _ _ h => h) (Or.inl ⟨by rfl, ?_⟩) (by assumption) ?_
            · intro V hSw
              try dsimp only at hSw
              go_simp
            simp only [Act.put, List.setIfInBounds_toArray, List.set_cons_zero, List.set_cons_succ]
            refine wpAnyH_take (i := 4) (oi := _) (v := .slice (some ⟨rf, 0, none⟩) nf a5) u13_4 (by kernel_rfl) (by kernel_rfl) (by kernel_rfl) (fun _ _ _ h => h) (Or.inl ⟨by rfl, ?_⟩) (by assumption) ?_
            · intro V hSw
              try dsimp only at hSw
              obtain ⟨-, ⟨m0, m1, m2, m3, m4⟩, -⟩ := unhide HSk V hSw
              go_simp
            simp only [Act.put, List.setIfInBounds_toArray, List.set_cons_zero, List.set_cons_succ]
            refine wpAnyH_take (i := 5) (oi := _) (v := .int .i64 (n : Int)) u13_5 (by kernel_rfl) (by kernel_rfl) (by kernel_rfl) (fun _ _ _ h => h) (Or.inl ⟨by rfl, ?_⟩) (by assumption) ?_
            · intro V hSw
              try dsimp only at hSw
              go_simp
            simp only [Act.put, List.setIfInBounds_toArray, List.set_cons_zero, List.set_cons_succ]
            refine wpAnyH_take (i := 6) (oi := _) (v := .pointer (some ⟨rf, n, none⟩)) u13_6 (by kernel_rfl) (by kernel_rfl) (by kernel_rfl) (fun _ _ _ h => h) (Or.inl ⟨by rfl, ?_⟩) (by assumption) ?_
            · intro V hSw
              try dsimp only at hSw
              go_simp
            simp only [Act.put, List.setIfInBounds_toArray, List.set_cons_zero, List.set_cons_succ]
            refine wpAnyH_take (i := 7) (oi := _) (v := .slice us1 um1 ut1) u13_7 (by kernel_rfl) (by kernel_rfl) (by kernel_rfl) (fun _ _ _ h => h) (Or.inl ⟨by rfl, ?_⟩) (by assumption) ?_
            · intro V hSw
              try dsimp only at hSw
              have m0 := unhide Hce1 V hSw
              go_simp
            simp only [Act.put, List.setIfInBounds_toArray, List.set_cons_zero, List.set_cons_succ]
            refine wpAnyH_ready (rs := [1, 8]) (by kernel_rfl) (by simp) ?_
            refine (AllReadyH.cons (o := _) u13_1 (fun K hK => ?_) (AllReadyH.cons (o := _) u13_8 (fun K hK => ?_) AllReadyH.nil))
            · have c1 := ((unhide HK).keep (unhide Bd)).2.1.2.1
              go_simp
              refine hK.out _ _ ((unhide HKe).below (unhide Bd)) (fun _ => ?_)
              clear hK K
              clear c1
              refine wpAnyH_ready (rs := [8]) (by kernel_rfl) (by simp) ?_
              refine AllReadyH.cons (o := _) u13_8 (fun K hK => ?_) AllReadyH.nil
              go_simp
              refine (unhide HOn1 _ (unhide Bd)).mono ?_
              rintro e w2x ⟨ov, rfl, hov, hbo⟩
              have Bq2 := hide (btrans (unhide Bd) hbo)
              have HV := hide (hov.le (Nat.zero_le _))
              obtain ⟨og, oc, rfl⟩ : ∃ og oc, ov = .slice og yl oc := by obtain ⟨a, b, e⟩ := hov.form; exact ⟨a, b, by rw [e, unhide Hyl]⟩
              clear hov hbo
              refine hK.out _ _ ((unhide HKe).below (unhide Bq2)) (fun _ => ?_)
              clear hK K
              refine wpAnyH_ready (rs := [9]) (by kernel_rfl) (by simp) ?_
              refine AllReadyH.cons (o := _) u13_9 (fun K hK => ?_) AllReadyH.nil
              go_simp
              have EC := hide (own_lit (B := 0) (e := 27) (z := 1) (k := 1) w2x #[.slice og yl oc] (Nat.zero_le _) (by unfold maxLen; omega) rfl)
              have Bq3 := hide (btrans (unhide Bq2) (bnew w2x (.cells #[.slice og yl oc] 27)))
              have HV := hide ((unhide HV).keep (bnew w2x (.cells #[.slice og yl oc] 27)))
              refine hK.out _ _ ((unhide HKe).below (unhide Bq3)) (fun _ => ?_)
              clear hK K
              generalize w2x.alloc (.cells #[.slice og yl oc] 27) = w3x at *
              obtain ⟨ec, hec⟩ : ∃ ec, ec = w2x.heap.size := ⟨_, rfl⟩
              rw [← hec] at EC
              rw [← hec]
              clear hec
              refine wpAnyH_ready (rs := [10]) (by kernel_rfl) (by simp) ?_
              refine AllReadyH.cons (o := _) u13_10 (fun K hK => ?_) AllReadyH.nil
              refine wp_app rfl Try.underlying26 info25 rfl (by decide) (v := vf) (y := .slice (some ⟨ec, 0, none⟩) 1 1) rfl rfl (own_keep (unhide HRow) (unhide Bq3)) (unhide EC) (unhide H1 og oc) (by unfold maxLen; omega) (by omega) (by have := (unhide HKe).size; have := (unhide Bq3).size; omega) ?_
              intro v2 w4x hown hgrow hat
              have HF := hide (tq_front (unhide Hhl) (unhide HK) (unhide Hnr) (unhide HBk) (unhide HSep) (unhide HKe) (unhide Bq3) (own_keep (unhide HRow) (unhide Bq3)) (unhide HV) hgrow hown hat)
              have HKx := hide (kept_step ((unhide HKe).below (unhide Bq3)) hgrow (fun i e => ((own_keep (unhide HRow) (unhide Bq3)).lt i e).1))
              obtain ⟨f2, h2x, rfl⟩ := own_form hown
              clear hown hgrow hat
              refine hK.out _ _ (unhide HKx) (fun _ => ?_)
              clear hK K
              refine wpAnyH_take (i := 11) (oi := _) (v := .pointer (some ⟨kb, 1, none⟩)) u13_11 (by kernel_rfl) (by kernel_rfl) (by kernel_rfl) (fun _ _ _ h => h) (Or.inl ⟨by rfl, ?_⟩) (by assumption) ?_
              · intro V hSw
                try dsimp only at hSw
                go_simp
              simp only [Act.put, List.setIfInBounds_toArray, List.set_cons_zero, List.set_cons_succ]
              refine wpAnyH_ready (rs := [12]) (by kernel_rfl) (by simp) ?_
              refine AllReadyH.cons (o := _) u13_12 (fun K hK => ?_) AllReadyH.nil
              have c1 := (unhide HF).1.2.1.2.1
              have f1' := (unhide HF).1.2.2 1 (by decide)
              go_simp
              refine hK.out _ _ ((unhide HKx).set 1 _ (.inl rfl)) (fun _ => ?_)
              clear hK K c1 f1'
              refine wpAnyH_done (by kernel_rfl) ?_ _
              refine NoPanic.normal ?_
              go_wp2
              go_meet
              case rel => rw [← unhide Hs1]; exact (unhide HF).2
            · go_simp
              refine (unhide HOn1 _ (unhide Bd)).mono ?_
              rintro e w5x ⟨ov, rfl, hov, hbo⟩
              have Bq5 := hide (btrans (unhide Bd) hbo)
              have HV := hide (hov.le (Nat.zero_le _))
              obtain ⟨og, oc, rfl⟩ : ∃ og oc, ov = .slice og yl oc := by obtain ⟨a, b, e⟩ := hov.form; exact ⟨a, b, by rw [e, unhide Hyl]⟩
              clear hov hbo
              refine hK.out _ _ ((unhide HKe).below (unhide Bq5)) (fun _ => ?_)
              clear hK K
              refine wpAnyH_ready (rs := [1, 9]) (by kernel_rfl) (by simp) ?_
              refine (AllReadyH.cons (o := _) u13_1 (fun K hK => ?_) (AllReadyH.cons (o := _) u13_9 (fun K hK => ?_) AllReadyH.nil))
              · have c1 := ((unhide HK).keep (unhide Bq5)).2.1.2.1
                go_simp
                refine hK.out _ _ ((unhide HKe).below (unhide Bq5)) (fun _ => ?_)
                clear hK K
                clear c1
                refine wpAnyH_ready (rs := [9]) (by kernel_rfl) (by simp) ?_
                refine AllReadyH.cons (o := _) u13_9 (fun K hK => ?_) AllReadyH.nil
                go_simp
                have EC := hide (own_lit (B := 0) (e := 27) (z := 1) (k := 1) w5x #[.slice og yl oc] (Nat.zero_le _) (by unfold maxLen; omega) rfl)
                have Bq7 := hide (btrans (unhide Bq5) (bnew w5x (.cells #[.slice og yl oc] 27)))
                have HV := hide ((unhide HV).keep (bnew w5x (.cells #[.slice og yl oc] 27)))
                refine hK.out _ _ ((unhide HKe).below (unhide Bq7)) (fun _ => ?_)
                clear hK K
                generalize w5x.alloc (.cells #[.slice og yl oc] 27) = w7x at *
                obtain ⟨ec, hec⟩ : ∃ ec, ec = w5x.heap.size := ⟨_, rfl⟩
                rw [← hec] at EC
                rw [← hec]
                clear hec
                refine wpAnyH_ready (rs := [10]) (by kernel_rfl) (by simp) ?_
                refine AllReadyH.cons (o := _) u13_10 (fun K hK => ?_) AllReadyH.nil
                refine wp_app rfl Try.underlying26 info25 rfl (by decide) (v := vf) (y := .slice (some ⟨ec, 0, none⟩) 1 1) rfl rfl (own_keep (unhide HRow) (unhide Bq7)) (unhide EC) (unhide H1 og oc) (by unfold maxLen; omega) (by omega) (by have := (unhide HKe).size; have := (unhide Bq7).size; omega) ?_
                intro v2 w8x hown hgrow hat
                have HF := hide (tq_front (unhide Hhl) (unhide HK) (unhide Hnr) (unhide HBk) (unhide HSep) (unhide HKe) (unhide Bq7) (own_keep (unhide HRow) (unhide Bq7)) (unhide HV) hgrow hown hat)
                have HKx := hide (kept_step ((unhide HKe).below (unhide Bq7)) hgrow (fun i e => ((own_keep (unhide HRow) (unhide Bq7)).lt i e).1))
                obtain ⟨f2, h2x, rfl⟩ := own_form hown
                clear hown hgrow hat
                refine hK.out _ _ (unhide HKx) (fun _ => ?_)
                clear hK K
                refine wpAnyH_take (i := 11) (oi := _) (v := .pointer (some ⟨kb, 1, none⟩)) u13_11 (by kernel_rfl) (by kernel_rfl) (by kernel_rfl) (fun _ _ _ h => h) (Or.inl ⟨by rfl, ?_⟩) (by assumption) ?_
                · intro V hSw
                  try dsimp only at hSw
                  go_simp
                simp only [Act.put, List.setIfInBounds_toArray, List.set_cons_zero, List.set_cons_succ]
                refine wpAnyH_ready (rs := [12]) (by kernel_rfl) (by simp) ?_
                refine AllReadyH.cons (o := _) u13_12 (fun K hK => ?_) AllReadyH.nil
                have c1 := (unhide HF).1.2.1.2.1
                have f1' := (unhide HF).1.2.2 1 (by decide)
                go_simp
                refine hK.out _ _ ((unhide HKx).set 1 _ (.inl rfl)) (fun _ => ?_)
                clear hK K c1 f1'
                refine wpAnyH_done (by kernel_rfl) ?_ _
                refine NoPanic.normal ?_
                go_wp2
                go_meet
                case rel => rw [← unhide Hs1]; exact (unhide HF).2
              · go_simp
                have EC := hide (own_lit (B := 0) (e := 27) (z := 1) (k := 1) w5x #[.slice og yl oc] (Nat.zero_le _) (by unfold maxLen; omega) rfl)
                have Bq9 := hide (btrans (unhide Bq5) (bnew w5x (.cells #[.slice og yl oc] 27)))
                have HV := hide ((unhide HV).keep (bnew w5x (.cells #[.slice og yl oc] 27)))
                refine hK.out _ _ ((unhide HKe).below (unhide Bq9)) (fun _ => ?_)
                clear hK K
                generalize w5x.alloc (.cells #[.slice og yl oc] 27) = w9x at *
                obtain ⟨ec, hec⟩ : ∃ ec, ec = w5x.heap.size := ⟨_, rfl⟩
                rw [← hec] at EC
                rw [← hec]
                clear hec
                refine wpAnyH_ready (rs := [1]) (by kernel_rfl) (by simp) ?_
                refine AllReadyH.cons (o := _) u13_1 (fun K hK => ?_) AllReadyH.nil
                have c1 := ((unhide HK).keep (unhide Bq9)).2.1.2.1
                go_simp
                refine hK.out _ _ ((unhide HKe).below (unhide Bq9)) (fun _ => ?_)
                clear hK K
                clear c1
                refine wpAnyH_ready (rs := [10]) (by kernel_rfl) (by simp) ?_
                refine AllReadyH.cons (o := _) u13_10 (fun K hK => ?_) AllReadyH.nil
                refine wp_app rfl Try.underlying26 info25 rfl (by decide) (v := vf) (y := .slice (some ⟨ec, 0, none⟩) 1 1) rfl rfl (own_keep (unhide HRow) (unhide Bq9)) (unhide EC) (unhide H1 og oc) (by unfold maxLen; omega) (by omega) (by have := (unhide HKe).size; have := (unhide Bq9).size; omega) ?_
                intro v2 w11x hown hgrow hat
                have HF := hide (tq_front (unhide Hhl) (unhide HK) (unhide Hnr) (unhide HBk) (unhide HSep) (unhide HKe) (unhide Bq9) (own_keep (unhide HRow) (unhide Bq9)) (unhide HV) hgrow hown hat)
                have HKx := hide (kept_step ((unhide HKe).below (unhide Bq9)) hgrow (fun i e => ((own_keep (unhide HRow) (unhide Bq9)).lt i e).1))
                obtain ⟨f2, h2x, rfl⟩ := own_form hown
                clear hown hgrow hat
                refine hK.out _ _ (unhide HKx) (fun _ => ?_)
                clear hK K
                refine wpAnyH_take (i := 11) (oi := _) (v := .pointer (some ⟨kb, 1, none⟩)) u13_11 (by kernel_rfl) (by kernel_rfl) (by kernel_rfl) (fun _ _ _ h => h) (Or.inl ⟨by rfl, ?_⟩) (by assumption) ?_
                · intro V hSw
                  try dsimp only at hSw
                  go_simp
                simp only [Act.put, List.setIfInBounds_toArray, List.set_cons_zero, List.set_cons_succ]
                refine wpAnyH_ready (rs := [12]) (by kernel_rfl) (by simp) ?_
                refine AllReadyH.cons (o := _) u13_12 (fun K hK => ?_) AllReadyH.nil
                have c1 := (unhide HF).1.2.1.2.1
                have f1' := (unhide HF).1.2.2 1 (by decide)
                go_simp
                refine hK.out _ _ ((unhide HKx).set 1 _ (.inl rfl)) (fun _ => ?_)
                clear hK K c1 f1'
                refine wpAnyH_done (by kernel_rfl) ?_ _
                refine NoPanic.normal ?_
                go_wp2
                go_meet
                case rel => rw [← unhide Hs1]; exact (unhide HF).2
          case rest =>
          clear HK HFr HBk HSep HKe HRow Hnr Hhl Hs1 HOn1 Hyl H1
          obtain ⟨vf, vb, hK, hF, hB, hSep, hKe⟩ := hcut
          obtain ⟨wr, rfl⟩ : ∃ w, w = wc := ⟨_, rfl⟩
          have HK := hide hK
          have HFr := hide hF
          have HBk := hide hB
          have HSep := hide hSep
          have HKe := hide hKe
          clear hK hF hB hSep hKe
          have HOn2 := hide (show ∀ V, Below wr.heap.size wr V → Calls Try.prog 20 #[.agg #[.slice a1 nl a2, .slice (some ⟨rf, 0, none⟩) nf a5, .slice (some ⟨rg, 0, none⟩) nb a8, .slice d1 no d2, .int .i64 rk], .slice us2 um2 ut2] V fun e w' => ∃ v, e = .returned v ∧ NR w' V.heap.size v (Bk n) ∧ Below V.heap.size V w' from fun V hV => by
            have hBV := btrans (unhide HBV wr (unhide HKe)) hV
            have := unhide HRn V hBV 0 _ _ ((unhide HRo2).1.keep hBV) (unhide HRo2).2.1 (by have := (unhide HRo2).2.2.1; omega)
            rw [(unhide HRo2).2.2.2] at this
            exact this)
          obtain ⟨yl, hyl⟩ : ∃ yl, yl = (Bk n).length := ⟨_, rfl⟩
          have Hyl := hide hyl
          clear hyl
          obtain ⟨hs, hs1, hs2, hs3⟩ := unhide HBk
          have hhl : n = hs.length := by
            have h := congrArg List.length hs1
            simp at h
            omega
          rw [← hhl] at hs2
          have HRow := hide hs2
          have Hnr := hide hs3
          have Hhl := hide hhl
          have Hs1 := hide hs1
          clear hs1 hs2 hs3 hhl
          have H1 := hide (show ∀ (og : Option Addr) (oc : Nat), ∀ u ∈ (#[Value.slice og yl oc] : Array Value).toList, u.oneCell' = true from fun og oc u hu => by simp at hu; subst hu; rfl)
          obtain ⟨-, ⟨s0', s1', s2', s3', s4'⟩, -⟩ := unhide HSk wr (unhide HKe)
          go_upto_region 14 with fail
          clear s0' s1' s2' s3' s4'
          refine wp_region_noPanic ?_
          refine wp_region_held_drew (S := fun V => Kept (fun i => i = kb) wt V) (by kernel_rfl) ((unhide HKe).dr) ?_
          intro _
          obtain ⟨wd0, hwd0⟩ : ∃ w, w = wr.drew := ⟨_, rfl⟩
          have Bd := hide (show Below wr.heap.size wr wd0 from by rw [hwd0]; exact bdrew _)
          rw [← hwd0]
          clear hwd0
          have hS0 : Kept (fun i => i = kb) wt wd0 := (unhide HKe).below (unhide Bd)
          refine wpAnyH_take (i := 0) (oi := _) (v := .pointer (some ⟨kb, 2, none⟩)) u13_0 (by kernel_rfl) (by kernel_rfl) (by kernel_rfl) (fun _ _ _ h => h) (Or.inl ⟨by rfl, ?_⟩) (by assumption) ?_
          · intro V hSw
            try dsimp only at hSw
            go_simp
          simp only [Act.put, List.setIfInBounds_toArray, List.set_cons_zero, List.set_cons_succ]
          refine wpAnyH_take (i := 2) (oi := _) (v := .agg #[.slice a1 nl a2, .slice (some ⟨rf, 0, none⟩) nf a5, .slice (some ⟨rg, 0, none⟩) nb a8, .slice d1 no d2, .int .i64 rk]) u13_2 (by kernel_rfl) (by kernel_rfl) (by kernel_rfl) (fun _ _ _ h => h) (Or.inl ⟨by rfl, ?_⟩) (by assumption) ?_
          · intro V hSw
            try dsimp only at hSw
            obtain ⟨-, ⟨m0, m1, m2, m3, m4⟩, -⟩ := unhide HSk V hSw
            go_simp
          simp only [Act.put, List.setIfInBounds_toArray, List.set_cons_zero, List.set_cons_succ]
          refine wpAnyH_take (i := 3) (oi := _) (v := .pointer (some ⟨sb, 2, none⟩)) u13_3 (by kernel_rfl) (by kernel_rfl) (by kernel_rfl) (fun _ _ _ h => h) (Or.inl ⟨by rfl, ?_⟩) (by assumption) ?_
          · intro V hSw
            try dsimp only at hSw
            go_simp
          simp only [Act.put, List.setIfInBounds_toArray, List.set_cons_zero, List.set_cons_succ]
          refine wpAnyH_take (i := 4) (oi := _) (v := .slice (some ⟨rg, 0, none⟩) nb a8) u13_4 (by kernel_rfl) (by kernel_rfl) (by kernel_rfl) (fun _ _ _ h => h) (Or.inl ⟨by rfl, ?_⟩) (by assumption) ?_
          · intro V hSw
            try dsimp only at hSw
            obtain ⟨-, ⟨m0, m1, m2, m3, m4⟩, -⟩ := unhide HSk V hSw
            go_simp
          simp only [Act.put, List.setIfInBounds_toArray, List.set_cons_zero, List.set_cons_succ]
          refine wpAnyH_take (i := 5) (oi := _) (v := .int .i64 (n : Int)) u13_5 (by kernel_rfl) (by kernel_rfl) (by kernel_rfl) (fun _ _ _ h => h) (Or.inl ⟨by rfl, ?_⟩) (by assumption) ?_
          · intro V hSw
            try dsimp only at hSw
            go_simp
          simp only [Act.put, List.setIfInBounds_toArray, List.set_cons_zero, List.set_cons_succ]
          refine wpAnyH_take (i := 6) (oi := _) (v := .pointer (some ⟨rg, n, none⟩)) u13_6 (by kernel_rfl) (by kernel_rfl) (by kernel_rfl) (fun _ _ _ h => h) (Or.inl ⟨by rfl, ?_⟩) (by assumption) ?_
          · intro V hSw
            try dsimp only at hSw
            go_simp
          simp only [Act.put, List.setIfInBounds_toArray, List.set_cons_zero, List.set_cons_succ]
          refine wpAnyH_take (i := 7) (oi := _) (v := .slice us2 um2 ut2) u13_7 (by kernel_rfl) (by kernel_rfl) (by kernel_rfl) (fun _ _ _ h => h) (Or.inl ⟨by rfl, ?_⟩) (by assumption) ?_
          · intro V hSw
            try dsimp only at hSw
            have m0 := unhide Hce2 V hSw
            go_simp
          simp only [Act.put, List.setIfInBounds_toArray, List.set_cons_zero, List.set_cons_succ]
          refine wpAnyH_ready (rs := [1, 8]) (by kernel_rfl) (by simp) ?_
          refine (AllReadyH.cons (o := _) u13_1 (fun K hK => ?_) (AllReadyH.cons (o := _) u13_8 (fun K hK => ?_) AllReadyH.nil))
          · have c1 := ((unhide HK).keep (unhide Bd)).2.1.2.2.1
            go_simp
            refine hK.out _ _ ((unhide HKe).below (unhide Bd)) (fun _ => ?_)
            clear hK K
            clear c1
            refine wpAnyH_ready (rs := [8]) (by kernel_rfl) (by simp) ?_
            refine AllReadyH.cons (o := _) u13_8 (fun K hK => ?_) AllReadyH.nil
            go_simp
            refine (unhide HOn2 _ (unhide Bd)).mono ?_
            rintro e w2x ⟨ov, rfl, hov, hbo⟩
            have Bq2 := hide (btrans (unhide Bd) hbo)
            have HV := hide (hov.le (Nat.zero_le _))
            obtain ⟨og, oc, rfl⟩ : ∃ og oc, ov = .slice og yl oc := by obtain ⟨a, b, e⟩ := hov.form; exact ⟨a, b, by rw [e, unhide Hyl]⟩
            clear hov hbo
            refine hK.out _ _ ((unhide HKe).below (unhide Bq2)) (fun _ => ?_)
            clear hK K
            refine wpAnyH_ready (rs := [9]) (by kernel_rfl) (by simp) ?_
            refine AllReadyH.cons (o := _) u13_9 (fun K hK => ?_) AllReadyH.nil
            go_simp
            have EC := hide (own_lit (B := 0) (e := 27) (z := 1) (k := 1) w2x #[.slice og yl oc] (Nat.zero_le _) (by unfold maxLen; omega) rfl)
            have Bq3 := hide (btrans (unhide Bq2) (bnew w2x (.cells #[.slice og yl oc] 27)))
            have HV := hide ((unhide HV).keep (bnew w2x (.cells #[.slice og yl oc] 27)))
            refine hK.out _ _ ((unhide HKe).below (unhide Bq3)) (fun _ => ?_)
            clear hK K
            generalize w2x.alloc (.cells #[.slice og yl oc] 27) = w3x at *
            obtain ⟨ec, hec⟩ : ∃ ec, ec = w2x.heap.size := ⟨_, rfl⟩
            rw [← hec] at EC
            rw [← hec]
            clear hec
            refine wpAnyH_ready (rs := [10]) (by kernel_rfl) (by simp) ?_
            refine AllReadyH.cons (o := _) u13_10 (fun K hK => ?_) AllReadyH.nil
            refine wp_app rfl Try.underlying26 info25 rfl (by decide) (v := vb) (y := .slice (some ⟨ec, 0, none⟩) 1 1) rfl rfl (own_keep (unhide HRow) (unhide Bq3)) (unhide EC) (unhide H1 og oc) (by unfold maxLen; omega) (by omega) (by have := (unhide HKe).size; have := (unhide Bq3).size; omega) ?_
            intro v2 w4x hown hgrow hat
            have HF := hide (tq_back (unhide Hhl) (unhide HK) (unhide Hnr) (unhide HFr) (unhide HSep) (unhide HKe) (unhide Bq3) (own_keep (unhide HRow) (unhide Bq3)) (unhide HV) hgrow hown hat)
            have HKx := hide (kept_step ((unhide HKe).below (unhide Bq3)) hgrow (fun i e => ((own_keep (unhide HRow) (unhide Bq3)).lt i e).1))
            obtain ⟨f2, h2x, rfl⟩ := own_form hown
            clear hown hgrow hat
            refine hK.out _ _ (unhide HKx) (fun _ => ?_)
            clear hK K
            refine wpAnyH_take (i := 11) (oi := _) (v := .pointer (some ⟨kb, 2, none⟩)) u13_11 (by kernel_rfl) (by kernel_rfl) (by kernel_rfl) (fun _ _ _ h => h) (Or.inl ⟨by rfl, ?_⟩) (by assumption) ?_
            · intro V hSw
              try dsimp only at hSw
              go_simp
            simp only [Act.put, List.setIfInBounds_toArray, List.set_cons_zero, List.set_cons_succ]
            refine wpAnyH_ready (rs := [12]) (by kernel_rfl) (by simp) ?_
            refine AllReadyH.cons (o := _) u13_12 (fun K hK => ?_) AllReadyH.nil
            have c1 := (unhide HF).1.2.1.2.2.1
            have f1' := (unhide HF).1.2.2 2 (by decide)
            go_simp
            refine hK.out _ _ ((unhide HKx).set 2 _ (.inl rfl)) (fun _ => ?_)
            clear hK K c1 f1'
            refine wpAnyH_done (by kernel_rfl) ?_ _
            refine NoPanic.normal ?_
            go_wp2
            go_roundw
            case rel => exact ⟨n + 1, by omega, by go_num, by rw [unhide Hsu0, unhide Hsu1, ← unhide Hs1]; exact (unhide HF).2⟩
            case measure => simp [intOf]; omega
          · go_simp
            refine (unhide HOn2 _ (unhide Bd)).mono ?_
            rintro e w5x ⟨ov, rfl, hov, hbo⟩
            have Bq5 := hide (btrans (unhide Bd) hbo)
            have HV := hide (hov.le (Nat.zero_le _))
            obtain ⟨og, oc, rfl⟩ : ∃ og oc, ov = .slice og yl oc := by obtain ⟨a, b, e⟩ := hov.form; exact ⟨a, b, by rw [e, unhide Hyl]⟩
            clear hov hbo
            refine hK.out _ _ ((unhide HKe).below (unhide Bq5)) (fun _ => ?_)
            clear hK K
            refine wpAnyH_ready (rs := [1, 9]) (by kernel_rfl) (by simp) ?_
            refine (AllReadyH.cons (o := _) u13_1 (fun K hK => ?_) (AllReadyH.cons (o := _) u13_9 (fun K hK => ?_) AllReadyH.nil))
            · have c1 := ((unhide HK).keep (unhide Bq5)).2.1.2.2.1
              go_simp
              refine hK.out _ _ ((unhide HKe).below (unhide Bq5)) (fun _ => ?_)
              clear hK K
              clear c1
              refine wpAnyH_ready (rs := [9]) (by kernel_rfl) (by simp) ?_
              refine AllReadyH.cons (o := _) u13_9 (fun K hK => ?_) AllReadyH.nil
              go_simp
              have EC := hide (own_lit (B := 0) (e := 27) (z := 1) (k := 1) w5x #[.slice og yl oc] (Nat.zero_le _) (by unfold maxLen; omega) rfl)
              have Bq7 := hide (btrans (unhide Bq5) (bnew w5x (.cells #[.slice og yl oc] 27)))
              have HV := hide ((unhide HV).keep (bnew w5x (.cells #[.slice og yl oc] 27)))
              refine hK.out _ _ ((unhide HKe).below (unhide Bq7)) (fun _ => ?_)
              clear hK K
              generalize w5x.alloc (.cells #[.slice og yl oc] 27) = w7x at *
              obtain ⟨ec, hec⟩ : ∃ ec, ec = w5x.heap.size := ⟨_, rfl⟩
              rw [← hec] at EC
              rw [← hec]
              clear hec
              refine wpAnyH_ready (rs := [10]) (by kernel_rfl) (by simp) ?_
              refine AllReadyH.cons (o := _) u13_10 (fun K hK => ?_) AllReadyH.nil
              refine wp_app rfl Try.underlying26 info25 rfl (by decide) (v := vb) (y := .slice (some ⟨ec, 0, none⟩) 1 1) rfl rfl (own_keep (unhide HRow) (unhide Bq7)) (unhide EC) (unhide H1 og oc) (by unfold maxLen; omega) (by omega) (by have := (unhide HKe).size; have := (unhide Bq7).size; omega) ?_
              intro v2 w8x hown hgrow hat
              have HF := hide (tq_back (unhide Hhl) (unhide HK) (unhide Hnr) (unhide HFr) (unhide HSep) (unhide HKe) (unhide Bq7) (own_keep (unhide HRow) (unhide Bq7)) (unhide HV) hgrow hown hat)
              have HKx := hide (kept_step ((unhide HKe).below (unhide Bq7)) hgrow (fun i e => ((own_keep (unhide HRow) (unhide Bq7)).lt i e).1))
              obtain ⟨f2, h2x, rfl⟩ := own_form hown
              clear hown hgrow hat
              refine hK.out _ _ (unhide HKx) (fun _ => ?_)
              clear hK K
              refine wpAnyH_take (i := 11) (oi := _) (v := .pointer (some ⟨kb, 2, none⟩)) u13_11 (by kernel_rfl) (by kernel_rfl) (by kernel_rfl) (fun _ _ _ h => h) (Or.inl ⟨by rfl, ?_⟩) (by assumption) ?_
              · intro V hSw
                try dsimp only at hSw
                go_simp
              simp only [Act.put, List.setIfInBounds_toArray, List.set_cons_zero, List.set_cons_succ]
              refine wpAnyH_ready (rs := [12]) (by kernel_rfl) (by simp) ?_
              refine AllReadyH.cons (o := _) u13_12 (fun K hK => ?_) AllReadyH.nil
              have c1 := (unhide HF).1.2.1.2.2.1
              have f1' := (unhide HF).1.2.2 2 (by decide)
              go_simp
              refine hK.out _ _ ((unhide HKx).set 2 _ (.inl rfl)) (fun _ => ?_)
              clear hK K c1 f1'
              refine wpAnyH_done (by kernel_rfl) ?_ _
              refine NoPanic.normal ?_
              go_wp2
              go_roundw
              case rel => exact ⟨n + 1, by omega, by go_num, by rw [unhide Hsu0, unhide Hsu1, ← unhide Hs1]; exact (unhide HF).2⟩
              case measure => simp [intOf]; omega
            · go_simp
              have EC := hide (own_lit (B := 0) (e := 27) (z := 1) (k := 1) w5x #[.slice og yl oc] (Nat.zero_le _) (by unfold maxLen; omega) rfl)
              have Bq9 := hide (btrans (unhide Bq5) (bnew w5x (.cells #[.slice og yl oc] 27)))
              have HV := hide ((unhide HV).keep (bnew w5x (.cells #[.slice og yl oc] 27)))
              refine hK.out _ _ ((unhide HKe).below (unhide Bq9)) (fun _ => ?_)
              clear hK K
              generalize w5x.alloc (.cells #[.slice og yl oc] 27) = w9x at *
              obtain ⟨ec, hec⟩ : ∃ ec, ec = w5x.heap.size := ⟨_, rfl⟩
              rw [← hec] at EC
              rw [← hec]
              clear hec
              refine wpAnyH_ready (rs := [1]) (by kernel_rfl) (by simp) ?_
              refine AllReadyH.cons (o := _) u13_1 (fun K hK => ?_) AllReadyH.nil
              have c1 := ((unhide HK).keep (unhide Bq9)).2.1.2.2.1
              go_simp
              refine hK.out _ _ ((unhide HKe).below (unhide Bq9)) (fun _ => ?_)
              clear hK K
              clear c1
              refine wpAnyH_ready (rs := [10]) (by kernel_rfl) (by simp) ?_
              refine AllReadyH.cons (o := _) u13_10 (fun K hK => ?_) AllReadyH.nil
              refine wp_app rfl Try.underlying26 info25 rfl (by decide) (v := vb) (y := .slice (some ⟨ec, 0, none⟩) 1 1) rfl rfl (own_keep (unhide HRow) (unhide Bq9)) (unhide EC) (unhide H1 og oc) (by unfold maxLen; omega) (by omega) (by have := (unhide HKe).size; have := (unhide Bq9).size; omega) ?_
              intro v2 w11x hown hgrow hat
              have HF := hide (tq_back (unhide Hhl) (unhide HK) (unhide Hnr) (unhide HFr) (unhide HSep) (unhide HKe) (unhide Bq9) (own_keep (unhide HRow) (unhide Bq9)) (unhide HV) hgrow hown hat)
              have HKx := hide (kept_step ((unhide HKe).below (unhide Bq9)) hgrow (fun i e => ((own_keep (unhide HRow) (unhide Bq9)).lt i e).1))
              obtain ⟨f2, h2x, rfl⟩ := own_form hown
              clear hown hgrow hat
              refine hK.out _ _ (unhide HKx) (fun _ => ?_)
              clear hK K
              refine wpAnyH_take (i := 11) (oi := _) (v := .pointer (some ⟨kb, 2, none⟩)) u13_11 (by kernel_rfl) (by kernel_rfl) (by kernel_rfl) (fun _ _ _ h => h) (Or.inl ⟨by rfl, ?_⟩) (by assumption) ?_
              · intro V hSw
                try dsimp only at hSw
                go_simp
              simp only [Act.put, List.setIfInBounds_toArray, List.set_cons_zero, List.set_cons_succ]
              refine wpAnyH_ready (rs := [12]) (by kernel_rfl) (by simp) ?_
              refine AllReadyH.cons (o := _) u13_12 (fun K hK => ?_) AllReadyH.nil
              have c1 := (unhide HF).1.2.1.2.2.1
              have f1' := (unhide HF).1.2.2 2 (by decide)
              go_simp
              refine hK.out _ _ ((unhide HKx).set 2 _ (.inl rfl)) (fun _ => ?_)
              clear hK K c1 f1'
              refine wpAnyH_done (by kernel_rfl) ?_ _
              refine NoPanic.normal ?_
              go_wp2
              go_roundw
              case rel => exact ⟨n + 1, by omega, by go_num, by rw [unhide Hsu0, unhide Hsu1, ← unhide Hs1]; exact (unhide HF).2⟩
              case measure => simp [intOf]; omega
        · obtain rfl : nf = n := by omega
          have cl : ¬ ((nf : Int) < (nf : Int)) := by omega
          obtain ⟨q4, c4, rfl⟩ : ∃ q c, vf = .slice q nf c := by obtain ⟨a, b, e⟩ := (unhide HFr).form; exact ⟨a, b, by rw [e]; simp⟩
          obtain ⟨q5, c5, rfl⟩ : ∃ q c, vb = .slice q nf c := by obtain ⟨a, b, e⟩ := (unhide HBk).form; exact ⟨a, b, by rw [e]; simp⟩
          have hBW := unhide HBV wr (unhide HKe)
          have HZr := hide ((unhide HZ2).keep hBW)
          have HFx := hide ((unhide HF2).keep hBW)
          have HGr := hide ((unhide HGB).keep hBW)
          have tkb : Tg wr kb 29 := (unhide HK).1.2
          have n1 : zb ≠ gb := (unhide HZr).1.2.ne (unhide HGr).1.2 (by decide)
          have n2 : gb ≠ zb := fun e => n1 e.symm
          have n3 : zb ≠ fb := (unhide Hzf).2.2
          have n4 : fb ≠ zb := fun e => n3 e.symm
          have n5 : kb ≠ zb := fun e => by have := (unhide HZ2).1.1; have := (unhide Hbd).1; omega
          have n6 : zb ≠ kb := fun e => n5 e.symm
          have n7 : kb ≠ fb := fun e => by have := (unhide HF2).1.1; have := (unhide Hbd).1; omega
          have n8 : fb ≠ kb := fun e => n7 e.symm
          have Hend := hide (show FB (put30 (put27 wr zb (.slice (some ⟨lg, 0, none⟩) nl nl) (.slice q4 nf c4) (.slice q5 nf c5) (.slice sq no sc) rk) fb 0 0) fb 0 0 ∧ KB (put30 (put27 wr zb (.slice (some ⟨lg, 0, none⟩) nl nl) (.slice q4 nf c4) (.slice q5 nf c5) (.slice sq no sc) rk) fb 0 0) zb (.slice (some ⟨lg, 0, none⟩) nl nl) (.slice q4 nf c4) (.slice q5 nf c5) (.slice sq no sc) rk ∧ KR (put30 (put27 wr zb (.slice (some ⟨lg, 0, none⟩) nl nl) (.slice q4 nf c4) (.slice q5 nf c5) (.slice sq no sc) rk) fb 0 0) 0 (.agg #[.slice (some ⟨lg, 0, none⟩) nl nl, .slice q4 nf c4, .slice q5 nf c5, .slice sq no sc, .int .i64 rk]) (reN k) ∧ Below W.heap.size W (put30 (put27 wr zb (.slice (some ⟨lg, 0, none⟩) nl nl) (.slice q4 nf c4) (.slice q5 nf c5) (.slice sq no sc) rk) fb 0 0) from by
            have k1 := put27_kept wr zb (.slice (some ⟨lg, 0, none⟩) nl nl) (.slice q4 nf c4) (.slice q5 nf c5) (.slice sq no sc) rk
            have k2 := put30_kept (put27 wr zb (.slice (some ⟨lg, 0, none⟩) nl nl) (.slice q4 nf c4) (.slice q5 nf c5) (.slice sq no sc) rk) fb 0 0
            have b2 := btrans (unhide HW2) hBW
            have t29 : ∀ {u : TypeId}, (29 : TypeId) ≠ u → ∀ i, i = zb → ¬ Tg wr i u := fun h i e t => tg_not (show Tg wr i 29 from e ▸ (unhide HZr).1.2) h t
            have hFz := (unhide HFx).kept k1 n4
            have t32 : ∀ {u : TypeId}, (32 : TypeId) ≠ u → ∀ i, i = fb → ¬ Tg (put27 wr zb (.slice (some ⟨lg, 0, none⟩) nl nl) (.slice q4 nf c4) (.slice q5 nf c5) (.slice sq no sc) rk) i u := fun h i e t => tg_not (show Tg (put27 wr zb (.slice (some ⟨lg, 0, none⟩) nl nl) (.slice q4 nf c4) (.slice q5 nf c5) (.slice sq no sc) rk) i 32 from e ▸ hFz.1.2) h t
            have tk : ∀ {u : TypeId}, (29 : TypeId) ≠ u → ∀ i, i = kb → ¬ Tg wt i u := fun h i e t => tg_not (show Tg wt i 29 from e ▸ unhide HTk) h t
            refine ⟨hFz.put _ _, ((unhide HZr).put _ _ _ _ _).kept k2 n3, ?_, Kept.back (Kept.back b2 k1 b2.size (fun i e => by rw [e]; exact (unhide Hzf).1)) k2 (Nat.le_trans b2.size k1.size) (fun i e => by rw [e]; exact (unhide Hzf).2.1)⟩
            refine ⟨_, _, _, _, by rw [unhide Hrk]; rfl, ?_, ?_, ?_, ?_⟩
            · exact (((unhide HLP).kept (unhide HKe) (tk (by decide)) (tk (by decide))).kept k1 (t29 (by decide)) (t29 (by decide))).kept k2 (t32 (by decide)) (t32 (by decide))
            · have e : (reN k).front = (List.range nf).map Fr := by
                rw [unhide HFF, unhide Hnf]
                show k.front.map (fun l => l.map (nm (carF k.loops) k.loops.length)) = _
                rw [← unhide Hcc, ← unhide Hnl]
                exact map_range k.front _
              rw [e]
              exact ((unhide HFr).lr.kept k1 (t29 (by decide)) (t29 (by decide))).kept k2 (t32 (by decide)) (t32 (by decide))
            · have e : (reN k).back = (List.range nf).map Bk := by
                rw [unhide HBB, ← unhide Hnn, unhide Hnb]
                show k.back.map (fun l => l.map (nm (carF k.loops) k.loops.length)) = _
                rw [← unhide Hcc, ← unhide Hnl]
                exact map_range k.back _
              rw [e]
              exact ((unhide HBk).lr.kept k1 (t29 (by decide)) (t29 (by decide))).kept k2 (t32 (by decide)) (t32 (by decide))
            · have e : (reN k).loose = LS := by
                rw [unhide HLSe, unhide Hcc, unhide Hnl]
                rfl
              rw [e]
              exact (((NR.le (unhide HNt) (Nat.zero_le _)).kept (unhide HKe) (tk (by decide))).kept k1 (t29 (by decide))).kept k2 (t32 (by decide)))
          obtain ⟨-, ⟨k0, k1, k2, k3, k4⟩, -⟩ := unhide HK
          obtain ⟨-, ⟨g0, g1⟩, -⟩ := unhide HGr
          obtain ⟨-, ⟨r0, r1, r2, r3, r4⟩, rf⟩ := unhide HZr
          have rf0 := rf 0 (by decide)
          have rf1 := rf 1 (by decide)
          have rf2 := rf 2 (by decide)
          have rf3 := rf 3 (by decide)
          have rf4 := rf 4 (by decide)
          clear rf
          obtain ⟨-, ⟨s0, s1⟩, t0, t1⟩ := unhide HFx
          go_wp2
          go_region
          go_wp2
          unfold put30 put27 at Hend
          generalize ((((((wr.setCell ⟨zb, 0, none⟩ (.slice (some ⟨lg, 0, none⟩) nl nl)).setCell ⟨zb, 1, none⟩ (.slice q4 nf c4)).setCell ⟨zb, 2, none⟩ (.slice q5 nf c5)).setCell ⟨zb, 3, none⟩ (.slice sq no sc)).setCell ⟨zb, 4, none⟩ (.int .i64 rk)).setCell ⟨fb, 0, none⟩ (.int .i64 0)).setCell ⟨fb, 1, none⟩ (.int .i64 0) = wz at *
          obtain ⟨hF, hKk, hKR, hBl⟩ := unhide Hend
          obtain ⟨-, ⟨z0, z1, z2, z3, z4⟩, -⟩ := hKk.keep (bdrew wz)
          obtain ⟨-, ⟨y0, y1⟩, -⟩ := hF.keep (bdrew wz)
          refine bodyPost_ret (v := .tuple #[.agg #[.slice (some ⟨lg, 0, none⟩) nl nl, .slice q4 nf c4, .slice q5 nf c5, .slice sq no sc, .int .i64 rk], fltV 0 0]) ?_ rfl ⟨_, rfl, hKR.keep (bdrew wz), btrans hBl (bdrew wz)⟩
          simp [results, Try.results8, go_sem, z0, z1, z2, z3, z4, y0, y1]
end Go.Proofs.Ytancniamgfppiaa
