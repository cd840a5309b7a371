/-
  Do, whole; New.
-/
import Derived.Test.YtancniamgfppiaaMaH
namespace Go.Proofs.Ytancniamgfppiaa
open Go.RowKit

/-- what a machine is behind a stitch -/
def nxS (N : Nat) (s : St) (x : Sx) : St := if wrE N s x = 0 then doS s x else s
theorem do_any {B : Nat} {W : World} {m N : Nat} {s : St} {g : Mg} (k : MB B W m N s g) (hI : Iv s) (hN : N ≤ 128) (x : Sx) : Calls Try.prog 34 #[mp m, sxV x] W (DoP B W m N (nxS N s x) (wrE N s x)) := by
  unfold nxS
  by_cases hz : wrE N s x = 0
  · rw [if_pos hz, hz]
    obtain ⟨d1, d2, -⟩ := wrE_zero hz
    rcases (show x.dk = 1 ∨ x.dk = 2 ∨ x.dk = 3 ∨ x.dk = 4 ∨ x.dk = 5 ∨ x.dk = 6 by omega) with h | h | h | h | h | h
    · exact do_knit k hI hN x hz h
    · exact do_tuck k hI hN x hz h
    · exact do_miss k hI hN x hz h
    · exact do_move k hI hN x hz h
    · exact do_drop k hI hN x hz h
    · exact do_rack k hI hN x hz h
  · rw [if_neg hz]
    exact do_err k hI hN x hz

/-- 'make' of a bed where the order is drawn -/
theorem make_bed {V : World} {op : Oper} {act : Act} {K : Act → World → Prop} {Q : Exit → Act → World → Prop} (x : Operand) (k : Nat) (hk : k ≤ 128) (h2 : op.op = Op.makeSlice 26 x x) (h3 : act.eval x = .int .i64 k)
    (next : ∀ V', BR V' V.heap.size k (fun _ => .slice none 0 0) → Below V.heap.size V V' → K (act.put op.dst (.slice (some ⟨V.heap.size, 0, none⟩) k k)) V') : op.wp Try.prog act V K Q := by
  obtain ⟨t, ht, ht0, ht1, ht2⟩ := info_parts info25
  obtain ⟨V', hrun, hrow, hgrow⟩ := run_make_full (P := Try.prog) V V.heap.size 26 27 t (.slice none 0 0) 1 Try.underlying26 ht ht0 ht1 .i64 .i64 k (by rw [ht2]; omega) (by unfold maxLen; omega) (Nat.le_refl _)
  rw [Nat.mul_one] at hrow
  have hnext := next V' ⟨⟨(hrow.lt _ rfl).2, own_tg hrow rfl⟩, fun j hj => ⟨by rw [hrow.cellAt j (by omega)]; show (madeCells #[.slice none 0 0] k).toList[j]? = _; rw [toList_madeCells_one, List.getElem?_replicate, if_pos (by omega)], hrow.frozenAt j⟩⟩ ((Below.refl V.heap.size V).grown hgrow (Nat.le_refl _) (fun j e => by cases e))
  unfold Oper.wp
  simp [execOp, h2, h3, hrun, Result.andThen]
  exact hnext

/-- a machine whose first x beds are laid -/
structure NI (W wr : World) (m N x : Nat) (bb : Nat → Nat) : Prop where
  lt : m < wr.heap.size
  tg : Tg wr m 73
  c2 : wr.cell? ⟨m, 2, none⟩ = some (.int .i64 0)
  c3 : wr.cell? ⟨m, 3, none⟩ = some (.slice none 0 0)
  c4 : wr.cell? ⟨m, 4, none⟩ = some (.slice none 0 0)
  c5 : wr.cell? ⟨m, 5, none⟩ = some (.int .i64 0)
  fz : ∀ j, j < 6 → wr.frozen? ⟨m, j, none⟩ = false
  old : ∀ b, b < x → wr.cell? ⟨m, b, none⟩ = some (.slice (some ⟨bb b, 0, none⟩) N N) ∧ BR wr (bb b) N (fun _ => .slice none 0 0) ∧ m ≤ bb b
  new : ∀ b, x ≤ b → b < 2 → wr.cell? ⟨m, b, none⟩ = some (.slice none 0 0)
  two : 2 ≤ x → bb 0 ≠ bb 1
  bel : Below m W wr
theorem NI.start (W : World) (N : Nat) : NI W (W.alloc (.cells #[.slice none 0 0, .slice none 0 0, .int .i64 0, .slice none 0 0, .slice none 0 0, .int .i64 0] 73)) W.heap.size N 0 (fun _ => 0) where
  lt := by simp
  tg := Tg.new _ _ _
  c2 := by simp [go_sem]
  c3 := by simp [go_sem]
  c4 := by simp [go_sem]
  c5 := by simp [go_sem]
  fz j hj := by simp [go_sem]
  old b hb := by omega
  new b hb h2 := by
    match b, h2 with
    | 0, _ => simp [go_sem]
    | 1, _ => simp [go_sem]
  two h := by omega
  bel := bnew _ _
theorem NI.next {W wr V : World} {m N x : Nat} {bb : Nat → Nat} (k : NI W wr m N x bb) (hx : x < 2) (hb : Below wr.heap.size wr V) (hr : BR V wr.heap.size N (fun _ => .slice none 0 0)) :
    NI W (V.setCell ⟨m, x, none⟩ (.slice (some ⟨wr.heap.size, 0, none⟩) N N)) m N (x + 1) (fun b => if b = x then wr.heap.size else bb b) := by
  have e := kset V m x (.slice (some ⟨wr.heap.size, 0, none⟩) N N)
  have hlt := k.lt
  refine ⟨by have := hb.size; simp; omega, (k.tg.kept (Kept.of (S := fun _ => False) hb) k.lt id).set _ _, cset (keepC hb k.lt k.c2) (by omega), cset (keepC hb k.lt k.c3) (by omega), cset (keepC hb k.lt k.c4) (by omega), cset (keepC hb k.lt k.c5) (by omega), fun j hj => fset (keepF hb k.lt (k.fz j hj)), fun b hb' => ?_, fun b h1 h2 => cset (keepC hb k.lt (k.new b (by omega) h2)) (by omega), fun h => ?_, (k.bel.trans (hb.mono (Nat.le_of_lt k.lt))).setCell (Nat.le_refl _) _⟩
  · by_cases c : b = x
    · subst c
      rw [if_pos rfl]
      exact ⟨csame (keepC hb k.lt (k.new b (Nat.le_refl _) hx)), hr.kept e (by omega), by omega⟩
    · rw [if_neg c]
      obtain ⟨o1, o2, o3⟩ := k.old b (by omega)
      have o4 := o2.kept (Kept.of (S := fun _ => False) hb) id
      exact ⟨cset (keepC hb k.lt o1) c, o4.kept e (fun q => absurd q (o4.1.2.ne (k.tg.kept (Kept.of (S := fun _ => False) hb) k.lt id) (by decide))), o3⟩
  · have := (k.old 0 (by omega)).2.1.1.1
    obtain rfl : x = 1 := by omega
    rw [if_neg (by decide), if_pos rfl]
    omega
theorem NI.fin {W wr : World} {m N : Nat} {bb : Nat → Nat} (k : NI W wr m N 2 bb) : MB m wr m N s0 ⟨bb, fun _ _ => .slice none 0 0, .slice none 0 0, [], .slice none 0 0, fun _ => (0, 0)⟩ where
  box := ⟨⟨k.lt, k.tg⟩, ⟨(k.old 0 (by omega)).1, (k.old 1 (by omega)).1, k.c2, k.c3, k.c4, k.c5⟩, k.fz 2 (by omega), k.fz 3 (by omega), k.fz 4 (by omega), k.fz 5 (by omega)⟩
  bed b hb := (k.old b hb).2
  two := k.two (Nat.le_refl _)
  ndl b n hb hn := ⟨NR.nil _ _, fun k hk => by cases hk⟩
  lps := ⟨World.ownsRow_nil _ _ _ _, rfl⟩
  thr e he := by cases he
  lse := ⟨NR.nil _ _, fun k hk => by cases hk⟩
  low := Nat.le_refl _
/-- a new machine -/
def NewP (W : World) (N : Nat) (e : Ending) (w' : World) : Prop := ∃ m g, e = .returned (.tuple #[mp m, .int .i64 0]) ∧ W.heap.size ≤ m ∧ MB m w' m N s0 g ∧ Below m W w'

set_option maxRecDepth 100000 in
set_option maxHeartbeats 2000000 in
theorem new_err (n : Int) (W : World) (h : n < 1 ∨ 128 < n) : Calls Try.prog 33 #[.int .i64 n] W fun e w' => e = .returned (.tuple #[.pointer none, .int .i64 3]) ∧ w' = W := by
  rcases Classical.em (n < 1) with h1 | h1
  · clear h
    go_enter Try.func33, Try.ntmps33
    go_wp2
    go_ret2
    exact ⟨rfl, rfl⟩
  · have h2 : 128 < n := by omega
    have h1' : decide (n < 1) = false := by simpa using h1
    clear h
    go_enter Try.func33, Try.ntmps33
    go_wp2
    go_ret2
    exact ⟨rfl, rfl⟩

set_option maxRecDepth 100000 in
set_option maxHeartbeats 2000000 in
theorem new_ok (N : Nat) (W : World) (h1 : 1 ≤ N) (hN2 : N ≤ 128) : Calls Try.prog 33 #[.int .i64 (N : Int)] W (NewP W N) := by
  have q1 : ¬ ((N : Int) < 1) := by omega
  have q2 : decide ((N : Int) < 1) = false := by simpa using q1
  have q3 : ¬ ((128 : Int) < (N : Int)) := by omega
  have q4 : decide ((128 : Int) < (N : Int)) = false := by simpa using q3
  have HS := hide (NI.start W N)
  go_enter Try.func33, Try.ntmps33
  go_upto_region 4 with fail
  generalize W.alloc (.cells #[.slice none 0 0, .slice none 0 0, .int .i64 0, .slice none 0 0, .slice none 0 0, .int .i64 0] 73) = w0 at *
  obtain ⟨m, hm⟩ : ∃ m, m = W.heap.size := ⟨_, rfl⟩
  rw [← hm] at HS
  rw [← hm]
  have Hm := hide hm
  clear hm q1 q2 q3 q4
  go_wp2
  go_loopw [14] (fun i wr => ∃ (x : Nat) (bb : Nat → Nat), x ≤ 2 ∧ i = .int .i64 x ∧ NI W wr m N x bb) (fun i _ => 2 - (intOf i).toNat)
  case atStart => exact ⟨0, _, by omega, rfl, unhide HS⟩
  case round =>
    clear HS
    obtain ⟨x, bb, hx, rfl, hI⟩ := hrel
    have HI := hide hI
    clear hI
    rcases (show x = 0 ∨ x = 1 ∨ x = 2 by omega) with hx0 | hx1 | hx2
    · subst hx0
      have HD := hide (show NI W wr.drew m N 0 bb from ⟨(unhide HI).lt, (unhide HI).tg, (unhide HI).c2, (unhide HI).c3, (unhide HI).c4, (unhide HI).c5, (unhide HI).fz, (unhide HI).old, (unhide HI).new, (unhide HI).two, (unhide HI).bel.trans ((bdrew _).mono (Nat.le_of_lt (unhide HI).lt))⟩)
      go_wp2_with fail
      refine wp_region_noPanic ?_
      refine wp_region_held_drew (S := fun V => wr.heap.size ≤ V.heap.size) (by kernel_rfl) (Nat.le_refl _) ?_
      intro _
      refine wpAnyH_take (i := 0) (oi := _) (v := mp m) g8_0 (by kernel_rfl) (by kernel_rfl) (by kernel_rfl) (fun _ _ _ h => h) (Or.inl ⟨by rfl, ?_⟩) (by assumption) ?_
      · intro V hSw
        try dsimp only at hSw
        go_simp
      simp only [Act.put, List.setIfInBounds_toArray, List.set_cons_zero, List.set_cons_succ]
      refine wpAnyH_take (i := 1) (oi := _) (v := .int .i64 0) g8_1 (by kernel_rfl) (by kernel_rfl) (by kernel_rfl) (fun _ _ _ h => h) (Or.inl ⟨by rfl, ?_⟩) (by assumption) ?_
      · intro V hSw
        try dsimp only at hSw
        go_simp
      simp only [Act.put, List.setIfInBounds_toArray, List.set_cons_zero, List.set_cons_succ]
      refine wpAnyH_take (i := 2) (oi := _) (v := .int .i64 N) g8_2 (by kernel_rfl) (by kernel_rfl) (by kernel_rfl) (fun _ _ _ h => h) (Or.inl ⟨by rfl, ?_⟩) (by assumption) ?_
      · intro V hSw
        try dsimp only at hSw
        go_simp
      simp only [Act.put, List.setIfInBounds_toArray, List.set_cons_zero, List.set_cons_succ]
      refine wpAnyH_take (i := 4) (oi := _) (v := mp m) g8_4 (by kernel_rfl) (by kernel_rfl) (by kernel_rfl) (fun _ _ _ h => h) (Or.inl ⟨by rfl, ?_⟩) (by assumption) ?_
      · intro V hSw
        try dsimp only at hSw
        go_simp
      simp only [Act.put, List.setIfInBounds_toArray, List.set_cons_zero, List.set_cons_succ]
      refine wpAnyH_take (i := 5) (oi := _) (v := mp m) g8_5 (by kernel_rfl) (by kernel_rfl) (by kernel_rfl) (fun _ _ _ h => h) (Or.inl ⟨by rfl, ?_⟩) (by assumption) ?_
      · intro V hSw
        try dsimp only at hSw
        go_simp
      simp only [Act.put, List.setIfInBounds_toArray, List.set_cons_zero, List.set_cons_succ]
      refine wpAnyH_ready (rs := [3]) (by kernel_rfl) (by simp) ?_
      refine AllReadyH.cons (o := _) g8_3 (fun K hK => ?_) AllReadyH.nil
      refine make_bed _ N hN2 rfl rfl ?_
      intro V1 hr1 hb1
      have HR1 := hide hr1
      have HB1 := hide hb1
      clear hr1 hb1
      refine hK.out _ _ ((unhide HB1).size) (fun _ => ?_)
      clear hK K
      refine wpAnyH_take (i := 6) (oi := _) (v := .pointer (some ⟨m, 0, none⟩)) g8_6 (by kernel_rfl) (by kernel_rfl) (by kernel_rfl) (fun _ _ _ h => h) (Or.inl ⟨by rfl, ?_⟩) (by assumption) ?_
      · intro V hSw
        try dsimp only at hSw
        go_simp
      simp only [Act.put, List.setIfInBounds_toArray, List.set_cons_zero, List.set_cons_succ]
      refine wpAnyH_ready (rs := [7]) (by kernel_rfl) (by simp) ?_
      refine AllReadyH.cons (o := _) g8_7 (fun K hK => ?_) AllReadyH.nil
      have c7 := keepC (unhide HB1) (unhide HD).lt ((unhide HD).new 0 (by omega) (by omega))
      have f7 := keepF (unhide HB1) (unhide HD).lt ((unhide HD).fz 0 (by omega))
      go_simp
      refine hK.out _ _ (by have := (unhide HB1).size; simpa using this) (fun _ => ?_)
      clear hK K
      refine wpAnyH_done (by kernel_rfl) ?_ _
      refine NoPanic.normal ?_
      have HN1 := hide ((unhide HD).next (by omega) (unhide HB1) (unhide HR1))
      clear HD HI HB1 HR1
      go_wp2
      go_roundw
      case rel => exact ⟨1, _, by omega, rfl, unhide HN1⟩
      case measure => simp [intOf]
    · subst hx1
      have HD := hide (show NI W wr.drew m N 1 bb from ⟨(unhide HI).lt, (unhide HI).tg, (unhide HI).c2, (unhide HI).c3, (unhide HI).c4, (unhide HI).c5, (unhide HI).fz, (unhide HI).old, (unhide HI).new, (unhide HI).two, (unhide HI).bel.trans ((bdrew _).mono (Nat.le_of_lt (unhide HI).lt))⟩)
      go_wp2_with fail
      refine wp_region_noPanic ?_
      refine wp_region_held_drew (S := fun V => wr.heap.size ≤ V.heap.size) (by kernel_rfl) (Nat.le_refl _) ?_
      intro _
      refine wpAnyH_take (i := 0) (oi := _) (v := mp m) g8_0 (by kernel_rfl) (by kernel_rfl) (by kernel_rfl) (fun _ _ _ h => h) (Or.inl ⟨by rfl, ?_⟩) (by assumption) ?_
      · intro V hSw
        try dsimp only at hSw
        go_simp
      simp only [Act.put, List.setIfInBounds_toArray, List.set_cons_zero, List.set_cons_succ]
      refine wpAnyH_take (i := 1) (oi := _) (v := .int .i64 1) g8_1 (by kernel_rfl) (by kernel_rfl) (by kernel_rfl) (fun _ _ _ h => h) (Or.inl ⟨by rfl, ?_⟩) (by assumption) ?_
      · intro V hSw
        try dsimp only at hSw
        go_simp
      simp only [Act.put, List.setIfInBounds_toArray, List.set_cons_zero, List.set_cons_succ]
      refine wpAnyH_take (i := 2) (oi := _) (v := .int .i64 N) g8_2 (by kernel_rfl) (by kernel_rfl) (by kernel_rfl) (fun _ _ _ h => h) (Or.inl ⟨by rfl, ?_⟩) (by assumption) ?_
      · intro V hSw
        try dsimp only at hSw
        go_simp
      simp only [Act.put, List.setIfInBounds_toArray, List.set_cons_zero, List.set_cons_succ]
      refine wpAnyH_take (i := 4) (oi := _) (v := mp m) g8_4 (by kernel_rfl) (by kernel_rfl) (by kernel_rfl) (fun _ _ _ h => h) (Or.inl ⟨by rfl, ?_⟩) (by assumption) ?_
      · intro V hSw
        try dsimp only at hSw
        go_simp
      simp only [Act.put, List.setIfInBounds_toArray, List.set_cons_zero, List.set_cons_succ]
      refine wpAnyH_take (i := 5) (oi := _) (v := mp m) g8_5 (by kernel_rfl) (by kernel_rfl) (by kernel_rfl) (fun _ _ _ h => h) (Or.inl ⟨by rfl, ?_⟩) (by assumption) ?_
      · intro V hSw
        try dsimp only at hSw
        go_simp
      simp only [Act.put, List.setIfInBounds_toArray, List.set_cons_zero, List.set_cons_succ]
      refine wpAnyH_ready (rs := [3]) (by kernel_rfl) (by simp) ?_
      refine AllReadyH.cons (o := _) g8_3 (fun K hK => ?_) AllReadyH.nil
      refine make_bed _ N hN2 rfl rfl ?_
      intro V1 hr1 hb1
      have HR1 := hide hr1
      have HB1 := hide hb1
      clear hr1 hb1
      refine hK.out _ _ ((unhide HB1).size) (fun _ => ?_)
      clear hK K
      refine wpAnyH_take (i := 6) (oi := _) (v := .pointer (some ⟨m, 1, none⟩)) g8_6 (by kernel_rfl) (by kernel_rfl) (by kernel_rfl) (fun _ _ _ h => h) (Or.inl ⟨by rfl, ?_⟩) (by assumption) ?_
      · intro V hSw
        try dsimp only at hSw
        go_simp
      simp only [Act.put, List.setIfInBounds_toArray, List.set_cons_zero, List.set_cons_succ]
      refine wpAnyH_ready (rs := [7]) (by kernel_rfl) (by simp) ?_
      refine AllReadyH.cons (o := _) g8_7 (fun K hK => ?_) AllReadyH.nil
      have c7 := keepC (unhide HB1) (unhide HD).lt ((unhide HD).new 1 (by omega) (by omega))
      have f7 := keepF (unhide HB1) (unhide HD).lt ((unhide HD).fz 1 (by omega))
      go_simp
      refine hK.out _ _ (by have := (unhide HB1).size; simpa using this) (fun _ => ?_)
      clear hK K
      refine wpAnyH_done (by kernel_rfl) ?_ _
      refine NoPanic.normal ?_
      have HN1 := hide ((unhide HD).next (by omega) (unhide HB1) (unhide HR1))
      clear HD HI HB1 HR1
      go_wp2
      go_roundw
      case rel => exact ⟨2, _, by omega, rfl, unhide HN1⟩
      case measure => simp [intOf]
    · subst hx2
      go_wp2
      go_ret2
      exact ⟨m, _, rfl, by rw [unhide Hm]; exact Nat.le_refl _, (unhide HI).fin, (unhide HI).bel⟩
end Go.Proofs.Ytancniamgfppiaa
