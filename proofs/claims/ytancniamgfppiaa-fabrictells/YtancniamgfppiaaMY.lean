/-
  May: facing, toDoWith, meet.
-/
import Derived.Test.YtancniamgfppiaaTA
namespace Go.Proofs.Ytancniamgfppiaa
open Go.RowKit

/-- the needle that would face it; the needles with which a stitch has to do; is one in both? -/
def fcI (b n r : Int) : Int × Int := if b = 0 then (1, wrap64 (n - r)) else (0, wrap64 (n + r))
def ndL (x : Sx) (r : Int) : List (Int × Int) := if x.dk = 3 then [] else if x.dk = 4 then [(x.bed, x.ndl), fcI x.bed x.ndl r] else [(x.bed, x.ndl)]
def mtB (a b : List (Int × Int)) : Bool := a.any fun p => b.any fun q => p == q
def mayB (x y : Sx) (r : Int) : Bool := !(rkB x || rkB y) && (!(mkB x && mkB y && x.car == y.car) && !(mtB (ndL x r) (ndL y r)))

abbrev nlV (p : Int × Int) : Value := .agg #[.int .i64 p.1, .int .i64 p.2]
/-- a needle in its box -/
def NB (W : World) (b : Nat) (p : Int × Int) : Prop := (b < W.heap.size ∧ Tg W b 69) ∧ (W.cell? ⟨b, 0, none⟩ = some (.int .i64 p.1) ∧ W.cell? ⟨b, 1, none⟩ = some (.int .i64 p.2)) ∧ W.frozen? ⟨b, 0, none⟩ = false ∧ W.frozen? ⟨b, 1, none⟩ = false
theorem NB.keep {W V : World} {b : Nat} {p : Int × Int} (h : NB W b p) (e : Below W.heap.size W V) : NB V b p :=
  ⟨⟨Nat.lt_of_lt_of_le h.1.1 e.size, h.1.2.kept (Kept.of (S := fun _ => False) e) h.1.1 id⟩, ⟨keepC e h.1.1 h.2.1.1, keepC e h.1.1 h.2.1.2⟩, keepF e h.1.1 h.2.2.1, keepF e h.1.1 h.2.2.2⟩
theorem NB.new (W : World) (p : Int × Int) : NB (W.alloc (.cells #[.int .i64 p.1, .int .i64 p.2] 69)) W.heap.size p := ⟨⟨by simp, Tg.new _ _ _⟩, ⟨by simp [go_sem], by simp [go_sem]⟩, by simp [go_sem], by simp [go_sem]⟩

set_option maxRecDepth 100000 in
set_option maxHeartbeats 1000000 in
theorem facing_is (b n r : Int) (W : World) : Ans 40 #[nlV (b, n), .int .i64 r] W (nlV (fcI b n r)) := by
  unfold Ans
  by_cases h : b = 0
  · have e : fcI b n r = (1, wrap64 (n - r)) := by unfold fcI; rw [if_pos h]
    have g1 : (b == 0) = true := by simp [h]
    rw [e]
    clear h e
    go_enter Try.func40, Try.ntmps40
    go_wp2
    refine bodyPost_ret (v := nlV (1, wrap64 (n - r))) ?_ rfl ⟨rfl, bal (bal (Below.refl _ _))⟩
    simp [results, Try.results40, go_sem]
  · have e : fcI b n r = (0, wrap64 (n + r)) := by unfold fcI; rw [if_neg h]
    have g1 : (b == 0) = false := by simpa using h
    rw [e]
    clear h e
    go_enter Try.func40, Try.ntmps40
    go_wp2
    refine bodyPost_ret (v := nlV (0, wrap64 (n + r))) ?_ rfl ⟨rfl, bal (bal (Below.refl _ _))⟩
    simp [results, Try.results40, go_sem]

/-- needles in a row -/
def NdR (W : World) (v : Value) (l : List (Int × Int)) : Prop := ∃ q c, v = .slice q l.length c ∧ (l.length = 0 ∨ ∃ g, q = some ⟨g, 0, none⟩ ∧ g < W.heap.size ∧ ∀ j, j < l.length → W.cell? ⟨g, j * 2, none⟩ = some (.int .i64 (l.getD j (0, 0)).1) ∧ W.cell? ⟨g, j * 2 + 1, none⟩ = some (.int .i64 (l.getD j (0, 0)).2))
theorem NdR.keep {W V : World} {v : Value} {l : List (Int × Int)} (h : NdR W v l) (e : Below W.heap.size W V) : NdR V v l := by
  obtain ⟨q, c, rfl, h | ⟨g, rfl, hg, hc⟩⟩ := h
  · exact ⟨q, c, rfl, .inl h⟩
  · exact ⟨_, c, rfl, .inr ⟨g, rfl, Nat.lt_of_lt_of_le hg e.size, fun j hj => ⟨keepC e hg (hc j hj).1, keepC e hg (hc j hj).2⟩⟩⟩

theorem g6_0 {a0 a1 a2 a3 a4 a5 : Oper} : (#[a0, a1, a2, a3, a4, a5] : Array Oper)[0]? = some a0 := rfl
theorem g6_1 {a0 a1 a2 a3 a4 a5 : Oper} : (#[a0, a1, a2, a3, a4, a5] : Array Oper)[1]? = some a1 := rfl
theorem g6_2 {a0 a1 a2 a3 a4 a5 : Oper} : (#[a0, a1, a2, a3, a4, a5] : Array Oper)[2]? = some a2 := rfl
theorem g6_3 {a0 a1 a2 a3 a4 a5 : Oper} : (#[a0, a1, a2, a3, a4, a5] : Array Oper)[3]? = some a3 := rfl
theorem g6_4 {a0 a1 a2 a3 a4 a5 : Oper} : (#[a0, a1, a2, a3, a4, a5] : Array Oper)[4]? = some a4 := rfl
theorem g6_5 {a0 a1 a2 a3 a4 a5 : Oper} : (#[a0, a1, a2, a3, a4, a5] : Array Oper)[5]? = some a5 := rfl
theorem NdR.one (W : World) (p : Int × Int) : NdR (W.alloc (.cells #[.int .i64 p.1, .int .i64 p.2] 69)) (.slice (some ⟨W.heap.size, 0, none⟩) 1 1) [p] := by
  refine ⟨_, _, rfl, .inr ⟨W.heap.size, rfl, by simp, fun j hj => ?_⟩⟩
  obtain rfl : j = 0 := by simpa using hj
  constructor <;> simp [go_sem]
theorem NdR.two (W : World) (p q : Int × Int) : NdR (W.alloc (.cells #[.int .i64 p.1, .int .i64 p.2, .int .i64 q.1, .int .i64 q.2] 69)) (.slice (some ⟨W.heap.size, 0, none⟩) 2 2) [p, q] := by
  refine ⟨_, _, rfl, .inr ⟨W.heap.size, rfl, by simp, fun j hj => ?_⟩⟩
  simp only [List.length_cons, List.length_nil] at hj
  match j, hj with
  | 0, _ => constructor <;> simp [go_sem]
  | 1, _ => constructor <;> simp [go_sem]
set_option maxRecDepth 100000 in
set_option maxHeartbeats 4000000 in
theorem toDo_any (x : Sx) (r : Int) (W : World) : Calls Try.prog 27 #[sxV x, .int .i64 r] W fun e w' => ∃ v, e = .returned v ∧ NdR w' v (ndL x r) ∧ Below W.heap.size W w' := by
  have HX := hide (XB.new W x)
  have B0 := hide (bnew W (.cells #[.int .i64 x.dk, .int .i64 x.bed, .int .i64 x.ndl, .int .i64 x.car, .int .i64 x.tt] 24))
  have Hnd := hide (show ndL x r = if x.dk = 3 then [] else if x.dk = 4 then [(x.bed, x.ndl), fcI x.bed x.ndl r] else [(x.bed, x.ndl)] from rfl)
  have HF := hide (fun V => facing_is x.bed x.ndl r V)
  unfold Ans at HF
  go_enter Try.func27, Try.ntmps27
  go_upto_region 1 with fail
  generalize W.alloc (.cells #[.int .i64 x.dk, .int .i64 x.bed, .int .i64 x.ndl, .int .i64 x.car, .int .i64 x.tt] 24) = w0 at *
  obtain ⟨-, x0, x1, x2, x3, x4⟩ := unhide HX
  have HN := hide (NB.new w0 (x.bed, x.ndl))
  have S1 := hide (btrans (unhide B0) (bnew w0 (.cells #[.int .i64 x.bed, .int .i64 x.ndl] 69)))
  have HX1 := hide ((unhide HX).keep (bnew w0 (.cells #[.int .i64 x.bed, .int .i64 x.ndl] 69)))
  go_upto_region 2 with fail
  generalize w0.alloc (.cells #[.int .i64 x.bed, .int .i64 x.ndl] 69) = w1 at *
  generalize w0.heap.size = nb at *
  clear x0 x1 x2 x3 x4
  obtain ⟨-, x0, x1, x2, x3, x4⟩ := unhide HX1
  obtain ⟨-, ⟨n0, n1⟩, -⟩ := unhide HN
  dsimp only at n0 n1
  by_cases h3 : x.dk = 3
  · have g1 : (x.dk == 3) = true := by simp [h3]
    have Hl := hide (show ndL x r = [] by rw [unhide Hnd, if_pos h3])
    clear h3
    generalize x.dk = dk at *
    go_wp2
    go_ret
    exact ⟨_, rfl, by rw [unhide Hl]; exact ⟨none, 0, rfl, .inl rfl⟩, unhide S1⟩
  · have g1 : (x.dk == 3) = false := by simpa using h3
    by_cases h4 : x.dk = 4
    · have g2 : (x.dk == 4) = true := by simp [h4]
      have Hl := hide (show ndL x r = [(x.bed, x.ndl), fcI x.bed x.ndl r] by rw [unhide Hnd, if_neg h3, if_pos h4])
      clear h3 h4
      generalize x.dk = dk at *
      go_upto_region 6 with fail
      refine wp_region_noPanic ?_
      refine wp_region_held_drew (S := fun V => NB V nb (x.bed, x.ndl)) (by kernel_rfl) ((unhide HN).keep (bdrew _)) ?_
      intro _
      refine wpAnyH_take (i := 0) (oi := _) (v := nlV (x.bed, x.ndl)) g6_0 (by kernel_rfl) (by kernel_rfl) (by kernel_rfl) (fun _ _ _ h => h) (Or.inl ⟨by rfl, ?_⟩) (by assumption) ?_
      · intro V hSw
        try dsimp only at hSw
        obtain ⟨-, ⟨m0, m1⟩, -⟩ := hSw
        dsimp only at m0 m1
        go_simp
      simp only [Act.put, List.setIfInBounds_toArray, List.set_cons_zero, List.set_cons_succ]
      refine wpAnyH_take (i := 1) (oi := _) (v := nlV (x.bed, x.ndl)) g6_1 (by kernel_rfl) (by kernel_rfl) (by kernel_rfl) (fun _ _ _ h => h) (Or.inl ⟨by rfl, ?_⟩) (by assumption) ?_
      · intro V hSw
        try dsimp only at hSw
        obtain ⟨-, ⟨m0, m1⟩, -⟩ := hSw
        dsimp only at m0 m1
        go_simp
      simp only [Act.put, List.setIfInBounds_toArray, List.set_cons_zero, List.set_cons_succ]
      refine wpAnyH_take (i := 2) (oi := _) (v := .int .i64 r) g6_2 (by kernel_rfl) (by kernel_rfl) (by kernel_rfl) (fun _ _ _ h => h) (Or.inl ⟨by rfl, ?_⟩) (by assumption) ?_
      · intro V hSw
        try dsimp only at hSw
        go_simp
      simp only [Act.put, List.setIfInBounds_toArray, List.set_cons_zero, List.set_cons_succ]
      refine wpAnyH_ready (rs := [3]) (by kernel_rfl) (by simp) ?_
      refine AllReadyH.cons (o := _) g6_3 (fun K hK => ?_) AllReadyH.nil
      go_simp
      refine (unhide HF _).mono ?_
      rintro e w2 ⟨rfl, hb2⟩
      have T2 := hide (btrans (bdrew w1) hb2)
      clear hb2
      refine hK.out _ _ ((unhide HN).keep (unhide T2)) (fun _ => ?_)
      clear hK K
      refine wpAnyH_ready (rs := [4]) (by kernel_rfl) (by simp) ?_
      refine AllReadyH.cons (o := _) g6_4 (fun K hK => ?_) AllReadyH.nil
      go_simp
      refine hK.out _ _ ((unhide HN).keep (btrans (unhide T2) (bnew w2 _))) (fun _ => ?_)
      clear hK K
      refine wpAnyH_ready (rs := [5]) (by kernel_rfl) (by simp) ?_
      refine AllReadyH.cons (o := _) g6_5 (fun K hK => ?_) AllReadyH.nil
      go_simp
      refine hK.out _ _ ((unhide HN).keep (btrans (unhide T2) (bnew w2 _))) (fun _ => ?_)
      clear hK K
      refine wpAnyH_done (by kernel_rfl) ?_ _
      refine NoPanic.normal ?_
      go_wp2
      go_ret
      exact ⟨_, rfl, by rw [unhide Hl]; exact NdR.two w2 (x.bed, x.ndl) (fcI x.bed x.ndl r), bal (btrans (unhide S1) (unhide T2))⟩
    · have g2 : (x.dk == 4) = false := by simpa using h4
      have Hl := hide (show ndL x r = [(x.bed, x.ndl)] by rw [unhide Hnd, if_neg h3, if_neg h4])
      clear h3 h4
      generalize x.dk = dk at *
      go_wp2
      go_ret
      exact ⟨_, rfl, by rw [unhide Hl]; exact NdR.one w1 _, bal (unhide S1)⟩

theorem mt_yes {a b : List (Int × Int)} {i j : Nat} (hi : i < a.length) (hj : j < b.length) (e : a.getD i (0, 0) = b.getD j (0, 0)) : mtB a b = true := by
  unfold mtB
  rw [List.any_eq_true]
  refine ⟨a[i], List.getElem_mem hi, ?_⟩
  rw [List.any_eq_true]
  refine ⟨b[j], List.getElem_mem hj, ?_⟩
  have e1 : a.getD i (0, 0) = a[i] := by simp [hi]
  have e2 : b.getD j (0, 0) = b[j] := by simp [hj]
  rw [e1, e2] at e
  simp [e]
theorem mt_no {a b : List (Int × Int)} (h : ∀ i j, i < a.length → j < b.length → a.getD i (0, 0) ≠ b.getD j (0, 0)) : mtB a b = false := by
  cases hm : mtB a b with
  | false => rfl
  | true =>
    unfold mtB at hm
    rw [List.any_eq_true] at hm
    obtain ⟨p, hp, hm⟩ := hm
    rw [List.any_eq_true] at hm
    obtain ⟨q, hq, hm⟩ := hm
    have e : p = q := by simpa using hm
    obtain ⟨i, hi, rfl⟩ := List.mem_iff_getElem.1 hp
    obtain ⟨j, hj, rfl⟩ := List.mem_iff_getElem.1 hq
    exact absurd (by simpa [hi, hj] using e) (h i j hi hj)
set_option maxRecDepth 100000 in
set_option maxHeartbeats 4000000 in
theorem meet_any {W : World} {u v : Value} {a b : List (Int × Int)} (ha : NdR W u a) (hb : NdR W v b) (h2 : a.length ≤ 2) (h3 : b.length ≤ 2) : Ans 26 #[u, v] W (.bool (mtB a b)) := by
  unfold Ans
  obtain ⟨q1, c1, rfl, hA⟩ := ha
  obtain ⟨q2, c2, rfl, hB⟩ := hb
  obtain ⟨n, hn⟩ : ∃ n, n = a.length := ⟨_, rfl⟩
  obtain ⟨m, hm⟩ : ∃ m, m = b.length := ⟨_, rfl⟩
  obtain ⟨A1, hA1⟩ : ∃ f : Nat → Int, f = fun i => (a.getD i (0, 0)).1 := ⟨_, rfl⟩
  obtain ⟨A2, hA2⟩ : ∃ f : Nat → Int, f = fun i => (a.getD i (0, 0)).2 := ⟨_, rfl⟩
  obtain ⟨B1, hB1⟩ : ∃ f : Nat → Int, f = fun i => (b.getD i (0, 0)).1 := ⟨_, rfl⟩
  obtain ⟨B2, hB2⟩ : ∃ f : Nat → Int, f = fun i => (b.getD i (0, 0)).2 := ⟨_, rfl⟩
  have HA := hide (show ∀ V, Below W.heap.size W V → ∀ i, i < n → ∃ g, q1 = some ⟨g, 0, none⟩ ∧ V.cell? ⟨g, i * 2, none⟩ = some (.int .i64 (A1 i)) ∧ V.cell? ⟨g, i * 2 + 1, none⟩ = some (.int .i64 (A2 i)) from fun V hV i hi => by
    rcases hA with h | ⟨g, e, hg, hc⟩
    · omega
    · rw [hA1, hA2]; exact ⟨g, e, keepC hV hg (hc i (by omega)).1, keepC hV hg (hc i (by omega)).2⟩)
  have HB := hide (show ∀ V, Below W.heap.size W V → ∀ i, i < m → ∃ g, q2 = some ⟨g, 0, none⟩ ∧ V.cell? ⟨g, i * 2, none⟩ = some (.int .i64 (B1 i)) ∧ V.cell? ⟨g, i * 2 + 1, none⟩ = some (.int .i64 (B2 i)) from fun V hV i hi => by
    rcases hB with h | ⟨g, e, hg, hc⟩
    · omega
    · rw [hB1, hB2]; exact ⟨g, e, keepC hV hg (hc i (by omega)).1, keepC hV hg (hc i (by omega)).2⟩)
  have HT := hide (show ∀ i j, i < n → j < m → A1 i = B1 j ∧ A2 i = B2 j → mtB a b = true from fun i j hi hj e => mt_yes (i := i) (j := j) (by omega) (by omega) (by rw [hA1, hB1, hA2, hB2] at e; exact Prod.ext e.1 e.2))
  have HF := hide (show (∀ i j, i < n → j < m → ¬ (A1 i = B1 j ∧ A2 i = B2 j)) → mtB a b = false from fun h => mt_no (fun i j hi hj e => h i j (by omega) (by omega) (by rw [hA1, hB1, hA2, hB2]; dsimp only; rw [e]; exact ⟨rfl, rfl⟩)))
  rw [← hn] at h2
  rw [← hm] at h3
  rw [← hn, ← hm]
  clear hA hB hn hm hA1 hA2 hB1 hB2
  generalize mtB a b = R at *
  go_enter Try.func26, Try.ntmps26
  go_wp2
  go_loopw [11] (fun i wr => ∃ x : Nat, x ≤ n ∧ i = .int .i64 x ∧ (∀ i j, i < x → j < m → ¬ (A1 i = B1 j ∧ A2 i = B2 j)) ∧ Below W.heap.size W wr) (fun i _ => n - (intOf i).toNat)
  case atStart => exact ⟨0, Nat.zero_le _, rfl, fun i j hi => by omega, Below.refl _ _⟩
  case round =>
    obtain ⟨x, hx, rfl, hD, hBl⟩ := hrel
    have HD := hide hD
    have HBl := hide hBl
    clear hD hBl
    by_cases hlt : x < n
    · have p1 : (x : Int) < (n : Int) := by omega
      have p2 : (0 : Int) ≤ (x : Int) := by omega
      obtain ⟨g1, rfl, e1, e2⟩ := unhide HA wr (unhide HBl) x hlt
      obtain ⟨v1, hv1⟩ : ∃ v, v = A1 x := ⟨_, rfl⟩
      obtain ⟨v2, hv2⟩ : ∃ v, v = A2 x := ⟨_, rfl⟩
      rw [← hv1] at e1
      rw [← hv2] at e2
      have Hv := hide (And.intro hv1 hv2)
      clear hv1 hv2
      have HX := hide (NB.new wr (v1, v2))
      have HB1 := hide (btrans (unhide HBl) (bnew wr (.cells #[.int .i64 v1, .int .i64 v2] 69)))
      go_upto_region 4 with fail
      generalize wr.alloc (.cells #[.int .i64 v1, .int .i64 v2] 69) = w4 at *
      generalize wr.heap.size = xb at *
      clear e1 e2
      go_wp2
      go_loopw [17] (fun i wr => ∃ y : Nat, y ≤ m ∧ i = .int .i64 y ∧ (∀ j, j < y → ¬ (v1 = B1 j ∧ v2 = B2 j)) ∧ Below w4.heap.size w4 wr) (fun i _ => m - (intOf i).toNat)
      case atStart => exact ⟨0, Nat.zero_le _, rfl, fun j hj => by omega, Below.refl _ _⟩
      case round =>
        obtain ⟨y, hy, rfl, hE, hBm⟩ := hrel
        have HE := hide hE
        have HBm := hide hBm
        clear hE hBm
        by_cases hly : y < m
        · have p3 : (y : Int) < (m : Int) := by omega
          have p4 : (0 : Int) ≤ (y : Int) := by omega
          obtain ⟨g2, rfl, e1, e2⟩ := unhide HB wr (btrans (unhide HB1) (unhide HBm)) y hly
          obtain ⟨u1, hu1⟩ : ∃ v, v = B1 y := ⟨_, rfl⟩
          obtain ⟨u2, hu2⟩ : ∃ v, v = B2 y := ⟨_, rfl⟩
          rw [← hu1] at e1
          rw [← hu2] at e2
          have Hu := hide (And.intro hu1 hu2)
          clear hu1 hu2
          have HY := hide (NB.new wr (u1, u2))
          have HX2 := hide ((unhide HX).keep (btrans (unhide HBm) (bnew wr (.cells #[.int .i64 u1, .int .i64 u2] 69))))
          have HB2 := hide (btrans (unhide HBm) (bnew wr (.cells #[.int .i64 u1, .int .i64 u2] 69)))
          go_upto_region 7 with fail
          generalize wr.alloc (.cells #[.int .i64 u1, .int .i64 u2] 69) = w6 at *
          generalize wr.heap.size = yb at *
          clear e1 e2
          obtain ⟨-, ⟨x0, x1⟩, -⟩ := unhide HX2
          obtain ⟨-, ⟨y0, y1⟩, -⟩ := unhide HY
          dsimp only at x0 x1 y0 y1
          have HE2 := hide (show ¬ (v1 = u1 ∧ v2 = u2) → ∀ j, j < y + 1 → ¬ (v1 = B1 j ∧ v2 = B2 j) from fun h j hj => by
            by_cases d : j = y
            · rw [d, ← (unhide Hu).1, ← (unhide Hu).2]; exact h
            · exact unhide HE j (by omega))
          by_cases he : v1 = u1
          · have q1 : (v1 = u1) = True := by simpa using he
            by_cases hf : v2 = u2
            · have q2 : (v2 = u2) = True := by simpa using hf
              have hR := unhide HT x y hlt hly ⟨by rw [← (unhide Hv).1, ← (unhide Hu).1]; exact he, by rw [← (unhide Hv).2, ← (unhide Hu).2]; exact hf⟩
              have HR := hide hR
              have S6 := hide (btrans (unhide HB1) (unhide HB2))
              clear he hf hR
              go_wp2
              go_ret
              exact ⟨ret_bool (unhide HR).symm, unhide S6⟩
            · have q2 : (v2 = u2) = False := by simpa using hf
              have HE3 := hide (unhide HE2 (fun q => hf q.2))
              clear he hf
              go_wp2
              go_roundw
              case rel => exact ⟨y + 1, by omega, by go_num, unhide HE3, unhide HB2⟩
              case measure => simp [intOf]; omega
          · have q1 : (v1 = u1) = False := by simpa using he
            have HE3 := hide (unhide HE2 (fun q => he q.1))
            clear he
            go_wp2
            go_roundw
            case rel => exact ⟨y + 1, by omega, by go_num, unhide HE3, unhide HB2⟩
            case measure => simp [intOf]; omega
        · obtain rfl : m = y := by omega
          have cl : ¬ ((m : Int) < (m : Int)) := by omega
          have HD2 := hide (show ∀ i j, i < x + 1 → j < m → ¬ (A1 i = B1 j ∧ A2 i = B2 j) from fun i j hi hj => by
            by_cases d : i = x
            · rw [d, ← (unhide Hv).1, ← (unhide Hv).2]; exact unhide HE j hj
            · exact unhide HD i j (by omega) hj)
          have S6 := hide (btrans (unhide HB1) (unhide HBm))
          go_wp2
          go_roundw
          case rel => exact ⟨x + 1, by omega, by go_num, unhide HD2, unhide S6⟩
          case measure => simp [intOf]; omega
    · obtain rfl : n = x := by omega
      have cl : ¬ ((n : Int) < (n : Int)) := by omega
      have HR := hide (unhide HF (unhide HD))
      go_wp2
      go_ret
      exact ⟨ret_bool (unhide HR).symm, unhide HBl⟩

theorem ndL_le (x : Sx) (r : Int) : (ndL x r).length ≤ 2 := by
  unfold ndL
  split
  · simp
  · split <;> simp
theorem x_boxes (W : World) (x y : Sx) : XB ((W.alloc (.cells #[.int .i64 x.dk, .int .i64 x.bed, .int .i64 x.ndl, .int .i64 x.car, .int .i64 x.tt] 24)).alloc (.cells #[.int .i64 y.dk, .int .i64 y.bed, .int .i64 y.ndl, .int .i64 y.car, .int .i64 y.tt] 24)) W.heap.size x ∧ XB ((W.alloc (.cells #[.int .i64 x.dk, .int .i64 x.bed, .int .i64 x.ndl, .int .i64 x.car, .int .i64 x.tt] 24)).alloc (.cells #[.int .i64 y.dk, .int .i64 y.bed, .int .i64 y.ndl, .int .i64 y.car, .int .i64 y.tt] 24)) (W.heap.size + 1) y ∧ Below W.heap.size W ((W.alloc (.cells #[.int .i64 x.dk, .int .i64 x.bed, .int .i64 x.ndl, .int .i64 x.car, .int .i64 x.tt] 24)).alloc (.cells #[.int .i64 y.dk, .int .i64 y.bed, .int .i64 y.ndl, .int .i64 y.car, .int .i64 y.tt] 24)) :=
  ⟨(XB.new W x).keep (bnew _ _), by have := XB.new (W.alloc (.cells #[.int .i64 x.dk, .int .i64 x.bed, .int .i64 x.ndl, .int .i64 x.car, .int .i64 x.tt] 24)) y; simpa using this, btrans (bnew _ _) (bnew _ _)⟩

set_option maxRecDepth 100000 in
set_option maxHeartbeats 8000000 in
theorem may_any (x y : Sx) (r : Int) (W : World) : Ans 10 #[sxV x, sxV y, .int .i64 r] W (.bool (mayB x y r)) := by
  unfold Ans
  obtain ⟨t1, t2, t3⟩ := x_boxes W x y
  have HX := hide t1
  have HY := hide t2
  have B0 := hide t3
  clear t1 t2 t3
  have HI := hide (fun x V => isRack_any x V)
  have HL := hide (fun x V => makesLoop_any x V)
  have HD := hide (fun x V => toDo_any x r V)
  have HM := hide (fun V u v (h1 : NdR V u (ndL x r)) (h2 : NdR V v (ndL y r)) => meet_any h1 h2 (ndL_le x r) (ndL_le y r))
  unfold Ans at HI HL HM
  have He := hide (show mayB x y r = (!(rkB x || rkB y) && (!(mkB x && mkB y && x.car == y.car) && !(mtB (ndL x r) (ndL y r)))) from rfl)
  go_enter Try.func10, Try.ntmps10
  go_upto_region 1 with fail
  generalize (W.alloc (.cells #[.int .i64 x.dk, .int .i64 x.bed, .int .i64 x.ndl, .int .i64 x.car, .int .i64 x.tt] 24)).alloc (.cells #[.int .i64 y.dk, .int .i64 y.bed, .int .i64 y.ndl, .int .i64 y.car, .int .i64 y.tt] 24) = w0 at *
  obtain ⟨yb, hyb⟩ : ∃ b, b = W.heap.size + 1 := ⟨_, rfl⟩
  rw [← hyb] at HY
  rw [← hyb]
  obtain ⟨xb, hxb⟩ : ∃ b, b = W.heap.size := ⟨_, rfl⟩
  rw [← hxb] at HX
  rw [← hxb]
  clear hyb hxb
  obtain ⟨-, x0, x1, x2, x3, x4⟩ := unhide HX
  go_wp2_with fail
  clear x0 x1 x2 x3 x4
  refine (unhide HI x _).mono ?_
  rintro e w1 ⟨rfl, hb1⟩
  have S1 := hide hb1
  clear hb1
  cases hr1 : rkB x with
  | true =>
    have Hr := hide (show mayB x y r = false by rw [unhide He, hr1]; rfl)
    go_wp2
    go_ret
    exact ⟨ret_bool (unhide Hr).symm, btrans (unhide B0) (unhide S1)⟩
  | false =>
  obtain ⟨-, y0, y1, y2, y3, y4⟩ := (unhide HY).keep (unhide S1)
  go_wp2_with fail
  clear y0 y1 y2 y3 y4
  refine (unhide HI y _).mono ?_
  rintro e w2 ⟨rfl, hb2⟩
  have S2 := hide (btrans (unhide S1) hb2)
  clear hb2 S1
  cases hr2 : rkB y with
  | true =>
    have Hr := hide (show mayB x y r = false by rw [unhide He, hr1, hr2]; rfl)
    go_wp2
    go_ret
    exact ⟨ret_bool (unhide Hr).symm, btrans (unhide B0) (unhide S2)⟩
  | false =>
  have He2 := hide (show mayB x y r = (!(mkB x && mkB y && x.car == y.car) && !(mtB (ndL x r) (ndL y r))) by rw [unhide He, hr1, hr2]; simp)
  clear He hr1 hr2 HI
  obtain ⟨-, x0, x1, x2, x3, x4⟩ := (unhide HX).keep (unhide S2)
  go_wp2_with fail
  clear x0 x1 x2 x3 x4
  refine (unhide HL x _).mono ?_
  rintro e w3 ⟨rfl, hb3⟩
  have S3 := hide (btrans (unhide S2) hb3)
  clear hb3 S2
  cases hm1 : mkB x with
  | false =>
    have He3 := hide (show mayB x y r = !(mtB (ndL x r) (ndL y r)) by rw [unhide He2, hm1]; simp)
    clear He2 hm1 HL
    go_upto_region 5 with fail
    refine wp_region_noPanic ?_
    refine wp_region_held_drew (S := fun V => XB V xb x ∧ XB V yb y) (by kernel_rfl) ⟨(unhide HX).keep (btrans (unhide S3) (bdrew _)), (unhide HY).keep (btrans (unhide S3) (bdrew _))⟩ ?_
    intro _
    refine wpAnyH_take (i := 0) (oi := _) (v := sxV x) g9_0 (by kernel_rfl) (by kernel_rfl) (by kernel_rfl) (fun _ _ _ h => h) (Or.inl ⟨by rfl, ?_⟩) (by assumption) ?_
    · intro V hSw
      try dsimp only at hSw
      obtain ⟨⟨-, m0, m1, m2, m3, m4⟩, -⟩ := hSw
      go_simp
    simp only [Act.put, List.setIfInBounds_toArray, List.set_cons_zero, List.set_cons_succ]
    refine wpAnyH_take (i := 1) (oi := _) (v := .int .i64 r) g9_1 (by kernel_rfl) (by kernel_rfl) (by kernel_rfl) (fun _ _ _ h => h) (Or.inl ⟨by rfl, ?_⟩) (by assumption) ?_
    · intro V hSw
      try dsimp only at hSw
      go_simp
    simp only [Act.put, List.setIfInBounds_toArray, List.set_cons_zero, List.set_cons_succ]
    refine wpAnyH_take (i := 3) (oi := _) (v := sxV y) g9_3 (by kernel_rfl) (by kernel_rfl) (by kernel_rfl) (fun _ _ _ h => h) (Or.inl ⟨by rfl, ?_⟩) (by assumption) ?_
    · intro V hSw
      try dsimp only at hSw
      obtain ⟨-, -, m0, m1, m2, m3, m4⟩ := hSw
      go_simp
    simp only [Act.put, List.setIfInBounds_toArray, List.set_cons_zero, List.set_cons_succ]
    refine wpAnyH_take (i := 4) (oi := _) (v := .int .i64 r) g9_4 (by kernel_rfl) (by kernel_rfl) (by kernel_rfl) (fun _ _ _ h => h) (Or.inl ⟨by rfl, ?_⟩) (by assumption) ?_
    · intro V hSw
      try dsimp only at hSw
      go_simp
    simp only [Act.put, List.setIfInBounds_toArray, List.set_cons_zero, List.set_cons_succ]
    refine wpAnyH_ready (rs := [2]) (by kernel_rfl) (by simp) ?_
    refine AllReadyH.cons (o := _) g9_2 (fun K hK => ?_) AllReadyH.nil
    go_simp
    refine (unhide HD x _).mono ?_
    rintro e wa ⟨va, rfl, hna, hba⟩
    have Ta := hide (btrans (btrans (unhide S3) (bdrew w3)) hba)
    have HNa := hide hna
    clear hba hna
    refine hK.out _ _ ⟨(unhide HX).keep (unhide Ta), (unhide HY).keep (unhide Ta)⟩ (fun _ => ?_)
    clear hK K
    refine wpAnyH_ready (rs := [5]) (by kernel_rfl) (by simp) ?_
    refine AllReadyH.cons (o := _) g9_5 (fun K hK => ?_) AllReadyH.nil
    go_simp
    refine (unhide HD y _).mono ?_
    rintro e wb ⟨vb, rfl, hnb, hbb⟩
    have Tb := hide (btrans (unhide Ta) hbb)
    have HMa := hide (unhide HM wb va vb ((unhide HNa).keep hbb) hnb)
    clear hbb hnb HNa
    refine hK.out _ _ ⟨(unhide HX).keep (unhide Tb), (unhide HY).keep (unhide Tb)⟩ (fun _ => ?_)
    clear hK K
    refine wpAnyH_ready (rs := [6]) (by kernel_rfl) (by simp) ?_
    refine AllReadyH.cons (o := _) g9_6 (fun K hK => ?_) AllReadyH.nil
    go_simp
    refine (unhide HMa).mono ?_
    rintro e wc ⟨rfl, hbc⟩
    have Tc := hide (btrans (unhide Tb) hbc)
    clear hbc HMa
    refine hK.out _ _ ⟨(unhide HX).keep (unhide Tc), (unhide HY).keep (unhide Tc)⟩ (fun _ => ?_)
    clear hK K
    generalize mtB (ndL x r) (ndL y r) = mt at *
    refine wpAnyH_ready (rs := [7]) (by kernel_rfl) (by simp) ?_
    refine AllReadyH.cons (o := _) g9_7 (fun K hK => ?_) AllReadyH.nil
    go_simp
    refine hK.out _ _ ⟨(unhide HX).keep (unhide Tc), (unhide HY).keep (unhide Tc)⟩ (fun _ => ?_)
    clear hK K
    refine wpAnyH_ready (rs := [8]) (by kernel_rfl) (by simp) ?_
    refine AllReadyH.cons (o := _) g9_8 (fun K hK => ?_) AllReadyH.nil
    go_simp
    refine hK.out _ _ ⟨(unhide HX).keep (unhide Tc), (unhide HY).keep (unhide Tc)⟩ (fun _ => ?_)
    clear hK K
    refine wpAnyH_done (by kernel_rfl) ?_ _
    refine NoPanic.normal ?_
    go_wp2
    go_ret
    exact ⟨ret_bool (unhide He3).symm, btrans (unhide B0) (unhide Tc)⟩
  | true =>
  obtain ⟨-, y0, y1, y2, y3, y4⟩ := (unhide HY).keep (unhide S3)
  go_wp2_with fail
  clear y0 y1 y2 y3 y4
  refine (unhide HL y _).mono ?_
  rintro e w4 ⟨rfl, hb4⟩
  have S4 := hide (btrans (unhide S3) hb4)
  clear hb4 S3
  cases hm2 : mkB y with
  | false =>
    have He3 := hide (show mayB x y r = !(mtB (ndL x r) (ndL y r)) by rw [unhide He2, hm2]; simp)
    clear He2 hm1 hm2 HL
    go_upto_region 5 with fail
    refine wp_region_noPanic ?_
    refine wp_region_held_drew (S := fun V => XB V xb x ∧ XB V yb y) (by kernel_rfl) ⟨(unhide HX).keep (btrans (unhide S4) (bdrew _)), (unhide HY).keep (btrans (unhide S4) (bdrew _))⟩ ?_
    intro _
    refine wpAnyH_take (i := 0) (oi := _) (v := sxV x) g9_0 (by kernel_rfl) (by kernel_rfl) (by kernel_rfl) (fun _ _ _ h => h) (Or.inl ⟨by rfl, ?_⟩) (by assumption) ?_
    · intro V hSw
      try dsimp only at hSw
      obtain ⟨⟨-, m0, m1, m2, m3, m4⟩, -⟩ := hSw
      go_simp
    simp only [Act.put, List.setIfInBounds_toArray, List.set_cons_zero, List.set_cons_succ]
    refine wpAnyH_take (i := 1) (oi := _) (v := .int .i64 r) g9_1 (by kernel_rfl) (by kernel_rfl) (by kernel_rfl) (fun _ _ _ h => h) (Or.inl ⟨by rfl, ?_⟩) (by assumption) ?_
    · intro V hSw
      try dsimp only at hSw
      go_simp
    simp only [Act.put, List.setIfInBounds_toArray, List.set_cons_zero, List.set_cons_succ]
    refine wpAnyH_take (i := 3) (oi := _) (v := sxV y) g9_3 (by kernel_rfl) (by kernel_rfl) (by kernel_rfl) (fun _ _ _ h => h) (Or.inl ⟨by rfl, ?_⟩) (by assumption) ?_
    · intro V hSw
      try dsimp only at hSw
      obtain ⟨-, -, m0, m1, m2, m3, m4⟩ := hSw
      go_simp
    simp only [Act.put, List.setIfInBounds_toArray, List.set_cons_zero, List.set_cons_succ]
    refine wpAnyH_take (i := 4) (oi := _) (v := .int .i64 r) g9_4 (by kernel_rfl) (by kernel_rfl) (by kernel_rfl) (fun _ _ _ h => h) (Or.inl ⟨by rfl, ?_⟩) (by assumption) ?_
    · intro V hSw
      try dsimp only at hSw
      go_simp
    simp only [Act.put, List.setIfInBounds_toArray, List.set_cons_zero, List.set_cons_succ]
    refine wpAnyH_ready (rs := [2]) (by kernel_rfl) (by simp) ?_
    refine AllReadyH.cons (o := _) g9_2 (fun K hK => ?_) AllReadyH.nil
    go_simp
    refine (unhide HD x _).mono ?_
    rintro e wa ⟨va, rfl, hna, hba⟩
    have Ta := hide (btrans (btrans (unhide S4) (bdrew w4)) hba)
    have HNa := hide hna
    clear hba hna
    refine hK.out _ _ ⟨(unhide HX).keep (unhide Ta), (unhide HY).keep (unhide Ta)⟩ (fun _ => ?_)
    clear hK K
    refine wpAnyH_ready (rs := [5]) (by kernel_rfl) (by simp) ?_
    refine AllReadyH.cons (o := _) g9_5 (fun K hK => ?_) AllReadyH.nil
    go_simp
    refine (unhide HD y _).mono ?_
    rintro e wb ⟨vb, rfl, hnb, hbb⟩
    have Tb := hide (btrans (unhide Ta) hbb)
    have HMa := hide (unhide HM wb va vb ((unhide HNa).keep hbb) hnb)
    clear hbb hnb HNa
    refine hK.out _ _ ⟨(unhide HX).keep (unhide Tb), (unhide HY).keep (unhide Tb)⟩ (fun _ => ?_)
    clear hK K
    refine wpAnyH_ready (rs := [6]) (by kernel_rfl) (by simp) ?_
    refine AllReadyH.cons (o := _) g9_6 (fun K hK => ?_) AllReadyH.nil
    go_simp
    refine (unhide HMa).mono ?_
    rintro e wc ⟨rfl, hbc⟩
    have Tc := hide (btrans (unhide Tb) hbc)
    clear hbc HMa
    refine hK.out _ _ ⟨(unhide HX).keep (unhide Tc), (unhide HY).keep (unhide Tc)⟩ (fun _ => ?_)
    clear hK K
    generalize mtB (ndL x r) (ndL y r) = mt at *
    refine wpAnyH_ready (rs := [7]) (by kernel_rfl) (by simp) ?_
    refine AllReadyH.cons (o := _) g9_7 (fun K hK => ?_) AllReadyH.nil
    go_simp
    refine hK.out _ _ ⟨(unhide HX).keep (unhide Tc), (unhide HY).keep (unhide Tc)⟩ (fun _ => ?_)
    clear hK K
    refine wpAnyH_ready (rs := [8]) (by kernel_rfl) (by simp) ?_
    refine AllReadyH.cons (o := _) g9_8 (fun K hK => ?_) AllReadyH.nil
    go_simp
    refine hK.out _ _ ⟨(unhide HX).keep (unhide Tc), (unhide HY).keep (unhide Tc)⟩ (fun _ => ?_)
    clear hK K
    refine wpAnyH_done (by kernel_rfl) ?_ _
    refine NoPanic.normal ?_
    go_wp2
    go_ret
    exact ⟨ret_bool (unhide He3).symm, btrans (unhide B0) (unhide Tc)⟩
  | true =>
  obtain ⟨-, x0, x1, x2, x3, x4⟩ := (unhide HX).keep (unhide S4)
  obtain ⟨-, y0, y1, y2, y3, y4⟩ := (unhide HY).keep (unhide S4)
  by_cases hc : x.car = y.car
  · have g1 : (x.car = y.car) = True := by simpa using hc
    have g2 : (x.car == y.car) = true := by simpa using hc
    have Hr := hide (show mayB x y r = false by rw [unhide He2, hm1, hm2, g2]; rfl)
    clear hc He2 hm1 hm2
    go_wp2
    go_ret
    exact ⟨ret_bool (unhide Hr).symm, btrans (unhide B0) (unhide S4)⟩
  · have g1 : (x.car = y.car) = False := by simpa using hc
    have g2 : (x.car == y.car) = false := by simpa using hc
    have He3 := hide (show mayB x y r = !(mtB (ndL x r) (ndL y r)) by rw [unhide He2, g2]; simp)
    clear He2 hm1 hm2 HL hc
    go_upto_region 5 with fail
    clear x0 x1 x2 x3 x4 y0 y1 y2 y3 y4
    refine wp_region_noPanic ?_
    refine wp_region_held_drew (S := fun V => XB V xb x ∧ XB V yb y) (by kernel_rfl) ⟨(unhide HX).keep (btrans (unhide S4) (bdrew _)), (unhide HY).keep (btrans (unhide S4) (bdrew _))⟩ ?_
    intro _
    refine wpAnyH_take (i := 0) (oi := _) (v := sxV x) g9_0 (by kernel_rfl) (by kernel_rfl) (by kernel_rfl) (fun _ _ _ h => h) (Or.inl ⟨by rfl, ?_⟩) (by assumption) ?_
    · intro V hSw
      try dsimp only at hSw
      obtain ⟨⟨-, m0, m1, m2, m3, m4⟩, -⟩ := hSw
      go_simp
    simp only [Act.put, List.setIfInBounds_toArray, List.set_cons_zero, List.set_cons_succ]
    refine wpAnyH_take (i := 1) (oi := _) (v := .int .i64 r) g9_1 (by kernel_rfl) (by kernel_rfl) (by kernel_rfl) (fun _ _ _ h => h) (Or.inl ⟨by rfl, ?_⟩) (by assumption) ?_
    · intro V hSw
      try dsimp only at hSw
      go_simp
    simp only [Act.put, List.setIfInBounds_toArray, List.set_cons_zero, List.set_cons_succ]
    refine wpAnyH_take (i := 3) (oi := _) (v := sxV y) g9_3 (by kernel_rfl) (by kernel_rfl) (by kernel_rfl) (fun _ _ _ h => h) (Or.inl ⟨by rfl, ?_⟩) (by assumption) ?_
    · intro V hSw
      try dsimp only at hSw
      obtain ⟨-, -, m0, m1, m2, m3, m4⟩ := hSw
      go_simp
    simp only [Act.put, List.setIfInBounds_toArray, List.set_cons_zero, List.set_cons_succ]
    refine wpAnyH_take (i := 4) (oi := _) (v := .int .i64 r) g9_4 (by kernel_rfl) (by kernel_rfl) (by kernel_rfl) (fun _ _ _ h => h) (Or.inl ⟨by rfl, ?_⟩) (by assumption) ?_
    · intro V hSw
      try dsimp only at hSw
      go_simp
    simp only [Act.put, List.setIfInBounds_toArray, List.set_cons_zero, List.set_cons_succ]
    refine wpAnyH_ready (rs := [2]) (by kernel_rfl) (by simp) ?_
    refine AllReadyH.cons (o := _) g9_2 (fun K hK => ?_) AllReadyH.nil
    go_simp
    refine (unhide HD x _).mono ?_
    rintro e wa ⟨va, rfl, hna, hba⟩
    have Ta := hide (btrans (btrans (unhide S4) (bdrew w4)) hba)
    have HNa := hide hna
    clear hba hna
    refine hK.out _ _ ⟨(unhide HX).keep (unhide Ta), (unhide HY).keep (unhide Ta)⟩ (fun _ => ?_)
    clear hK K
    refine wpAnyH_ready (rs := [5]) (by kernel_rfl) (by simp) ?_
    refine AllReadyH.cons (o := _) g9_5 (fun K hK => ?_) AllReadyH.nil
    go_simp
    refine (unhide HD y _).mono ?_
    rintro e wb ⟨vb, rfl, hnb, hbb⟩
    have Tb := hide (btrans (unhide Ta) hbb)
    have HMa := hide (unhide HM wb va vb ((unhide HNa).keep hbb) hnb)
    clear hbb hnb HNa
    refine hK.out _ _ ⟨(unhide HX).keep (unhide Tb), (unhide HY).keep (unhide Tb)⟩ (fun _ => ?_)
    clear hK K
    refine wpAnyH_ready (rs := [6]) (by kernel_rfl) (by simp) ?_
    refine AllReadyH.cons (o := _) g9_6 (fun K hK => ?_) AllReadyH.nil
    go_simp
    refine (unhide HMa).mono ?_
    rintro e wc ⟨rfl, hbc⟩
    have Tc := hide (btrans (unhide Tb) hbc)
    clear hbc HMa
    refine hK.out _ _ ⟨(unhide HX).keep (unhide Tc), (unhide HY).keep (unhide Tc)⟩ (fun _ => ?_)
    clear hK K
    generalize mtB (ndL x r) (ndL y r) = mt at *
    refine wpAnyH_ready (rs := [7]) (by kernel_rfl) (by simp) ?_
    refine AllReadyH.cons (o := _) g9_7 (fun K hK => ?_) AllReadyH.nil
    go_simp
    refine hK.out _ _ ⟨(unhide HX).keep (unhide Tc), (unhide HY).keep (unhide Tc)⟩ (fun _ => ?_)
    clear hK K
    refine wpAnyH_ready (rs := [8]) (by kernel_rfl) (by simp) ?_
    refine AllReadyH.cons (o := _) g9_8 (fun K hK => ?_) AllReadyH.nil
    go_simp
    refine hK.out _ _ ⟨(unhide HX).keep (unhide Tc), (unhide HY).keep (unhide Tc)⟩ (fun _ => ?_)
    clear hK K
    refine wpAnyH_done (by kernel_rfl) ?_ _
    refine NoPanic.normal ?_
    go_wp2
    go_ret
    exact ⟨ret_bool (unhide He3).symm, btrans (unhide B0) (unhide Tc)⟩
end Go.Proofs.Ytancniamgfppiaa
