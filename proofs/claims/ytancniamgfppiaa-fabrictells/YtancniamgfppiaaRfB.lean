/-
  The document's Facing and taken.
-/
import Derived.Test.YtancniamgfppiaaRfA
namespace Go.Proofs.Ytancniamgfppiaa
open Go.RowKit

set_option maxRecDepth 100000 in
set_option maxHeartbeats 4000000 in
theorem rfacing_0 {W : World} {N : Nat} {lv hv sv : Value} {rk : Int} {dn n : Nat} (r1 : -4 ≤ rk) (r2 : rk ≤ 4) (hn : n ≤ 128) (hl1 : ∃ q m c, lv = .slice q m c) (hh1 : ∃ q m c, hv = .slice q m c) (hs1 : ∃ q m c, sv = .slice q m c) :
    Calls Try.prog 72 #[rsV N lv hv sv rk dn, .int .i64 0, .int .i64 n] W fun e w' => e = .returned (.tuple #[.int .i64 1, .int .i64 ((n : Int) - rk)]) ∧ Below W.heap.size W w' := by
  obtain ⟨q1, m1, c1, rfl⟩ := hl1
  obtain ⟨q2, m2, c2, rfl⟩ := hh1
  obtain ⟨q3, m3, c3, rfl⟩ := hs1
  have B0 := hide (bnew W (.cells #[.int .i64 (N : Int), .slice q1 m1 c1, .slice q2 m2 c2, .slice q3 m3 c3, .int .i64 rk, .int .i64 (dn : Int)] 87))
  have HSB := hide (SB.new W N (.slice q1 m1 c1) (.slice q2 m2 c2) (.slice q3 m3 c3) rk dn)
  have e2 : IntKind.i64.wrap ((n : Int) - rk) = (n : Int) - rk := Go.IntWalk.i64_in _ (by omega)
  go_enter Try.func72, Try.ntmps72
  go_upto_region 2 with fail
  generalize W.alloc (.cells #[.int .i64 (N : Int), .slice q1 m1 c1, .slice q2 m2 c2, .slice q3 m3 c3, .int .i64 rk, .int .i64 (dn : Int)] 87) = w0 at *
  obtain ⟨-, ⟨s0', s1', s2', s3', s4', s5'⟩, -⟩ := unhide HSB
  go_quiet (fail)
  go_wp2
  go_ret2
  exact ⟨rfl, (unhide B0).trans (Joins.below_draws _ _ _)⟩
set_option maxRecDepth 100000 in
set_option maxHeartbeats 4000000 in
theorem rfacing_1 {W : World} {N : Nat} {lv hv sv : Value} {rk : Int} {dn n : Nat} (r1 : -4 ≤ rk) (r2 : rk ≤ 4) (hn : n ≤ 128) (hl1 : ∃ q m c, lv = .slice q m c) (hh1 : ∃ q m c, hv = .slice q m c) (hs1 : ∃ q m c, sv = .slice q m c) :
    Calls Try.prog 72 #[rsV N lv hv sv rk dn, .int .i64 1, .int .i64 n] W fun e w' => e = .returned (.tuple #[.int .i64 0, .int .i64 ((n : Int) + rk)]) ∧ Below W.heap.size W w' := by
  obtain ⟨q1, m1, c1, rfl⟩ := hl1
  obtain ⟨q2, m2, c2, rfl⟩ := hh1
  obtain ⟨q3, m3, c3, rfl⟩ := hs1
  have B0 := hide (bnew W (.cells #[.int .i64 (N : Int), .slice q1 m1 c1, .slice q2 m2 c2, .slice q3 m3 c3, .int .i64 rk, .int .i64 (dn : Int)] 87))
  have HSB := hide (SB.new W N (.slice q1 m1 c1) (.slice q2 m2 c2) (.slice q3 m3 c3) rk dn)
  have e2 : IntKind.i64.wrap ((n : Int) + rk) = (n : Int) + rk := Go.IntWalk.i64_in _ (by omega)
  go_enter Try.func72, Try.ntmps72
  go_upto_region 3 with fail
  generalize W.alloc (.cells #[.int .i64 (N : Int), .slice q1 m1 c1, .slice q2 m2 c2, .slice q3 m3 c3, .int .i64 rk, .int .i64 (dn : Int)] 87) = w0 at *
  obtain ⟨-, ⟨s0', s1', s2', s3', s4', s5'⟩, -⟩ := unhide HSB
  go_quiet (fail)
  go_wp2
  go_ret2
  exact ⟨rfl, (unhide B0).trans (Joins.below_draws _ _ _)⟩
theorem rfacing_any {W : World} {N : Nat} {lv hv sv : Value} {rk : Int} {dn b n : Nat} (hb : b < 2) (r1 : -4 ≤ rk) (r2 : rk ≤ 4) (hn : n ≤ 128) (hl1 : ∃ q m c, lv = .slice q m c) (hh1 : ∃ q m c, hv = .slice q m c) (hs1 : ∃ q m c, sv = .slice q m c) :
    Calls Try.prog 72 #[rsV N lv hv sv rk dn, .int .i64 b, .int .i64 n] W fun e w' => e = .returned (.tuple #[.int .i64 (fcB b : Nat), .int .i64 (fcN rk b n)]) ∧ Below W.heap.size W w' := by
  match b, hb with
  | 0, _ => exact rfacing_0 r1 r2 hn hl1 hh1 hs1
  | 1, _ => exact rfacing_1 r1 r2 hn hl1 hh1 hs1

/-- a whole machine is put into its box -/
abbrev put54 (W : World) (b N : Nat) (lv hv sv : Value) (rk : Int) (dn : Nat) : World := (((((W.setCell ⟨b, 0, none⟩ (.int .i64 (N : Int))).setCell ⟨b, 1, none⟩ lv).setCell ⟨b, 2, none⟩ hv).setCell ⟨b, 3, none⟩ sv).setCell ⟨b, 4, none⟩ (.int .i64 rk)).setCell ⟨b, 5, none⟩ (.int .i64 (dn : Int))
theorem SB.put {W : World} {b N' : Nat} {lv' hv' sv' : Value} {rk' : Int} {dn' : Nat} (k : SB W b N' lv' hv' sv' rk' dn') (N : Nat) (lv hv sv : Value) (rk : Int) (dn : Nat) : SB (put54 W b N lv hv sv rk dn) b N lv hv sv rk dn := by
  obtain ⟨⟨l, t⟩, ⟨a0, a1, a2, a3, a4, a5⟩, f⟩ := k
  refine ⟨⟨by simpa using l, ((((((t.set _ _).set _ _).set _ _).set _ _).set _ _).set _ _)⟩, ⟨?_, ?_, ?_, ?_, ?_, ?_⟩, fun j hj => fset (fset (fset (fset (fset (fset (f j hj))))))⟩
  · exact cset (cset (cset (cset (cset (csame a0) (by decide)) (by decide)) (by decide)) (by decide)) (by decide)
  · exact cset (cset (cset (cset (csame (cset a1 (by decide))) (by decide)) (by decide)) (by decide)) (by decide)
  · exact cset (cset (cset (csame (cset (cset a2 (by decide)) (by decide))) (by decide)) (by decide)) (by decide)
  · exact cset (cset (csame (cset (cset (cset a3 (by decide)) (by decide)) (by decide))) (by decide)) (by decide)
  · exact cset (csame (cset (cset (cset (cset a4 (by decide)) (by decide)) (by decide)) (by decide))) (by decide)
  · exact csame (cset (cset (cset (cset (cset a5 (by decide)) (by decide)) (by decide)) (by decide)) (by decide))
theorem put54_kept (W : World) (b N : Nat) (lv hv sv : Value) (rk : Int) (dn : Nat) : Kept (fun i => i = b) W (put54 W b N lv hv sv rk dn) :=
  ((((((Kept.refl (fun i => i = b) W).set (b := b) 0 (.int .i64 (N : Int)) (.inl rfl)).set (b := b) 1 lv (.inl rfl)).set (b := b) 2 hv (.inl rfl)).set (b := b) 3 sv (.inl rfl)).set (b := b) 4 (.int .i64 rk) (.inl rfl)).set (b := b) 5 (.int .i64 (dn : Int)) (.inl rfl)
theorem SB.held {W : World} {b N : Nat} {lv hv sv : Value} {rk : Int} {dn : Nat} (k : SB W b N lv hv sv rk dn) (h2 : Value) : SB (W.setCell ⟨b, 2, none⟩ h2) b N lv h2 sv rk dn := by
  obtain ⟨⟨l, t⟩, ⟨a0, a1, a2, a3, a4, a5⟩, f⟩ := k
  exact ⟨⟨by simpa using l, t.set _ _⟩, ⟨cset a0 (by decide), cset a1 (by decide), csame a2, cset a3 (by decide), cset a4 (by decide), cset a5 (by decide)⟩, fun j hj => fset (f j hj)⟩
theorem SB.loops {W : World} {b N : Nat} {lv hv sv : Value} {rk : Int} {dn : Nat} (k : SB W b N lv hv sv rk dn) (h2 : Value) : SB (W.setCell ⟨b, 1, none⟩ h2) b N h2 hv sv rk dn := by
  obtain ⟨⟨l, t⟩, ⟨a0, a1, a2, a3, a4, a5⟩, f⟩ := k
  exact ⟨⟨by simpa using l, t.set _ _⟩, ⟨cset a0 (by decide), csame a1, cset a2 (by decide), cset a3 (by decide), cset a4 (by decide), cset a5 (by decide)⟩, fun j hj => fset (f j hj)⟩
theorem SB.loose {W : World} {b N : Nat} {lv hv sv : Value} {rk : Int} {dn : Nat} (k : SB W b N lv hv sv rk dn) (h2 : Value) : SB (W.setCell ⟨b, 3, none⟩ h2) b N lv hv h2 rk dn := by
  obtain ⟨⟨l, t⟩, ⟨a0, a1, a2, a3, a4, a5⟩, f⟩ := k
  exact ⟨⟨by simpa using l, t.set _ _⟩, ⟨cset a0 (by decide), cset a1 (by decide), cset a2 (by decide), csame a3, cset a4 (by decide), cset a5 (by decide)⟩, fun j hj => fset (f j hj)⟩
theorem SB.rack {W : World} {b N : Nat} {lv hv sv : Value} {rk : Int} {dn : Nat} (k : SB W b N lv hv sv rk dn) (r2 : Int) : SB (W.setCell ⟨b, 4, none⟩ (.int .i64 r2)) b N lv hv sv r2 dn := by
  obtain ⟨⟨l, t⟩, ⟨a0, a1, a2, a3, a4, a5⟩, f⟩ := k
  exact ⟨⟨by simpa using l, t.set _ _⟩, ⟨cset a0 (by decide), cset a1 (by decide), cset a2 (by decide), cset a3 (by decide), csame a4, cset a5 (by decide)⟩, fun j hj => fset (f j hj)⟩
theorem SB.count {W : World} {b N : Nat} {lv hv sv : Value} {rk : Int} {dn : Nat} (k : SB W b N lv hv sv rk dn) (d2 : Nat) : SB (W.setCell ⟨b, 5, none⟩ (.int .i64 (d2 : Int))) b N lv hv sv rk d2 := by
  obtain ⟨⟨l, t⟩, ⟨a0, a1, a2, a3, a4, a5⟩, f⟩ := k
  exact ⟨⟨by simpa using l, t.set _ _⟩, ⟨cset a0 (by decide), cset a1 (by decide), cset a2 (by decide), cset a3 (by decide), cset a4 (by decide), csame a5⟩, fun j hj => fset (f j hj)⟩
theorem two54 (W : World) (o : Obj) (N : Nat) (lv hv sv : Value) (rk : Int) (dn : Nat) : SB ((W.alloc o).alloc (.cells #[.int .i64 (N : Int), lv, hv, sv, .int .i64 rk, .int .i64 (dn : Int)] 87)) (W.heap.size + 1) N lv hv sv rk dn := by
  have := SB.new (W.alloc o) N lv hv sv rk dn
  simpa using this

set_option maxRecDepth 100000 in
set_option maxHeartbeats 4000000 in
theorem taken_any {W : World} {N : Nat} {lv hv sv : Value} {rk : Int} {dn : Nat} {l : List (Nat × Nat × Nat)} (hh : HR W 0 hv l) (hl : l.length ≤ 4096) (hl1 : ∃ q m c, lv = .slice q m c) (hs1 : ∃ q m c, sv = .slice q m c) (bed ndl : Int) :
    Calls Try.prog 73 #[rsV N lv hv sv rk dn, .int .i64 bed, .int .i64 ndl] W fun e w' => ∃ v, e = .returned (rsV N lv v sv rk dn) ∧ HR w' W.heap.size v (tkL l bed ndl) ∧ Below W.heap.size W w' := by
  obtain ⟨q1, m1, c1, rfl⟩ := hl1
  obtain ⟨q3, m3, c3, rfl⟩ := hs1
  obtain ⟨hq, hc, rfl⟩ := hh.form
  obtain ⟨n, hn⟩ : ∃ n, n = l.length := ⟨_, rfl⟩
  have HH := hide (fun V (hV : Below W.heap.size W V) => hh.keep hV)
  rw [← hn] at hl
  rw [← hn]
  have Hn := hide hn
  have B0 := hide (btrans (bnew W (.cells #[.int .i64 (N : Int), .slice q1 m1 c1, .slice hq n hc, .slice q3 m3 c3, .int .i64 rk, .int .i64 (dn : Int)] 87)) (bnew _ (.cells #[.int .i64 0, .slice none 0 0, .slice none 0 0, .slice none 0 0, .int .i64 0, .int .i64 0] 87)))
  have HSB := hide ((SB.new W N (.slice q1 m1 c1) (.slice hq n hc) (.slice q3 m3 c3) rk dn).keep (bnew _ (.cells #[.int .i64 0, .slice none 0 0, .slice none 0 0, .slice none 0 0, .int .i64 0, .int .i64 0] 87)))
  have HSZ := hide (two54 W (.cells #[.int .i64 (N : Int), .slice q1 m1 c1, .slice hq n hc, .slice q3 m3 c3, .int .i64 rk, .int .i64 (dn : Int)] 87) 0 (.slice none 0 0) (.slice none 0 0) (.slice none 0 0) 0 0)
  have Hsz := hide (show ((W.alloc (.cells #[.int .i64 (N : Int), .slice q1 m1 c1, .slice hq n hc, .slice q3 m3 c3, .int .i64 rk, .int .i64 (dn : Int)] 87)).alloc (.cells #[.int .i64 0, .slice none 0 0, .slice none 0 0, .slice none 0 0, .int .i64 0, .int .i64 0] 87)).heap.size = W.heap.size + 2 by simp)
  clear hh hn
  go_enter Try.func73, Try.ntmps73
  go_upto_region 1 with fail
  rw [show (0 : Int) = ((0 : Nat) : Int) from rfl] at HSZ Hsz B0 HSB
  generalize (W.alloc (.cells #[.int .i64 (N : Int), .slice q1 m1 c1, .slice hq n hc, .slice q3 m3 c3, .int .i64 rk, .int .i64 (dn : Int)] 87)).alloc (.cells #[.int .i64 _, .slice none 0 0, .slice none 0 0, .slice none 0 0, .int .i64 _, .int .i64 _] 87) = w0 at *
  obtain ⟨sb, hsb⟩ : ∃ sb, sb = W.heap.size := ⟨_, rfl⟩
  obtain ⟨zb, hzb⟩ : ∃ zb, zb = W.heap.size + 1 := ⟨_, rfl⟩
  rw [← hzb] at HSZ
  rw [← hsb] at HSB
  rw [← hzb, ← hsb]
  have Hsb := hide hsb
  have Hzb := hide hzb
  clear hsb hzb
  obtain ⟨-, ⟨s0', s1', s2', s3', s4', s5'⟩, -⟩ := unhide HSB
  go_wp2
  go_loopw [7, 13] (fun ov i wr => ∃ x : Nat, x ≤ n ∧ i = .int .i64 x ∧ HR wr w0.heap.size ov (tkL (l.take x) bed ndl) ∧ Below w0.heap.size w0 wr) (fun _ i _ => n - (intOf i).toNat)
  case atStart => exact ⟨0, Nat.zero_le _, rfl, World.ownsRow_nil _ _ _ _, Below.refl _ _⟩
  case round =>
    clear s0' s1' s2' s3' s4' s5'
    obtain ⟨x, hx, rfl, hO, hB⟩ := hrel
    obtain ⟨oq, oc, rfl⟩ := hO.form
    have HO := hide hO
    have HB := hide hB
    clear hO hB
    by_cases hlt : x < n
    · have q1 : (x : Int) < (n : Int) := by omega
      have q2 : (0 : Int) ≤ (x : Int) := by omega
      have hx' : x < l.length := by rw [← unhide Hn]; exact hlt
      obtain ⟨g, cap, e1, c0, c1', c2⟩ := (unhide HH _ (btrans (unhide B0) (unhide HB))).at hx'
      simp only [Value.slice.injEq] at e1
      obtain ⟨rfl, -, rfl⟩ := e1
      have Hts := hide (tkL_take hx' bed ndl)
      have hol : (tkL (l.take x) bed ndl).length ≤ x := Nat.le_trans (List.length_filter_le _ _) (List.length_take_le _ _)
      obtain ⟨y, hy⟩ : ∃ y, l[x] = y := ⟨_, rfl⟩
      rw [hy] at c0 c1' c2 Hts
      obtain ⟨lp, lb, ln⟩ := y
      dsimp only at c0 c1' c2
      clear hy hx'
      have HO1 := hide ((unhide HO).keep (bnew wr (.cells #[.int .i64 (lp : Int), .int .i64 (lb : Int), .int .i64 (ln : Int)] 113)))
      have HB1 := hide (btrans (unhide HB) (bnew wr (.cells #[.int .i64 (lp : Int), .int .i64 (lb : Int), .int .i64 (ln : Int)] 113)))
      have HX := hide (show (wr.alloc (.cells #[.int .i64 (lp : Int), .int .i64 (lb : Int), .int .i64 (ln : Int)] 113)).cell? ⟨wr.heap.size, 0, none⟩ = some (.int .i64 (lp : Int)) ∧ (wr.alloc (.cells #[.int .i64 (lp : Int), .int .i64 (lb : Int), .int .i64 (ln : Int)] 113)).cell? ⟨wr.heap.size, 1, none⟩ = some (.int .i64 (lb : Int)) ∧ (wr.alloc (.cells #[.int .i64 (lp : Int), .int .i64 (lb : Int), .int .i64 (ln : Int)] 113)).cell? ⟨wr.heap.size, 2, none⟩ = some (.int .i64 (ln : Int)) from ⟨by simp [go_sem], by simp [go_sem], by simp [go_sem]⟩)
      have hsz1 : w0.heap.size ≤ (wr.alloc (.cells #[.int .i64 (lp : Int), .int .i64 (lb : Int), .int .i64 (ln : Int)] 113)).heap.size := (unhide HB1).size
      go_upto_region 5 with fail
      generalize wr.alloc (.cells #[.int .i64 (lp : Int), .int .i64 (lb : Int), .int .i64 (ln : Int)] 113) = w2 at *
      obtain ⟨x0, x1, x2⟩ := unhide HX
      cases g1 : ((lb : Int) == bed) with
      | true =>
        have g1' : ((lb : Int) != bed) = false := by simp at g1; simp [g1]
        cases g2 : ((ln : Int) == ndl) with
        | true =>
          have g2' : ((ln : Int) != ndl) = false := by simp at g2; simp [g2]
          have Hr := hide (show isAt bed ndl (lp, lb, ln) = true by unfold isAt; rw [g1, g2]; rfl)
          clear g1 g2
          go_wp2
          go_roundw
          case rel => exact ⟨x + 1, by omega, by go_num, by rw [unhide Hts, unhide Hr]; simpa using unhide HO1, unhide HB1⟩
          case measure => simp [intOf]; omega
        | false =>
          have g2' : ((ln : Int) != ndl) = true := by simp at g2; simp [g2]
          have Hr := hide (show isAt bed ndl (lp, lb, ln) = false by unfold isAt; rw [g2]; simp)
          clear g1 g2
          have HO2 := hide ((unhide HO1).keep (bnew w2 (.cells #[.int .i64 (lp : Int), .int .i64 (lb : Int), .int .i64 (ln : Int)] 113)))
          have HY2 := hide (show HR (w2.alloc (.cells #[.int .i64 (lp : Int), .int .i64 (lb : Int), .int .i64 (ln : Int)] 113)) 0 (.slice (some ⟨w2.heap.size, 0, none⟩) 1 1) [(lp, lb, ln)] from own_lit (B := 0) (e := 113) (z := 3) (k := 1) w2 #[.int .i64 (lp : Int), .int .i64 (lb : Int), .int .i64 (ln : Int)] (Nat.zero_le _) (by unfold maxLen; omega) rfl)
          unfold HR at HO2 HY2
          obtain ⟨on, hon⟩ : ∃ on, on = (tkL (l.take x) bed ndl).length := ⟨_, rfl⟩
          rw [← hon] at HO2 hol
          have Hon := hide hon
          clear hon
          go_wp2_with (at_builtin; refine wl_app rfl rfl Try.underlying85 info75 rfl (by decide) (B := w0.heap.size) (C := 0) (n := on) (m := 1) ?e1 rfl (unhide HO2) (unhide HY2) hdV_one (by unfold maxLen; omega) (by omega) (by simp; omega) ?_)
          case e1 => rw [unhide Hon]; rfl
          intro v' w6 hown' hgrow _
          have HB6 := hide ((btrans (unhide HB1) (bnew w2 (.cells #[.int .i64 (lp : Int), .int .i64 (lb : Int), .int .i64 (ln : Int)] 113))).grown hgrow (by simp; omega) (fun k hk => ((unhide HO2).lt k hk).1))
          have HO6 := hide (show HR w6 w0.heap.size v' (tkL (l.take x) bed ndl ++ [(lp, lb, ln)]) by unfold HR; rw [hdV_app, List.length_append, ← unhide Hon]; exact hown')
          obtain ⟨q', cap', rfl⟩ := own_form hown'
          clear hown' hgrow x0 x1 x2 c0 c1' c2
          go_wp2
          go_roundw
          case rel => exact ⟨x + 1, by omega, by go_num, by rw [unhide Hts, unhide Hr]; exact unhide HO6, unhide HB6⟩
          case measure => simp [intOf]; omega
      | false =>
        have g1' : ((lb : Int) != bed) = true := by simp at g1; simp [g1]
        have Hr := hide (show isAt bed ndl (lp, lb, ln) = false by unfold isAt; rw [g1]; rfl)
        clear g1
        have HO2 := hide ((unhide HO1).keep (bnew w2 (.cells #[.int .i64 (lp : Int), .int .i64 (lb : Int), .int .i64 (ln : Int)] 113)))
        have HY2 := hide (show HR (w2.alloc (.cells #[.int .i64 (lp : Int), .int .i64 (lb : Int), .int .i64 (ln : Int)] 113)) 0 (.slice (some ⟨w2.heap.size, 0, none⟩) 1 1) [(lp, lb, ln)] from own_lit (B := 0) (e := 113) (z := 3) (k := 1) w2 #[.int .i64 (lp : Int), .int .i64 (lb : Int), .int .i64 (ln : Int)] (Nat.zero_le _) (by unfold maxLen; omega) rfl)
        unfold HR at HO2 HY2
        obtain ⟨on, hon⟩ : ∃ on, on = (tkL (l.take x) bed ndl).length := ⟨_, rfl⟩
        rw [← hon] at HO2 hol
        have Hon := hide hon
        clear hon
        go_wp2_with (at_builtin; refine wl_app rfl rfl Try.underlying85 info75 rfl (by decide) (B := w0.heap.size) (C := 0) (n := on) (m := 1) ?e2 rfl (unhide HO2) (unhide HY2) hdV_one (by unfold maxLen; omega) (by omega) (by simp; omega) ?_)
        case e2 => rw [unhide Hon]; rfl
        intro v' w6 hown' hgrow _
        have HB6 := hide ((btrans (unhide HB1) (bnew w2 (.cells #[.int .i64 (lp : Int), .int .i64 (lb : Int), .int .i64 (ln : Int)] 113))).grown hgrow (by simp; omega) (fun k hk => ((unhide HO2).lt k hk).1))
        have HO6 := hide (show HR w6 w0.heap.size v' (tkL (l.take x) bed ndl ++ [(lp, lb, ln)]) by unfold HR; rw [hdV_app, List.length_append, ← unhide Hon]; exact hown')
        obtain ⟨q', cap', rfl⟩ := own_form hown'
        clear hown' hgrow x0 x1 x2 c0 c1' c2
        go_wp2
        go_roundw
        case rel => exact ⟨x + 1, by omega, by go_num, by rw [unhide Hts, unhide Hr]; exact unhide HO6, unhide HB6⟩
        case measure => simp [intOf]; omega
    · obtain rfl : n = x := by omega
      have cl : ¬ ((n : Int) < (n : Int)) := by omega
      have e : tkL (l.take n) bed ndl = tkL l bed ndl := by rw [unhide Hn, List.take_length]
      have HO9 := hide (unhide HO)
      rw [e] at HO9
      rw [e]
      clear e HO
      generalize hln : (tkL l bed ndl).length = ln at *
      clear hln
      have hs0 : w0.heap.size ≤ wr.heap.size := (unhide HB).size
      have HSB1 := hide ((unhide HSB).keep (unhide HB))
      have HSZ1 := hide ((unhide HSZ).keep (unhide HB))
      obtain ⟨w7, hw7, hSB7, hK7⟩ : ∃ w7, wr.setCell ⟨sb, 2, none⟩ (.slice oq ln oc) = w7 ∧ SB w7 sb N (.slice q1 m1 c1) (.slice oq ln oc) (.slice q3 m3 c3) rk dn ∧ Kept (fun i => i = sb) wr w7 := ⟨_, rfl, (unhide HSB1).held _, kset _ _ _ _⟩
      have HSZ7 := hide ((unhide HSZ1).kept hK7 (by have := unhide Hsb; have := unhide Hzb; omega))
      have HO7 := hide (own_kept (unhide HO9) hK7 (fun i e t => tg_not (show Tg wr i 87 from e ▸ (unhide HSB1).1.2) (by decide) t))
      have HSB7 := hide hSB7
      have HK7 := hide hK7
      obtain ⟨-, ⟨s0', s1', s2', s3', s4', s5'⟩, sf⟩ := unhide HSB1
      have sf2 := sf 2 (by decide)
      clear hSB7 hK7 sf
      obtain ⟨-, ⟨t0', t1', t2', t3', t4', t5'⟩, -⟩ := unhide HSB7
      obtain ⟨x9, hx9, hS9, hK9⟩ : ∃ x9, put54 w7 zb N (.slice q1 m1 c1) (.slice oq ln oc) (.slice q3 m3 c3) rk dn = x9 ∧ SB x9 zb N (.slice q1 m1 c1) (.slice oq ln oc) (.slice q3 m3 c3) rk dn ∧ Kept (fun i => i = zb) w7 x9 := ⟨_, rfl, (unhide HSZ7).put _ _ _ _ _ _, put54_kept _ _ _ _ _ _ _ _⟩
      unfold put54 at hx9
      have HS9 := hide hS9
      have HK9 := hide hK9
      clear hS9 hK9
      obtain ⟨-, ⟨u0', u1', u2', u3', u4', u5'⟩, uf⟩ := unhide HSZ7
      have uf0 := uf 0 (by decide)
      have uf1 := uf 1 (by decide)
      have uf2 := uf 2 (by decide)
      have uf3 := uf 3 (by decide)
      have uf4 := uf 4 (by decide)
      have uf5 := uf 5 (by decide)
      clear uf
      go_wp2
      obtain ⟨-, ⟨z0, z1, z2, z3, z4, z5⟩, -⟩ := unhide HS9
      refine bodyPost_ret (v := rsV N (.slice q1 m1 c1) (.slice oq ln oc) (.slice q3 m3 c3) rk dn) ?_ rfl ?_
      · simp [results, Try.results73, go_sem, z0, z1, z2, z3, z4, z5]
      · have b1 := btrans (unhide B0) (unhide HB)
        have b2 := Kept.back b1 (unhide HK7) b1.size (fun i e => by have := unhide Hsb; omega)
        refine ⟨_, rfl, ?_, Kept.back b2 (unhide HK9) b2.size (fun i e => by have := unhide Hzb; omega)⟩
        have t54 := (unhide HSZ7).1.2
        exact own_le (own_kept (unhide HO7) (unhide HK9) (fun i e t => tg_not (show Tg w7 i 87 from e ▸ t54) (by decide) t)) (by have := unhide Hsz; omega)
end Go.Proofs.Ytancniamgfppiaa
