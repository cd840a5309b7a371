/-
  The reference: Runs.
-/
import Derived.Test.YtbnjjkanokmakaaDoorSE
namespace Go.Proofs.YtbnjjkanokmakaaDoor
open Go.RowKit

set_option maxRecDepth 100000 in
set_option maxHeartbeats 4000000 in
theorem rruns_any (q : Option Addr) (l : List Int) (cap : Nat) (W : World) (hP : Il W q l) (hn : l.length ≤ 1048576) : Calls Tryd.prog 32 #[.slice q l.length cap] W (RnIs W l) := by
  have Hfin := hide (fun V v (h : SR V W.heap.size v (rnL l)) (hb : Below W.heap.size W V) => RnIs.mk v h hb)
  have Hst := hide (fun k (hk : k < l.length) => rn_take l hk)
  have Hea := hide (fun k (hk : k ≤ l.length) => rn_each l k hk)
  have Hla := hide (fun k (h0 : 0 < k) (hk : k ≤ l.length) => rn_last l k h0 hk)
  have Hall := hide (show rnL (l.take l.length) = rnL l by rw [List.take_length])
  have H0 := hide (show rnL (l.take 0) = [] from rfl)
  have HP := hide (show Is W q l.length (fun k => l.getD k 0) from hP)
  clear hP
  generalize l.length = n at *
  go_enter Tryd.func32, Tryd.ntmps32
  go_wp2
  go_loopw [3, 8] (fun ov i wr => ∃ (x k cp : Nat) (qo : Option Addr), x ≤ n ∧ i = .int .i64 (x : Int) ∧ ov = .slice qo k cp ∧ Hid ((rnL (l.take x)).length = k) ∧ Rq W qo k cp (rnL (l.take x)) wr) (fun _ i _ => n - (intOf i).toNat)
  case atStart => exact ⟨0, 0, 0, none, by omega, rfl, rfl, hide (by rw [unhide H0]; rfl), by rw [unhide H0]; exact World.ownsRow_nil _ _ _ _, Below.refl _ _⟩
  case round =>
    obtain ⟨x, k, cp, qo, hx, rfl, rfl, Hk, hO, hb⟩ := hrel
    by_cases hlt : x < n
    · obtain ⟨ad0, oo, rfl, k0⟩ := ((unhide HP).keep hb).at hlt
      have q0 : (x : Int) < (n : Int) := by omega
      have q1 : (0 : Int) ≤ (x : Int) := by omega
      obtain ⟨e1, e2, -⟩ := unhide Hea x (by omega)
      have Hnx := hide (unhide Hst x hlt)
      have Hla1 := hide (fun h0 => unhide Hla x h0 (by omega))
      have HPr := hide (fun y (hy : y < n) => ((unhide HP).keep hb).at hy)
      obtain ⟨R, hR⟩ : ∃ R, rnL (l.take x) = R := ⟨_, rfl⟩
      rw [hR] at Hk hO e1 e2 Hnx Hla1
      rw [unhide Hk] at e1 e2 Hla1
      generalize hcx : l.getD x 0 = c at *
      have HO := hide hO
      have Hb := hide hb
      clear hO hb hR hcx
      by_cases hsame : 0 < x ∧ ca R (k - 1) = c
      · obtain ⟨hx0, hc⟩ := hsame
        obtain ⟨hk1, hl1⟩ := unhide Hla1 hx0
        obtain ⟨k1, rfl⟩ : ∃ k1, k = k1 + 1 := ⟨k - 1, by omega⟩
        have ek : k1 + 1 - 1 = k1 := rfl
        rw [ek] at hc hl1
        obtain ⟨g9, o9, eg, k2⟩ := unhide HPr (x - 1) (by omega)
        cases eg
        rw [← hl1, hc] at k2
        obtain ⟨y, hy⟩ : ∃ y, y = x - 1 := ⟨_, rfl⟩
        rw [← hy] at k2
        have y1 : (x : Int) - 1 = (y : Int) := by omega
        have y2 : (y : Int) < (n : Int) := by omega
        have y3 : (0 : Int) ≤ (y : Int) := by omega
        have z0 : ((x : Int) == 0) = false := by simp; omega
        have hkk := e1 k1 (by omega)
        obtain ⟨g, cap2, hsl⟩ := own_slice (unhide HO) (by omega)
        injection hsl with hs1 hs2 hs3
        subst hs1
        subst hs3
        have hlen1 : R.length - 1 = k1 := by rw [unhide Hk]; omega
        have hat := stV_at R k1 (by rw [unhide Hk]; omega)
        have c1 : wr.cell? ⟨g, k1 * 2 + 1, none⟩ = some (.int .i64 (cb R k1)) := by rw [World.ownsRow.cellAt (unhide HO) (k1 * 2 + 1) (by omega)]; exact hat.2
        have f1 := World.ownsRow.frozenAt (unhide HO) (k1 * 2 + 1)
        have d1 : ((k1 + 1 : Nat) : Int) - 1 = (k1 : Int) := by omega
        have d2 : (k1 : Int) < ((k1 + 1 : Nat) : Int) := by omega
        have d3 : (0 : Int) ≤ (k1 : Int) := by omega
        have Hnx2 := hide (show rnL (l.take (x + 1)) = R.dropLast ++ [(ca R k1, cb R k1 + 1)] by rw [unhide Hnx, addR_same R c (by rw [unhide Hk]; omega) (by rw [hlen1]; exact hc), hlen1])
        have Hs := hide (World.ownsRow.stored (unhide HO) (k1 * 2 + 1) (.int .i64 (cb R k1 + 1)))
        have Hbp := hide (stV_bump R (by rw [unhide Hk]; omega) (cb R k1 + 1))
        rw [hlen1] at Hbp
        have Hln := hide (show (R.dropLast ++ [(ca R k1, cb R k1 + 1)]).length = k1 + 1 by rw [List.length_append, List.length_dropLast, hlen1]; rfl)
        have hgl := ((unhide HO).lt g rfl).1
        have k19 : k1 ≤ 1048576 := by omega
        clear e1 e2 hat hlen1 hc hl1 hk1 hx0 hy ek
        generalize cb R k1 = z at *
        go_wp2
        go_roundw
        case rel =>
          refine ⟨x + 1, k1 + 1, cp, some ⟨g, 0, none⟩, by omega, by go_num, rfl, hide (by rw [unhide Hnx2, unhide Hln]), ?_, ?_⟩
          · rw [unhide Hnx2, ← unhide Hbp]
            exact (unhide Hs).1
          · exact (unhide Hb).setCell (p := ⟨g, k1 * 2 + 1, none⟩) hgl _
        case measure => simp [intOf]; omega
      · have Hnx2 := hide (show rnL (l.take (x + 1)) = R ++ [(c, 1)] by
          rw [unhide Hnx]
          refine addR_other R c ?_
          rw [unhide Hk]
          by_cases h0 : 0 < x
          · exact .inr (fun e => hsame ⟨h0, e⟩)
          · exact .inl (by omega))
        have Lr := hide (own_lit (B := W.heap.size) (e := 45) (z := 2) (k := 1) wr #[.int .i64 c, .int .i64 0] (unhide Hb).size (by unfold maxLen; omega) rfl)
        have HO2 := hide (own_keep (unhide HO) (bnew wr (.cells #[.int .i64 c, .int .i64 0] 45)))
        have HB2 := hide ((unhide Hb).trans ((bnew wr (.cells #[.int .i64 c, .int .i64 0] 45)).mono (unhide Hb).size))
        have Hone := hide (stV_one [(c, 0)])
        have Hap := hide (show stV (R ++ [(c, 0)]) = stV R ++ [.int .i64 c, .int .i64 0] from stV_app R [(c, 0)])
        have k9 : k ≤ 1048576 := by omega
        have Hx0 := hide (fun h0 : 0 < x => show ∃ g o, (some (⟨ad0, oo, none⟩ : Addr)) = some ⟨g, o, none⟩ ∧ wr.cell? ⟨g, o + (x - 1), none⟩ = some (.int .i64 (ca R (k - 1))) ∧ ca R (k - 1) ≠ c from by
          obtain ⟨g9, o9, eg, k2⟩ := unhide HPr (x - 1) (by omega)
          exact ⟨g9, o9, eg, by rw [(unhide Hla1 h0).2]; exact k2, fun e => hsame ⟨h0, e⟩⟩)
        clear e1 e2 HO hsame
        have hR1 : (R ++ [(c, 0)]).length = k + 1 := by rw [List.length_append, unhide Hk]; rfl
        have Hat := hide (show (stV (R ++ [(c, 0)]))[k * 2 + 1]? = some (.int .i64 0) by rw [(stV_at (R ++ [(c, 0)]) k (by omega)).2]; unfold cb; rw [getD_lt _ _ (by omega)]; simp [unhide Hk])
        have Hbp := hide (show (stV (R ++ [(c, 0)])).set (k * 2 + 1) (.int .i64 1) = stV (R ++ [(c, 1)]) from by
          have h := stV_bump (R ++ [(c, 0)]) (by omega) 1
          rw [hR1, Nat.add_sub_cancel] at h
          rw [h, List.dropLast_concat]
          have : ca (R ++ [(c, 0)]) k = c := by unfold ca; rw [getD_lt _ _ (by omega)]; simp [unhide Hk]
          rw [this])
        have d1 : ((k + 1 : Nat) : Int) - 1 = (k : Int) := by omega
        have d2 : (k : Int) < ((k + 1 : Nat) : Int) := by omega
        have d3 : (0 : Int) ≤ (k : Int) := by omega
        clear hR1
        by_cases hx0 : 0 < x
        · obtain ⟨g9, o9, eg, k2, hne⟩ := unhide Hx0 hx0
          cases eg
          obtain ⟨y, hy⟩ : ∃ y, y = x - 1 := ⟨_, rfl⟩
          rw [← hy] at k2
          have y1 : (x : Int) - 1 = (y : Int) := by omega
          have y2 : (y : Int) < (n : Int) := by omega
          have y3 : (0 : Int) ≤ (y : Int) := by omega
          have z0 : ((x : Int) == 0) = false := by simp; omega
          have z1 : (c != ca R (k - 1)) = true := by simp; exact fun e => hne e.symm
          have H9 := hide hx0
          clear hx0 hne hy Hx0
          generalize ca R (k - 1) = u at *
          go_wp2_with (at_builtin; refine wl_app rfl rfl Tryd.underlying22 info45 rfl (by decide) (B := W.heap.size) (C := W.heap.size) (n := k) (m := 1) rfl rfl (unhide HO2) (unhide Lr) (unhide Hone) (by unfold maxLen; omega) (by omega) (unhide HB2).size ?_)
          intro v5 w5 ho5 hg5 he5
          rw [← unhide Hap] at ho5
          have HB5 := hide ((unhide HB2).grown hg5 (unhide HB2).size (fun _ e => ((unhide HO2).lt _ e).1))
          obtain ⟨g5, cap5, rfl⟩ := own_slice ho5 (by omega)
          have HO5 := hide ho5
          clear ho5 hg5 he5 HO2 HB2 Lr Hone Hap
          have c1 : w5.cell? ⟨g5, k * 2 + 1, none⟩ = some (.int .i64 0) := by rw [World.ownsRow.cellAt (unhide HO5) (k * 2 + 1) (by omega), (unhide Hat)]
          have f1 := World.ownsRow.frozenAt (unhide HO5) (k * 2 + 1)
          have hgl := ((unhide HO5).lt g5 rfl).1
          have Hs := hide (World.ownsRow.stored (unhide HO5) (k * 2 + 1) (.int .i64 1))
          go_wp2
          go_roundw
          case rel =>
            refine ⟨x + 1, k + 1, cap5, some ⟨g5, 0, none⟩, by omega, by go_num, rfl, hide (by rw [unhide Hnx2, List.length_append, unhide Hk]; rfl), ?_, ?_⟩
            · rw [unhide Hnx2, ← unhide Hbp]
              exact (unhide Hs).1
            · exact (unhide HB5).setCell (p := ⟨g5, k * 2 + 1, none⟩) hgl _
          case measure => simp [intOf]; omega
        · obtain rfl : x = 0 := by omega
          rw [Nat.add_zero] at k0
          clear hx0 Hx0
          go_wp2_with (at_builtin; refine wl_app rfl rfl Tryd.underlying22 info45 rfl (by decide) (B := W.heap.size) (C := W.heap.size) (n := k) (m := 1) rfl rfl (unhide HO2) (unhide Lr) (unhide Hone) (by unfold maxLen; omega) (by omega) (unhide HB2).size ?_)
          intro v5 w5 ho5 hg5 he5
          rw [← unhide Hap] at ho5
          have HB5 := hide ((unhide HB2).grown hg5 (unhide HB2).size (fun _ e => ((unhide HO2).lt _ e).1))
          obtain ⟨g5, cap5, rfl⟩ := own_slice ho5 (by omega)
          have HO5 := hide ho5
          clear ho5 hg5 he5 HO2 HB2 Lr Hone Hap
          have c1 : w5.cell? ⟨g5, k * 2 + 1, none⟩ = some (.int .i64 0) := by rw [World.ownsRow.cellAt (unhide HO5) (k * 2 + 1) (by omega), (unhide Hat)]
          have f1 := World.ownsRow.frozenAt (unhide HO5) (k * 2 + 1)
          have hgl := ((unhide HO5).lt g5 rfl).1
          have Hs := hide (World.ownsRow.stored (unhide HO5) (k * 2 + 1) (.int .i64 1))
          go_wp2
          go_roundw
          case rel =>
            refine ⟨0 + 1, k + 1, cap5, some ⟨g5, 0, none⟩, by omega, by go_num, rfl, hide (by rw [unhide Hnx2, List.length_append, unhide Hk]; rfl), ?_, ?_⟩
            · rw [unhide Hnx2, ← unhide Hbp]
              exact (unhide Hs).1
            · exact (unhide HB5).setCell (p := ⟨g5, k * 2 + 1, none⟩) hgl _
          case measure => simp [intOf]; omega
    · obtain rfl : x = n := by omega
      have cl : ¬ ((x : Int) < (x : Int)) := by omega
      have Hend := hide (unhide Hfin wr (.slice qo k cp) (by rw [← unhide Hall]; unfold SR; rw [unhide Hk]; exact hO) hb)
      clear hO hb
      go_wp2
      go_ret
      exact unhide Hend
end Go.Proofs.YtbnjjkanokmakaaDoor
