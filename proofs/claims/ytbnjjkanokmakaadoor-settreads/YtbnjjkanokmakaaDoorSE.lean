/-
  Runs of threads; whether they go there and back; Fold of package sett.
-/
import Derived.Test.YtbnjjkanokmakaaDoorSD
namespace Go.Proofs.YtbnjjkanokmakaaDoor
open Go.RowKit

theorem stV_bump (R : List St) (h : 1 ≤ R.length) (z : Int) : (stV R).set ((R.length - 1) * 2 + 1) (.int .i64 z) = stV (R.dropLast ++ [(ca R (R.length - 1), z)]) := by
  have hne : R ≠ [] := by rintro rfl; simp at h
  obtain ⟨D, y, rfl⟩ : ∃ D y, R = D ++ [y] := ⟨R.dropLast, R.getLast hne, (List.dropLast_concat_getLast hne).symm⟩
  have hl : (stV D).length = D.length * 2 := stV_len D
  have hc : ca (D ++ [y]) ((D ++ [y]).length - 1) = y.1 := by simp [ca]
  rw [hc, stV_app, stV_app, List.dropLast_concat]
  rw [List.set_append_right _ _ (by simp; omega)]
  congr 1
  rw [hl]
  have : (D ++ [y]).length - 1 = D.length := by simp
  rw [this, show D.length * 2 + 1 - D.length * 2 = 1 by omega]
  rfl
theorem addR_same (R : List St) (c : Int) (h : 1 ≤ R.length) (hc : ca R (R.length - 1) = c) : addR R c = R.dropLast ++ [(ca R (R.length - 1), cb R (R.length - 1) + 1)] := by
  unfold addR
  rw [if_pos ⟨by omega, hc⟩, hc]
theorem addR_other (R : List St) (c : Int) (h : R.length = 0 ∨ ca R (R.length - 1) ≠ c) : addR R c = R ++ [(c, 1)] := by
  unfold addR
  rw [if_neg (by rintro ⟨h1, h2⟩; rcases h with h | h; exact h1 h; exact h h2)]

/-- runs are told -/
def RnIs (W : World) (l : List Int) (e : Ending) (V : World) : Prop := ∃ v, e = .returned v ∧ SR V W.heap.size v (rnL l) ∧ Below W.heap.size W V
theorem RnIs.mk {W V : World} {l : List Int} (v : Value) (h : SR V W.heap.size v (rnL l)) (hb : Below W.heap.size W V) : RnIs W l (.returned v) V := ⟨v, rfl, h, hb⟩
/-- what lies about while runs are made -/
def Rq (W : World) (qo : Option Addr) (k cp : Nat) (R : List St) (wr : World) : Prop := wr.ownsRow W.heap.size 45 2 (.slice qo k cp) k (stV R) ∧ Below W.heap.size W wr

set_option maxRecDepth 100000 in
set_option maxHeartbeats 4000000 in
theorem runs_any (q : Option Addr) (l : List Int) (cap : Nat) (W : World) (hP : Il W q l) (hn : l.length ≤ 1048576) : Calls Tryd.prog 31 #[.slice q l.length cap] W (RnIs W l) := by
  have Hfin := hide (fun V v (h : SR V W.heap.size v (rnL l)) (hb : Below W.heap.size W V) => RnIs.mk v h hb)
  have Hst := hide (fun k (hk : k < l.length) => rn_take l hk)
  have Hea := hide (fun k (hk : k ≤ l.length) => rn_each l k hk)
  have Hall := hide (show rnL (l.take l.length) = rnL l by rw [List.take_length])
  have H0 := hide (show rnL (l.take 0) = [] from rfl)
  have HP := hide (show Is W q l.length (fun k => l.getD k 0) from hP)
  clear hP
  generalize l.length = n at *
  go_enter Tryd.func31, Tryd.ntmps31
  go_wp2
  go_loopw [3, 9] (fun ov i wr => ∃ (x k cp : Nat) (qo : Option Addr), x ≤ n ∧ i = .int .i64 (x : Int) ∧ ov = .slice qo k cp ∧ Hid ((rnL (l.take x)).length = k) ∧ Rq W qo k cp (rnL (l.take x)) wr) (fun _ i _ => n - (intOf i).toNat)
  case atStart => exact ⟨0, 0, 0, none, by omega, rfl, rfl, hide (by rw [unhide H0]; rfl), by rw [unhide H0]; exact World.ownsRow_nil _ _ _ _, Below.refl _ _⟩
  case round =>
    obtain ⟨x, k, cp, qo, hx, rfl, rfl, Hk, hO, hb⟩ := hrel
    by_cases hlt : x < n
    · obtain ⟨ad0, oo, rfl, k0⟩ := ((unhide HP).keep hb).at hlt
      have q0 : (x : Int) < (n : Int) := by omega
      have q1 : (0 : Int) ≤ (x : Int) := by omega
      obtain ⟨e1, e2, -⟩ := unhide Hea x (by omega)
      have Hnx := hide (unhide Hst x hlt)
      obtain ⟨R, hR⟩ : ∃ R, rnL (l.take x) = R := ⟨_, rfl⟩
      rw [hR] at Hk hO e1 e2 Hnx
      rw [unhide Hk] at e1 e2
      generalize l.getD x 0 = c at *
      have HO := hide hO
      have Hb := hide hb
      clear hO hb hR
      rcases Nat.eq_zero_or_pos k with hk0 | hk0
      · have Hnx2 := hide (show rnL (l.take (x + 1)) = R ++ [(c, 1)] by rw [unhide Hnx]; exact addR_other R c (.inl (by rw [unhide Hk]; exact hk0)))
        have Lr := hide (own_lit (B := W.heap.size) (e := 45) (z := 2) (k := 1) wr #[.int .i64 c, .int .i64 1] (unhide Hb).size (by unfold maxLen; omega) rfl)
        have HO2 := hide (own_keep (unhide HO) (bnew wr (.cells #[.int .i64 c, .int .i64 1] 45)))
        have HB2 := hide ((unhide Hb).trans ((bnew wr (.cells #[.int .i64 c, .int .i64 1] 45)).mono (unhide Hb).size))
        have Hone := hide (stV_one [(c, 1)])
        have Hk2 := hide (show k = 0 from hk0)
        have d1 : (k : Int) - 1 = -1 := by omega
        have Hap := hide (show stV (R ++ [(c, 1)]) = stV R ++ [.int .i64 c, .int .i64 1] from stV_app R [(c, 1)])
        have k9 : k ≤ 1048576 := by omega
        clear e1 e2 hk0 HO Hb
        go_wp2_with (at_builtin; refine wl_app rfl rfl Tryd.underlying22 info45 rfl (by decide) (B := W.heap.size) (C := W.heap.size) (n := k) (m := 1) rfl rfl (unhide HO2) (unhide Lr) (unhide Hone) (by unfold maxLen; omega) (by omega) (unhide HB2).size ?_)
        intro v5 w5 ho5 hg5 he5
        have HB3 := hide ((unhide HB2).grown hg5 (unhide HB2).size (fun _ e => ((unhide HO2).lt _ e).1))
        rw [← unhide Hap] at ho5
        obtain ⟨q3', cap3', rfl⟩ := own_form ho5
        have HO3 := hide ho5
        clear ho5 hg5 he5 HO2 HB2 Lr Hone d1 k0
        go_wp2
        go_roundw
        case rel => exact ⟨x + 1, k + 1, cap3', q3', by omega, by go_num, rfl, hide (by rw [unhide Hnx2, List.length_append, unhide Hk]; rfl), by rw [unhide Hnx2]; exact unhide HO3, unhide HB3⟩
        case measure => simp [intOf]; omega
      · obtain ⟨k1, rfl⟩ : ∃ k1, k = k1 + 1 := ⟨k - 1, by omega⟩
        have hkk := e1 k1 (by omega)
        obtain ⟨g, cap2, hsl⟩ := own_slice (unhide HO) (by omega)
        injection hsl with hs1 hs2 hs3
        subst hs1
        subst hs3
        have hlen1 : R.length - 1 = k1 := by rw [unhide Hk]; omega
        have hat := stV_at R k1 (by rw [unhide Hk]; omega)
        have c0 : wr.cell? ⟨g, k1 * 2, none⟩ = some (.int .i64 (ca R k1)) := by rw [World.ownsRow.cellAt (unhide HO) (k1 * 2) (by omega)]; exact hat.1
        have c1 : wr.cell? ⟨g, k1 * 2 + 1, none⟩ = some (.int .i64 (cb R k1)) := by rw [World.ownsRow.cellAt (unhide HO) (k1 * 2 + 1) (by omega)]; exact hat.2
        have f1 := World.ownsRow.frozenAt (unhide HO) (k1 * 2 + 1)
        have d1 : ((k1 + 1 : Nat) : Int) - 1 = (k1 : Int) := by omega
        have d2 : (k1 : Int) < ((k1 + 1 : Nat) : Int) := by omega
        have d3 : (0 : Int) ≤ (k1 : Int) := by omega
        by_cases hc : ca R k1 = c
        · have Hnx2 := hide (show rnL (l.take (x + 1)) = R.dropLast ++ [(ca R k1, cb R k1 + 1)] by rw [unhide Hnx, addR_same R c (by rw [unhide Hk]; omega) (by rw [hlen1]; exact hc), hlen1])
          have Hs := hide (World.ownsRow.stored (unhide HO) (k1 * 2 + 1) (.int .i64 (cb R k1 + 1)))
          have Hbp := hide (stV_bump R (by rw [unhide Hk]; omega) (cb R k1 + 1))
          rw [hlen1] at Hbp
          have Hln := hide (show (R.dropLast ++ [(ca R k1, cb R k1 + 1)]).length = k1 + 1 by rw [List.length_append, List.length_dropLast, hlen1]; rfl)
          have hgl := ((unhide HO).lt g rfl).1
          have k19 : k1 ≤ 1048576 := by omega
          rw [hc] at c0
          clear e1 e2 hat hlen1 hc
          generalize cb R k1 = z at *
          go_wp2
          go_roundw
          case rel =>
            refine ⟨x + 1, k1 + 1, cp, some ⟨g, 0, none⟩, by omega, by go_num, rfl, hide (by rw [unhide Hnx2, unhide Hln]), ?_, ?_⟩
            · rw [unhide Hnx2, ← unhide Hbp]
              exact (unhide Hs).1
            · exact (unhide Hb).setCell (p := ⟨g, k1 * 2 + 1, none⟩) hgl _
          case measure => simp [intOf]; omega
        · have Hnx2 := hide (show rnL (l.take (x + 1)) = R ++ [(c, 1)] by rw [unhide Hnx]; exact addR_other R c (.inr (by rw [hlen1]; exact hc)))
          have hcf : (ca R k1 == c) = false := by simp [hc]
          have Lr := hide (own_lit (B := W.heap.size) (e := 45) (z := 2) (k := 1) wr #[.int .i64 c, .int .i64 1] (unhide Hb).size (by unfold maxLen; omega) rfl)
          have HO2 := hide (own_keep (unhide HO) (bnew wr (.cells #[.int .i64 c, .int .i64 1] 45)))
          have HB2 := hide ((unhide Hb).trans ((bnew wr (.cells #[.int .i64 c, .int .i64 1] 45)).mono (unhide Hb).size))
          have Hone := hide (stV_one [(c, 1)])
          have Hap := hide (show stV (R ++ [(c, 1)]) = stV R ++ [.int .i64 c, .int .i64 1] from stV_app R [(c, 1)])
          have k9 : k1 ≤ 1048576 := by omega
          clear e1 e2 HO Hb hat hlen1 hc c1 f1 hkk
          generalize ca R k1 = ck at *
          go_wp2_with (at_builtin; refine wl_app rfl rfl Tryd.underlying22 info45 rfl (by decide) (B := W.heap.size) (C := W.heap.size) (n := k1 + 1) (m := 1) rfl rfl (unhide HO2) (unhide Lr) (unhide Hone) (by unfold maxLen; omega) (by omega) (unhide HB2).size ?_)
          intro v5 w5 ho5 hg5 he5
          have HB3 := hide ((unhide HB2).grown hg5 (unhide HB2).size (fun _ e => ((unhide HO2).lt _ e).1))
          rw [← unhide Hap] at ho5
          obtain ⟨q3', cap3', rfl⟩ := own_form ho5
          have HO3 := hide ho5
          clear ho5 hg5 he5 HO2 HB2 Lr Hone d1 d2 d3 k0 c0
          go_wp2
          go_roundw
          case rel => exact ⟨x + 1, k1 + 1 + 1, cap3', q3', by omega, by go_num, rfl, hide (by rw [unhide Hnx2, List.length_append, unhide Hk]; rfl), by rw [unhide Hnx2]; exact unhide HO3, unhide HB3⟩
          case measure => simp [intOf]; omega
    · obtain rfl : x = n := by omega
      have cl : ¬ ((x : Int) < (x : Int)) := by omega
      have Hend := hide (unhide Hfin wr (.slice qo k cp) (by rw [← unhide Hall]; unfold SR; rw [unhide Hk]; exact hO) hb)
      clear hO hb
      go_wp2
      go_ret
      exact unhide Hend
end Go.Proofs.YtbnjjkanokmakaaDoor
