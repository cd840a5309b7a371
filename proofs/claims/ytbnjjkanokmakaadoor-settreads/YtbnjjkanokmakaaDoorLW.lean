/-
  SettReads: the reference's Read and the program's tell the same.
-/
import Derived.Test.YtbnjjkanokmakaaDoorRN
import Derived.Test.YtbnjjkanokmakaaDoorPU
import Derived.Test.YtbnjjkanokmakaaDoorRG
import Derived.Test.YtbnjjkanokmakaaDoorLV
namespace Go.Proofs.YtbnjjkanokmakaaDoor
open Go.RowKit

/-- a sett and a fault -/
def Tw (W : World) (pv : Bool) (L : List St) (er at' : Int) (e : Ending) (V : World) : Prop := ∃ q c, e = .returned (.tuple #[.agg #[.bool pv, .slice q L.length c], .agg #[.int .i64 er, .int .i64 at']]) ∧ Sl V q L ∧ Below W.heap.size W V
theorem tw_good {V V' : World} {s : ByteArray} {e : Ending} (h : (rE s).1 = 0) (hr : ReIs V s e V') : Tw V (pvS s) (rdS s).2.2 0 0 e V' := by
  obtain ⟨hb, hh⟩ := hr
  rcases hh with ⟨h1, -⟩ | ⟨-, q, c, rfl, hs⟩
  · exact absurd h h1
  · exact ⟨q, c, rfl, hs, hb⟩
theorem tw_bad {V V' : World} {s : ByteArray} {e : Ending} (h : ¬ (rE s).1 = 0) (hr : ReIs V s e V') : Tw V false [] (rE s).1 ((rE s).2 : Nat) e V' := by
  obtain ⟨hb, hh⟩ := hr
  rcases hh with ⟨h1, rfl⟩ | ⟨h1, -⟩
  · exact ⟨none, 0, rfl, .inl rfl, hb⟩
  · exact absurd h1 h
theorem tw_both (W : World) (s : ByteArray) (hT : RTabs W) : ∃ (pv : Bool) (L : List St) (er at' : Int), L.length ≤ 1048576 ∧ (∀ V, Below W.heap.size W V → Calls Tryd.prog 7 #[.string s] V (Tw V pv L er at')) ∧ (∀ V, Calls Tryd.prog 8 #[.string s] V (Tw V pv L er at')) := by
  by_cases h : (rE s).1 = 0
  · refine ⟨pvS s, (rdS s).2.2, 0, 0, ?_, fun V hb => (read_any V s (hT.keep hb)).mono fun e V' hr => tw_good h hr, fun V => (rread_any V s).mono fun e V' hr => tw_good h hr⟩
    have := (ok_of (print_read h).1).few.2
    omega
  · exact ⟨false, [], (rE s).1, ((rE s).2 : Nat), by simp, fun V hb => (read_any V s (hT.keep hb)).mono fun e V' hr => tw_bad h hr, fun V => (rread_any V s).mono fun e V' hr => tw_bad h hr⟩
set_option maxRecDepth 100000 in
set_option maxHeartbeats 8000000 in
theorem reads_walk (s : ByteArray) (W : World) (hT : RTabs W) : Calls Tryd.prog 3 #[.string s] W (BoIs W true) := by
  obtain ⟨pv, L, er, at', hL, h7, h8⟩ := tw_both W s hT
  have H7 := hide (h7 W (Below.refl _ _))
  have H8 := hide h8
  have H9 := hide (fun V qa qb ca cb (h1 : Sl V qa L) (h2 : Sl V qb L) => same_any pv qa qb L ca cb hL V h1 h2)
  unfold sV at H9
  clear h7 h8 hT hL
  unfold Tw at H7 H8
  generalize hn : L.length = n at *
  clear hn
  go_enter Tryd.func3, Tryd.ntmps3
  go_wp2_with fail
  refine (unhide H7).mono ?_
  rintro e w1 ⟨q1, c1, rfl, hs1, hb1⟩
  have b6 := bnew w1 (.cells #[.bool pv, .slice q1 n c1] 24)
  have b7 := bnew (w1.alloc (.cells #[.bool pv, .slice q1 n c1] 24)) (.cells #[.int .i64 er, .int .i64 at'] 27)
  have HX := hide ((BS.new w1 pv (.slice q1 n c1) 24).keep b7)
  have HY := hide (B2.new (w1.alloc (.cells #[.bool pv, .slice q1 n c1] 24)) er at' 27)
  rw [show (w1.alloc (.cells #[.bool pv, .slice q1 n c1] 24)).heap.size = w1.heap.size + 1 by simp] at HY
  have Hs1 := hide (Ps.keep (Ps.keep hs1 b6) b7)
  have Hb := hide ((hb1.trans (b6.mono hb1.size)).trans (b7.mono (Nat.le_trans hb1.size b6.size)))
  clear hb1 hs1 b6 b7 H7
  go_upto_region 2 with fail
  generalize (w1.alloc (.cells #[.bool pv, .slice q1 n c1] 24)).alloc (.cells #[.int .i64 er, .int .i64 at'] 27) = w2 at *
  generalize w1.heap.size = n1 at *
  go_wp2_with fail
  refine (unhide H8 w2).mono ?_
  rintro e w3 ⟨q2, c2, rfl, hs2, hb3⟩
  have b6 := bnew w3 (.cells #[.bool pv, .slice q2 n c2] 24)
  have b7 := bnew (w3.alloc (.cells #[.bool pv, .slice q2 n c2] 24)) (.cells #[.int .i64 er, .int .i64 at'] 27)
  have bb := (hb3.trans (b6.mono hb3.size)).trans (b7.mono (Nat.le_trans hb3.size b6.size))
  have HX2 := hide ((BS.new w3 pv (.slice q2 n c2) 24).keep b7)
  have HY2 := hide (B2.new (w3.alloc (.cells #[.bool pv, .slice q2 n c2] 24)) er at' 27)
  rw [show (w3.alloc (.cells #[.bool pv, .slice q2 n c2] 24)).heap.size = w3.heap.size + 1 by simp] at HY2
  have Hs2 := hide (Ps.keep (Ps.keep hs2 b6) b7)
  have HX1 := hide ((unhide HX).keep bb)
  have HY1 := hide ((unhide HY).keep bb)
  have Hs1b := hide (Ps.keep (unhide Hs1) bb)
  have Hbb := hide ((unhide Hb).trans (bb.mono (unhide Hb).size))
  clear hb3 hs2 b6 b7 bb H8 HX HY Hs1 Hb
  go_upto_region 3 with fail
  generalize (w3.alloc (.cells #[.bool pv, .slice q2 n c2] 24)).alloc (.cells #[.int .i64 er, .int .i64 at'] 27) = w4 at *
  generalize w3.heap.size = n2 at *
  have HC := hide (unhide H9 w4 q1 q2 c1 c2 (unhide Hs1b) (unhide Hs2))
  obtain ⟨-, x0, x1⟩ := unhide HX1
  obtain ⟨-, e0, e1⟩ := unhide HX2
  clear H9
  go_wp2_with fail
  refine (unhide HC).mono ?_
  rintro e w5 ⟨rfl, hb5⟩
  have HYa := hide ((unhide HY1).keep hb5)
  have HYb := hide ((unhide HY2).keep hb5)
  have Hbw := hide ((unhide Hbb).trans (hb5.mono (unhide Hbb).size))
  clear x0 x1 e0 e1 hb5 HC HY1 HY2
  obtain ⟨-, y0, y1⟩ := unhide HYa
  obtain ⟨-, z0, z1⟩ := unhide HYb
  go_wp2
  go_ret
  exact BoIs.mk (by simp) (unhide Hbw)
end Go.Proofs.YtbnjjkanokmakaaDoor
