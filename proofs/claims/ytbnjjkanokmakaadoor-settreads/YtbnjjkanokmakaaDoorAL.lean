/-
  That the package is alive.
-/
import Derived.Test.YtbnjjkanokmakaaDoorRI
import Derived.Test.YtbnjjkanokmakaaDoorSF
namespace Go.Proofs.YtbnjjkanokmakaaDoor
open Go.RowKit

abbrev aliveA : ByteArray := ⟨#[47, 97, 50, 32, 98, 49, 47]⟩
theorem alive_e : (rE aliveA).1 = 0 := by decide +kernel
theorem alive_p : pvS aliveA = true := by decide +kernel
theorem alive_n : (rdS aliveA).2.2.length = 2 := by decide +kernel
set_option maxRecDepth 100000 in
set_option maxHeartbeats 4000000 in
theorem alive_any (W : World) (hT : RTabs W) : Calls Tryd.prog 19 #[] W (BoIs W true) := by
  have HC := hide (read_any W aliveA hT)
  have Hep := hide (show (∀ e V, ReIs W aliveA e V → ∃ q cap, e = .returned (.tuple #[sV true q 2 cap, .agg #[.int .i64 0, .int .i64 0]]) ∧ Below W.heap.size W V) from by
    rintro e V ⟨hb, ⟨h, -⟩ | ⟨-, q, cap, rfl, -⟩⟩
    · exact absurd alive_e h
    · exact ⟨q, cap, by rw [alive_p, alive_n], hb⟩)
  clear hT
  go_enter Tryd.func19, Tryd.ntmps19
  go_wp2_with fail
  refine (unhide HC).mono ?_
  intro e w2 h
  obtain ⟨q, cap, rfl, hb⟩ := unhide Hep e w2 h
  unfold sV
  have b6 := bnew w2 (.cells #[.bool true, .slice q 2 cap] 24)
  have b7 := bnew (w2.alloc (.cells #[.bool true, .slice q 2 cap] 24)) (.cells #[.int .i64 0, .int .i64 0] 27)
  have HX := hide ((BS.new w2 true (.slice q 2 cap) 24).keep b7)
  have HB := hide (B2.new (w2.alloc (.cells #[.bool true, .slice q 2 cap] 24)) 0 0 27)
  rw [show (w2.alloc (.cells #[.bool true, .slice q 2 cap] 24)).heap.size = w2.heap.size + 1 by simp] at HB
  have Hb := hide (btrans (btrans hb b6) b7)
  clear h hb b6 b7 HC Hep
  go_upto_region 2 with fail
  generalize (w2.alloc (.cells #[.bool true, .slice q 2 cap] 24)).alloc (.cells #[.int .i64 0, .int .i64 0] 27) = w3 at *
  generalize w2.heap.size = n2 at *
  obtain ⟨-, e0, e1⟩ := unhide HX
  obtain ⟨-, s0, s1⟩ := unhide HB
  go_wp2
  go_ret
  exact BoIs.mk (by rfl) (unhide Hb)
end Go.Proofs.YtbnjjkanokmakaaDoor
