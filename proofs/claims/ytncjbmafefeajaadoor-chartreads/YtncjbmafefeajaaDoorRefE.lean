/-
  Same of two charts of nothing.
-/
import Derived.Test.YtncjbmafefeajaaDoorRefD
namespace Go.Proofs.YtncjbmafefeajaaDoor
open Go.RowKit

set_option maxHeartbeats 4000000 in
theorem same_none (W : World) :
    Calls Tryd.prog 10 #[ch 0 0 0 none 0 0, ch 0 0 0 none 0 0] W fun e w' => e = .returned (.bool true) ∧ Below W.heap.size W w' := by
  have B0 := bal (o := .cells #[.int .i64 0, .int .i64 0, .int .i64 0, .slice none 0 0] 27) (bal (o := .cells #[.int .i64 0, .int .i64 0, .int .i64 0, .slice none 0 0] 27) (Below.refl W.heap.size W))
  have C1 := (OwnC.new W 0 0 0 none 0 0 27).alloc (.cells #[.int .i64 0, .int .i64 0, .int .i64 0, .slice none 0 0] 27)
  have C2 := OwnC.new (W.alloc (.cells #[.int .i64 0, .int .i64 0, .int .i64 0, .slice none 0 0] 27)) 0 0 0 none 0 0 27
  rw [World.size_alloc] at C2
  have HB := hide B0
  clear B0
  go_enter Tryd.func10, Tryd.ntmps10
  go_wp2
  generalize (W.alloc (.cells #[.int .i64 0, .int .i64 0, .int .i64 0, .slice none 0 0] 27)).alloc (.cells #[.int .i64 0, .int .i64 0, .int .i64 0, .slice none 0 0] 27) = w0 at *
  go_loopw [37] (fun i wr => i = .int .i64 0 ∧ wr = w0) (fun _ _ => 0)
  case atStart => exact ⟨rfl, rfl⟩
  case round =>
    obtain ⟨rfl, rfl⟩ := hrel
    go_wp2
    go_ret
    exact ⟨rfl, unhide HB⟩
end Go.Proofs.YtncjbmafefeajaaDoor
