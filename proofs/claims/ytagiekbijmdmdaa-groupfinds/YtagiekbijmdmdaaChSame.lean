/-
  What Same of the reference answers, of two charts that are alike.
-/
import Derived.Test.YtagiekbijmdmdaaChAt
namespace Go.Proofs.Ytagiekbijmdmdaa.Ch
open Go.RowKit

set_option maxHeartbeats 4000000 in
theorem same_any (g w h : Int) (b o n cap b' o' cap' : Nat) (px : Nat → Int) (W : World) (hn : n ≤ 4096) (h1 : Row W b o n px) (h2 : Row W b' o' n px) :
    Calls Try.prog 24 #[ch g w h (some ⟨b, o, none⟩) n cap, ch g w h (some ⟨b', o', none⟩) n cap'] W fun e w' => e = .returned (.bool true) ∧ Below W.heap.size W w' := by
  have B0 := bal (o := .cells #[.int .i64 g, .int .i64 w, .int .i64 h, .slice (some ⟨b', o', none⟩) n cap'] 24) (bal (o := .cells #[.int .i64 g, .int .i64 w, .int .i64 h, .slice (some ⟨b, o, none⟩) n cap] 24) (Below.refl W.heap.size W))
  have R1 := h1.keep B0
  have R2 := h2.keep B0
  have C1 := (OwnC.new W g w h (some ⟨b, o, none⟩) n cap 24).alloc (.cells #[.int .i64 g, .int .i64 w, .int .i64 h, .slice (some ⟨b', o', none⟩) n cap'] 24)
  have C2 := OwnC.new (W.alloc (.cells #[.int .i64 g, .int .i64 w, .int .i64 h, .slice (some ⟨b, o, none⟩) n cap] 24)) g w h (some ⟨b', o', none⟩) n cap' 24
  rw [World.size_alloc] at C2
  have HB := hide B0
  clear h1 h2 B0
  go_enter Try.func24, Try.ntmps24
  go_wp2
  generalize (W.alloc (.cells #[.int .i64 g, .int .i64 w, .int .i64 h, .slice (some ⟨b, o, none⟩) n cap] 24)).alloc (.cells #[.int .i64 g, .int .i64 w, .int .i64 h, .slice (some ⟨b', o', none⟩) n cap'] 24) = w0 at *
  go_loopw [37] (fun i wr => ∃ k : Nat, k ≤ n ∧ i = .int .i64 k ∧ Below w0.heap.size w0 wr) (fun i _ => n - (intOf i).toNat)
  case atStart => exact ⟨0, Nat.zero_le _, rfl, Below.refl _ _⟩
  case round =>
    obtain ⟨k, hk, rfl, hbel⟩ := hrel
    by_cases hlt : k < n
    · have c1 := (C1.keep hbel).2.2.2.2
      have c2 := (C2.keep hbel).2.2.2.2
      have x1 := (R1.keep hbel).2 k hlt
      have x2 := (R2.keep hbel).2 k hlt
      generalize px k = c at *
      go_wp2_with fail
      go_quiet (fail)
      go_wp2
      go_roundw
      case rel => exact ⟨k + 1, by omega, by go_num, btrans hbel (Joins.below_draws _ _ _)⟩
      case measure => simp [intOf]; omega
    · have e : k = n := by omega
      subst e
      have cl : ¬ ((k : Int) < (k : Int)) := by omega
      go_wp2
      go_ret
      exact ⟨rfl, btrans (unhide HB) hbel⟩

set_option maxHeartbeats 4000000 in
theorem same_none (W : World) :
    Calls Try.prog 24 #[ch 0 0 0 none 0 0, ch 0 0 0 none 0 0] W fun e w' => e = .returned (.bool true) ∧ Below W.heap.size W w' := by
  have B0 := bal (o := .cells #[.int .i64 0, .int .i64 0, .int .i64 0, .slice none 0 0] 24) (bal (o := .cells #[.int .i64 0, .int .i64 0, .int .i64 0, .slice none 0 0] 24) (Below.refl W.heap.size W))
  have C1 := (OwnC.new W 0 0 0 none 0 0 24).alloc (.cells #[.int .i64 0, .int .i64 0, .int .i64 0, .slice none 0 0] 24)
  have C2 := OwnC.new (W.alloc (.cells #[.int .i64 0, .int .i64 0, .int .i64 0, .slice none 0 0] 24)) 0 0 0 none 0 0 24
  rw [World.size_alloc] at C2
  have HB := hide B0
  clear B0
  go_enter Try.func24, Try.ntmps24
  go_wp2
  generalize (W.alloc (.cells #[.int .i64 0, .int .i64 0, .int .i64 0, .slice none 0 0] 24)).alloc (.cells #[.int .i64 0, .int .i64 0, .int .i64 0, .slice none 0 0] 24) = w0 at *
  go_loopw [37] (fun i wr => i = .int .i64 0 ∧ wr = w0) (fun _ _ => 0)
  case atStart => exact ⟨rfl, rfl⟩
  case round =>
    obtain ⟨rfl, rfl⟩ := hrel
    go_wp2
    go_ret
    exact ⟨rfl, unhide HB⟩
end Go.Proofs.Ytagiekbijmdmdaa.Ch
