/-
  The walk of ChartTells: it answers true.
-/
import Derived.Test.YtncjbmafefeajabDoorRPrint
namespace Go.Proofs.YtncjbmafefeajabDoor
open Go.RowKit

set_option maxHeartbeats 4000000 in
set_option maxRecDepth 100000 in
theorem tells_walk (g w h : Int) (p : Option Addr) (n cap : Nat) (px : Nat → Int) (x y : Int) (W : World) (hc : Cells W p n px) (hcap : n ≤ cap) (hmax : cap ≤ 9223372036854775807) (hT : Tab W) :
    Calls Tryd.prog 3 #[ch g w h p n cap, .agg #[.int .i64 x, .int .i64 y]] W fun e w' => e = .returned (.bool true) ∧ Below W.heap.size W w' := by
  have H6 := hide (fun W (hc : Cells W p n px) => wrong_any g w h p n cap px W hc)
  have H7 := hide (fun W (hc : Cells W p n px) => rwrong_any g w h p n cap px W hc)
  have H8 := hide (fun W (hc : Cells W p n px) (hT : Tab W) => print_any g w h p n cap px W hc hcap hmax hT)
  have H9 := hide (fun W (hc : Cells W p n px) => rprint_any g w h p n cap px W hc)
  have H10 := hide (fun W (hc : Cells W p n px) => at_any g w h p n cap px x y W hc)
  have H11 := hide (fun W (hc : Cells W p n px) => rat_any g w h p n cap px x y W hc)
  have B0 := bal (o := .cells #[.int .i64 x, .int .i64 y] 26) (bal (o := .cells #[.int .i64 g, .int .i64 w, .int .i64 h, .slice p n cap] 24) (Below.refl W.heap.size W))
  have K0 := hc.keep B0
  have T0 := hT.keep B0
  have HB0 := hide B0
  clear B0
  have C0 := (OwnC.new W g w h p n cap 24).alloc (.cells #[.int .i64 x, .int .i64 y] 26)
  have Z0 := Own.new (W.alloc (.cells #[.int .i64 g, .int .i64 w, .int .i64 h, .slice p n cap] 24)) x y 26
  simp only [World.size_alloc] at Z0
  generalize wE g w h n px = er at *
  generalize atV g w h n px x y = av at *
  generalize prS g w h n px = ps at *
  clear hc hcap hmax hT
  go_enter Tryd.func3, Tryd.ntmps3
  go_wp2_with fail
  generalize hw0 : (W.alloc (.cells #[.int .i64 g, .int .i64 w, .int .i64 h, .slice p n cap] 24)).alloc (.cells #[.int .i64 x, .int .i64 y] 26) = w0 at *
  clear hw0
  go_region_held3 (fun V => RS w0 W.heap.size g w h p n cap V)
    (first | exact RS.init C0 | exact RS.keep C0.1 (by assumption) hb)
    (first
      | (go_at_call 6; refine (unhide H6 _ (K0.keep (by assumption : RS _ _ _ _ _ _ _ _ _).1)).mono ?_; rintro e w1 ⟨rfl, hb⟩; have hS1 := RS.keep C0.1 (by assumption) hb)
      | (go_at_call 7; refine (unhide H7 _ (K0.keep hS1.1)).mono ?_; rintro e w2 ⟨rfl, hb⟩; have hS2 := RS.keep C0.1 hS1 hb))
  have S2 := hS2.1
  have hlt := C0.1
  clear hS1 hS2
  have q := (C0.keep S2).2
  go_wp2_with fail
  clear q
  refine (unhide H8 _ (K0.keep S2) (T0.keep S2)).mono ?_
  rintro e w3 ⟨rfl, hb⟩
  have S3 := btrans S2 hb
  clear hb S2
  have q := (C0.keep S3).2
  go_wp2_with fail
  clear q
  refine (unhide H9 _ (K0.keep S3)).mono ?_
  rintro e w4 ⟨rfl, hb⟩
  have S4 := btrans S3 hb
  clear hb S3
  have q := (C0.keep S4).2
  have z := (Z0.keep S4).2
  go_wp2_with fail
  clear q z
  refine (unhide H10 _ (K0.keep S4)).mono ?_
  rintro e w5 ⟨rfl, hb⟩
  have S5 := btrans S4 hb
  clear hb S4
  have q := (C0.keep S5).2
  have z := (Z0.keep S5).2
  go_wp2_with fail
  clear q z
  refine (unhide H11 _ (K0.keep S5)).mono ?_
  rintro e w6 ⟨rfl, hb⟩
  have S6 := btrans S5 hb
  clear hb S5
  go_wp2
  go_ret
  exact ⟨rfl, btrans (unhide HB0) S6⟩
end Go.Proofs.YtncjbmafefeajabDoor
