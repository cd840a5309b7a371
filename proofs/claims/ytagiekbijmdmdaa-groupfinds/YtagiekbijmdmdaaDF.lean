/-
  GroupFinds: the law's walk: it answers true, whatever the chart.
-/
import Derived.Test.YtagiekbijmdmdaaDE
import Derived.Test.YtagiekbijmdmdaaFF
import Derived.Test.YtagiekbijmdmdaaFB
namespace Go.Proofs.Ytagiekbijmdmdaa
open Go.RowKit

set_option maxHeartbeats 1000000 in
theorem sameMoves_none (W : World) : Calls Try.prog 14 #[.slice none 0 0, .slice none 0 0] W fun e w' => e = .returned (.bool true) ∧ Below W.heap.size W w' := by
  go_enter Try.func14, Try.ntmps14
  go_wp2
  go_loopw [13] (fun i wr => i = .int .i64 0 ∧ Below W.heap.size W wr) (fun _ _ => 0)
  case atStart => exact ⟨rfl, Below.refl _ _⟩
  case round =>
    obtain ⟨rfl, hbel⟩ := hrel
    have Hb := hide hbel
    clear hbel
    go_wp2
    go_ret
    exact ⟨ret_bool (by simp), unhide Hb⟩

def FindsIs (g w h : Int) (p : Option Addr) (n cap : Nat) (W : World) : Prop :=
  Calls Try.prog 3 #[Ch.ch g w h p n cap] W fun e w' => e = .returned (.bool true) ∧ Below W.heap.size W w'

set_option maxHeartbeats 4000000 in
set_option maxRecDepth 100000 in
theorem finds_err (g w h : Int) (p : Option Addr) (n cap : Nat) (px : Nat → Int) (W : World) (hc : Ch.Cells W p n px) (er : Int) (her : toE g w h n px = er) (hp : 1 ≤ er) : FindsIs g w h p n cap W := by
  have H1 := hide (fun V (hc : Ch.Cells V p n px) => torus_any g w h p n cap px V hc)
  have H2 := hide (fun V (hc : Ch.Cells V p n px) => rtorus_any g w h p n cap px V hc)
  have H3 := hide (fun V (hc : Ch.Cells V p n px) => moves_err g w h p n cap px V hc er her hp)
  have H4 := hide (fun V (hc : Ch.Cells V p n px) => rmoves_err g w h p n cap px V hc er her hp)
  have H5 := hide (fun V (hc : Ch.Cells V p n px) => finest_err g w h p n cap px V hc er her hp)
  have H6 := hide (fun V (hc : Ch.Cells V p n px) => dom_err g w h p n cap px V hc er her hp)
  rw [her] at H1 H2
  generalize toN g w h n px = tn at *
  have B0 := bal (o := .cells #[.int .i64 g, .int .i64 w, .int .i64 h, .slice p n cap] 24) (Below.refl W.heap.size W)
  have Hc := hide (hc.keep B0)
  have HB := hide B0
  have HC0 := hide (Ch.OwnC.new W g w h p n cap 24)
  have hee : (er != 0) = true := by simp; omega
  clear hc B0 hp her
  unfold FindsIs
  go_enter Try.func3, Try.ntmps3
  go_wp2_with fail
  generalize W.alloc (.cells #[.int .i64 g, .int .i64 w, .int .i64 h, .slice p n cap] 24) = w0 at *
  refine (unhide H1 _ (unhide Hc)).mono ?_
  rintro e w1 ⟨rfl, hb⟩
  have S1 := hb
  have c := ((unhide HC0).keep S1).2
  go_wp2_with fail
  clear c
  refine (unhide H2 _ ((unhide Hc).keep S1)).mono ?_
  rintro e w2 ⟨rfl, hb⟩
  have S2 := btrans S1 hb
  have c := ((unhide HC0).keep S2).2
  clear hb S1
  go_wp2_with fail
  clear c
  refine (unhide H3 _ ((unhide Hc).keep S2)).mono ?_
  rintro e w3 ⟨rfl, hb⟩
  have S3 := btrans S2 hb
  have c := ((unhide HC0).keep S3).2
  clear hb S2
  go_wp2_with fail
  clear c
  refine (unhide H4 _ ((unhide Hc).keep S3)).mono ?_
  rintro e w4 ⟨rfl, hb⟩
  have S4 := btrans S3 hb
  clear hb S3
  go_wp2_with fail
  refine (sameMoves_none _).mono ?_
  rintro e w5 ⟨rfl, hb⟩
  have S5 := btrans S4 hb
  have c := ((unhide HC0).keep S5).2
  clear hb S4
  go_wp2_with fail
  clear c
  refine (unhide H5 _ ((unhide Hc).keep S5)).mono ?_
  rintro e w6 ⟨rfl, hb⟩
  have hb6 := bal (o := .cells #[.int .i64 0, .int .i64 0] 33) (bal (o := .cells #[.int .i64 0, .int .i64 0] 33) hb)
  have S6 := btrans S5 hb6
  have HA := hide ((Own.new w6 0 0 33).alloc (.cells #[.int .i64 0, .int .i64 0] 33))
  have A1 := Own.new (w6.alloc (.cells #[.int .i64 0, .int .i64 0] 33)) 0 0 33
  rw [World.size_alloc] at A1
  have HU := hide A1
  have c := ((unhide HC0).keep S6).2
  clear hb hb6 S5 A1
  go_wp2_with fail
  clear c
  generalize (w6.alloc (.cells #[.int .i64 0, .int .i64 0] 33)).alloc (.cells #[.int .i64 0, .int .i64 0] 33) = w7 at *
  refine (unhide H6 _ ((unhide Hc).keep S6)).mono ?_
  rintro e w8 ⟨rfl, hb⟩
  have S8 := btrans S6 hb
  have a := ((unhide HA).keep hb).2.1
  have b := ((unhide HU).keep hb).2.1
  clear hb S6
  go_wp2
  go_ret
  exact ⟨ret_bool (by simp), btrans (unhide HB) S8⟩
end Go.Proofs.Ytagiekbijmdmdaa
