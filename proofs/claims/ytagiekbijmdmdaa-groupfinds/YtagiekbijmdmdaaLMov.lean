/-
  The walk of GroupMoves: it answers true.
-/
import Derived.Test.YtagiekbijmdmdaaGT
import Derived.Test.YtagiekbijmdmdaaChSame
namespace Go.Proofs.Ytagiekbijmdmdaa
open Go.RowKit

def GMovIs (g w h : Int) (p : Option Addr) (n cap : Nat) (t : Int) (f : Bool) (x y : Int) (W : World) : Prop :=
  Calls Try.prog 4 #[Ch.ch g w h p n cap, .agg #[.int .i64 t, .bool f, .int .i64 x, .int .i64 y]] W fun e w' => e = .returned (.bool true) ∧ Below W.heap.size W w'

set_option maxHeartbeats 4000000 in
set_option maxRecDepth 100000 in
theorem gmov_err (g w h : Int) (p : Option Addr) (n cap : Nat) (px : Nat → Int) (t : Int) (f : Bool) (x y : Int) (W : World) (hc : Ch.Cells W p n px) (er : Int)
    (H1 : ∀ V, Ch.Cells V p n px → KeepsIs 20 g w h p n cap t f x y V false er) (H2 : ∀ V, Ch.Cells V p n px → KeepsIs 21 g w h p n cap t f x y V false er)
    (H3 : ∀ V, Ch.Cells V p n px → MovedErr 22 g w h p n cap t f x y V er) (H4 : ∀ V, Ch.Cells V p n px → MovedErr 23 g w h p n cap t f x y V er) : GMovIs g w h p n cap t f x y W := by
  have K1 := hide H1
  have K2 := hide H2
  have K3 := hide H3
  have K4 := hide H4
  have B0 := bal (o := .cells #[.int .i64 t, .bool f, .int .i64 x, .int .i64 y] 45) (bal (o := .cells #[.int .i64 g, .int .i64 w, .int .i64 h, .slice p n cap] 24) (Below.refl W.heap.size W))
  have Hc := hide (hc.keep B0)
  have HB := hide B0
  have HC0 := hide ((Ch.OwnC.new W g w h p n cap 24).alloc (.cells #[.int .i64 t, .bool f, .int .i64 x, .int .i64 y] 45))
  have M0 := OwnM.new (W.alloc (.cells #[.int .i64 g, .int .i64 w, .int .i64 h, .slice p n cap] 24)) t f x y 45
  rw [World.size_alloc] at M0
  have HM0 := hide M0
  clear hc B0 M0 H1 H2 H3 H4
  unfold GMovIs
  go_enter Try.func4, Try.ntmps4
  go_wp2_with fail
  generalize (W.alloc (.cells #[.int .i64 g, .int .i64 w, .int .i64 h, .slice p n cap] 24)).alloc (.cells #[.int .i64 t, .bool f, .int .i64 x, .int .i64 y] 45) = w0 at *
  refine (unhide K1 _ (unhide Hc)).mono ?_
  rintro e w1 ⟨rfl, hb⟩
  have S1 := hb
  have c := ((unhide HC0).keep S1).2
  have m := ((unhide HM0).keep S1).2.1
  go_wp2_with fail
  clear c m
  refine (unhide K2 _ ((unhide Hc).keep S1)).mono ?_
  rintro e w2 ⟨rfl, hb⟩
  have S2 := btrans S1 hb
  have c := ((unhide HC0).keep S2).2
  have m := ((unhide HM0).keep S2).2.1
  have hee : (er != er) = false := by simp
  go_wp2_with fail
  clear c m
  refine (unhide K3 _ ((unhide Hc).keep S2)).mono ?_
  rintro e w3 ⟨rfl, hb⟩
  have S3 := btrans S2 (bal (o := .cells #[.int .i64 0, .int .i64 0, .int .i64 0, .slice none 0 0] 24) hb)
  have X3 := Ch.OwnC.new w3 0 0 0 none 0 0 24
  have c := ((unhide HC0).keep S3).2
  have m := ((unhide HM0).keep S3).2.1
  have HX3 := hide X3
  clear hb X3 S1 S2
  go_wp2_with fail
  clear c m
  generalize w3.alloc (.cells #[.int .i64 0, .int .i64 0, .int .i64 0, .slice none 0 0] 24) = w4 at *
  refine (unhide K4 _ ((unhide Hc).keep S3)).mono ?_
  rintro e w5 ⟨rfl, hb⟩
  have hb5 := bal (o := .cells #[.int .i64 0, .int .i64 0, .int .i64 0, .slice none 0 0] 24) hb
  have S5 := btrans S3 hb5
  have c1 := ((unhide HX3).keep hb5).2
  have c2 := (Ch.OwnC.new w5 0 0 0 none 0 0 24).2
  clear hb hb5 S3
  go_wp2_with fail
  clear c1 c2
  refine (Ch.same_none _).mono ?_
  rintro e w6 ⟨rfl, hb⟩
  have S6 := btrans S5 hb
  clear hb S5
  go_wp2
  go_ret
  exact ⟨ret_bool (by simp), btrans (unhide HB) S6⟩

set_option maxHeartbeats 4000000 in
set_option maxRecDepth 100000 in
theorem gmov_ok (g w h : Int) (p : Option Addr) (n cap : Nat) (px : Nat → Int) (w' h' N b o : Nat) (t : Nat) (f : Bool) (x y : Int) (W : World) (r : Right W g w h p n px w' h' N b o) (her : wE g t x y = 0) : GMovIs g w h p n cap t f x y W := by
  have hN1 := r.hN1
  have hP := pat_per w' h' N px
  have ex : (x % N) % N = x % N := Int.emod_emod_of_dvd _ (Int.dvd_refl _)
  have ey : (y % N) % N = y % N := Int.emod_emod_of_dvd _ (Int.dvd_refl _)
  have k1 : kpV w' h' N px g t f (x % N) (y % N) = abB (pat w' h' N px) g t f x y N (N * N) := by
    rw [Bool.eq_iff_iff, kpV_iff w' h' N px g t f _ _ hN1.1, abB_kp hN1.1 hP]
    exact ⟨fun q => q.cong hP ex ey, fun q => q.cong hP ex.symm ey.symm⟩
  have k2 : mcF (tgtR g t f x y N) (srcR (pat w' h' N px) N) (N * N) = movP w' h' N px g t f x y := by
    unfold movP
    refine mcF_congr _ _ _ _ _ (fun i hi => ⟨?_, pat_cell w' h' N px i hN1.1 hi⟩)
    unfold tgtR tgtF cby imX imY
    have e1 : ((mv g t f x y ((i : Int) % N) ((i : Int) / N)).2 + 0) % (N : Int) = ((mv g t f 0 0 ((i : Int) % N) ((i : Int) / N)).2 % N + y % N) % N := by
      simp only [mv_li, Int.add_zero]; rw [← Int.add_emod]
    have e2 : ((mv g t f x y ((i : Int) % N) ((i : Int) / N)).1 + 0) % (N : Int) = ((mv g t f 0 0 ((i : Int) % N) ((i : Int) / N)).1 % N + x % N) % N := by
      simp only [mv_li, Int.add_zero]; rw [← Int.add_emod]
    rw [e1, e2]
  have K1 := hide (fun V (r : Right V g w h p n px w' h' N b o) => keeps_ok g w h p n cap px w' h' N b o t f x y V r her)
  have K2 := hide (fun V (r : Right V g w h p n px w' h' N b o) => rkeeps_ok g w h p n cap px w' h' N b o t f x y V r her)
  have K3 := hide (fun V (r : Right V g w h p n px w' h' N b o) => moved_ok g w h p n cap px w' h' N b o t f x y V r her)
  have K4 := hide (fun V (r : Right V g w h p n px w' h' N b o) => rmoved_ok g w h p n cap px w' h' N b o t f x y V r her)
  rw [k1] at K1
  rw [k2] at K4
  have hk5 : N * N ≤ 576 := Nat.mul_le_mul hN1.2 hN1.2
  generalize abB (pat w' h' N px) g t f x y N (N * N) = kb at *
  generalize movP w' h' N px g t f x y = mp at *
  have B0 := bal (o := .cells #[.int .i64 t, .bool f, .int .i64 x, .int .i64 y] 45) (bal (o := .cells #[.int .i64 g, .int .i64 w, .int .i64 h, .slice p n cap] 24) (Below.refl W.heap.size W))
  have Hr := hide (r.keep B0)
  have HB := hide B0
  have HC0 := hide ((Ch.OwnC.new W g w h p n cap 24).alloc (.cells #[.int .i64 t, .bool f, .int .i64 x, .int .i64 y] 45))
  have M0 := OwnM.new (W.alloc (.cells #[.int .i64 g, .int .i64 w, .int .i64 h, .slice p n cap] 24)) t f x y 45
  rw [World.size_alloc] at M0
  have HM0 := hide M0
  clear r B0 M0 k1 k2 ex ey hP her
  unfold GMovIs
  go_enter Try.func4, Try.ntmps4
  go_wp2_with fail
  generalize (W.alloc (.cells #[.int .i64 g, .int .i64 w, .int .i64 h, .slice p n cap] 24)).alloc (.cells #[.int .i64 t, .bool f, .int .i64 x, .int .i64 y] 45) = w0 at *
  refine (unhide K1 _ (unhide Hr)).mono ?_
  rintro e w1 ⟨rfl, hb⟩
  have S1 := hb
  have c := ((unhide HC0).keep S1).2
  have m := ((unhide HM0).keep S1).2.1
  go_wp2_with fail
  clear c m
  refine (unhide K2 _ ((unhide Hr).keep S1)).mono ?_
  rintro e w2 ⟨rfl, hb⟩
  have S2 := btrans S1 hb
  have c := ((unhide HC0).keep S2).2
  have m := ((unhide HM0).keep S2).2.1
  have hee : (kb != kb) = false := by simp
  have K3b := hide (unhide K3 _ ((unhide Hr).keep S2))
  unfold MovedOk at K3b
  generalize hkk : N * N = k at *
  have Hkk := hide hkk
  clear hkk
  go_wp2_with fail
  clear c m
  refine (unhide K3b).mono ?_
  rintro e w3 ⟨q1, rfl, hrow1, hb⟩
  have hb3 := bal (o := .cells #[.int .i64 g, .int .i64 N, .int .i64 N, .slice (some ⟨q1, 0, none⟩) k k] 24) hb
  have S3 := btrans S2 hb3
  have HX3 := hide (Ch.OwnC.new w3 g N N (some ⟨q1, 0, none⟩) k k 24)
  have R3 := hrow1.keep (bal (o := .cells #[.int .i64 g, .int .i64 N, .int .i64 N, .slice (some ⟨q1, 0, none⟩) k k] 24) (Below.refl _ _))
  have c := ((unhide HC0).keep S3).2
  have m := ((unhide HM0).keep S3).2.1
  have K4b := hide (unhide K4 _ ((unhide Hr).keep S3))
  unfold MovedOk at K4b
  rw [unhide Hkk] at K4b
  clear hb hb3 S1 S2 hrow1 K3b
  go_wp2_with fail
  clear c m
  generalize w3.alloc (.cells #[.int .i64 g, .int .i64 N, .int .i64 N, .slice (some ⟨q1, 0, none⟩) k k] 24) = w4 at *
  refine (unhide K4b).mono ?_
  rintro e w5 ⟨q2, rfl, hrow2, hb⟩
  have hb5 := bal (o := .cells #[.int .i64 g, .int .i64 N, .int .i64 N, .slice (some ⟨q2, 0, none⟩) k k] 24) hb
  have S5 := btrans S3 hb5
  have c1 := ((unhide HX3).keep hb5).2
  have c2 := (Ch.OwnC.new w5 g N N (some ⟨q2, 0, none⟩) k k 24).2
  have HS := hide (Ch.same_any g N N q1 0 k k q2 0 k mp _ (by omega) (R3.keep hb5) (hrow2.keep (bal (o := .cells #[.int .i64 g, .int .i64 N, .int .i64 N, .slice (some ⟨q2, 0, none⟩) k k] 24) (Below.refl _ _))))
  clear hb hb5 S3 R3 hrow2 K4b
  go_wp2_with fail
  clear c1 c2
  refine (unhide HS).mono ?_
  rintro e w6 ⟨rfl, hb⟩
  have S6 := btrans S5 hb
  clear hb S5
  go_wp2
  go_ret
  exact ⟨rfl, btrans (unhide HB) S6⟩

/-- whatever the chart and the move -/
theorem gmov_walk (g w h : Int) (p : Option Addr) (n cap : Nat) (px : Nat → Int) (t : Int) (f : Bool) (x y : Int) (W : World) (hc : Ch.Cells W p n px) : GMovIs g w h p n cap t f x y W := by
  by_cases he : toE g w h n px = 0
  · obtain ⟨w', h', N, b, o, r⟩ := right_of hc he
    by_cases hm : wE g t x y = 0
    · obtain ⟨k, rfl⟩ := Int.eq_ofNat_of_zero_le (wE_zero g t x y hm).2.1.1
      exact gmov_ok g w h p n cap px w' h' N b o k f x y W r hm
    · have key : ∀ V, Ch.Cells V p n px → Ch.Row V b o n px := fun V hV => by
        rcases hV with h0 | ⟨b', o', hp, hr⟩
        · have := r.hn; have := Nat.mul_pos r.hw.2.1 r.hh.2.1; omega
        · rw [r.hp] at hp; cases hp; exact hr
      have rr : ∀ V, Ch.Cells V p n px → Right V g w h p n px w' h' N b o := fun V hV => { r with row := key V hV }
      exact gmov_err g w h p n cap px t f x y W hc _ (fun V hV => keeps_err2 g w h p n cap px w' h' N b o t f x y V (rr V hV) _ rfl (wE_pos _ _ _ _ hm)) (fun V hV => rkeeps_err2 g w h p n cap px w' h' N b o t f x y V (rr V hV) _ rfl (wE_pos _ _ _ _ hm))
        (fun V hV => moved_err2 g w h p n cap px w' h' N b o t f x y V (rr V hV) _ rfl (wE_pos _ _ _ _ hm)) (fun V hV => rmoved_err2 g w h p n cap px w' h' N b o t f x y V (rr V hV) _ rfl (wE_pos _ _ _ _ hm))
  · exact gmov_err g w h p n cap px t f x y W hc _ (fun V hV => keeps_err1 g w h p n cap px t f x y V hV _ rfl (toE_pos he)) (fun V hV => rkeeps_err1 g w h p n cap px t f x y V hV _ rfl (toE_pos he))
      (fun V hV => moved_err1 g w h p n cap px t f x y V hV _ rfl (toE_pos he)) (fun V hV => rmoved_err1 g w h p n cap px t f x y V hV _ rfl (toE_pos he))
end Go.Proofs.Ytagiekbijmdmdaa
