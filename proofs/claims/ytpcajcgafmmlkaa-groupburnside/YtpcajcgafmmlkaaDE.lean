/-
  Domain of package group.
-/
import Derived.Test.YtpcajcgafmmlkaaDD
import Derived.Test.YtpcajcgafmmlkaaHC0
namespace Go.Proofs.Ytpcajcgafmmlkaa
open Go.RowKit

theorem domain_any (g : Int) (N b cap w' h' : Nat) (px : Nat → Int) (w : World) (hg : g = 4 ∨ g = 6) (hN : 1 ≤ N ∧ N ≤ 24) (hr : Ch.Row w b 0 (N * N) (tcx w' h' N px)) :
    Calls Try.prog 23 #[tv g N (some ⟨b, 0, none⟩) (N * N) cap] w fun e V => ∃ v, e = .returned v ∧ V.ownsRow w.heap.size 36 2 v (domL (imgC g N) (movesL w' h' N px g) N (N * N)).length (zsV (domL (imgC g N) (movesL w' h' N px g) N (N * N))) ∧ Below w.heap.size w V := by
  have hA := acts w' h' N px g hg hN.1
  have hpos := moves_pos w' h' N px g hN.1 hg
  rw [← dO_domL hA]
  refine domain_plain g N b (N * N) cap (movesL w' h' N px g) (imgC g N) (fun V => Ch.Row V b 0 (N * N) (tcx w' h' N px)) w hN rfl (moves_len w' h' N px g hN.2 hg) (fun V V' k hb => k.keep hb) (fun V k => ?_) ?_ hr
  · have := moves_any g.toNat N b (N * N) cap w' h' px V (by omega) hN rfl k
    rw [show ((g.toNat : Nat) : Int) = g by omega] at this
    refine this.mono ?_
    rintro e V' ⟨v, rfl, hown, hb⟩
    obtain ⟨q, cp, rfl⟩ := own_slice hown hpos
    exact ⟨q, cp, rfl, mrow_own hown, hb⟩
  · rintro ⟨a, f, X, Y⟩ hm i hi
    obtain ⟨ha, hX, hY, -⟩ := (mem_moves w' h' N px g a f X Y hN.1).1 hm
    have hc := cell_xy i N hN.1 hi
    have hAp := apply_small g a f X Y ((i : Int) % N) ((i : Int) / N) hg ⟨by omega, by omega⟩ (by omega) (by omega) (by omega) (by omega)
    rw [Int.toNat_natCast] at hAp
    have hcb := cby_lt N (mv g a f X Y ((i : Int) % N) ((i : Int) / N)).1 (mv g a f X Y ((i : Int) % N) ((i : Int) / N)).2 0 0 hN.1
    simp only [Int.add_zero] at hcb
    exact ⟨_, _, hAp, hcb.2, hcb.1⟩

set_option maxHeartbeats 1000000 in
theorem dom_err (g w h : Int) (p : Option Addr) (n cap : Nat) (px : Nat → Int) (W : World) (hc : Ch.Cells W p n px) (er : Int) (her : toE g w h n px = er) (hp : 1 ≤ er) :
    Calls Try.prog 10 #[Ch.ch g w h p n cap] W fun e w' => e = .returned (.tuple #[.slice none 0 0, .int .i64 er]) ∧ Below W.heap.size W w' := by
  have HT := hide (fun V (hc : Ch.Cells V p n px) => torusOf_err g w h p n cap px V hc er her hp)
  have B0 := bal (o := .cells #[.int .i64 g, .int .i64 w, .int .i64 h, .slice p n cap] 24) (Below.refl W.heap.size W)
  have Hc := hide (hc.keep B0)
  have HB := hide B0
  have hee : (er != 0) = true := by simp; omega
  clear hc B0 hp her
  go_enter Try.func10, Try.ntmps10
  go_wp2_with fail
  generalize W.alloc (.cells #[.int .i64 g, .int .i64 w, .int .i64 h, .slice p n cap] 24) = w0 at *
  refine (unhide HT _ (unhide Hc)).mono ?_
  rintro e w1 ⟨rfl, hb⟩
  have S1 := btrans (unhide HB) (bal (o := .cells #[.int .i64 0, .int .i64 0, .slice none 0 0] 51) hb)
  clear hb
  go_wp2
  exact bodyPost_ret (v := .tuple #[.slice none 0 0, .int .i64 er]) (by simp [results, Try.results10]) rfl ⟨rfl, S1⟩

set_option maxHeartbeats 1000000 in
theorem dom_ok (g w h : Int) (p : Option Addr) (n cap : Nat) (px : Nat → Int) (w' h' N b o : Nat) (W : World) (r : Right W g w h p n px w' h' N b o) :
    Calls Try.prog 10 #[Ch.ch g w h p n cap] W fun e V => ∃ v, e = .returned (.tuple #[v, .int .i64 0]) ∧ V.ownsRow W.heap.size 36 2 v (domL (imgC g N) (movesL w' h' N px g) N (N * N)).length (zsV (domL (imgC g N) (movesL w' h' N px g) N (N * N))) ∧ Below W.heap.size W V := by
  have HT := hide (fun V (r : Right V g w h p n px w' h' N b o) => r.torusOf cap)
  have HD := hide (fun V q cp (hr : Ch.Row V q 0 (N * N) (tcx w' h' N px)) => domain_any g N q cp w' h' px V r.hg r.hN1 hr)
  generalize domL (imgC g N) (movesL w' h' N px g) N (N * N) = D at *
  generalize tcx w' h' N px = cx at *
  generalize N * N = k at *
  have B0 := bal (o := .cells #[.int .i64 g, .int .i64 w, .int .i64 h, .slice p n cap] 24) (Below.refl W.heap.size W)
  have Hr := hide (r.keep B0)
  have HB := hide B0
  clear r B0
  go_enter Try.func10, Try.ntmps10
  go_wp2_with fail
  generalize W.alloc (.cells #[.int .i64 g, .int .i64 w, .int .i64 h, .slice p n cap] 24) = w0 at *
  refine (unhide HT _ (unhide Hr)).mono ?_
  rintro e w1 ⟨q, cp, rfl, hrow, hb⟩
  have hb1 := bal (o := .cells #[.int .i64 g, .int .i64 N, .slice (some ⟨q, 0, none⟩) k cp] 51) hb
  have S1 := btrans (unhide HB) hb1
  have HR1 := hide (hrow.keep (bal (o := .cells #[.int .i64 g, .int .i64 N, .slice (some ⟨q, 0, none⟩) k cp] 51) (Below.refl _ _)))
  have t := (OwnT.new w1 g N (some ⟨q, 0, none⟩) k cp 51).2
  clear hb hb1 hrow
  go_wp2_with fail
  clear t
  generalize w1.alloc (.cells #[.int .i64 g, .int .i64 N, .slice (some ⟨q, 0, none⟩) k cp] 51) = w2 at *
  refine (unhide HD _ _ _ (unhide HR1)).mono ?_
  rintro e w3 ⟨v, rfl, hown, hb⟩
  have S3 := btrans S1 hb
  have HO := hide (Joins.ownsRow_le hown S1.size)
  clear hb hown S1
  go_wp2
  exact bodyPost_ret (v := .tuple #[v, .int .i64 0]) (by simp [results, Try.results10]) rfl ⟨v, rfl, unhide HO, S3⟩
end Go.Proofs.Ytpcajcgafmmlkaa
