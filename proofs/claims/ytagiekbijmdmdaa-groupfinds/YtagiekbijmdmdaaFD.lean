/-
  Moves of the reference.
-/
import Derived.Test.YtagiekbijmdmdaaFC
namespace Go.Proofs.Ytagiekbijmdmdaa
open Go.RowKit

theorem rall_ok (g w h : Int) (p : Option Addr) (n cap : Nat) (px : Nat → Int) (w' h' N b o : Nat) (W : World) (r : Right W g w h p n px w' h' N b o) :
    Calls Try.prog 38 #[Ch.ch g w h p n cap, .int .i64 N] W fun e V => ∃ q cp, e = .returned (.slice (some ⟨q, 0, none⟩) (movesL w' h' N px g).length cp) ∧ MRow V q (movesL w' h' N px g) ∧ Below W.heap.size W V := by
  have hN1 := r.hN1
  have hg := r.hg
  have hpos := moves_pos w' h' N px g hN1.1 hg
  refine (rall_plain g w h p n cap g.toNat N (keepsK w' h' N px g) W (by omega) (by omega) hN1 (fun V => Right V g w h p n px w' h' N b o) (fun V V' k hb => k.keep hb) (fun V k t f x y ht hx hy => ?_) r).mono ?_
  · have := kept_any g w h p n cap px w' h' N b o t f x y V k (by omega) (sm2_of (by omega) (by omega))
    rw [keeps_ab w' h' N px g t f x y hN1.1 hx] at this
    exact this
  · rintro e V ⟨v, rfl, hown, hb⟩
    have hown2 : V.ownsRow W.heap.size 45 4 v (movesL w' h' N px g).length (mvsV (movesL w' h' N px g)) := hown
    obtain ⟨q, cp, rfl⟩ := own_slice hown2 hpos
    exact ⟨q, cp, rfl, mrow_own hown2, hb⟩

set_option maxHeartbeats 1000000 in
theorem rmoves_err (g w h : Int) (p : Option Addr) (n cap : Nat) (px : Nat → Int) (W : World) (hc : Ch.Cells W p n px) (er : Int) (her : toE g w h n px = er) (hp : 1 ≤ er) :
    Calls Try.prog 13 #[Ch.ch g w h p n cap] W fun e w' => e = .returned (.tuple #[.slice none 0 0, .int .i64 er]) ∧ Below W.heap.size W w' := by
  have HT := hide (fun V (hc : Ch.Cells V p n px) => rtorus_any g w h p n cap px V hc)
  rw [her] at HT
  have B0 := bal (o := .cells #[.int .i64 g, .int .i64 w, .int .i64 h, .slice p n cap] 24) (Below.refl W.heap.size W)
  have Hc := hide (hc.keep B0)
  have HB := hide B0
  have hee : (er != 0) = true := by simp; omega
  generalize toN g w h n px = N at *
  clear hc B0 hp her
  go_enter Try.func13, Try.ntmps13
  go_wp2_with fail
  generalize W.alloc (.cells #[.int .i64 g, .int .i64 w, .int .i64 h, .slice p n cap] 24) = w0 at *
  refine (unhide HT _ (unhide Hc)).mono ?_
  rintro e w1 ⟨rfl, hb⟩
  have S1 := btrans (unhide HB) hb
  clear hb
  go_wp2
  exact bodyPost_ret (v := .tuple #[.slice none 0 0, .int .i64 er]) (by simp [results, Try.results13]) rfl ⟨rfl, S1⟩

set_option maxHeartbeats 1000000 in
theorem rmoves_ok (g w h : Int) (p : Option Addr) (n cap : Nat) (px : Nat → Int) (w' h' N b o : Nat) (W : World) (r : Right W g w h p n px w' h' N b o) :
    Calls Try.prog 13 #[Ch.ch g w h p n cap] W fun e V => ∃ q cp, e = .returned (.tuple #[.slice (some ⟨q, 0, none⟩) (movesL w' h' N px g).length cp, .int .i64 0]) ∧ MRow V q (movesL w' h' N px g) ∧ Below W.heap.size W V := by
  have HT := hide (fun V (r : Right V g w h p n px w' h' N b o) => rtorus_any g w h p n cap px V (Or.inr ⟨b, o, r.hp, r.row⟩))
  rw [r.hE, r.hN] at HT
  have HA := hide (fun V (r : Right V g w h p n px w' h' N b o) => rall_ok g w h p n cap px w' h' N b o V r)
  generalize movesL w' h' N px g = L at *
  have B0 := bal (o := .cells #[.int .i64 g, .int .i64 w, .int .i64 h, .slice p n cap] 24) (Below.refl W.heap.size W)
  have Hr := hide (r.keep B0)
  have HB := hide B0
  have HC0 := hide (Ch.OwnC.new W g w h p n cap 24)
  clear r B0
  go_enter Try.func13, Try.ntmps13
  go_wp2_with fail
  generalize W.alloc (.cells #[.int .i64 g, .int .i64 w, .int .i64 h, .slice p n cap] 24) = w0 at *
  refine (unhide HT _ (unhide Hr)).mono ?_
  rintro e w1 ⟨rfl, hb⟩
  have S1 := hb
  have c := ((unhide HC0).keep S1).2
  go_wp2_with fail
  clear c
  refine (unhide HA _ ((unhide Hr).keep S1)).mono ?_
  rintro e w2 ⟨q, cp, rfl, hm, hb⟩
  have S2 := btrans (unhide HB) (btrans S1 hb)
  have Hm := hide hm
  clear hb hm
  go_wp2
  exact bodyPost_ret (v := .tuple #[.slice (some ⟨q, 0, none⟩) L.length cp, .int .i64 0]) (by simp [results, Try.results13]) rfl ⟨q, cp, rfl, unhide Hm, S2⟩
end Go.Proofs.Ytagiekbijmdmdaa
