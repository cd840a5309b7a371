/-
  Drawdown.
-/
import Derived.Test.YtfbggbalnfbbgaaDrC
namespace Go.Proofs.Ytfbggbalnfbbgaa
open Go.RowKit Go.Shelf

/-- what is woven -/
def ddF (f : Nat → Bool) (w : Nat) (t1 t2 : Nat → Nat) (n1 : Nat) : Nat → Bool := mdF (fun y x => f (t2 y * w + t1 x)) n1

/-- a call that answers truths in memory of their own, and an error -/
def DrawErr (F : Nat) (q1 : Option Addr) (n1 c1 : Nat) (w h : Int) (p : Option Addr) (n cap : Nat) (q2 : Option Addr) (n2 c2 : Nat) (W : World) (er : Int) : Prop :=
  Calls Try.prog F #[dr q1 n1 c1 w h p n cap q2 n2 c2] W fun e V => e = .returned (.tuple #[tr 0 0 none 0 0, .int .i64 er]) ∧ Below W.heap.size W V

set_option maxHeartbeats 1000000 in
theorem draw_err (q1 : Option Addr) (n1 c1 : Nat) (f1 : Nat → Int) (w h : Int) (p : Option Addr) (n cap : Nat) (q2 : Option Addr) (n2 c2 : Nat) (f2 : Nat → Int) (W : World) (h1 : Is W q1 n1 f1) (h2 : Is W q2 n2 f2) (er : Int) (her : dE n1 f1 w h n n2 f2 = er) (hp : 1 ≤ er) : DrawErr 8 q1 n1 c1 w h p n cap q2 n2 c2 W er := by
  have B0 := bal (o := .cells #[.int .i64 0, .int .i64 0, .slice none 0 0] 25) (bal (o := .cells #[.slice q1 n1 c1, .int .i64 w, .int .i64 h, .slice p n cap, .slice q2 n2 c2] 27) (Below.refl W.heap.size W))
  have HW := hide (dwrong_any q1 n1 c1 f1 w h p n cap q2 n2 c2 f2 _ (h1.keep B0) (h2.keep B0))
  rw [her] at HW
  have hp' : (er != 0) = true := by simp; omega
  have O := (OwnR.new W q1 n1 c1 w h p n cap q2 n2 c2).keep (bal (o := .cells #[.int .i64 0, .int .i64 0, .slice none 0 0] 25) (Below.refl _ _))
  have U := OwnY.new (W.alloc (.cells #[.slice q1 n1 c1, .int .i64 w, .int .i64 h, .slice p n cap, .slice q2 n2 c2] 27)) 0 0 none 0 0
  rw [World.size_alloc] at U
  have HU := hide U
  have HB := hide B0
  have O1 := O.2
  clear her h1 h2 U B0 O
  unfold DrawErr
  go_enter Try.func8, Try.ntmps8
  go_wp2_with fail
  clear O1
  refine (unhide HW).mono ?_
  rintro e w1 ⟨rfl, hb⟩
  have S := hide (btrans (unhide HB) hb)
  obtain ⟨⟨-, u0, u1, u2⟩, f0, f1, f2⟩ := (unhide HU).keep hb
  clear hb HB HU
  go_wp2
  exact bodyPost_ret (v := .tuple #[tr 0 0 none 0 0, .int .i64 er]) (by simp [results, Try.results8, go_sem, u0, u1, u2]) rfl ⟨rfl, bset (bset (bset (unhide S) (by dsimp only; omega)) (by dsimp only; omega)) (by dsimp only; omega)⟩

set_option maxHeartbeats 1000000 in
theorem draw_ok {W : World} {q1 n1 c1 t1 p n cap f q2 n2 c2 t2} {w h : Nat} (r : Rd W q1 n1 t1 w h p n cap f q2 n2 t2) (m : Nat) (hm : m = n1 * n2) :
    Calls Try.prog 8 #[dr q1 n1 c1 w h p n cap q2 n2 c2] W fun e V => ∃ q cp, e = .returned (.tuple #[tr n1 n2 q m cp, .int .i64 0]) ∧ (Rt V n1 n2 q m cp (ddF f w t1 t2 n1) ∧ ∀ j, j < W.heap.size → Off q m j) ∧ Below W.heap.size W V := by
  have B0 := bal (o := .cells #[.int .i64 0, .int .i64 0, .slice none 0 0] 25) (bal (o := .cells #[.slice q1 n1 c1, .int .i64 w, .int .i64 h, .slice p n cap, .slice q2 n2 c2] 27) (Below.refl W.heap.size W))
  have r0 := r.keep B0
  have HW := hide (dwrong_any q1 n1 c1 _ w h p n cap q2 n2 c2 _ _ r0.2.1.2.2.1 r0.2.2.2.2.1)
  rw [dE_right r] at HW
  have O := (OwnR.new W q1 n1 c1 w h p n cap q2 n2 c2).keep (bal (o := .cells #[.int .i64 0, .int .i64 0, .slice none 0 0] 25) (Below.refl _ _))
  have U := OwnY.new (W.alloc (.cells #[.slice q1 n1 c1, .int .i64 w, .int .i64 h, .slice p n cap, .slice q2 n2 c2] 27)) 0 0 none 0 0
  rw [World.size_alloc] at U
  have HU := hide U
  have HB := hide B0
  have HO := hide O
  have HR := hide r0
  have O1 := O.2
  have hn1 := r.2.1.2.1
  have hn2 := r.2.2.2.1
  have hsz : W.heap.size < (W.alloc (.cells #[.slice q1 n1 c1, .int .i64 w, .int .i64 h, .slice p n cap, .slice q2 n2 c2] 27)).heap.size := by simp
  clear r U B0 O r0 hsz
  go_enter Try.func8, Try.ntmps8
  go_wp2_with fail
  clear O1
  refine (unhide HW).mono ?_
  rintro e w1 ⟨rfl, hb⟩
  have S := hide (btrans (unhide HB) hb)
  have U1 := hide ((unhide HU).keep hb)
  have O1 := hide ((unhide HO).keep hb)
  have R1 := hide ((unhide HR).keep hb)
  have o1 := (unhide O1).2
  clear hb HB HU HO HR HW
  have HM := hide (made24 n1 n2 m W.heap.size hn1 hn2 hm (fun y x => f (t2 y * w + t1 x)) w1 (fun y x V hy hx hV => fn24_any ((unhide O1).keep hV) ((unhide R1).keep hV) y x hy hx))
  clear hm
  go_wp2_with fail
  clear o1
  refine (unhide HM).mono ?_
  rintro e w2 ⟨q, cp, rfl, hr, hb⟩
  have HS := hide (btrans (unhide S) hb)
  have hq1 := (unhide U1).1.1
  have hlt := (unhide S).size
  obtain ⟨⟨-, u0, u1, u2⟩, f0, f1, f2⟩ := (unhide U1).keep hb
  have HR2 := hide hr
  clear hb S U1 hr
  go_wp2
  refine bodyPost_ret (v := .tuple #[tr n1 n2 q m cp, .int .i64 0]) (by simp [results, Try.results8, go_sem, u0, u1, u2]) rfl ⟨q, cp, rfl, ⟨⟨hn1, hn2, (unhide HR2).1.2.2.1, ?_⟩, fun j hj => (unhide HR2).2 j (by omega)⟩, bset (bset (bset (unhide HS) (by dsimp only; omega)) (by dsimp only; omega)) (by dsimp only; omega)⟩
  exact (unhide HR2).1.2.2.2.grown (gput _ _ _ _) ((unhide HR2).2 _ (by omega))
end Go.Proofs.Ytfbggbalnfbbgaa
