/-
  The reference's Dots of anything; DyeDots.
-/
import Derived.Test.YtlilmchlddiacaaDH
namespace Go.Proofs.Ytlilmchlddiacaa
open Go.RowKit

theorem rdots_any {w : Int} {n m : Nat} {g f : Nat → Int} {lost er : Int} (h : DotIs w n g m f lost er) (cap : Nat) (q : Option Addr) (W : World) (hI : Is W q n g) : AnsD 13 #[.int .i64 w, .slice q n cap] W m f lost er := by
  rcases h with ⟨h, rfl, rfl, rfl, rfl⟩ | ⟨h, ⟨k, hk, h1, h2⟩, rfl, rfl, rfl, rfl⟩ | ⟨h, h1, rfl, rfl, rfl, rfl⟩
  · exact rdots_fit w n cap q h W
  · obtain ⟨e, k1, k2, k3, k4⟩ := fit_nat h
    rw [e]
    exact rdots_bad w.toNat n k cap q g k1 k2 k3 k4 hk h1 h2 W hI
  · obtain ⟨e, k1, k2, k3, k4⟩ := fit_nat h
    have := rdots_ok w.toNat m cap q g k1 k2 k3 k4 h1 W hI
    rw [← e] at this
    exact this
theorem dot_few {w : Int} {n m : Nat} {g f : Nat → Int} {lost er : Int} (h : DotIs w n g m f lost er) : m ≤ 1048576 := by
  rcases h with ⟨-, rfl, -⟩ | ⟨-, -, rfl, -⟩ | ⟨h, -, rfl, -⟩
  · omega
  · omega
  · have := (fit_nat h).2.2.2.1
    omega

set_option maxRecDepth 100000 in
set_option maxHeartbeats 2000000 in
theorem dots_law (w : Int) (n m cap : Nat) (q : Option Addr) (f : Nat → Int) (lost er : Int) (hm : m ≤ 1048576) (W : World) (HD : ∀ V, Below W.heap.size W V → AnsD 12 #[.int .i64 w, .slice q n cap] V m f lost er) (HE : ∀ V, Below W.heap.size W V → AnsD 13 #[.int .i64 w, .slice q n cap] V m f lost er) :
    Calls Try.prog 4 #[.int .i64 w, .slice q n cap] W fun e w' => e = .returned (.bool true) ∧ Below W.heap.size W w' := by
  have HD' := hide HD
  have HE' := hide HE
  have Hm := hide hm
  clear HD HE hm
  go_enter Try.func4, Try.ntmps4
  go_wp2_with fail
  refine (unhide HD' _ (Below.refl _ _)).mono ?_
  rintro e w1 ⟨q1, cp1, rfl, hI1, hb1⟩
  have Hb1 := hide hb1
  have HI1 := hide hI1
  clear hb1 hI1
  go_wp2_with fail
  refine (unhide HE' _ (unhide Hb1)).mono ?_
  rintro e w2 ⟨q2, cp2, rfl, hI2, hb2⟩
  have Hb := hide (btrans (unhide Hb1) hb2)
  have HS := hide (same_any (c1 := cp1) (c2 := cp2) (unhide Hm) ((unhide HI1).keep hb2) hI2)
  clear hb2 HD' HE' HI1 hI2
  go_wp2_with fail
  refine (unhide HS).mono ?_
  rintro e w3 ⟨rfl, hb3⟩
  have Hc := hide (btrans (unhide Hb) hb3)
  clear hb3
  go_wp2
  go_ret
  exact ⟨rfl, unhide Hc⟩

theorem dots_law_any (w : Int) (n cap : Nat) (q : Option Addr) (g : Nat → Int) (W : World) (hI : Is W q n g) : Calls Try.prog 4 #[.int .i64 w, .slice q n cap] W fun e w' => e = .returned (.bool true) ∧ Below W.heap.size W w' := by
  obtain ⟨m, f, lost, er, h⟩ := dot_split w n g
  exact dots_law w n m cap q f lost er (dot_few h) W (fun V hV => dots_any h cap q V (hI.keep hV)) (fun V hV => rdots_any h cap q V (hI.keep hV))
end Go.Proofs.Ytlilmchlddiacaa
