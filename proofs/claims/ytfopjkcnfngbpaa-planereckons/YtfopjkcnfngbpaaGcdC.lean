/-
  What upright and Gcd of package plane answer, out of what they call (walks over the translated code).
-/
import Derived.Test.YtfopjkcnfngbpaaGcdB
namespace Go.Proofs.Ytfopjkcnfngbpaa
open Go.RowKit

/-- the one of a point's turned images that is told -/
def Can (x y : Int) : Prop := 0 < x ∧ 0 ≤ y

theorem turned1 (g x y : Int) (hg : g = 4 ∨ g = 6) (h : Sz g 268435456 x y) (w : World) :
    Calls Try.prog 50 #[.int .i64 g, .agg #[.int .i64 x, .int .i64 y], .int .i64 1] w fun e w' => e = .returned (.agg #[.int .i64 (-y), .int .i64 (tq g x y)]) ∧ Below w.heap.size w w' := by
  have := turned_any g x y 1 w hg (by omega) h
  exact this

set_option maxHeartbeats 2000000 in
theorem upright_is (g : Nat) (x y : Int) (w : World) (hg : (g : Int) = 4 ∨ (g : Int) = 6) (h : Sz g 268435456 x y) :
    Calls Try.prog 35 #[.int .i64 g, .agg #[.int .i64 x, .int .i64 y]] w fun e w' => (∃ k : Nat, k ≤ g ∧ e = .returned (.agg #[.int .i64 (tu g k x y).1, .int .i64 (tu g k x y).2]) ∧ (Can (tu g k x y).1 (tu g k x y).2 ∨ (k = g ∧ ∀ j, j < g → ¬ Can (tu g j x y).1 (tu g j x y).2))) ∧ Below w.heap.size w w' := by
  have HT := hide (fun X Y hs => turned1 g X Y hg hs)
  have Hs := hide h
  have Hg := hide hg
  clear hg h
  go_enter Try.func35, Try.ntmps35
  go_wp2
  go_loopw [6] (fun i w1 => ∃ k : Nat, k ≤ g ∧ i = .int .i64 k ∧ Below w.heap.size w w1 ∧ Own w1 w.heap.size (tu g k x y).1 (tu g k x y).2 ∧ Own w1 (w.heap.size + 1) 0 0 ∧ ∀ j, j < k → ¬ Can (tu g j x y).1 (tu g j x y).2) (fun i _ => g - (intOf i).toNat)
  case atStart => exact ⟨0, Nat.zero_le _, rfl, bal (bal (Below.refl _ _)), (Own.new w x y 23).alloc _, by have := Own.new (w.alloc (.cells #[.int .i64 x, .int .i64 y] 23)) 0 0 23; simpa using this, fun j hj => by omega⟩
  case round =>
    obtain ⟨k, hk, rfl, hbel, O1, O2, hn⟩ := hrel
    have Hn := hide hn
    clear hn
    have hs := (unhide Hs).tu k
    have H1 := hide (show tu g (k + 1) x y = (-(tu g k x y).2, tq g (tu g k x y).1 (tu g k x y).2) from rfl)
    have hgb : g ≤ 6 := by rcases unhide Hg with h | h <;> omega
    generalize hX : (tu g k x y).1 = X at *
    generalize hY : (tu g k x y).2 = Y at *
    have HX := hide hX
    have HY := hide hY
    clear hX hY
    by_cases hlt : k < g
    · by_cases c1 : 0 < X
      · by_cases c2 : 0 ≤ Y
        · have q1 := O1.2.1
          have q2 := O2.2
          go_wp2
          exact bodyPost_ret (v := .agg #[.int .i64 X, .int .i64 Y]) (by simp [results, Try.results35, go_sem, q2]) rfl ⟨⟨k, hk, by rw [unhide HX, unhide HY], Or.inl (by rw [unhide HX, unhide HY]; exact ⟨c1, c2⟩)⟩, bset (bset hbel (by dsimp only; omega)) (by dsimp only; omega)⟩
        · have c3 : decide (0 ≤ Y) = false := by simp; omega
          have Hn2 := hide (show ∀ j, j < k + 1 → ¬ Can (tu g j x y).1 (tu g j x y).2 from fun j hj => by
            by_cases e : j = k
            · rw [e, unhide HX, unhide HY]; exact fun hc => absurd hc.2 c2
            · exact unhide Hn j (by omega))
          have q1 := O1.2
          go_wp2_with fail
          clear q1
          refine (unhide HT X Y hs _).mono ?_
          rintro e w2 ⟨rfl, hb2⟩
          have P1 := O1.keep hb2
          have P2 := O2.keep hb2
          have hb3 := btrans hbel hb2
          clear O1 O2 hbel hb2
          have q1 := P1.2
          go_wp2
          go_roundw
          case rel => exact ⟨k + 1, by omega, by go_num, bset (bset hb3 (by dsimp only; omega)) (by dsimp only; omega), by rw [unhide H1]; exact P1.set _ _, (P2.far (by omega)).far (by omega), unhide Hn2⟩
          case measure => simp [intOf]; omega
      · have c3 : decide (0 < X) = false := by simp; omega
        have Hn2 := hide (show ∀ j, j < k + 1 → ¬ Can (tu g j x y).1 (tu g j x y).2 from fun j hj => by
          by_cases e : j = k
          · rw [e, unhide HX, unhide HY]; exact fun hc => absurd hc.1 c1
          · exact unhide Hn j (by omega))
        have q1 := O1.2
        go_wp2_with fail
        clear q1
        refine (unhide HT X Y hs _).mono ?_
        rintro e w2 ⟨rfl, hb2⟩
        have P1 := O1.keep hb2
        have P2 := O2.keep hb2
        have hb3 := btrans hbel hb2
        clear O1 O2 hbel hb2
        have q1 := P1.2
        go_wp2
        go_roundw
        case rel => exact ⟨k + 1, by omega, by go_num, bset (bset hb3 (by dsimp only; omega)) (by dsimp only; omega), by rw [unhide H1]; exact P1.set _ _, (P2.far (by omega)).far (by omega), unhide Hn2⟩
        case measure => simp [intOf]; omega
    · have e : k = g := by omega
      subst e
      have cl : ¬ ((k : Int) < (k : Int)) := by omega
      have q1 := O1.2.1
      have q2 := O2.2
      go_wp2
      exact bodyPost_ret (v := .agg #[.int .i64 X, .int .i64 Y]) (by simp [results, Try.results35, go_sem, q2]) rfl ⟨⟨k, hk, by rw [unhide HX, unhide HY], Or.inr ⟨rfl, unhide Hn⟩⟩, bset (bset hbel (by dsimp only; omega)) (by dsimp only; omega)⟩

end Go.Proofs.Ytfopjkcnfngbpaa
