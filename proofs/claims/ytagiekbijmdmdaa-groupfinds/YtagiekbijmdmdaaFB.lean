/-
  Finest of the reference.
-/
import Derived.Test.YtagiekbijmdmdaaHC
import Derived.Test.YtagiekbijmdmdaaLA
import Derived.Test.YtagiekbijmdmdaaGP
namespace Go.Proofs.Ytagiekbijmdmdaa
open Go.RowKit

theorem stepK_ab (w h N : Nat) (px : Nat → Int) (g : Int) (x y : Nat) (hN : 1 ≤ N) : abB (pat w h N px) g 0 false x y N (N * N) = stepK w h N px g x y := by
  unfold stepK
  rw [Bool.eq_iff_iff, abB_kp hN (pat_per w h N px), kpV_iff w h N px g 0 false _ _ hN]
theorem stepK_edge (w h N : Nat) (px : Nat → Int) (g : Int) (hN : 1 ≤ N) : stepK w h N px g N 0 = true ∧ stepK w h N px g 0 N = true := by
  have hP := pat_per w h N px
  exact ⟨(stepK_iff w h N px g N 0 hN).2 (by have := St.per hP 1 0; simpa using this), (stepK_iff w h N px g 0 N hN).2 (by have := St.per hP 0 1; simpa using this)⟩

set_option maxHeartbeats 4000000 in
set_option maxRecDepth 100000 in
theorem rfinest_ok (g w h : Int) (p : Option Addr) (n cap : Nat) (px : Nat → Int) (w' h' N b o : Nat) (W : World) (r : Right W g w h p n px w' h' N b o) :
    Calls Try.prog 17 #[Ch.ch g w h p n cap, .int .i64 N] W fun e V => ∃ s u v : Nat, e = .returned (.tuple #[.agg #[.int .i64 s, .int .i64 0], .agg #[.int .i64 u, .int .i64 v]]) ∧ (SideIs (stepK w' h' N px g) N s ∧ UpIs (stepK w' h' N px g) N s u v) ∧ Below W.heap.size W V := by
  have hN1 := r.hN1
  have hg := r.hg
  have HK := hide (fun V (r : Right V g w h p n px w' h' N b o) (x y : Nat) (hx : x ≤ 24) (hy : y ≤ 24) => kept_any g w h p n cap px w' h' N b o 0 false x y V r (by omega) (sm2_of (by omega) (by omega)))
  have HKv := hide (fun x y => stepK_ab w' h' N px g x y hN1.1)
  have hedge := stepK_edge w' h' N px g hN1.1
  have HKs := hide (show ∀ V, Right V g w h p n px w' h' N b o → ∀ x y : Nat, x ≤ 24 → y ≤ 24 → Calls Try.prog 42 #[Ch.ch g w h p n cap, .int .i64 N, .agg #[.int .i64 0, .bool false, .int .i64 x, .int .i64 y]] V fun e V' => e = .returned (.bool (stepK w' h' N px g x y)) ∧ Below V.heap.size V V' from fun V r x y hx hy => by
    have := unhide HK V r x y hx hy
    rw [unhide HKv] at this
    exact this)
  clear HK HKv
  generalize stepK w' h' N px g = K at *
  have Hedge := hide hedge
  have B0 := bal (o := .cells #[.int .i64 0, .int .i64 0] 33) (bal (o := .cells #[.int .i64 0, .int .i64 0] 33) (bal (o := .cells #[.int .i64 g, .int .i64 w, .int .i64 h, .slice p n cap] 24) (Below.refl W.heap.size W)))
  have Hr := hide (r.keep B0)
  have HB := hide B0
  have HC0 := hide (((Ch.OwnC.new W g w h p n cap 24).alloc (.cells #[.int .i64 0, .int .i64 0] 33)).alloc (.cells #[.int .i64 0, .int .i64 0] 33))
  have A0 := (Own.new (W.alloc (.cells #[.int .i64 g, .int .i64 w, .int .i64 h, .slice p n cap] 24)) 0 0 33).alloc (.cells #[.int .i64 0, .int .i64 0] 33)
  have A1 := Own.new ((W.alloc (.cells #[.int .i64 g, .int .i64 w, .int .i64 h, .slice p n cap] 24)).alloc (.cells #[.int .i64 0, .int .i64 0] 33)) 0 0 33
  simp only [World.size_alloc] at A0 A1
  have HA0 := hide A0
  have HA1 := hide A1
  clear r B0 A0 A1 hg hedge
  go_enter Try.func17, Try.ntmps17
  go_wp2
  generalize ((W.alloc (.cells #[.int .i64 g, .int .i64 w, .int .i64 h, .slice p n cap] 24)).alloc (.cells #[.int .i64 0, .int .i64 0] 33)).alloc (.cells #[.int .i64 0, .int .i64 0] 33) = w0 at *
  go_loopw [6] (fun i wr => ∃ s : Nat, (1 ≤ s ∧ s ≤ N) ∧ i = .int .i64 s ∧ Hid (∀ x, 1 ≤ x → x < s → K x 0 = false) ∧ Below w0.heap.size w0 wr) (fun i _ => N - (intOf i).toNat)
  case atStart => exact ⟨1, ⟨Nat.le_refl _, hN1.1⟩, rfl, hide (fun x h1 h2 => by omega), Below.refl _ _⟩
  case round =>
    obtain ⟨s, hs, rfl, Hno, hbel⟩ := hrel
    have HK1 := hide (unhide HKs _ ((unhide Hr).keep hbel) s 0 (by omega) (by omega))
    have c := ((unhide HC0).keep hbel).2
    go_wp2_with fail
    clear c
    refine (unhide HK1).mono ?_
    rintro e w1 ⟨rfl, hb⟩
    have S1 := btrans hbel hb
    clear hb hbel HK1
    cases hks : K s 0 with
    | false =>
      have hsN : s < N := by
        rcases Nat.lt_or_ge s N with h | h
        · exact h
        · rw [show s = N by omega, (unhide Hedge).1] at hks; cases hks
      have Hn2 := hide (show ∀ x, 1 ≤ x → x < s + 1 → K x 0 = false from fun x h1 h2 => by
        rcases Nat.lt_or_ge x s with h | h
        · exact unhide Hno x h1 h
        · rw [show x = s by omega]; exact hks)
      have HS1 := hide S1
      clear S1 Hno hks
      go_wp2
      go_roundw
      case rel => exact ⟨s + 1, ⟨by omega, hsN⟩, by go_num, Hn2, unhide HS1⟩
      case measure => simp [intOf]; omega
    | true =>
      have Hside := hide (show SideIs K N s from ⟨hs, unhide Hno, Or.inr hks⟩)
      have HS1 := hide S1
      clear S1 Hno hks
      go_wp2
      go_loopw [7] (fun i wr => ∃ y : Nat, (1 ≤ y ∧ y ≤ N) ∧ i = .int .i64 y ∧ Hid (∀ y', 1 ≤ y' → y' < y → ∀ x, x < s → K x y' = false) ∧ Below w0.heap.size w0 wr) (fun i _ => N - (intOf i).toNat)
      case atStart => exact ⟨1, ⟨Nat.le_refl _, hN1.1⟩, rfl, hide (fun y h1 h2 => by omega), unhide HS1⟩
      case round =>
        clear HS1
        obtain ⟨y, hy, rfl, Hno, hbel⟩ := hrel
        have hyN : (y : Int) ≤ (N : Int) := by omega
        go_wp2
        obtain ⟨wo, rfl⟩ : ∃ wo : World, wo = wr := ⟨_, rfl⟩
        have Hb1 := hide hbel
        clear hbel
        go_loopw [8] (fun i wr2 => ∃ x : Nat, x ≤ s ∧ i = .int .i64 x ∧ Hid (∀ x', x' < x → K x' y = false) ∧ Below w0.heap.size w0 wr2) (fun i _ => s - (intOf i).toNat)
        case atStart => exact ⟨0, Nat.zero_le _, rfl, hide (fun x h => by omega), unhide Hb1⟩
        case round =>
          clear Hb1
          obtain ⟨x, hx, rfl, Hnx, hbel⟩ := hrel
          by_cases hlt : x < s
          · have hlt' : (x : Int) < (s : Int) := by omega
            have HK1 := hide (unhide HKs _ ((unhide Hr).keep hbel) x y (by omega) (by omega))
            have c := ((unhide HC0).keep hbel).2
            go_wp2_with fail
            clear c
            refine (unhide HK1).mono ?_
            rintro e w2 ⟨rfl, hb⟩
            have S2 := btrans hbel hb
            clear hb hbel HK1
            cases hks : K x y with
            | false =>
              have Hn2 := hide (show ∀ x', x' < x + 1 → K x' y = false from fun x' h2 => by
                rcases Nat.lt_or_ge x' x with h | h
                · exact unhide Hnx x' h
                · rw [show x' = x by omega]; exact hks)
              have HS2 := hide S2
              clear S2 Hnx hks
              go_wp2
              go_roundw
              case rel => exact ⟨x + 1, hlt, by go_num, Hn2, unhide HS2⟩
              case measure => simp [intOf]; omega
            | true =>
              have Hup := hide (show UpIs K N s x y from by
                refine ⟨⟨hy.1, hy.2, hlt⟩, unhide Hno, fun _ => unhide Hnx, ?_⟩
                rcases Nat.lt_or_ge y N with h | h
                · exact Or.inl ⟨h, hks⟩
                · have e : y = N := by omega
                  refine Or.inr ⟨e, ?_⟩
                  rcases Nat.eq_zero_or_pos x with h0 | h0
                  · exact h0
                  · have := unhide Hnx 0 h0
                    rw [e, (unhide Hedge).2] at this
                    cases this)
              obtain ⟨hz0, ⟨a0, a1⟩, f0, f1⟩ := (unhide HA0).keep S2
              obtain ⟨hz1, ⟨b0, b1⟩, f2, f3⟩ := (unhide HA1).keep S2
              have S3 := btrans (unhide HB) S2
              clear S2 Hnx hks Hno
              go_wp2
              exact bodyPost_ret (v := .tuple #[.agg #[.int .i64 s, .int .i64 0], .agg #[.int .i64 x, .int .i64 y]]) (by simp [results, Try.results17, go_sem, a0, a1, b0, b1]) rfl ⟨s, x, y, rfl, ⟨unhide Hside, unhide Hup⟩, bset (bset (bset (bset S3 (by dsimp only; omega)) (by dsimp only; omega)) (by dsimp only; omega)) (by dsimp only; omega)⟩
          · have e : x = s := by omega
            have cl : ¬ ((x : Int) < (s : Int)) := by omega
            have hyl : y < N := by
              rcases Nat.lt_or_ge y N with h | h
              · exact h
              · have := unhide Hnx 0 (by omega)
                rw [show y = N by omega, (unhide Hedge).2] at this
                cases this
            have Hn2 := hide (show ∀ y', 1 ≤ y' → y' < y + 1 → ∀ x, x < s → K x y' = false from fun y' h1 h2 x' hx' => by
              rcases Nat.lt_or_ge y' y with h | h
              · exact unhide Hno y' h1 h x' hx'
              · rw [show y' = y by omega]; exact unhide Hnx x' (by omega))
            have HS2 := hide hbel
            clear hbel Hnx Hno e
            go_wp2
            go_roundw
            case rel => exact ⟨y + 1, ⟨by omega, hyl⟩, by go_num, Hn2, unhide HS2⟩
            case measure => simp [intOf]; omega
end Go.Proofs.Ytagiekbijmdmdaa
