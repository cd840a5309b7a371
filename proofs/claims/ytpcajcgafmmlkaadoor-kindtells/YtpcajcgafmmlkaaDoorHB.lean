/-
  What upStep and Finest of package group answer.
-/
import Derived.Test.YtpcajcgafmmlkaaDoorHA
import Derived.Test.YtpcajcgafmmlkaaDoorGQ
namespace Go.Proofs.YtpcajcgafmmlkaaDoor
open Go.RowKit

set_option maxHeartbeats 4000000 in
set_option maxRecDepth 100000 in
theorem upStep_any (g : Int) (N b k cap w' h' : Nat) (px : Nat → Int) (s : Nat) (w : World) (hg : g = 4 ∨ g = 6) (hN : 1 ≤ N ∧ N ≤ 24) (hk : k = N * N) (hs : 1 ≤ s ∧ s ≤ N) (hr : Ch.Row w b 0 k (tcx w' h' N px)) :
    Calls Tryd.prog 42 #[tv g N (some ⟨b, 0, none⟩) k cap, .int .i64 s] w fun e V => ∃ u v : Nat, e = .returned (.agg #[.int .i64 u, .int .i64 v]) ∧ UpIs (stepK w' h' N px g) N s u v ∧ Below w.heap.size w V := by
  have HI := hide (fun (V : World) => images_any g N (some ⟨b, 0, none⟩) k cap 0 false V hg (by omega) hN hk)
  have HK := hide (fun (V : World) (bi x y : Nat) (hx : x < N) (hy : y < N) (hr : Ch.Row V b 0 k (tcx w' h' N px)) (hp : PRow V bi k (imX g 0 false N) (imY g 0 false N)) =>
    keeps_any g N b 0 k cap bi (tcx w' h' N px) (imX g 0 false N) (imY g 0 false N) x y V hN hk hr hp (fun j _ => im_range g 0 false N j hN) (by omega) (by omega))
  have HKv := hide (show ∀ x y : Nat, kpB (tcx w' h' N px) (imX g 0 false N) (imY g 0 false N) N x y k = stepK w' h' N px g x y from fun x y => by unfold stepK kpV; rw [hk])
  generalize stepK w' h' N px g = K at *
  generalize tcx w' h' N px = cx at *
  have T0 := (OwnT.new w g N (some ⟨b, 0, none⟩) k cap 74).alloc (.cells #[.int .i64 0, .int .i64 0] 33)
  have Z0 := Own.new (w.alloc (.cells #[.int .i64 g, .int .i64 N, .slice (some ⟨b, 0, none⟩) k cap] 74)) 0 0 33
  rw [World.size_alloc] at Z0
  have B0 := bal (o := .cells #[.int .i64 0, .int .i64 0] 33) (bal (o := .cells #[.int .i64 g, .int .i64 N, .slice (some ⟨b, 0, none⟩) k cap] 74) (Below.refl w.heap.size w))
  have HR0 := hide (hr.keep B0)
  have HB0 := hide B0
  have HT0 := hide T0
  have HZ0 := hide Z0
  clear hr hk B0 Z0 hg
  have t0 := T0.2
  go_enter Tryd.func42, Tryd.ntmps42
  go_wp2_with fail
  clear t0 T0
  generalize (w.alloc (.cells #[.int .i64 g, .int .i64 N, .slice (some ⟨b, 0, none⟩) k cap] 74)).alloc (.cells #[.int .i64 0, .int .i64 0] 33) = w0 at *
  refine (unhide HI _).mono ?_
  rintro e w1 ⟨bi, rfl, hP, -, hb⟩
  have S1 := hb
  have HP1 := hide hP
  clear hb hP HI
  go_wp2
  go_loopw [6] (fun a wr => ∃ y : Nat, (1 ≤ y ∧ y ≤ N) ∧ a = .int .i64 y ∧ (∀ z, 1 ≤ z → z < y → ∀ x, x < s → K x z = false) ∧ Below w1.heap.size w1 wr) (fun a _ => N - (intOf a).toNat)
  case atStart => exact ⟨1, ⟨by omega, hN.1⟩, rfl, fun y h1 h2 => by omega, Below.refl _ _⟩
  case round =>
    obtain ⟨y, hy, rfl, hno, hbel⟩ := hrel
    have Hno := hide hno
    clear hno
    have S2 := btrans S1 hbel
    have t1 := ((unhide HT0).keep S2).2
    by_cases hlt : y < N
    · have hlt' : (y : Int) < (N : Int) := by omega
      go_wp2
      clear t1 S2
      obtain ⟨wo, rfl⟩ : ∃ wo : World, wo = wr := ⟨_, rfl⟩
      have Hb0 := hide hbel
      clear hbel
      go_loopw [17] (fun a wr2 => ∃ x : Nat, x ≤ s ∧ a = .int .i64 x ∧ (∀ z, z < x → K z y = false) ∧ Below w1.heap.size w1 wr2) (fun a _ => s - (intOf a).toNat)
      case atStart => exact ⟨0, Nat.zero_le _, rfl, fun z h => by omega, unhide Hb0⟩
      case round =>
        clear Hb0
        obtain ⟨x, hx, rfl, hnx, hbel⟩ := hrel
        have Hnx := hide hnx
        clear hnx
        have S2 := btrans S1 hbel
        by_cases hlx : x < s
        · have t1 := ((unhide HT0).keep S2).2
          have HK1 := hide (unhide HK _ bi x y (by omega) hlt ((unhide HR0).keep S2) ((unhide HP1).keep hbel))
          rw [unhide HKv x y] at HK1
          go_wp2_with fail
          clear t1
          refine (unhide HK1).mono ?_
          rintro e w2 ⟨rfl, hb⟩
          have S3 := btrans hbel hb
          clear hb HK1 hbel S2
          cases hKx : K x y with
          | false =>
            have Hkx := hide hKx
            clear hKx
            go_wp2
            go_roundw
            case rel => exact ⟨x + 1, by omega, by go_num, fun z h1 => by
              by_cases e : z = x
              · subst e; exact unhide Hkx
              · exact unhide Hnx z (by omega), S3⟩
            case measure => simp [intOf]; omega
          | true =>
            have Hkx := hide hKx
            clear hKx
            have S4 := btrans (unhide HB0) (btrans S1 S3)
            have z := ((unhide HZ0).keep (btrans S1 S3)).2
            go_wp2
            exact bodyPost_ret (v := .agg #[.int .i64 x, .int .i64 y]) (by simp [results, Tryd.results42, go_sem, z]) rfl ⟨x, y, rfl, ⟨⟨hy.1, hy.2, hlx⟩, unhide Hno, fun _ => unhide Hnx, Or.inl ⟨hlt, unhide Hkx⟩⟩, bset (bset S4 (by dsimp only; omega)) (by dsimp only; omega)⟩
        · have e : x = s := by omega
          have He := hide e
          have cl : ¬ ((x : Int) < (s : Int)) := by omega
          have Hb1 := hide hbel
          clear e hbel S2
          go_wp2
          go_roundw
          case rel => exact ⟨y + 1, ⟨by omega, by omega⟩, by go_num, fun z h1 h2 v hv => by
            by_cases e : z = y
            · subst e; exact unhide Hnx v (by rw [unhide He]; exact hv)
            · exact unhide Hno z h1 (by omega) v hv, unhide Hb1⟩
          case measure => simp [intOf]; omega
    · have hlt' : decide ((y : Int) < (N : Int)) = false := by simp; omega
      have he : y = N := by omega
      have He := hide he
      clear he
      have S4 := btrans (unhide HB0) S2
      have z := ((unhide HZ0).keep S2).2
      go_wp2
      exact bodyPost_ret (v := .agg #[.int .i64 0, .int .i64 N]) (by simp [results, Tryd.results42, go_sem, z]) rfl ⟨0, N, rfl, ⟨⟨hN.1, Nat.le_refl _, by omega⟩, by rw [← unhide He]; exact unhide Hno, fun h => absurd h (by omega), Or.inr ⟨rfl, rfl⟩⟩, bset (bset S4 (by dsimp only; omega)) (by dsimp only; omega)⟩
end Go.Proofs.YtpcajcgafmmlkaaDoor
