/-
  What sideStep and upStep of package group answer.
-/
import Derived.Test.YtpcajcgafmmlkaaDoorLComp
namespace Go.Proofs.YtpcajcgafmmlkaaDoor
open Go.RowKit

/-- the least step to the side: as a search finds it -/
def SideIs (K : Nat → Nat → Bool) (N s : Nat) : Prop := (1 ≤ s ∧ s ≤ N) ∧ (∀ x, 1 ≤ x → x < s → K x 0 = false) ∧ (s = N ∨ K s 0 = true)
/-- the lowest step up -/
def UpIs (K : Nat → Nat → Bool) (N s u v : Nat) : Prop := (1 ≤ v ∧ v ≤ N ∧ u < s) ∧ (∀ y, 1 ≤ y → y < v → ∀ x, x < s → K x y = false) ∧ (v < N → ∀ x, x < u → K x v = false) ∧ (v < N ∧ K u v = true ∨ v = N ∧ u = 0)
/-- the steps that keep a pattern -/
def stepK (w h N : Nat) (px : Nat → Int) (g : Int) (x y : Nat) : Bool := kpV w h N px g 0 false x y

set_option maxHeartbeats 4000000 in
set_option maxRecDepth 100000 in
theorem sideStep_any (g : Int) (N b k cap w' h' : Nat) (px : Nat → Int) (w : World) (hg : g = 4 ∨ g = 6) (hN : 1 ≤ N ∧ N ≤ 24) (hk : k = N * N) (hr : Ch.Row w b 0 k (tcx w' h' N px)) :
    Calls Tryd.prog 41 #[tv g N (some ⟨b, 0, none⟩) k cap] w fun e V => ∃ s : Nat, e = .returned (.agg #[.int .i64 s, .int .i64 0]) ∧ SideIs (stepK w' h' N px g) N s ∧ Below w.heap.size w V := by
  have HI := hide (fun (V : World) => images_any g N (some ⟨b, 0, none⟩) k cap 0 false V hg (by omega) hN hk)
  have HK := hide (fun (V : World) (bi x : Nat) (hx : x < N) (hr : Ch.Row V b 0 k (tcx w' h' N px)) (hp : PRow V bi k (imX g 0 false N) (imY g 0 false N)) =>
    keeps_any g N b 0 k cap bi (tcx w' h' N px) (imX g 0 false N) (imY g 0 false N) x 0 V hN hk hr hp (fun j _ => im_range g 0 false N j hN) (by omega) (by omega))
  have HKv := hide (show ∀ x : Nat, kpB (tcx w' h' N px) (imX g 0 false N) (imY g 0 false N) N x 0 k = stepK w' h' N px g x 0 from fun x => by unfold stepK kpV; rw [hk]; rfl)
  generalize stepK w' h' N px g = K at *
  generalize tcx w' h' N px = cx at *
  have T0 := (OwnT.new w g N (some ⟨b, 0, none⟩) k cap 74).alloc (.cells #[.int .i64 0, .int .i64 0] 33)
  have Z0 := Own.new (w.alloc (.cells #[.int .i64 g, .int .i64 N, .slice (some ⟨b, 0, none⟩) k cap] 74)) 0 0 33
  rw [World.size_alloc] at Z0
  have B0 := bal (o := .cells #[.int .i64 0, .int .i64 0] 33) (bal (o := .cells #[.int .i64 g, .int .i64 N, .slice (some ⟨b, 0, none⟩) k cap] 74) (Below.refl w.heap.size w))
  have HR0 := hide (hr.keep B0)
  have HB0 := hide B0
  have HT0 := hide T0
  have HZ0 := hide Z0
  clear hr hk B0 Z0 hg
  have t0 := T0.2
  go_enter Tryd.func41, Tryd.ntmps41
  go_wp2_with fail
  clear t0 T0
  generalize (w.alloc (.cells #[.int .i64 g, .int .i64 N, .slice (some ⟨b, 0, none⟩) k cap] 74)).alloc (.cells #[.int .i64 0, .int .i64 0] 33) = w0 at *
  refine (unhide HI _).mono ?_
  rintro e w1 ⟨bi, rfl, hP, -, hb⟩
  have S1 := hb
  have HP1 := hide hP
  clear hb hP HI
  go_wp2
  go_loopw [4] (fun v wr => ∃ x : Nat, (1 ≤ x ∧ x ≤ N) ∧ v = .int .i64 x ∧ (∀ y, 1 ≤ y → y < x → K y 0 = false) ∧ Below w1.heap.size w1 wr) (fun v _ => N - (intOf v).toNat)
  case atStart => exact ⟨1, ⟨by omega, hN.1⟩, rfl, fun y h1 h2 => by omega, Below.refl _ _⟩
  case round =>
    obtain ⟨x, hx, rfl, hno, hbel⟩ := hrel
    have Hno := hide hno
    have S2 := btrans S1 hbel
    clear hno
    have t1 := ((unhide HT0).keep S2).2
    by_cases hlt : x < N
    · have hlt' : (x : Int) < (N : Int) := by omega
      have HK1 := hide (unhide HK _ bi x hlt ((unhide HR0).keep S2) ((unhide HP1).keep hbel))
      rw [unhide HKv x] at HK1
      go_wp2_with fail
      clear t1
      refine (unhide HK1).mono ?_
      rintro e w2 ⟨rfl, hb⟩
      have S3 := btrans hbel hb
      clear hb HK1 hbel
      cases hKx : K x 0 with
      | false =>
        have Hkx := hide hKx
        clear hKx
        go_wp2
        go_roundw
        case rel => exact ⟨x + 1, ⟨by omega, by omega⟩, by go_num, fun y h1 h2 => by
          by_cases e : y = x
          · subst e; exact unhide Hkx
          · exact unhide Hno y h1 (by omega), S3⟩
        case measure => simp [intOf]; omega
      | true =>
        have Hkx := hide hKx
        clear hKx
        have S4 := btrans (unhide HB0) (btrans S1 S3)
        have z := ((unhide HZ0).keep (btrans S1 S3)).2
        go_wp2
        exact bodyPost_ret (v := .agg #[.int .i64 x, .int .i64 0]) (by simp [results, Tryd.results41, go_sem, z]) rfl ⟨x, rfl, ⟨hx, unhide Hno, Or.inr (unhide Hkx)⟩, bset (bset S4 (by dsimp only; omega)) (by dsimp only; omega)⟩
    · have hlt' : decide ((x : Int) < (N : Int)) = false := by simp; omega
      have he : x = N := by omega
      have He := hide he
      clear he
      have S4 := btrans (unhide HB0) S2
      have z := ((unhide HZ0).keep S2).2
      go_wp2
      exact bodyPost_ret (v := .agg #[.int .i64 x, .int .i64 0]) (by simp [results, Tryd.results41, go_sem, z]) rfl ⟨x, rfl, ⟨hx, unhide Hno, Or.inl (unhide He)⟩, bset (bset S4 (by dsimp only; omega)) (by dsimp only; omega)⟩
end Go.Proofs.YtpcajcgafmmlkaaDoor
