/-
  A thread is given its least colour; all threads are.
-/
import Derived.Test.YtbmgjoocpbikkaaRw
namespace Go.Proofs.Ytbmgjoocpbikkaa
open Go.RowKit

/-- what comes of giving the least colour -/
def GlP (W : World) (cb K : Nat) (P : Pic) (g : Nat → Int) (t : Nat) : Ending → World → Prop := fun e w' =>
  ∃ r g', e = .returned (.bool r) ∧ CR w' cb K g' ∧ Kept (fun i => i = cb) W w' ∧ (r = true → ∃ k, 0 ≤ k ∧ Gv P g t k g' ∧ ∀ m, 0 ≤ m → m < k → Nv P g t m) ∧ (r = false → ∀ m, 0 ≤ m → m ≤ 61 → Nv P g t m)

set_option maxRecDepth 100000 in
set_option maxHeartbeats 2000000 in
theorem least_any {W : World} {w h : Nat} {p : Option Addr} {n cap cb K : Nat} {px : Nat → Int} {g : Nat → Int} {t : Nat} (hK : K = w + h) (hS : Sq W w h p n cb px) (hC : CR W cb K g) (hR : InR (pic w h px) g) (ht : t < K) :
    Calls Try.prog 36 #[pcV w h p n cap cb K, .int .i64 t] W (GlP W cb K (pic w h px) g t) := by
  have hk1 : 1 ≤ K := by have := hS.1.1; omega
  have hk128 : K ≤ 128 := by have := hS.1.2; have := hS.2.1.2; omega
  have hcbl := hC.1
  have B0 := hide (bnew W (.cells (pcC w h p n cap cb K) 49))
  have O0 := hide (OwnP.new W w h p n cap cb K 49)
  have HCl := hide (clone_any (hC.keep (unhide B0)) hk1 hk128)
  have HG := hide (fun V (hV : Kept (fun i => i = cb) W V) (hc : CR V cb K g) (k : Int) (a : 0 ≤ k) (b : k ≤ 61) => give_any w h p n cap cb K px hK (un g K) V g t k (hS.but hV) hc hR (Nat.le_refl _) ht a b)
  have HC := hide hC
  clear hS hC hR ht hK
  go_enter Try.func36, Try.ntmps36
  go_wp2_with (go_at_call 40; refine (unhide HCl).mono ?_; rintro e w1 ⟨q, c, rfl, hq, hcr, hb1⟩)
  have hq2 : W.heap.size < q := by simp at hq; omega
  have O1 := hide ((unhide O0).keep hb1)
  have R1 := hide hcr
  have K1 := hide (show Kept (fun i => i = cb) W w1 from (Kept.of (unhide B0)).below hb1)
  have C1 := hide (((unhide HC).keep (unhide B0)).keep hb1)
  have Hne := hide (show W.heap.size ≠ cb by omega)
  have Hq := hide (show q ≠ cb by omega)
  clear hb1 hcr HCl B0 O0 HC hcbl hq hq2
  go_loopw [10] (fun v wr => ∃ k : Nat, k ≤ 62 ∧ v = .int .i64 k ∧ CR wr cb K g ∧ Kept (fun i => i = cb) w1 wr ∧ ∀ m : Int, 0 ≤ m → m < k → Nv (pic w h px) g t m) (fun v _ => 62 - (intOf v).toNat)
  case atStart => exact ⟨0, by omega, rfl, unhide C1, Kept.refl _ _, fun m a b => by omega⟩
  case round =>
    obtain ⟨k, hk, rfl, hc, hkp, hn⟩ := hrel
    have HKp := hide hkp
    have HN := hide hn
    have OR := hide ((unhide O1).but hkp (unhide Hne))
    have RR := hide ((unhide R1).but hkp (unhide Hq))
    by_cases hlt : k < 62
    · have qk : (k : Int) < 62 := by omega
      have HI := hide (unhide HG wr ((unhide K1).trans hkp) hc (k : Int) (by omega) (by omega))
      obtain ⟨_, o0, o1, o2, o3, o4⟩ := unhide OR
      clear hc hkp hn HG
      go_wp2_with (go_at_call 41; refine (unhide HI).mono ?_; rintro e w2 ⟨r, g2, rfl, hc2, hk2, hyes, hno⟩; clear o0 o1 o2 o3 o4; obtain ⟨_, o0, o1, o2, o3, o4⟩ := (unhide OR).but hk2 (unhide Hne); have hcp := copy_law (c := c) hc2 ((unhide RR).but hk2 (unhide Hq)); have HC2 := hide hc2; have HK2 := hide hk2; clear hc2 hk2; cases r)
      · have Hno := hide (hno trivial)
        clear hno hyes hcp o0 o1 o2 o3 o4
        go_roundw
        case rel =>
          obtain ⟨x1, x2⟩ := copy_cr (g := g) (unhide HC2)
          refine ⟨k + 1, by omega, by go_num, x1, (unhide HKp).trans ((unhide HK2).trans x2), ?_⟩
          intro m a b
          by_cases e : m = k
          · subst e; exact unhide Hno
          · exact unhide HN m a (by omega)
        case measure => simp [intOf]; omega
      · have Hyes := hide (hyes trivial)
        clear hno hyes hcp o0 o1 o2 o3 o4
        go_ret
        exact ⟨true, g2, rfl, unhide HC2, (unhide K1).trans ((unhide HKp).trans (unhide HK2)), (fun _ => ⟨k, by omega, unhide Hyes, unhide HN⟩), fun e => by cases e⟩
    · obtain rfl : k = 62 := by omega
      go_wp2
      go_ret
      exact ⟨false, g, rfl, hc, (unhide K1).trans hkp, (fun e => by cases e), fun _ m a b => hn m a (by omega)⟩

/-- what comes of giving all threads colours -/
def GaP (W : World) (cb K : Nat) (P : Pic) : Ending → World → Prop := fun e w' =>
  ∃ r g', e = .returned (.bool r) ∧ CR w' cb K g' ∧ Kept (fun i => i = cb) W w' ∧ (r = true → First P g') ∧ (r = false → ∀ f, Tot P f → ¬ Good P f)

set_option maxRecDepth 100000 in
set_option maxHeartbeats 2000000 in
theorem all_any {W : World} {w h : Nat} {p : Option Addr} {n cap cb K : Nat} {px : Nat → Int} {g : Nat → Int} (hK : K = w + h) (hS : Sq W w h p n cb px) (hC : CR W cb K g) (hg : ∀ s, s < K → g s = -1) :
    Calls Try.prog 24 #[pcV w h p n cap cb K] W (GaP W cb K (pic w h px)) := by
  have hk128 : K ≤ 128 := by have := hS.1.2; have := hS.2.1.2; omega
  have hcbl := hC.1
  have hKn : (pic w h px).n = K := hK.symm
  have B0 := hide (bnew W (.cells (pcC w h p n cap cb K) 49))
  have O0 := hide (OwnP.new W w h p n cap cb K 49)
  have Hok := hide hS.ok
  have HL := hide (fun V (hV : Kept (fun i => i = cb) W V) (G : Nat → Int) (t : Nat) (hc : CR V cb K G) (hr : InR (pic w h px) G) (ht : t < K) => least_any (cap := cap) hK (hS.but hV) hc hr ht)
  have HI0 := hide (Inv.start (pic w h px) g (by rw [hKn]; exact hg) hS.ok)
  have C0 := hide (hC.keep (unhide B0))
  have K0 := hide (show Kept (fun i => i = cb) W (W.alloc (.cells (pcC w h p n cap cb K) 49)) from Kept.of (unhide B0))
  have Hne := hide (show W.heap.size ≠ cb by omega)
  have HKn := hide hKn
  clear hS hC hg hK hKn hcbl B0
  obtain ⟨_, o0, o1, o2, o3, o4⟩ := unhide O0
  go_enter Try.func24, Try.ntmps24
  go_wp2
  clear o0 o1 o2 o3 o4
  generalize W.alloc (.cells (pcC w h p n cap cb K) 49) = w1 at *
  go_loopw [7] (fun v wr => ∃ (i : Nat) (G : Nat → Int), i ≤ K ∧ v = .int .i64 i ∧ CR wr cb K G ∧ Kept (fun i => i = cb) w1 wr ∧ Inv (pic w h px) i G) (fun v _ => K - (intOf v).toNat)
  case atStart => exact ⟨0, g, by omega, rfl, unhide C0, Kept.refl _ _, unhide HI0⟩
  case round =>
    obtain ⟨i, G, hi, rfl, hc, hkp, hn⟩ := hrel
    have HKp := hide hkp
    have HN := hide hn
    have HC := hide hc
    have OR := hide ((unhide O0).but hkp (unhide Hne))
    by_cases hlt : i < K
    · have qi : (i : Int) < (K : Int) := by omega
      have hcell := (hc.2 i hlt).1
      have HLr := hide (unhide HL wr ((unhide K0).trans hkp) G i hc hn.2.1 hlt)
      obtain ⟨_, o0, o1, o2, o3, o4⟩ := unhide OR
      have He := hide (show ∀ d, G i = d → G i = d from fun _ e => e)
      have hq0 : (0 : Int) ≤ (i : Int) := by omega
      clear hc hkp hn HL
      by_cases hgi : G i = -1
      · rw [hgi] at hcell
        clear He
        have Hgi := hide hgi
        clear hgi
        go_wp2_with (go_at_call 36; refine (unhide HLr).mono ?_; rintro e w2 ⟨r, g2, rfl, hc2, hk2, hyes, hno⟩; cases r)
        · have Hno := hide (hno trivial)
          have HC2 := hide hc2
          have HK2 := hide hk2
          clear hno hyes o0 o1 o2 o3 o4 hc2 hk2 hcell
          go_ret
          exact ⟨false, g2, rfl, unhide HC2, (unhide K0).trans ((unhide HKp).trans (unhide HK2)), (fun e => by cases e), fun _ => (unhide HN).none (unhide Hok) (by rw [unhide HKn]; exact hlt) (unhide Hno)⟩
        · have Hyes := hide (hyes trivial)
          have HC2 := hide hc2
          have HK2 := hide hk2
          clear hno hyes o0 o1 o2 o3 o4 hc2 hk2 hcell
          go_roundw
          case rel =>
            obtain ⟨k, k0, k1, k2⟩ := unhide Hyes
            exact ⟨i + 1, g2, by omega, by go_num, unhide HC2, (unhide HKp).trans (unhide HK2), (unhide HN).step (by rw [unhide HKn]; exact hlt) k0 (k1.toStep (unhide Hok) (unhide HN).1) k2⟩
          case measure => simp [intOf]; omega
      · have hne : (G i == -1) = false := by simp [hgi]
        have Hgi := hide hgi
        clear hgi He HLr
        generalize G i = d at hcell hne
        go_wp2
        go_roundw
        case rel => exact ⟨i + 1, G, by omega, by go_num, unhide HC, unhide HKp, (unhide HN).skip (unhide Hgi)⟩
        case measure => simp [intOf]; omega
    · obtain rfl : i = K := by omega
      have cl : ¬ ((i : Int) < (i : Int)) := by omega
      go_wp2
      go_ret
      exact ⟨true, G, rfl, hc, (unhide K0).trans hkp, (fun _ => Inv.first (unhide Hok) (by rw [unhide HKn]; exact hn)), fun e => by cases e⟩
end Go.Proofs.Ytbmgjoocpbikkaa
