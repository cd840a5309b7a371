/-
  A thread is given a colour, and others those that come of it.
-/
import Derived.Test.YtbmgjoocpbikkaaPc
namespace Go.Proofs.Ytbmgjoocpbikkaa
open Go.RowKit

/-- a row of colours that may be written -/
def CR (W : World) (b K : Nat) (g : Nat → Int) : Prop := b < W.heap.size ∧ ∀ k, k < K → W.cell? ⟨b, k, none⟩ = some (.int .i64 (g k)) ∧ W.frozen? ⟨b, k, none⟩ = false
theorem CR.keep {W V : World} {b K : Nat} {g : Nat → Int} (h : CR W b K g) (hb : Below W.heap.size W V) : CR V b K g :=
  ⟨Nat.lt_of_lt_of_le h.1 hb.size, fun k hk => ⟨keepC hb h.1 (h.2 k hk).1, keepF hb h.1 (h.2 k hk).2⟩⟩
theorem CR.set {W : World} {b K : Nat} {g : Nat → Int} (h : CR W b K g) (t : Nat) (k : Int) : CR (W.setCell ⟨b, t, none⟩ (.int .i64 k)) b K (put g t k) := by
  refine ⟨by simpa using h.1, fun j hj => ⟨?_, fset (h.2 j hj).2⟩⟩
  by_cases e : j = t
  · subst e; rw [put_same]; exact csame (h.2 j hj).1
  · rw [put_ne g k e]; exact cset (h.2 j hj).1 e
theorem cross_iff {w h K t u : Nat} {px : Nat → Int} (hK : K = w + h) (ht : t < K) : (pic w h px).X t u ↔ (if t < w then w else 0) ≤ u ∧ u < (if t < w then K else w) := by
  subst hK
  show ((t < w ∧ w ≤ u ∧ u < w + h) ∨ (u < w ∧ w ≤ t ∧ t < w + h)) ↔ _
  split <;> omega
/-- what comes of giving a colour -/
def GvP (W : World) (cb K : Nat) (P : Pic) (g : Nat → Int) (t : Nat) (k : Int) : Ending → World → Prop := fun e w' =>
  ∃ r g', e = .returned (.bool r) ∧ CR w' cb K g' ∧ Kept (fun i => i = cb) W w' ∧ (r = true → Gv P g t k g') ∧ (r = false → Nv P g t k)
theorem GvP.yes {W w' : World} {cb K : Nat} {P : Pic} {g : Nat → Int} {t : Nat} {k : Int} (g' : Nat → Int) (h1 : CR w' cb K g') (h2 : Kept (fun i => i = cb) W w') (h3 : Gv P g t k g') : GvP W cb K P g t k (.returned (.bool true)) w' := ⟨true, g', rfl, h1, h2, (fun _ => h3), fun e => by cases e⟩
theorem GvP.no {W w' : World} {cb K : Nat} {P : Pic} {g : Nat → Int} {t : Nat} {k : Int} (g' : Nat → Int) (h1 : CR w' cb K g') (h2 : Kept (fun i => i = cb) W w') (h3 : Nv P g t k) : GvP W cb K P g t k (.returned (.bool false)) w' := ⟨false, g', rfl, h1, h2, (fun e => by cases e), fun _ => h3⟩

set_option maxHeartbeats 1000000 in
theorem give_old {W : World} {w h : Nat} {p : Option Addr} {n cap cb K : Nat} {px : Nat → Int} (hK : K = w + h) {g : Nat → Int} {t : Nat} {k : Int} (hC : CR W cb K g) (hR : InR (pic w h px) g) (ht : t < K) (hgt : g t ≠ -1) :
    Calls Try.prog 41 #[pcV w h p n cap cb K, .int .i64 t, .int .i64 k] W (GvP W cb K (pic w h px) g t k) := by
  have B0 := hide (bnew W (.cells (pcC w h p n cap cb K) 49))
  have q1 : (t : Int) < (K : Int) := by omega
  have q2 : (0 : Int) ≤ (t : Int) := by omega
  have C0 := hide (hC.keep (unhide B0))
  have hr1 := ((unhide C0).2 t ht).1
  have hP : ∀ r, (g t == k) = r → GvP W cb K (pic w h px) g t k (.returned (.bool r)) (W.alloc (.cells (pcC w h p n cap cb K) 49)) := fun r hr => by
    cases r
    · exact GvP.no g (unhide C0) (Kept.of (unhide B0)) (nv_old (show t < (pic w h px).n by show t < w + h; omega) hgt (by simpa using hr))
    · exact GvP.yes g (unhide C0) (Kept.of (unhide B0)) (gv_old hR (by simpa using hr))
  have HP := hide hP
  have hne : (g t != -1) = true := by simp [hgt]
  clear hP hC hR ht hgt hK
  generalize g t = c at *
  cases hr : (c == k)
  all_goals
    have HQ := hide (unhide HP _ hr)
    clear HP
    go_enter Try.func41, Try.ntmps41
    go_wp2
    go_ret
    exact unhide HQ

set_option maxRecDepth 100000 in
set_option maxHeartbeats 2000000 in
theorem give_any (w h : Nat) (p : Option Addr) (n cap cb K : Nat) (px : Nat → Int) (hK : K = w + h) (N : Nat) : ∀ (W : World) (g : Nat → Int) (t : Nat) (k : Int), Sq W w h p n cb px → CR W cb K g → InR (pic w h px) g → un g K ≤ N → t < K → 0 ≤ k → k ≤ 61 →
    Calls Try.prog 41 #[pcV w h p n cap cb K, .int .i64 t, .int .i64 k] W (GvP W cb K (pic w h px) g t k) := by
  induction N with
  | zero =>
    intro W g t k hS hC hR hu ht h0 h1
    have hgt : g t ≠ -1 := fun e => by
      have := un_lt (f := fun _ => 0) (g := g) (m := K) (t := t) (fun s _ _ => by simp) ht e (by simp)
      omega
    exact give_old hK hC hR ht hgt
  | succ N ih =>
    intro W g t k hS hC hR hu ht h0 h1
    have hKn : (pic w h px).n = K := hK.symm
    have B0 := hide (bnew W (.cells (pcC w h p n cap cb K) 49))
    have hk128 : K ≤ 128 := by have := hS.1.2; have := hS.2.1.2; omega
    have q1 : (t : Int) < (K : Int) := by omega
    have q2 : (0 : Int) ≤ (t : Int) := by omega
    by_cases hgt : g t = -1
    · have hrow := (hC.keep (unhide B0)).2 t ht
      rw [hgt] at hrow
      obtain ⟨hr1, hr2⟩ := hrow
      have hcbl := hC.1
      obtain ⟨w1, hw1⟩ : ∃ w1, (W.alloc (.cells (pcC w h p n cap cb K) 49)).setCell ⟨cb, t, none⟩ (.int .i64 k) = w1 := ⟨_, rfl⟩
      have C1 := hide (show CR w1 cb K (put g t k) by rw [← hw1]; exact (hC.keep (unhide B0)).set t k)
      have K1 := hide (show Kept (fun i => i = cb) W w1 by rw [← hw1]; exact (Kept.of (unhide B0)).trans (kset _ _ _ _))
      have S1 := hide (show Sq w1 w h p n cb px from hS.but (unhide K1))
      have O1 := hide (show OwnP w1 W.heap.size w h p n cap cb K by rw [← hw1]; exact (OwnP.new W w h p n cap cb K 49).but (kset _ cb t _) (by omega))
      have hfr : (if t < w then w else 0 : Nat) ≤ (if t < w then K else w : Nat) := by split <;> omega
      have hto : (if t < w then K else w : Nat) ≤ K := by split <;> omega
      have G0 := hide (GL.start (P := pic w h px) (a := if t < w then w else 0) hgt hR h0 h1 (fun u hx => ((cross_iff hK ht).1 hx).1))
      have Hx := hide (fun u => cross_iff (px := px) (u := u) hK ht)
      have Hu := hide (show ∀ G, Ext (pic w h px) g G → G t = k → un G K ≤ N from fun G hE e => by
        have := hE.un_lt (P := pic w h px) (t := t) (by rw [hKn]; exact ht) hgt (by rw [e]; omega)
        rw [hKn] at this; omega)
      have Hcr := hide (fun V => crossing_any V w h p n cap cb K t)
      have Hk := hide (show k ≠ -1 by omega)
      have Hok := hide hS.ok
      have Ha := hide (show W.heap.size ≠ cb by omega)
      have Htk := hide ht
      generalize (if t < w then w else 0 : Nat) = a at *
      generalize (if t < w then K else w : Nat) = z at *
      have hsz := hide (show W.heap.size < w1.heap.size from (unhide O1).1)
      obtain ⟨_, o0, o1, o2, o3, o4⟩ := unhide O1
      clear hS hC hR hu ht hK hcbl
      go_enter Try.func41, Try.ntmps41
      go_wp2_with (go_at_call 44; refine (unhide Hcr _).mono ?_; rintro e w2 ⟨rfl, hb2⟩)
      clear o0 o1 o2 o3 o4
      have C2 := hide ((unhide C1).keep hb2)
      have K2 := hide ((unhide K1).below hb2)
      have S2 := hide ((unhide S1).keep hb2)
      have O2 := hide ((unhide O1).keep hb2)
      have hcb2 := hide (unhide C2).1
      clear hw1 hb2 C1 K1 S1 O1 hr1 hr2 Hcr
      go_loopw [9] (fun v wr => ∃ (j : Nat) (G : Nat → Int), a ≤ j ∧ j ≤ z ∧ v = .int .i64 j ∧ CR wr cb K G ∧ GL (pic w h px) g t k j G ∧ Kept (fun i => i = cb) w2 wr) (fun v _ => z - (intOf v).toNat)
      case atStart => exact ⟨a, _, Nat.le_refl _, hfr, rfl, unhide C2, unhide G0, Kept.refl _ _⟩
      case round =>
        obtain ⟨j, G, hj1, hj2, rfl, hCr, hG, hKr⟩ := hrel
        have HC := hide hCr
        have HG := hide hG
        have HK := hide hKr
        have SR := hide ((unhide S2).but hKr)
        have OR := hide ((unhide O2).but hKr (unhide Ha))
        clear hCr hG hKr
        by_cases hlt : j < z
        · have hX := hide (((unhide Hx) j).2 ⟨hj1, hlt⟩)
          have qj : (j : Int) < (z : Int) := by omega
          have hzk : (j : Int) ≤ 128 := by omega
          have Hcell := hide (cell_any (unhide SR) cap K t j (unhide hX))
          have Hcol := hide ((unhide Hok).col t j (unhide hX))
          obtain ⟨c, hc⟩ : ∃ c, c = (pic w h px).c t j := ⟨_, rfl⟩
          have Hc := hide hc
          rw [← hc] at Hcell Hcol
          clear hc
          obtain ⟨_, o0, o1, o2, o3, o4⟩ := unhide OR
          by_cases hck : c = k
          · have hne : (c != k) = false := by simp [hck]
            have HN := hide (show GL (pic w h px) g t k (j + 1) G from (unhide HG).skip (by rw [← unhide Hc, hck]))
            clear hck
            go_wp2_with (go_at_call 45; refine (unhide Hcell).mono ?_; rintro e w3 ⟨rfl, hb3⟩)
            go_roundw
            case rel => exact ⟨j + 1, G, by omega, by omega, by go_num, (unhide HC).keep hb3, unhide HN, (unhide HK).below hb3⟩
            case measure => simp [intOf]; omega
          · have hne : (c != k) = true := by simp [hck]
            have HO := hide (fun V (hb : Below wr.heap.size wr V) => (unhide OR).keep hb)
            have HI := hide (show ∀ V, Below wr.heap.size wr V → Calls Try.prog 41 #[pcV w h p n cap cb K, .int .i64 j, .int .i64 c] V (GvP V cb K (pic w h px) G j c) from fun V hb =>
              ih V G j c ((unhide SR).keep hb) ((unhide HC).keep hb) (unhide HG).2.2.2.2.2 (unhide Hu G (unhide HG).1 (unhide HG).2.1) (by omega) (unhide Hcol).1 (unhide Hcol).2)
            have Hck := hide hck
            clear hck
            go_wp2_with (first
              | (go_at_call 45; refine (unhide Hcell).mono ?_; rintro e w3 ⟨rfl, hb3⟩; clear o0 o1 o2 o3 o4; obtain ⟨_, o0, o1, o2, o3, o4⟩ := unhide HO _ hb3)
              | (go_at_call 41; refine (unhide HI _ hb3).mono ?_; rintro e w4 ⟨r, G', rfl, HC4, HK4, hyes, hno⟩; cases r))
            · have Hno := hide (hno trivial)
              clear hno hyes
              go_ret
              refine GvP.no G' HC4 ?_ ?_
              · exact (unhide K2).trans (((unhide HK).below hb3).trans HK4)
              · refine (unhide HG).fail (unhide hX) (by rw [← unhide Hc]; exact unhide Hck) ?_
                rw [← unhide Hc]; exact unhide Hno
            · have Hyes := hide (hyes trivial)
              clear hno hyes
              go_roundw
              case rel =>
                refine ⟨j + 1, G', by omega, by omega, by go_num, HC4, ?_, ((unhide HK).below hb3).trans HK4⟩
                refine (unhide HG).step (unhide Hok) (unhide Hk) (unhide hX) (by rw [← unhide Hc]; exact unhide Hck) ?_
                rw [← unhide Hc]; exact unhide Hyes
              case measure => simp [intOf]; omega
        · obtain rfl : j = z := by omega
          have cl : ¬ ((j : Int) < (j : Int)) := by omega
          go_wp2
          go_ret
          exact GvP.yes G (unhide HC) ((unhide K2).trans (unhide HK)) ((unhide HG).done fun u hx => (((unhide Hx) u).1 hx).2)
    · exact give_old hK hC hR ht hgt
end Go.Proofs.Ytbmgjoocpbikkaa
