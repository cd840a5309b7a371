/-
  Finest: what it answers of a right chart, and of a wrong one.
-/
import Derived.Test.YtpcajcgafmmlkaaDoorHC0
namespace Go.Proofs.YtpcajcgafmmlkaaDoor
open Go.RowKit

def FinestErr (g w h : Int) (p : Option Addr) (n cap : Nat) (W : World) (er : Int) : Prop :=
  Calls Tryd.prog 24 #[Ch.ch g w h p n cap] W fun e w' => e = .returned (.tuple #[.agg #[.int .i64 0, .int .i64 0], .agg #[.int .i64 0, .int .i64 0], .int .i64 er]) ∧ Below W.heap.size W w'
abbrev F2 (V : World) (b : Nat) : Prop := V.frozen? ⟨b, 0, none⟩ = false ∧ V.frozen? ⟨b, 1, none⟩ = false
abbrev C2 (V : World) (b : Nat) (v0 v1 : Value) : Prop := V.cell? ⟨b, 0, none⟩ = some v0 ∧ V.cell? ⟨b, 1, none⟩ = some v1
theorem C2.keep {W V : World} {b : Nat} {v0 v1 : Value} (h : C2 W b v0 v1) (hb : Below W.heap.size W V) (hl : b < W.heap.size) : C2 V b v0 v1 := ⟨keepC hb hl h.1, keepC hb hl h.2⟩
theorem F2.keep {W V : World} {b : Nat} (h : F2 W b) (hb : Below W.heap.size W V) (hl : b < W.heap.size) : F2 V b := ⟨keepF hb hl h.1, keepF hb hl h.2⟩
theorem C2.hat {W : World} {b : Nat} {v0 v1 : Value} (h : C2 W b v0 v1) : C2 W b (hat W b 0) (hat W b 1) := ⟨hat_of h.1, hat_of h.2⟩
theorem C2.put {W : World} {b : Nat} {v0 v1 : Value} (h : C2 W b v0 v1) (u0 u1 : Value) : C2 ((W.setCell ⟨b, 0, none⟩ u0).setCell ⟨b, 1, none⟩ u1) b u0 u1 := by
  obtain ⟨h0, h1⟩ := h
  exact ⟨by simp [go_sem, h0], by simp [go_sem, h1]⟩
theorem C2.far {W : World} {b c : Nat} {v0 v1 : Value} (h : C2 W b v0 v1) (u0 u1 : Value) (hn : b ≠ c) : C2 ((W.setCell ⟨c, 0, none⟩ u0).setCell ⟨c, 1, none⟩ u1) b v0 v1 := by
  obtain ⟨h0, h1⟩ := h
  exact ⟨by simp [go_sem, h0], by simp [go_sem, h1]⟩
theorem F2.set {W : World} {b c : Nat} (h : F2 W b) (u0 u1 : Value) : F2 ((W.setCell ⟨c, 0, none⟩ u0).setCell ⟨c, 1, none⟩ u1) b := by
  obtain ⟨h0, h1⟩ := h
  exact ⟨by simp [go_sem, h0], by simp [go_sem, h1]⟩

set_option maxHeartbeats 1000000 in
theorem finest_err (g w h : Int) (p : Option Addr) (n cap : Nat) (px : Nat → Int) (W : World) (hc : Ch.Cells W p n px) (er : Int) (her : toE g w h n px = er) (hp : 1 ≤ er) : FinestErr g w h p n cap W er := by
  have HT := hide (fun V (hc : Ch.Cells V p n px) => torusOf_err g w h p n cap px V hc er her hp)
  have B0 := bal (o := .cells #[.int .i64 0, .int .i64 0] 33) (bal (o := .cells #[.int .i64 0, .int .i64 0] 33) (bal (o := .cells #[.int .i64 g, .int .i64 w, .int .i64 h, .slice p n cap] 24) (Below.refl W.heap.size W)))
  have Hc := hide (hc.keep B0)
  have HB := hide B0
  have A0 := (Own.new (W.alloc (.cells #[.int .i64 g, .int .i64 w, .int .i64 h, .slice p n cap] 24)) 0 0 33).alloc (.cells #[.int .i64 0, .int .i64 0] 33)
  have A1 := Own.new ((W.alloc (.cells #[.int .i64 g, .int .i64 w, .int .i64 h, .slice p n cap] 24)).alloc (.cells #[.int .i64 0, .int .i64 0] 33)) 0 0 33
  simp only [World.size_alloc] at A0 A1
  have hee : (er != 0) = true := by simp; omega
  clear hc B0 hp her
  unfold FinestErr
  go_enter Tryd.func24, Tryd.ntmps24
  go_wp2_with fail
  generalize ((W.alloc (.cells #[.int .i64 g, .int .i64 w, .int .i64 h, .slice p n cap] 24)).alloc (.cells #[.int .i64 0, .int .i64 0] 33)).alloc (.cells #[.int .i64 0, .int .i64 0] 33) = w0 at *
  refine (unhide HT _ (unhide Hc)).mono ?_
  rintro e w1 ⟨rfl, hb⟩
  have hb1 := bal (o := .cells #[.int .i64 0, .int .i64 0, .slice none 0 0] 74) hb
  have S := btrans (unhide HB) hb1
  obtain ⟨ha0, ⟨a0, a1⟩, f0, f1⟩ := A0.keep hb1
  obtain ⟨hb0, ⟨b0, b1⟩, f2, f3⟩ := A1.keep hb1
  clear hb hb1 Hc HB A0 A1
  go_wp2
  exact bodyPost_ret (v := .tuple #[.agg #[.int .i64 0, .int .i64 0], .agg #[.int .i64 0, .int .i64 0], .int .i64 er]) (by simp [results, Tryd.results24, go_sem, a0, a1, b0, b1]) rfl ⟨rfl, bset (bset (bset (bset S (by dsimp only; omega)) (by dsimp only; omega)) (by dsimp only; omega)) (by dsimp only; omega)⟩

/-- what holds in every world of the last statement -/
abbrev SF (a b c : Nat) (s : Nat) (g : Int) (N : Nat) (q k cp : Nat) (V : World) : Prop :=
  C2 V a (.int .i64 s) (.int .i64 0) ∧ F2 V a ∧ C2 V b (hat V b 0) (hat V b 1) ∧ F2 V b ∧ (V.cell? ⟨c, 0, none⟩ = some (.int .i64 g) ∧ V.cell? ⟨c, 1, none⟩ = some (.int .i64 N) ∧ V.cell? ⟨c, 2, none⟩ = some (.slice (some ⟨q, 0, none⟩) k cp))
theorem SF.keep {a b c s : Nat} {g : Int} {N q k cp : Nat} {W V : World} (h : SF a b c s g N q k cp W) (hb : Below W.heap.size W V) (ha : a < W.heap.size) (hb' : b < W.heap.size) (hc : c < W.heap.size) : SF a b c s g N q k cp V :=
  ⟨h.1.keep hb ha, h.2.1.keep hb ha, (h.2.2.1.keep hb hb').hat, h.2.2.2.1.keep hb hb', keepC hb hc h.2.2.2.2.1, keepC hb hc h.2.2.2.2.2.1, keepC hb hc h.2.2.2.2.2.2⟩
theorem SF.setA {a b c s : Nat} {g : Int} {N q k cp : Nat} {W : World} (h : SF a b c s g N q k cp W) (hab : b ≠ a) (hac : c ≠ a) : SF a b c s g N q k cp ((W.setCell ⟨a, 0, none⟩ (.int .i64 s)).setCell ⟨a, 1, none⟩ (.int .i64 0)) := by
  obtain ⟨h1, h2, h3, h4, h5, h6, h7⟩ := h
  exact ⟨h1.put _ _, h2.set _ _, (h3.far _ _ hab).hat, h4.set _ _, by simp [go_sem, h5], by simp [go_sem, h6], by simp [go_sem, h7]⟩
theorem SF.setB {a b c s : Nat} {g : Int} {N q k cp : Nat} {W : World} (h : SF a b c s g N q k cp W) (u0 u1 : Value) (hab : a ≠ b) (hbc : c ≠ b) : SF a b c s g N q k cp ((W.setCell ⟨b, 0, none⟩ u0).setCell ⟨b, 1, none⟩ u1) := by
  obtain ⟨h1, h2, h3, h4, h5, h6, h7⟩ := h
  exact ⟨h1.far _ _ hab, h2.set _ _, (h3.put _ _).hat, h4.set _ _, by simp [go_sem, h5], by simp [go_sem, h6], by simp [go_sem, h7]⟩

def FinestOk (g w h : Int) (p : Option Addr) (n cap : Nat) (W : World) (K : Nat → Nat → Bool) (N : Nat) : Prop :=
  Calls Tryd.prog 24 #[Ch.ch g w h p n cap] W fun e w' => ∃ s u v : Nat, e = .returned (.tuple #[.agg #[.int .i64 s, .int .i64 0], .agg #[.int .i64 u, .int .i64 v], .int .i64 0]) ∧ (SideIs K N s ∧ UpIs K N s u v) ∧ Below W.heap.size W w'

set_option maxHeartbeats 4000000 in
set_option maxRecDepth 100000 in
theorem finest_ok (g w h : Int) (p : Option Addr) (n cap : Nat) (px : Nat → Int) (w' h' N b o : Nat) (W : World) (r : Right W g w h p n px w' h' N b o) : FinestOk g w h p n cap W (stepK w' h' N px g) N := by
  have HT := hide (fun V (r : Right V g w h p n px w' h' N b o) => r.torusNew cap)
  have HS := hide (fun (V : World) (q cp : Nat) (hr : Ch.Row V q 0 (N * N) (tcx w' h' N px)) => sideStep_any g N q (N * N) cp w' h' px V r.hg r.hN1 rfl hr)
  have HU := hide (fun (V : World) (q cp s : Nat) (hs : 1 ≤ s ∧ s ≤ N) (hr : Ch.Row V q 0 (N * N) (tcx w' h' N px)) => upStep_any g N q (N * N) cp w' h' px s V r.hg r.hN1 rfl hs hr)
  generalize stepK w' h' N px g = K at *
  generalize tcx w' h' N px = cx at *
  have B0 := bal (o := .cells #[.int .i64 0, .int .i64 0] 33) (bal (o := .cells #[.int .i64 0, .int .i64 0] 33) (bal (o := .cells #[.int .i64 g, .int .i64 w, .int .i64 h, .slice p n cap] 24) (Below.refl W.heap.size W)))
  have Hr := hide (r.keep B0)
  have HB := hide B0
  have A0 := (Own.new (W.alloc (.cells #[.int .i64 g, .int .i64 w, .int .i64 h, .slice p n cap] 24)) 0 0 33).alloc (.cells #[.int .i64 0, .int .i64 0] 33)
  have A1 := Own.new ((W.alloc (.cells #[.int .i64 g, .int .i64 w, .int .i64 h, .slice p n cap] 24)).alloc (.cells #[.int .i64 0, .int .i64 0] 33)) 0 0 33
  simp only [World.size_alloc] at A0 A1
  have HA0 := hide A0
  have HA1 := hide A1
  clear r B0 A0 A1
  unfold FinestOk
  go_enter Tryd.func24, Tryd.ntmps24
  go_wp2_with fail
  generalize ((W.alloc (.cells #[.int .i64 g, .int .i64 w, .int .i64 h, .slice p n cap] 24)).alloc (.cells #[.int .i64 0, .int .i64 0] 33)).alloc (.cells #[.int .i64 0, .int .i64 0] 33) = w0 at *
  refine (unhide HT _ (unhide Hr)).mono ?_
  rintro e w1 ⟨q, cp, rfl, ⟨hrow, hqf⟩, hb⟩
  generalize N * N = k at *
  have hb1 := bal (o := .cells #[.int .i64 g, .int .i64 N, .slice (some ⟨q, 0, none⟩) k cp] 74) hb
  have S := btrans (unhide HB) hb1
  have HA2 := hide ((unhide HA0).keep hb1)
  have HA3 := hide ((unhide HA1).keep hb1)
  have HR1 := hide (hrow.keep (bal (o := .cells #[.int .i64 g, .int .i64 N, .slice (some ⟨q, 0, none⟩) k cp] 74) (Below.refl _ _)))
  have HT1 := hide (OwnT.new w1 g N (some ⟨q, 0, none⟩) k cp 74)
  have hz1 : W.heap.size + 1 + 1 < w1.heap.size := Nat.lt_of_lt_of_le (unhide HA1).1 hb.size
  have HZ := hide (show W.heap.size + 1 + 1 < w1.heap.size ∧ w0.heap.size ≤ q ∧ W.heap.size + 1 + 1 < w0.heap.size from ⟨hz1, hqf, (unhide HA1).1⟩)
  have t := (unhide HT1).2
  clear hb hb1 Hr HB HA0 HA1 hrow hz1 hqf
  go_wp2_with fail
  clear t
  generalize w1.alloc (.cells #[.int .i64 g, .int .i64 N, .slice (some ⟨q, 0, none⟩) k cp] 74) = w2 at *
  generalize w1.heap.size = c at *
  refine (unhide HS _ _ _ (unhide HR1)).mono ?_
  rintro e w3 ⟨s, rfl, hside, hb⟩
  have S3 := btrans S hb
  have A3 := (unhide HA2).keep hb
  have B3 := (unhide HA3).keep hb
  have T3 := (unhide HT1).keep hb
  have HR3 := hide ((unhide HR1).keep hb)
  have hz0 := (unhide HZ).1
  have hq1 : W.heap.size + 1 + 1 < q := by have := (unhide HZ).2; omega
  have hcz := T3.1
  have hA3 := A3.1
  have hB3 := B3.1
  have hac : c ≠ W.heap.size + 1 := by omega
  have hbc : c ≠ W.heap.size + 1 + 1 := by omega
  have HF4 := hide (show SF (W.heap.size + 1) (W.heap.size + 1 + 1) c s g N q k cp ((w3.setCell ⟨W.heap.size + 1, 0, none⟩ (.int .i64 s)).setCell ⟨W.heap.size + 1, 1, none⟩ (.int .i64 0)) from
    ⟨C2.put A3.2.1 _ _, F2.set A3.2.2 _ _, (C2.far B3.2.1 _ _ (by omega)).hat, F2.set B3.2.2 _ _, by have := T3.2.1; simp [go_sem, this], by have := T3.2.2.1; simp [go_sem, this], by have := T3.2.2.2; simp [go_sem, this]⟩)
  have HR4 := hide (show Ch.Row ((w3.setCell ⟨W.heap.size + 1, 0, none⟩ (.int .i64 s)).setCell ⟨W.heap.size + 1, 1, none⟩ (.int .i64 0)) q 0 k cx from row_far (row_far (unhide HR3) (by omega)) (by omega))
  have HS4 := hide (show Below W.heap.size W ((w3.setCell ⟨W.heap.size + 1, 0, none⟩ (.int .i64 s)).setCell ⟨W.heap.size + 1, 1, none⟩ (.int .i64 0)) from bset (bset S3 (by dsimp only; omega)) (by dsimp only; omega))
  have hs4 : w3.heap.size = ((w3.setCell ⟨W.heap.size + 1, 0, none⟩ (.int .i64 s)).setCell ⟨W.heap.size + 1, 1, none⟩ (.int .i64 0)).heap.size := by simp
  obtain ⟨-, ⟨a0, a1⟩, f0, f1⟩ := A3
  clear hb S S3 B3 T3 HR3 HR1 HA2 HA3 HT1
  have HUs := hide (fun V (hV : Ch.Row V q 0 k cx) => unhide HU V q cp s hside.1 hV)
  have Hside := hide hside
  clear hside HU HS HT
  go_wp2_with fail
  clear a0 a1 f0 f1
  generalize (w3.setCell ⟨W.heap.size + 1, 0, none⟩ (.int .i64 s)).setCell ⟨W.heap.size + 1, 1, none⟩ (.int .i64 0) = w4 at *
  rw [hs4] at hcz hA3 hB3
  clear hs4
  have n1 : W.heap.size + 1 + 1 ≠ W.heap.size + 1 := by omega
  have n2 : W.heap.size + 1 ≠ W.heap.size + 1 + 1 := by omega
  have hb2 := True.intro
  go_region_held3 (fun V => SF (W.heap.size + 1) (W.heap.size + 1 + 1) c s g N q k cp V)
    (first
      | (exact (unhide HF4).keep (Below.drew (Below.refl _ _)) hA3 hB3 hcz)
      | (exact (unhide HF4).keep hb2 hA3 hB3 hcz)
      | (exact ((unhide HF4).keep hb2 hA3 hB3 hcz).setA n1 hac)
      | (exact (((unhide HF4).keep hb2 hA3 hB3 hcz).setA n1 hac).setB _ _ n2 hbc))
    (first
      | (go_at_call 42; refine (unhide HUs _ ((unhide HR4).keep (Below.drew (Below.refl _ _)))).mono ?_; rintro e w5 ⟨u, v, rfl, hup, hb⟩; have hb2 := btrans (Below.drew (Below.refl w4.heap.size w4)) hb))
  have SF5 := (unhide HF4).keep hb2 hA3 hB3 hcz
  obtain ⟨⟨a0, a1⟩, -, ⟨b0, b1⟩, -, -⟩ := SF5
  have S5 := btrans (unhide HS4) hb2
  clear hb HF4 HS4 HR4 HUs hb2
  go_wp2
  exact bodyPost_ret (v := .tuple #[.agg #[.int .i64 s, .int .i64 0], .agg #[.int .i64 u, .int .i64 v], .int .i64 0]) (by simp [results, Tryd.results24, go_sem, a0, a1, b0, b1]) rfl ⟨s, u, v, rfl, ⟨unhide Hside, hup⟩, bset (bset (bset (bset S5 (by dsimp only; omega)) (by dsimp only; omega)) (by dsimp only; omega)) (by dsimp only; omega)⟩
end Go.Proofs.YtpcajcgafmmlkaaDoor
