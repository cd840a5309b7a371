/-
  What Moved of package group and Keeps of the reference answer.
-/
import Derived.Test.YtpcajcgafmmlkaaGQ
namespace Go.Proofs.Ytpcajcgafmmlkaa
open Go.RowKit

/-- a chart's box that may be written, whatever it holds -/
abbrev R4 (V : World) (b : Nat) : Prop := C4 V b (hat V b 0) (hat V b 1) (hat V b 2) (hat V b 3) ∧ F4 V b
theorem R4.new (W : World) (t : TypeId) : R4 (W.alloc (.cells #[.int .i64 0, .int .i64 0, .int .i64 0, .slice none 0 0] t)) W.heap.size :=
  ⟨C4.hat (v0 := .int .i64 0) (v1 := .int .i64 0) (v2 := .int .i64 0) (v3 := .slice none 0 0) ⟨by simp [go_sem], by simp [go_sem], by simp [go_sem], by simp [go_sem]⟩, by simp [go_sem], by simp [go_sem], by simp [go_sem], by simp [go_sem]⟩
theorem R4.keep {W w1 : World} {b : Nat} (h : R4 W b) (hl : b < W.heap.size) (hb : Below W.heap.size W w1) : R4 w1 b := ⟨(h.1.keep hb hl).hat, h.2.keep hb hl⟩
theorem R4.set {W : World} {b : Nat} (h : R4 W b) (v0 v1 v2 v3 : Value) : R4 ((((W.setCell ⟨b, 0, none⟩ v0).setCell ⟨b, 1, none⟩ v1).setCell ⟨b, 2, none⟩ v2).setCell ⟨b, 3, none⟩ v3) b := by
  obtain ⟨⟨c0, c1, c2, c3⟩, d0, d1, d2, d3⟩ := h
  refine ⟨C4.hat (v0 := v0) (v1 := v1) (v2 := v2) (v3 := v3) ⟨?_, ?_, ?_, ?_⟩, ?_, ?_, ?_, ?_⟩
  all_goals simp [go_sem, c0, c1, c2, c3, d0, d1, d2, d3]
theorem gset4 {a b : World} {o : Nat} (h : a.grownBy b (some o)) (v0 v1 v2 v3 : Value) : a.grownBy ((((b.setCell ⟨o, 0, none⟩ v0).setCell ⟨o, 1, none⟩ v1).setCell ⟨o, 2, none⟩ v2).setCell ⟨o, 3, none⟩ v3) (some o) :=
  gset (gset (gset (gset h 0 v0) 1 v1) 2 v2) 3 v3

def MovedErr (F : Nat) (g w h : Int) (p : Option Addr) (n cap : Nat) (t : Int) (f : Bool) (x y : Int) (W : World) (er : Int) : Prop :=
  Calls Try.prog F #[Ch.ch g w h p n cap, .agg #[.int .i64 t, .bool f, .int .i64 x, .int .i64 y]] W fun e w' => e = .returned (.tuple #[Ch.ch 0 0 0 none 0 0, .int .i64 er]) ∧ Below W.heap.size W w'
/-- the chart that a move makes of a right one -/
def movP (w h N : Nat) (px : Nat → Int) (g : Int) (t : Nat) (f : Bool) (x y : Int) : Nat → Int := mcF (tgtF g t f (x % N) (y % N) N) (tcx w h N px) (N * N)
def MovedOk (F : Nat) (g w h : Int) (p : Option Addr) (n cap : Nat) (t : Int) (f : Bool) (x y : Int) (W : World) (N : Nat) (m : Nat → Int) : Prop :=
  Calls Try.prog F #[Ch.ch g w h p n cap, .agg #[.int .i64 t, .bool f, .int .i64 x, .int .i64 y]] W fun e w' => ∃ q, e = .returned (.tuple #[Ch.ch g N N (some ⟨q, 0, none⟩) (N * N) (N * N), .int .i64 0]) ∧ Ch.Row w' q 0 (N * N) m ∧ Below W.heap.size W w'

set_option maxHeartbeats 1000000 in
theorem moved_err1 (g w h : Int) (p : Option Addr) (n cap : Nat) (px : Nat → Int) (t : Int) (f : Bool) (x y : Int) (W : World) (hc : Ch.Cells W p n px) (er : Int) (her : toE g w h n px = er) (hp : 1 ≤ er) : MovedErr 15 g w h p n cap t f x y W er := by
  have HT := hide (fun V (hc : Ch.Cells V p n px) => torusOf_err g w h p n cap px V hc er her hp)
  have B0 := bal (o := .cells #[.int .i64 0, .int .i64 0, .int .i64 0, .slice none 0 0] 24) (bal (o := .cells #[.int .i64 t, .bool f, .int .i64 x, .int .i64 y] 38) (bal (o := .cells #[.int .i64 g, .int .i64 w, .int .i64 h, .slice p n cap] 24) (Below.refl W.heap.size W)))
  have D0 := R4.new ((W.alloc (.cells #[.int .i64 g, .int .i64 w, .int .i64 h, .slice p n cap] 24)).alloc (.cells #[.int .i64 t, .bool f, .int .i64 x, .int .i64 y] 38)) 24
  simp only [World.size_alloc] at D0
  have hz : W.heap.size + 1 + 1 < (((W.alloc (.cells #[.int .i64 g, .int .i64 w, .int .i64 h, .slice p n cap] 24)).alloc (.cells #[.int .i64 t, .bool f, .int .i64 x, .int .i64 y] 38)).alloc (.cells #[.int .i64 0, .int .i64 0, .int .i64 0, .slice none 0 0] 24)).heap.size := by simp
  have Hc := hide (hc.keep B0)
  have HB := hide B0
  clear her hc B0
  unfold MovedErr
  go_enter Try.func15, Try.ntmps15
  go_wp2_with fail
  generalize ((W.alloc (.cells #[.int .i64 g, .int .i64 w, .int .i64 h, .slice p n cap] 24)).alloc (.cells #[.int .i64 t, .bool f, .int .i64 x, .int .i64 y] 38)).alloc (.cells #[.int .i64 0, .int .i64 0, .int .i64 0, .slice none 0 0] 24) = w0 at *
  refine (unhide HT _ (unhide Hc)).mono ?_
  rintro e w1 ⟨rfl, hb⟩
  have S := btrans (unhide HB) hb
  obtain ⟨⟨d0, d1, d2, d3⟩, f0, f1, f2, f3⟩ := R4.keep D0 hz hb
  have hz1 : W.heap.size + 1 + 1 < w1.heap.size := Nat.lt_of_lt_of_le hz hb.size
  clear hb Hc HB D0
  go_wp2
  exact bodyPost_ret (v := .tuple #[Ch.ch 0 0 0 none 0 0, .int .i64 er]) (by simp [results, Try.results15, go_sem, d0, d1, d2, d3, hz1]) rfl ⟨rfl, bal (bset (bset (bset (bset S (by dsimp only; omega)) (by dsimp only; omega)) (by dsimp only; omega)) (by dsimp only; omega))⟩

set_option maxHeartbeats 2000000 in
theorem moved_err2 (g w h : Int) (p : Option Addr) (n cap : Nat) (px : Nat → Int) (w' h' N b o : Nat) (t : Int) (f : Bool) (x y : Int) (W : World) (r : Right W g w h p n px w' h' N b o) (er : Int) (her : wE g t x y = er) (hp : 1 ≤ er) : MovedErr 15 g w h p n cap t f x y W er := by
  have HT := hide (fun V (r : Right V g w h p n px w' h' N b o) => r.torusOf cap)
  have HW := hide (wrong_any g t f x y)
  rw [her] at HW
  have B0 := bal (o := .cells #[.int .i64 0, .int .i64 0, .int .i64 0, .slice none 0 0] 24) (bal (o := .cells #[.int .i64 t, .bool f, .int .i64 x, .int .i64 y] 38) (bal (o := .cells #[.int .i64 g, .int .i64 w, .int .i64 h, .slice p n cap] 24) (Below.refl W.heap.size W)))
  have D0 := R4.new ((W.alloc (.cells #[.int .i64 g, .int .i64 w, .int .i64 h, .slice p n cap] 24)).alloc (.cells #[.int .i64 t, .bool f, .int .i64 x, .int .i64 y] 38)) 24
  have C0 := ((Ch.OwnC.new W g w h p n cap 24).alloc (.cells #[.int .i64 t, .bool f, .int .i64 x, .int .i64 y] 38)).alloc (.cells #[.int .i64 0, .int .i64 0, .int .i64 0, .slice none 0 0] 24)
  have M0 := (OwnM.new (W.alloc (.cells #[.int .i64 g, .int .i64 w, .int .i64 h, .slice p n cap] 24)) t f x y 38).alloc (.cells #[.int .i64 0, .int .i64 0, .int .i64 0, .slice none 0 0] 24)
  simp only [World.size_alloc] at D0 M0
  have hz : W.heap.size + 1 + 1 < (((W.alloc (.cells #[.int .i64 g, .int .i64 w, .int .i64 h, .slice p n cap] 24)).alloc (.cells #[.int .i64 t, .bool f, .int .i64 x, .int .i64 y] 38)).alloc (.cells #[.int .i64 0, .int .i64 0, .int .i64 0, .slice none 0 0] 24)).heap.size := by simp
  have Hr := hide (r.keep B0)
  have HB := hide B0
  have HC0 := hide C0
  have HM0 := hide M0
  clear her r B0 C0 M0
  unfold MovedErr
  go_enter Try.func15, Try.ntmps15
  go_wp2_with fail
  generalize ((W.alloc (.cells #[.int .i64 g, .int .i64 w, .int .i64 h, .slice p n cap] 24)).alloc (.cells #[.int .i64 t, .bool f, .int .i64 x, .int .i64 y] 38)).alloc (.cells #[.int .i64 0, .int .i64 0, .int .i64 0, .slice none 0 0] 24) = w0 at *
  refine (unhide HT _ (unhide Hr)).mono ?_
  rintro e w1 ⟨q, cp, rfl, -, hb⟩
  have hb1 := bal (o := .cells #[.int .i64 g, .int .i64 N, .slice (some ⟨q, 0, none⟩) (N * N) cp] 51) hb
  have S := btrans (unhide HB) hb1
  have D1 := R4.keep D0 hz hb1
  have hz1 := Nat.lt_of_lt_of_le hz hb1.size
  have c := ((unhide HC0).keep hb1).2
  have m := ((unhide HM0).keep hb1).2.1
  have HD1 := hide D1
  clear hb hb1 Hr HB D0 D1
  generalize N * N = k at *
  go_wp2_with fail
  clear c m
  generalize w1.alloc (.cells #[.int .i64 g, .int .i64 N, .slice (some ⟨q, 0, none⟩) k cp] 51) = w2 at *
  refine (unhide HW _).mono ?_
  rintro e w3 ⟨rfl, hb⟩
  have S2 := btrans S hb
  obtain ⟨⟨d0, d1, d2, d3⟩, f0, f1, f2, f3⟩ := R4.keep (unhide HD1) hz1 hb
  clear hb S HD1
  go_wp2
  exact bodyPost_ret (v := .tuple #[Ch.ch 0 0 0 none 0 0, .int .i64 er]) (by simp [results, Try.results15, go_sem, d0, d1, d2, d3]) rfl ⟨rfl, bset (bset (bset (bset S2 (by dsimp only; omega)) (by dsimp only; omega)) (by dsimp only; omega)) (by dsimp only; omega)⟩

set_option maxHeartbeats 4000000 in
set_option maxRecDepth 100000 in
theorem moved_ok (g w h : Int) (p : Option Addr) (n cap : Nat) (px : Nat → Int) (w' h' N b o : Nat) (t : Nat) (f : Bool) (x y : Int) (W : World) (r : Right W g w h p n px w' h' N b o) (her : wE g t x y = 0) : MovedOk 15 g w h p n cap t f x y W N (movP w' h' N px g t f x y) := by
  have HT := hide (fun V (r : Right V g w h p n px w' h' N b o) => r.torusOf cap)
  have HW := hide (wrong_any g t f x y)
  rw [her] at HW
  have ht := (wE_zero g t x y her).2.1
  have HMC := hide (fun (V : World) (q cp : Nat) (hr : Ch.Row V q 0 (N * N) (tcx w' h' N px)) => movedCells_any g N q (N * N) cp (tcx w' h' N px) t f x y V r.hg ht.2 r.hN1 rfl hr)
  have HV := hide (show movP w' h' N px g t f x y = mcF (tgtF g t f (x % N) (y % N) N) (tcx w' h' N px) (N * N) from rfl)
  rw [unhide HV]
  clear HV
  generalize mcF (tgtF g t f (x % N) (y % N) N) (tcx w' h' N px) (N * N) = mc at *
  generalize tcx w' h' N px = cx at *
  have B0 := bal (o := .cells #[.int .i64 0, .int .i64 0, .int .i64 0, .slice none 0 0] 24) (bal (o := .cells #[.int .i64 t, .bool f, .int .i64 x, .int .i64 y] 38) (bal (o := .cells #[.int .i64 g, .int .i64 w, .int .i64 h, .slice p n cap] 24) (Below.refl W.heap.size W)))
  have D0 := R4.new ((W.alloc (.cells #[.int .i64 g, .int .i64 w, .int .i64 h, .slice p n cap] 24)).alloc (.cells #[.int .i64 t, .bool f, .int .i64 x, .int .i64 y] 38)) 24
  have C0 := ((Ch.OwnC.new W g w h p n cap 24).alloc (.cells #[.int .i64 t, .bool f, .int .i64 x, .int .i64 y] 38)).alloc (.cells #[.int .i64 0, .int .i64 0, .int .i64 0, .slice none 0 0] 24)
  have M0 := (OwnM.new (W.alloc (.cells #[.int .i64 g, .int .i64 w, .int .i64 h, .slice p n cap] 24)) t f x y 38).alloc (.cells #[.int .i64 0, .int .i64 0, .int .i64 0, .slice none 0 0] 24)
  simp only [World.size_alloc] at D0 M0
  have hz : W.heap.size + 1 + 1 < (((W.alloc (.cells #[.int .i64 g, .int .i64 w, .int .i64 h, .slice p n cap] 24)).alloc (.cells #[.int .i64 t, .bool f, .int .i64 x, .int .i64 y] 38)).alloc (.cells #[.int .i64 0, .int .i64 0, .int .i64 0, .slice none 0 0] 24)).heap.size := by simp
  have Hr := hide (r.keep B0)
  have HB := hide B0
  have HC0 := hide C0
  have HM0 := hide M0
  clear her r B0 C0 M0
  unfold MovedOk
  go_enter Try.func15, Try.ntmps15
  go_wp2_with fail
  generalize ((W.alloc (.cells #[.int .i64 g, .int .i64 w, .int .i64 h, .slice p n cap] 24)).alloc (.cells #[.int .i64 t, .bool f, .int .i64 x, .int .i64 y] 38)).alloc (.cells #[.int .i64 0, .int .i64 0, .int .i64 0, .slice none 0 0] 24) = w0 at *
  refine (unhide HT _ (unhide Hr)).mono ?_
  rintro e w1 ⟨q, cp, rfl, hrow, hb⟩
  have hb1 := bal (o := .cells #[.int .i64 g, .int .i64 N, .slice (some ⟨q, 0, none⟩) (N * N) cp] 51) hb
  have S := btrans (unhide HB) hb1
  have D1 := R4.keep D0 hz hb1
  have hz1 := Nat.lt_of_lt_of_le hz hb1.size
  have hz0 := Nat.lt_of_lt_of_le hz hb.size
  have c := ((unhide HC0).keep hb1).2
  have HM1 := hide ((unhide HM0).keep hb1)
  have m := (unhide HM1).2.1
  have HD1 := hide D1
  have HR1 := hide (hrow.keep (bal (o := .cells #[.int .i64 g, .int .i64 N, .slice (some ⟨q, 0, none⟩) (N * N) cp] 51) (Below.refl _ _)))
  have HT1 := hide (OwnT.new w1 g N (some ⟨q, 0, none⟩) (N * N) cp 51)
  clear hb hb1 Hr HB D0 D1 hrow
  generalize hkk : N * N = k at *
  have Hkk := hide hkk
  clear hkk
  go_wp2_with fail
  clear c m
  generalize w1.alloc (.cells #[.int .i64 g, .int .i64 N, .slice (some ⟨q, 0, none⟩) k cp] 51) = w2 at *
  refine (unhide HW _).mono ?_
  rintro e w3 ⟨rfl, hb⟩
  have S2 := btrans S hb
  have D3 := R4.keep (unhide HD1) hz1 hb
  have hz3 := Nat.lt_of_lt_of_le hz1 hb.size
  have T3 := (unhide HT1).keep hb
  have M3 := (unhide HM1).keep hb
  have HMC3 := hide (fun V (hV : Below w3.heap.size w3 V) => unhide HMC V q cp (((unhide HR1).keep hb).keep hV))
  have n1 : some w1.heap.size ≠ some (W.heap.size + 1 + 1) := fun e => by have := Option.some.inj e; omega
  have n2 : some (W.heap.size + 1) ≠ some (W.heap.size + 1 + 1) := fun e => by have := Option.some.inj e; omega
  have Mk := hide (show ∀ V, w3.grownBy V (some (W.heap.size + 1 + 1)) → (V.cell? ⟨w1.heap.size, 0, none⟩ = some (.int .i64 g) ∧ V.cell? ⟨w1.heap.size, 1, none⟩ = some (.int .i64 N) ∧ V.cell? ⟨w1.heap.size, 2, none⟩ = some (.slice (some ⟨q, 0, none⟩) k cp)) ∧ CM V (W.heap.size + 1) t f x y from fun V hV =>
    ⟨(T3.grown hV n1).2, gcell hV M3.1 n2 M3.2.1.1, gcell hV M3.1 n2 M3.2.1.2.1, gcell hV M3.1 n2 M3.2.1.2.2.1, gcell hV M3.1 n2 M3.2.1.2.2.2⟩)
  have HD3 := hide D3
  clear hb S HD1 T3 M3 n1 n2 HT1 HM1 HR1 D3
  go_wp2_with fail
  have hb2 := True.intro
  go_region_held3 (fun V => (w3.grownBy V (some (W.heap.size + 1 + 1)) ∧ w3.heap.size ≤ V.heap.size) ∧ ((V.cell? ⟨w1.heap.size, 0, none⟩ = some (.int .i64 g) ∧ V.cell? ⟨w1.heap.size, 1, none⟩ = some (.int .i64 N) ∧ V.cell? ⟨w1.heap.size, 2, none⟩ = some (.slice (some ⟨q, 0, none⟩) k cp)) ∧ CM V (W.heap.size + 1) t f x y) ∧ R4 V (W.heap.size + 1 + 1))
    (first
      | (exact ⟨⟨gbelow _ (Below.drew (Below.refl _ _)), Nat.le_refl _⟩, unhide Mk _ (gbelow _ (Below.drew (Below.refl _ _))), R4.keep (unhide HD3) hz3 (Below.drew (Below.refl _ _))⟩)
      | (exact ⟨⟨gbelow _ hb2, hb2.size⟩, unhide Mk _ (gbelow _ hb2), R4.keep (unhide HD3) hz3 hb2⟩)
      | (exact ⟨⟨gset4 (gbelow _ hb2) _ _ _ _, by simpa using hb2.size⟩, unhide Mk _ (gset4 (gbelow _ hb2) _ _ _ _), R4.set (R4.keep (unhide HD3) hz3 hb2) _ _ _ _⟩))
    (first
      | (go_at_call 31; refine (unhide HMC3 _ (Below.drew (Below.refl _ _))).mono ?_; rintro e w5 ⟨qm, rfl, ⟨hrowm, hqf⟩, hb⟩; have hb2 := btrans (Below.drew (Below.refl w3.heap.size w3)) hb))
  have S5 := btrans S2 hb2
  have hzm : W.heap.size + 1 + 1 < w5.heap.size := Nat.lt_of_lt_of_le hz3 hb2.size
  obtain ⟨⟨d0, d1, d2, d3⟩, f0, f1, f2, f3⟩ := R4.keep (unhide HD3) hz3 hb2
  have Hrow := hide hrowm
  have hqm : qm ≠ W.heap.size + 1 + 1 := by have : w3.heap.size ≤ qm := hqf; omega
  clear hb hrowm Mk HD3
  go_wp2
  refine bodyPost_ret (v := .tuple #[Ch.ch g N N (some ⟨qm, 0, none⟩) k k, .int .i64 0]) (by simp [results, Try.results15, go_sem, d0, d1, d2, d3]) rfl ⟨qm, by rw [unhide Hkk], ?_, bset (bset (bset (bset S5 (by dsimp only; omega)) (by dsimp only; omega)) (by dsimp only; omega)) (by dsimp only; omega)⟩
  rw [unhide Hkk]
  exact row_far (row_far (row_far (row_far (unhide Hrow) hqm.symm) hqm.symm) hqm.symm) hqm.symm

end Go.Proofs.Ytpcajcgafmmlkaa
