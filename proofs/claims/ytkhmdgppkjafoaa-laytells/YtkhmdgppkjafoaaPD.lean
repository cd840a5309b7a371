/-
  (shelves).lay of package lay: where a piece begins.
-/
import Derived.Test.YtkhmdgppkjafoaaPC
namespace Go.Proofs.Ytkhmdgppkjafoaa
open Go.RowKit

/-- four numbers in a box that may be written -/
def S4 (V : World) (S : Nat) (c0 c1 c2 c3 : Int) : Prop := S < V.heap.size ∧ (V.cell? ⟨S, 0, none⟩ = some (.int .i64 c0) ∧ V.cell? ⟨S, 1, none⟩ = some (.int .i64 c1) ∧ V.cell? ⟨S, 2, none⟩ = some (.int .i64 c2) ∧ V.cell? ⟨S, 3, none⟩ = some (.int .i64 c3)) ∧ ∀ j, V.frozen? ⟨S, j, none⟩ = false
theorem S4.keep {w V : World} {S : Nat} {c0 c1 c2 c3 : Int} (h : S4 w S c0 c1 c2 c3) (hb : Below w.heap.size w V) : S4 V S c0 c1 c2 c3 :=
  ⟨Nat.lt_of_lt_of_le h.1 hb.size, ⟨keepC hb h.1 h.2.1.1, keepC hb h.1 h.2.1.2.1, keepC hb h.1 h.2.1.2.2.1, keepC hb h.1 h.2.1.2.2.2⟩, fun j => keepF hb h.1 (h.2.2 j)⟩
theorem S4.kept {T : Nat → Prop} {w V : World} {S : Nat} {c0 c1 c2 c3 : Int} (h : S4 w S c0 c1 c2 c3) (k : Kept T w V) (hT : ¬ T S) : S4 V S c0 c1 c2 c3 :=
  ⟨Nat.lt_of_lt_of_le h.1 k.size, ⟨k.cell h.1 hT h.2.1.1, k.cell h.1 hT h.2.1.2.1, k.cell h.1 hT h.2.1.2.2.1, k.cell h.1 hT h.2.1.2.2.2⟩, fun j => k.froz h.1 hT (h.2.2 j)⟩
theorem S4.put1 {w : World} {S : Nat} {c0 c1 c2 c3 : Int} (h : S4 w S c0 c1 c2 c3) (u : Int) : S4 (w.setCell ⟨S, 1, none⟩ (.int .i64 u)) S c0 u c2 c3 := by
  obtain ⟨l, ⟨a0, a1, a2, a3⟩, f⟩ := h
  exact ⟨by simpa using l, ⟨cset a0 (by decide), csame a1, cset a2 (by decide), cset a3 (by decide)⟩, fun j => fset (f j)⟩
theorem S4.put2 {w : World} {S : Nat} {c0 c1 c2 c3 : Int} (h : S4 w S c0 c1 c2 c3) (u : Int) : S4 (w.setCell ⟨S, 2, none⟩ (.int .i64 u)) S c0 c1 u c3 := by
  obtain ⟨l, ⟨a0, a1, a2, a3⟩, f⟩ := h
  exact ⟨by simpa using l, ⟨cset a0 (by decide), cset a1 (by decide), csame a2, cset a3 (by decide)⟩, fun j => fset (f j)⟩
theorem S4.put3 {w : World} {S : Nat} {c0 c1 c2 c3 : Int} (h : S4 w S c0 c1 c2 c3) (u : Int) : S4 (w.setCell ⟨S, 3, none⟩ (.int .i64 u)) S c0 c1 c2 u := by
  obtain ⟨l, ⟨a0, a1, a2, a3⟩, f⟩ := h
  exact ⟨by simpa using l, ⟨cset a0 (by decide), cset a1 (by decide), cset a2 (by decide), csame a3⟩, fun j => fset (f j)⟩
/-- a pair in a box that may be written -/
def B2w (W : World) (g : Nat) (a b : Int) : Prop := B2 W g a b ∧ ∀ j, W.frozen? ⟨g, j, none⟩ = false
theorem B2w.kept {T : Nat → Prop} {w V : World} {g : Nat} {a b : Int} (h : B2w w g a b) (k : Kept T w V) (hT : ¬ T g) : B2w V g a b :=
  ⟨⟨Nat.lt_of_lt_of_le h.1.1 k.size, k.cell h.1.1 hT h.1.2.1, k.cell h.1.1 hT h.1.2.2⟩, fun j => k.froz h.1.1 hT (h.2 j)⟩
theorem B2.kept {T : Nat → Prop} {w V : World} {g : Nat} {a b : Int} (h : B2 w g a b) (k : Kept T w V) (hT : ¬ T g) : B2 V g a b :=
  ⟨Nat.lt_of_lt_of_le h.1 k.size, k.cell h.1 hT h.2.1, k.cell h.1 hT h.2.2⟩
theorem B2w.new (W : World) (a b : Int) (t : TypeId) : B2w (W.alloc (.cells #[.int .i64 a, .int .i64 b] t)) W.heap.size a b :=
  ⟨B2.new W a b t, fun j => by simp [go_sem]⟩
/-- what lies about when a piece is laid: the shelves, the piece, the room for the answer -/
def Lt (w : World) (S p r : Nat) (c0 c1 c2 c3 a b : Int) (V : World) : Prop := S4 V S c0 c1 c2 c3 ∧ B2 V p a b ∧ B2w V r 0 0 ∧ Kept (fun i => i = S) w V ∧ (w.heap.size ≤ p ∧ w.heap.size ≤ r ∧ S ≠ p ∧ S ≠ r)
theorem Lt.keep {w V V' : World} {S p r : Nat} {c0 c1 c2 c3 a b : Int} (h : Lt w S p r c0 c1 c2 c3 a b V) (hb : Below V.heap.size V V') : Lt w S p r c0 c1 c2 c3 a b V' :=
  ⟨h.1.keep hb, h.2.1.keep hb, h.2.2.1.kept (Kept.of (S := fun _ => False) hb) (fun q => q), h.2.2.2.1.below hb, h.2.2.2.2⟩
theorem Lt.set {w V : World} {S p r o : Nat} {c0 c1 c2 c3 c0' c1' c2' c3' a b u : Int} (h : Lt w S p r c0 c1 c2 c3 a b V) (hS : S4 (V.setCell ⟨S, o, none⟩ (.int .i64 u)) S c0' c1' c2' c3') : Lt w S p r c0' c1' c2' c3' a b (V.setCell ⟨S, o, none⟩ (.int .i64 u)) :=
  ⟨hS, h.2.1.kept (kset _ _ _ _) (fun q => h.2.2.2.2.2.2.1 q.symm), h.2.2.1.kept (kset _ _ _ _) (fun q => h.2.2.2.2.2.2.2 q.symm), h.2.2.2.1.set _ _ (.inl rfl), h.2.2.2.2⟩

/-- shelves in their box -/
def SX (V : World) (S W : Nat) (s : Sh) : Prop := S4 V S (W : Int) ((W - s.x : Nat) : Int) (s.f : Int) (s.t : Int)
/-- where a piece begins is told -/
def PT (w : World) (S W : Nat) (s : Sh) (a : Nat) (e : Ending) (V : World) : Prop := e = .returned (pV ((s.x - a : Nat) : Int) (s.f : Int)) ∧ SX V S W s ∧ Kept (fun i => i = S) w V

set_option maxRecDepth 100000 in
set_option maxHeartbeats 4000000 in
theorem lay14_any (S W a b : Nat) (s : Sh) (hx : s.x ≤ W) (hW : W ≤ 1048576) (ha : a ≤ W) (hb : b ≤ 1048576) (ht : s.t ≤ 268435456) (w : World) (hS : SX w S W s) : Calls Try.prog 14 #[.pointer (some ⟨S, 0, none⟩), pV (a : Int) (b : Int)] w (PT w S W (s.lay W a b) a) := by
  unfold pV
  obtain ⟨p, hp⟩ : ∃ p, w.heap.size = p := ⟨_, rfl⟩
  obtain ⟨r, hr⟩ : ∃ r, p + 1 = r := ⟨_, rfl⟩
  obtain ⟨rm, hrm⟩ : ∃ rm, rm = W - s.x := ⟨_, rfl⟩
  obtain ⟨x, f, t⟩ := s
  simp only at hx ht hrm
  have HL := hide (show Lt w S p r (W : Int) (rm : Int) (f : Int) (t : Int) (a : Int) (b : Int) ((w.alloc (.cells #[.int .i64 (a : Int), .int .i64 (b : Int)] 33)).alloc (.cells #[.int .i64 0, .int .i64 0] 35)) from by
    have hl := hS.1
    have e : (w.alloc (.cells #[.int .i64 (a : Int), .int .i64 (b : Int)] 33)).heap.size = r := by simp; omega
    have hbb := bal (o := .cells #[.int .i64 0, .int .i64 0] 35) (bnew w (.cells #[.int .i64 (a : Int), .int .i64 (b : Int)] 33))
    refine ⟨by rw [hrm]; exact S4.keep hS hbb, by rw [← hp]; exact (B2.new w (a : Int) (b : Int) 33).keep (bnew _ _), ?_, Kept.of hbb, by omega⟩
    have := B2w.new (w.alloc (.cells #[.int .i64 (a : Int), .int .i64 (b : Int)] 33)) 0 0 35
    rw [e] at this
    exact this)
  have Hrm := hide hrm
  clear hS hrm
  go_enter Try.func14, Try.ntmps14
  go_upto_region 1 with fail
  generalize (w.alloc (.cells #[.int .i64 (a : Int), .int .i64 (b : Int)] 33)).alloc (.cells #[.int .i64 0, .int .i64 0] 35) = w1 at *
  try simp only [hp, hr]
  have Hpr := hide (And.intro hp hr)
  clear hp hr
  have hrm0 : rm ≤ W := by have := unhide Hrm; omega
  by_cases c : rm < a
  · have c' : (rm : Int) < (a : Int) := by omega
    have Hlay := hide (show Sh.lay W a b ⟨x, f, t⟩ = ⟨a, t, t + b⟩ by unfold Sh.lay; rw [if_pos (show W < x + a by have := unhide Hrm; omega)])
    obtain ⟨s0, s1, s2, s3⟩ := (unhide HL).1.2.1
    have f1 := (unhide HL).1.2.2 1
    have f2 := (unhide HL).1.2.2 2
    have f3 := (unhide HL).1.2.2 3
    obtain ⟨-, p0, p1⟩ := (unhide HL).2.1
    obtain ⟨⟨-, r0, r1⟩, fr⟩ := (unhide HL).2.2.1
    have g0 := fr 0
    have g1 := fr 1
    clear fr
    go_wp2_with fail
    go_quiet (fail)
    have HL2 := hide ((unhide HL).keep (Joins.below_draws _ w1 nq))
    generalize w1.drewN nq = w2 at *
    clear s0 s1 s2 s3 f1 f2 f3 p0 p1 r0 r1 g0 g1
    clear HL
    obtain ⟨s0, s1, s2, s3⟩ := (unhide HL2).1.2.1
    have f1 := (unhide HL2).1.2.2 1
    have f2 := (unhide HL2).1.2.2 2
    have f3 := (unhide HL2).1.2.2 3
    obtain ⟨-, p0, p1⟩ := (unhide HL2).2.1
    obtain ⟨⟨-, r0, r1⟩, fr⟩ := (unhide HL2).2.2.1
    have g0 := fr 0
    have g1 := fr 1
    clear fr
    go_upto_region 4 with fail
    have HL3 := hide ((unhide HL2).set ((unhide HL2).1.put1 (W : Int)))
    have HL4 := hide ((unhide HL3).set ((unhide HL3).1.put2 (t : Int)))
    generalize (w2.setCell ⟨S, 1, none⟩ (.int .i64 (W : Int))).setCell ⟨S, 2, none⟩ (.int .i64 (t : Int)) = w3 at *
    clear s0 s1 s2 s3 f1 f2 f3 p0 p1 r0 r1 g0 g1
    clear HL2 HL3
    obtain ⟨s0, s1, s2, s3⟩ := (unhide HL4).1.2.1
    have f1 := (unhide HL4).1.2.2 1
    have f2 := (unhide HL4).1.2.2 2
    have f3 := (unhide HL4).1.2.2 3
    obtain ⟨-, p0, p1⟩ := (unhide HL4).2.1
    obtain ⟨⟨-, r0, r1⟩, fr⟩ := (unhide HL4).2.2.1
    have g0 := fr 0
    have g1 := fr 1
    clear fr
    obtain ⟨tb, htb⟩ : ∃ tb : Nat, tb = t + b := ⟨_, rfl⟩
    have e1 : (t : Int) + (b : Int) = (tb : Int) := by omega
    have e2 : IntKind.i64.wrap (tb : Int) = (tb : Int) := by rw [IntKind.wrap_i64]; omega
    have Htb := hide htb
    clear htb
    go_wp2_with fail
    go_region
    have HL5 := hide (((unhide HL4).set ((unhide HL4).1.put3 (tb : Int))).keep (bdrew _))
    clear s0 s1 s2 s3 f1 f2 f3 p0 p1 r0 r1 g0 g1
    clear HL4 e1 e2
    go_upto_region 5 with fail
    generalize (w3.setCell ⟨S, 3, none⟩ (.int .i64 (tb : Int))).drew = w4 at *
    obtain ⟨s0, s1, s2, s3⟩ := (unhide HL5).1.2.1
    have f1 := (unhide HL5).1.2.2 1
    have f2 := (unhide HL5).1.2.2 2
    have f3 := (unhide HL5).1.2.2 3
    obtain ⟨-, p0, p1⟩ := (unhide HL5).2.1
    obtain ⟨⟨-, r0, r1⟩, fr⟩ := (unhide HL5).2.2.1
    have g0 := fr 0
    have g1 := fr 1
    clear fr
    obtain ⟨xx, hxx⟩ : ∃ xx : Nat, xx = W - W := ⟨_, rfl⟩
    have e1 : (W : Int) - (W : Int) = (xx : Int) := by omega
    have e2 : IntKind.i64.wrap (xx : Int) = (xx : Int) := by rw [IntKind.wrap_i64]; omega
    have Hxx := hide hxx
    clear hxx
    obtain ⟨t0, t1, t2, -⟩ := ((unhide HL5).keep (bnew w4 (.cells #[.int .i64 0, .int .i64 0] 35))).1.2.1
    go_wp2_with fail
    go_region
    have HL6 := hide ((unhide HL5).keep (btrans (bnew w4 (.cells #[.int .i64 (xx : Int), .int .i64 (t : Int)] 35)) (bdrew _)))
    have HA6 := hide ((B2.new w4 (xx : Int) (t : Int) 35).keep (bdrew _))
    have HSz := hide (show S < w4.heap.size from (unhide HL5).1.1)
    clear s0 s1 s2 s3 f1 f2 f3 p0 p1 r0 r1 g0 g1
    clear HL5 e1 e2 t0 t1 t2
    go_upto_region 6 with fail
    generalize (w4.alloc (.cells #[.int .i64 (xx : Int), .int .i64 (t : Int)] 35)).drew = w5 at *
    generalize w4.heap.size = at5 at *
    obtain ⟨s0, s1, s2, s3⟩ := (unhide HL6).1.2.1
    have f1 := (unhide HL6).1.2.2 1
    have f2 := (unhide HL6).1.2.2 2
    have f3 := (unhide HL6).1.2.2 3
    obtain ⟨-, p0, p1⟩ := (unhide HL6).2.1
    obtain ⟨⟨-, r0, r1⟩, fr⟩ := (unhide HL6).2.2.1
    have g0 := fr 0
    have g1 := fr 1
    clear fr
    obtain ⟨yy, hyy⟩ : ∃ yy : Nat, yy = W - a := ⟨_, rfl⟩
    have e1 : (W : Int) - (a : Int) = (yy : Int) := by omega
    have e2 : IntKind.i64.wrap (yy : Int) = (yy : Int) := by rw [IntKind.wrap_i64]; omega
    have Hyy := hide hyy
    clear hyy
    go_wp2_with fail
    go_region
    have HL7 := hide (((unhide HL6).set ((unhide HL6).1.put1 (yy : Int))).keep (bdrew _))
    have HA7 := hide (((unhide HA6).kept (kset w5 S 1 (.int .i64 (yy : Int))) (fun q => by have := unhide HSz; omega)).keep (bdrew _))
    clear s0 s1 s2 s3 f1 f2 f3 p0 p1 r0 r1 g0 g1
    clear HL6 HA6 e1 e2
    go_upto_region 7 with fail
    generalize (w5.setCell ⟨S, 1, none⟩ (.int .i64 (yy : Int))).drew = w6 at *
    obtain ⟨s0, s1, s2, s3⟩ := (unhide HL7).1.2.1
    have f1 := (unhide HL7).1.2.2 1
    have f2 := (unhide HL7).1.2.2 2
    have f3 := (unhide HL7).1.2.2 3
    obtain ⟨-, p0, p1⟩ := (unhide HL7).2.1
    obtain ⟨⟨-, r0, r1⟩, fr⟩ := (unhide HL7).2.2.1
    have g0 := fr 0
    have g1 := fr 1
    clear fr
    obtain ⟨-, b0, b1⟩ := unhide HA7
    go_wp2
    have z0 : ((w6.setCell ⟨r, 0, none⟩ (.int .i64 (xx : Int))).setCell ⟨r, 1, none⟩ (.int .i64 (t : Int))).cell? ⟨r, 0, none⟩ = some (.int .i64 (xx : Int)) := cset (csame r0) (by decide)
    have z1 : ((w6.setCell ⟨r, 0, none⟩ (.int .i64 (xx : Int))).setCell ⟨r, 1, none⟩ (.int .i64 (t : Int))).cell? ⟨r, 1, none⟩ = some (.int .i64 (t : Int)) := csame (cset r1 (by decide))
    have HV := hide (show SX ((w6.setCell ⟨r, 0, none⟩ (.int .i64 (xx : Int))).setCell ⟨r, 1, none⟩ (.int .i64 (t : Int))) S W (Sh.lay W a b ⟨x, f, t⟩) ∧ Kept (fun i => i = S) w ((w6.setCell ⟨r, 0, none⟩ (.int .i64 (xx : Int))).setCell ⟨r, 1, none⟩ (.int .i64 (t : Int))) from by
      have hne := (unhide HL7).2.2.2.2
      refine ⟨?_, ((unhide HL7).2.2.2.1.set _ _ (.inr hne.2.1)).set _ _ (.inr hne.2.1)⟩
      have k := ((unhide HL7).1.kept (kset w6 r 0 (.int .i64 (xx : Int))) hne.2.2.2).kept (kset _ r 1 (.int .i64 (t : Int))) hne.2.2.2
      unfold SX
      have i1 := unhide Hrm
      have i2 := unhide Hxx
      have i3 := unhide Hyy
      rw [unhide Hlay]
      rw [show W - a = yy by omega, ← unhide Htb]
      exact k)
    have Hxy := hide (show (xx : Int) = (((Sh.lay W a b ⟨x, f, t⟩).x - a : Nat) : Int) ∧ (t : Int) = ((Sh.lay W a b ⟨x, f, t⟩).f : Int) from by
      have i1 := unhide Hrm
      have i2 := unhide Hxx
      rw [unhide Hlay]
      exact ⟨by simp only; omega, rfl⟩)
    generalize (w6.setCell ⟨r, 0, none⟩ (.int .i64 (xx : Int))).setCell ⟨r, 1, none⟩ (.int .i64 (t : Int)) = w7 at *
    refine bodyPost_ret (v := pV (xx : Int) (t : Int)) (by simp [results, Try.results14, go_sem, z0, z1]) rfl ⟨?_, (unhide HV).1, (unhide HV).2⟩
    rw [← (unhide Hxy).1, ← (unhide Hxy).2]
  · have c' : ¬ (rm : Int) < (a : Int) := by omega
    have Hlay := hide (show Sh.lay W a b ⟨x, f, t⟩ = ⟨x + a, f, t⟩ by unfold Sh.lay; rw [if_neg (show ¬ W < x + a by have := unhide Hrm; omega)])
    obtain ⟨s0, s1, s2, s3⟩ := (unhide HL).1.2.1
    have f1 := (unhide HL).1.2.2 1
    have f2 := (unhide HL).1.2.2 2
    have f3 := (unhide HL).1.2.2 3
    obtain ⟨-, p0, p1⟩ := (unhide HL).2.1
    obtain ⟨⟨-, r0, r1⟩, fr⟩ := (unhide HL).2.2.1
    have g0 := fr 0
    have g1 := fr 1
    clear fr
    go_wp2_with fail
    go_quiet (fail)
    have HL2 := hide ((unhide HL).keep (Joins.below_draws _ w1 nq))
    generalize w1.drewN nq = w2 at *
    clear s0 s1 s2 s3 f1 f2 f3 p0 p1 r0 r1 g0 g1
    clear HL
    go_upto_region 5 with fail
    obtain ⟨s0, s1, s2, s3⟩ := (unhide HL2).1.2.1
    have f1 := (unhide HL2).1.2.2 1
    have f2 := (unhide HL2).1.2.2 2
    have f3 := (unhide HL2).1.2.2 3
    obtain ⟨-, p0, p1⟩ := (unhide HL2).2.1
    obtain ⟨⟨-, r0, r1⟩, fr⟩ := (unhide HL2).2.2.1
    have g0 := fr 0
    have g1 := fr 1
    clear fr
    obtain ⟨xx, hxx⟩ : ∃ xx : Nat, xx = W - rm := ⟨_, rfl⟩
    have e1 : (W : Int) - (rm : Int) = (xx : Int) := by omega
    have e2 : IntKind.i64.wrap (xx : Int) = (xx : Int) := by rw [IntKind.wrap_i64]; omega
    have Hxx := hide hxx
    clear hxx
    obtain ⟨t0, t1, t2, -⟩ := ((unhide HL2).keep (bnew w2 (.cells #[.int .i64 0, .int .i64 0] 35))).1.2.1
    go_wp2_with fail
    go_region
    have HL6 := hide ((unhide HL2).keep (btrans (bnew w2 (.cells #[.int .i64 (xx : Int), .int .i64 (f : Int)] 35)) (bdrew _)))
    have HA6 := hide ((B2.new w2 (xx : Int) (f : Int) 35).keep (bdrew _))
    have HSz := hide (show S < w2.heap.size from (unhide HL2).1.1)
    clear s0 s1 s2 s3 f1 f2 f3 p0 p1 r0 r1 g0 g1
    clear HL2 e1 e2 t0 t1 t2
    go_upto_region 6 with fail
    generalize (w2.alloc (.cells #[.int .i64 (xx : Int), .int .i64 (f : Int)] 35)).drew = w5 at *
    generalize w2.heap.size = at5 at *
    obtain ⟨s0, s1, s2, s3⟩ := (unhide HL6).1.2.1
    have f1 := (unhide HL6).1.2.2 1
    have f2 := (unhide HL6).1.2.2 2
    have f3 := (unhide HL6).1.2.2 3
    obtain ⟨-, p0, p1⟩ := (unhide HL6).2.1
    obtain ⟨⟨-, r0, r1⟩, fr⟩ := (unhide HL6).2.2.1
    have g0 := fr 0
    have g1 := fr 1
    clear fr
    obtain ⟨yy, hyy⟩ : ∃ yy : Nat, yy = rm - a := ⟨_, rfl⟩
    have e1 : (rm : Int) - (a : Int) = (yy : Int) := by omega
    have e2 : IntKind.i64.wrap (yy : Int) = (yy : Int) := by rw [IntKind.wrap_i64]; omega
    have Hyy := hide hyy
    clear hyy
    go_wp2_with fail
    go_region
    have HL7 := hide (((unhide HL6).set ((unhide HL6).1.put1 (yy : Int))).keep (bdrew _))
    have HA7 := hide (((unhide HA6).kept (kset w5 S 1 (.int .i64 (yy : Int))) (fun q => by have := unhide HSz; omega)).keep (bdrew _))
    clear s0 s1 s2 s3 f1 f2 f3 p0 p1 r0 r1 g0 g1
    clear HL6 HA6 e1 e2
    go_upto_region 7 with fail
    generalize (w5.setCell ⟨S, 1, none⟩ (.int .i64 (yy : Int))).drew = w6 at *
    obtain ⟨s0, s1, s2, s3⟩ := (unhide HL7).1.2.1
    have f1 := (unhide HL7).1.2.2 1
    have f2 := (unhide HL7).1.2.2 2
    have f3 := (unhide HL7).1.2.2 3
    obtain ⟨-, p0, p1⟩ := (unhide HL7).2.1
    obtain ⟨⟨-, r0, r1⟩, fr⟩ := (unhide HL7).2.2.1
    have g0 := fr 0
    have g1 := fr 1
    clear fr
    obtain ⟨-, b0, b1⟩ := unhide HA7
    go_wp2
    have z0 : ((w6.setCell ⟨r, 0, none⟩ (.int .i64 (xx : Int))).setCell ⟨r, 1, none⟩ (.int .i64 (f : Int))).cell? ⟨r, 0, none⟩ = some (.int .i64 (xx : Int)) := cset (csame r0) (by decide)
    have z1 : ((w6.setCell ⟨r, 0, none⟩ (.int .i64 (xx : Int))).setCell ⟨r, 1, none⟩ (.int .i64 (f : Int))).cell? ⟨r, 1, none⟩ = some (.int .i64 (f : Int)) := csame (cset r1 (by decide))
    have HV := hide (show SX ((w6.setCell ⟨r, 0, none⟩ (.int .i64 (xx : Int))).setCell ⟨r, 1, none⟩ (.int .i64 (f : Int))) S W (Sh.lay W a b ⟨x, f, t⟩) ∧ Kept (fun i => i = S) w ((w6.setCell ⟨r, 0, none⟩ (.int .i64 (xx : Int))).setCell ⟨r, 1, none⟩ (.int .i64 (f : Int))) from by
      have hne := (unhide HL7).2.2.2.2
      refine ⟨?_, ((unhide HL7).2.2.2.1.set _ _ (.inr hne.2.1)).set _ _ (.inr hne.2.1)⟩
      have k := ((unhide HL7).1.kept (kset w6 r 0 (.int .i64 (xx : Int))) hne.2.2.2).kept (kset _ r 1 (.int .i64 (f : Int))) hne.2.2.2
      unfold SX
      have i1 := unhide Hrm
      have i2 := unhide Hxx
      have i3 := unhide Hyy
      rw [unhide Hlay]
      rw [show W - (x + a) = yy by omega]
      exact k)
    have Hxy := hide (show (xx : Int) = (((Sh.lay W a b ⟨x, f, t⟩).x - a : Nat) : Int) ∧ (f : Int) = ((Sh.lay W a b ⟨x, f, t⟩).f : Int) from by
      have i1 := unhide Hrm
      have i2 := unhide Hxx
      rw [unhide Hlay]
      exact ⟨by simp only; omega, rfl⟩)
    generalize (w6.setCell ⟨r, 0, none⟩ (.int .i64 (xx : Int))).setCell ⟨r, 1, none⟩ (.int .i64 (f : Int)) = w7 at *
    refine bodyPost_ret (v := pV (xx : Int) (f : Int)) (by simp [results, Try.results14, go_sem, z0, z1]) rfl ⟨?_, (unhide HV).1, (unhide HV).2⟩
    rw [← (unhide Hxy).1, ← (unhide Hxy).2]
end Go.Proofs.Ytkhmdgppkjafoaa
