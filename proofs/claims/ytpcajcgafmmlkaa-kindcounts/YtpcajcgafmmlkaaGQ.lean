/-
  What movedCells of package group answers: each colour goes where the move takes its point.
-/
import Derived.Test.YtpcajcgafmmlkaaGP
import Derived.Maps.AppendAt
namespace Go.Proofs.Ytpcajcgafmmlkaa
open Go.RowKit

/-- a row of numbers that may be written -/
def IRow (W : World) (b k : Nat) (f : Nat → Int) : Prop := b < W.heap.size ∧ ∀ j, j < k → W.cell? ⟨b, j, none⟩ = some (.int .i64 (f j)) ∧ W.frozen? ⟨b, j, none⟩ = false
theorem IRow.keep {W w1 : World} {b k : Nat} {f : Nat → Int} (h : IRow W b k f) (hb : Below W.heap.size W w1) : IRow w1 b k f :=
  ⟨Nat.lt_of_lt_of_le h.1 hb.size, fun j hj => ⟨keepC hb h.1 (h.2 j hj).1, keepF hb h.1 (h.2 j hj).2⟩⟩
def put (f : Nat → Int) (j : Nat) (v : Int) (i : Nat) : Int := if i = j then v else f i
theorem IRow.set {W : World} {b k : Nat} {f : Nat → Int} (h : IRow W b k f) (j : Nat) (v : Int) (hj : j < k) : IRow (W.setCell ⟨b, j, none⟩ (.int .i64 v)) b k (put f j v) := by
  refine ⟨by simpa using h.1, fun i hi => ?_⟩
  obtain ⟨h1, h2⟩ := h.2 i hi
  refine ⟨?_, by simp [go_sem, h2]⟩
  by_cases e : i = j
  · subst e
    rw [World.cell?_setCell_same (h := h1)]
    simp [put]
  · rw [World.cell?_setCell_other (h := fun q => e (Addr.mk.inj q).2.1.symm), h1]
    simp [put, e]
theorem IRow.row {W : World} {b k : Nat} {f : Nat → Int} (h : IRow W b k f) : Ch.Row W b 0 k f := ⟨h.1, fun j hj => by rw [Nat.zero_add]; exact (h.2 j hj).1⟩
/-- all but one block is as it was -/
theorem gtrans {a b c : World} {row : Option Nat} (h : a.grownBy b row) (k : b.grownBy c row) : a.grownBy c row := World.grownBy.trans h k
theorem gbelow {a b : World} (row : Option Nat) (h : Below a.heap.size a b) : a.grownBy b row := ⟨h.os, h.tape, h.output, h.size, fun k hk _ => h.block k hk⟩
theorem gset {a b : World} {o : Nat} (h : a.grownBy b (some o)) (j : Nat) (v : Value) : a.grownBy (b.setCell ⟨o, j, none⟩ v) (some o) :=
  gtrans h ⟨rfl, rfl, rfl, by simp, fun k _ hne => by
    have hne' : ¬ o = k := fun e => hne (by rw [e])
    simp [World.setCell, Array.getElem?_modify, hne']⟩
theorem gcell {a b : World} {row : Option Nat} {p : Addr} {v : Value} (h : a.grownBy b row) (hl : p.block < a.heap.size) (hne : some p.block ≠ row) (hc : a.cell? p = some v) : b.cell? p = some v := by
  rw [World.cell?_of_block (h.block p.block hl hne)]; exact hc
theorem Row.grown {a b : World} {row : Option Nat} {q o n : Nat} {px : Nat → Int} (h : Ch.Row a q o n px) (hg : a.grownBy b row) (hne : some q ≠ row) : Ch.Row b q o n px :=
  ⟨Nat.lt_of_lt_of_le h.1 hg.size, fun k hk => gcell hg h.1 hne (h.2 k hk)⟩
theorem OwnT.grown {a b : World} {row : Option Nat} {q : Nat} {g n : Int} {s : Option Addr} {k cap : Nat} (h : OwnT a q g n s k cap) (hg : a.grownBy b row) (hne : some q ≠ row) : OwnT b q g n s k cap :=
  ⟨Nat.lt_of_lt_of_le h.1 hg.size, gcell hg h.1 hne h.2.1, gcell hg h.1 hne h.2.2.1, gcell hg h.1 hne h.2.2.2⟩
theorem Own.grown2 {a b : World} {row : Option Nat} {q : Nat} {x y : Int} (h : Own a q x y) (hg : a.grownBy b row) (hne : some q ≠ row) : b.cell? ⟨q, 0, none⟩ = some (.int .i64 x) ∧ b.cell? ⟨q, 1, none⟩ = some (.int .i64 y) :=
  ⟨gcell hg h.1 hne h.2.1.1, gcell hg h.1 hne h.2.1.2⟩

/-- what stands where when the first i colours have gone to their places -/
def mcF (tgt : Nat → Nat) (src : Nat → Int) : Nat → Nat → Int
  | 0 => fun _ => 0
  | i + 1 => put (mcF tgt src i) (tgt i) (src i)
/-- where the i-th cell's colour goes -/
def tgtF (g : Int) (t : Nat) (f : Bool) (u v : Int) (N i : Nat) : Nat := cby N (imX g t f N i) (imY g t f N i) u v
theorem irow_made {w : World} {B b k : Nat} (tgt : Nat → Nat) (src : Nat → Int) (h : w.ownsRow B 3 1 (.slice (some ⟨b, 0, none⟩) k k) k (madeCells #[.int .i64 0] k).toList) : IRow w b k (mcF tgt src 0) :=
  ⟨(h.lt b rfl).2, fun j hj => ⟨by rw [h.cellAt j (by omega), toList_madeCells_one, List.getElem?_replicate, if_pos (by omega)]; rfl, h.frozenAt j⟩⟩

set_option maxHeartbeats 4000000 in
set_option maxRecDepth 100000 in
theorem movedCells_any (g : Int) (n b k cap : Nat) (cx : Nat → Int) (t : Nat) (f : Bool) (x y : Int) (w : World) (hg : g = 4 ∨ g = 6) (ht : (t : Int) < g) (hn : 1 ≤ n ∧ n ≤ 24) (hk : k = n * n) (hr : Ch.Row w b 0 k cx) :
    Calls Try.prog 31 #[tv g n (some ⟨b, 0, none⟩) k cap, .agg #[.int .i64 t, .bool f, .int .i64 x, .int .i64 y]] w fun e w' => ∃ q, e = .returned (.slice (some ⟨q, 0, none⟩) k k) ∧ (Ch.Row w' q 0 k (mcF (tgtF g t f (x % n) (y % n) n) cx k) ∧ w.heap.size ≤ q) ∧ Below w.heap.size w w' := by
  have hk5 : k ≤ 576 := by rw [hk]; exact Nat.mul_le_mul hn.2 hn.2
  have hk1 : 1 ≤ k := by rw [hk]; exact Nat.mul_pos hn.1 hn.1
  have HO := hide (fun V => onto_any g n (some ⟨b, 0, none⟩) k cap x y V (by omega))
  have HI := hide (fun V => images_any g n (some ⟨b, 0, none⟩) k cap t f V hg ht hn hk)
  have HC := hide (fun (V : World) (i : Nat) => cellBy_any g n (some ⟨b, 0, none⟩) k cap (imX g t f n i) (imY g t f n i) (x % n) (y % n) V (by omega) (im_range g t f n i hn).1 (im_range g t f n i hn).2 (em_range x n hn) (em_range y n hn))
  have HCl := hide (fun (i : Nat) => cby_lt n (imX g t f n i) (imY g t f n i) (x % n) (y % n) hn.1)
  rw [← hk] at HCl
  have Htg := hide (show ∀ i, tgtF g t f (x % n) (y % n) n i = cby n (imX g t f n i) (imY g t f n i) (x % n) (y % n) from fun i => rfl)
  generalize hT : tgtF g t f (x % n) (y % n) n = tgt at *
  clear hT
  generalize x % (n : Int) = u at *
  generalize y % (n : Int) = v at *
  generalize imX g t f n = ix at *
  generalize imY g t f n = iy at *
  obtain ⟨i0, hi, hz0, hz1, hz2⟩ := info_parts info3
  have T0 := (OwnT.new w g n (some ⟨b, 0, none⟩) k cap 51).alloc (.cells #[.int .i64 t, .bool f, .int .i64 x, .int .i64 y] 38)
  have M0 := OwnM.new (w.alloc (.cells #[.int .i64 g, .int .i64 n, .slice (some ⟨b, 0, none⟩) k cap] 51)) t f x y 38
  have B0 := bal (o := .cells #[.int .i64 t, .bool f, .int .i64 x, .int .i64 y] 38) (bal (o := .cells #[.int .i64 g, .int .i64 n, .slice (some ⟨b, 0, none⟩) k cap] 51) (Below.refl w.heap.size w))
  rw [World.size_alloc] at M0
  have R0 := hr.keep B0
  have hbw := hr.1
  have HB0 := hide B0
  have hsz : ((w.alloc (.cells #[.int .i64 g, .int .i64 n, .slice (some ⟨b, 0, none⟩) k cap] 51)).alloc (.cells #[.int .i64 t, .bool f, .int .i64 x, .int .i64 y] 38)).heap.size = w.heap.size + 2 := by simp
  have hby : i0.bytes * k ≤ 281474976710656 := by rw [hz2]; omega
  have hml : k ≤ maxLen := by unfold maxLen; omega
  clear hr hk hg B0
  go_enter Try.func31, Try.ntmps31
  go_wp2_with (refine wpList_make_full _ rfl _ _ 22 rfl w.heap.size 3 i0 _ 1 Try.underlying22 hi hz0 hz1 .i64 .i64 (k : Int) (k : Int) k rfl rfl rfl rfl hby hml (by simp; omega) ?_)
  intro wm hown hgrow
  generalize (w.alloc (.cells #[.int .i64 g, .int .i64 n, .slice (some ⟨b, 0, none⟩) k cap] 51)).alloc (.cells #[.int .i64 t, .bool f, .int .i64 x, .int .i64 y] 38) = w0 at *
  have I0 := irow_made tgt cx hown
  have S0 := (Below.refl w0.heap.size w0).grown hgrow (Nat.le_refl _) (fun k hk => by cases hk)
  have T1 := T0.keep S0
  have M1 := M0.keep S0
  have R1 := R0.keep S0
  have S1 := btrans (unhide HB0) S0
  have hzm : w.heap.size + 2 < wm.heap.size := I0.1
  clear hown hgrow S0 T0 M0 R0 HB0 hsz hby hml hi hz0 hz1 hz2
  have t1 := T1.2
  have m1 := M1.2.1
  go_wp2_with fail
  clear t1 m1
  refine (unhide HO _).mono ?_
  rintro e w1 ⟨rfl, hb⟩
  have hb1 := bal (o := .cells #[.int .i64 u, .int .i64 v] 36) hb
  have T2 := T1.keep hb1
  have M2 := M1.keep hb1
  have R2' := R1.keep hb1
  have I2 := I0.keep hb1
  have S2 := btrans S1 hb1
  have Y2 := Own.new w1 u v 36
  have hz1 : w.heap.size + 2 < w1.heap.size := Nat.lt_of_lt_of_le hzm hb.size
  clear hb hb1 T1 M1 R1 I0 S1
  have t2 := T2.2
  have m2 := M2.2.1
  go_wp2_with fail
  clear t2 m2
  generalize hw2 : w1.alloc (.cells #[.int .i64 u, .int .i64 v] 36) = w2 at *
  have hz2 : w1.heap.size < w2.heap.size := by rw [← hw2]; simp
  clear hw2
  refine (unhide HI _).mono ?_
  rintro e w3 ⟨bi, rfl, hP, ⟨-, hfresh⟩, hb⟩
  have T3 := T2.keep hb
  have R3 := R2'.keep hb
  have I3 := I2.keep hb
  have S3 := btrans S2 hb
  have Y3 := Y2.keep hb
  have n1 : some bi ≠ some (w.heap.size + 2) := fun e => by cases e; omega
  have n2 : some b ≠ some (w.heap.size + 2) := fun e => by cases e; omega
  have n3 : some w.heap.size ≠ some (w.heap.size + 2) := fun e => by have := Option.some.inj e; omega
  have n4 : some w1.heap.size ≠ some (w.heap.size + 2) := fun e => by have := Option.some.inj e; omega
  have HN1 := hide n1
  have HN2 := hide n2
  have HN3 := hide n3
  have HN4 := hide n4
  have HT3 := hide T3
  have HR3 := hide R3
  have HY3 := hide Y3
  have HP3 := hide hP
  have HI3 := hide I3
  have HS3 := hide S3
  have hz3 : w.heap.size + 2 < w3.heap.size := I3.1
  clear n1 n2 n3 n4 hb T2 M2 R2' I2 S2 Y2 T3 R3 I3 S3 Y3 hP hfresh HO HI hzm hbw
  go_wp2
  go_loopw [24] (fun a wr => ∃ i : Nat, i ≤ k ∧ a = .int .i64 i ∧ IRow wr (w.heap.size + 2) k (mcF tgt cx i) ∧ w3.grownBy wr (some (w.heap.size + 2))) (fun a _ => k - (intOf a).toNat)
  case atStart => exact ⟨0, Nat.zero_le _, rfl, unhide HI3, World.grownBy.refl _ _⟩
  case round =>
    obtain ⟨i, hik, rfl, hI, hgr⟩ := hrel
    by_cases hlt : i < k
    · obtain ⟨p1, p2⟩ := ((unhide HP3).grown hgr (unhide HN1)).2 i hlt
      have T4 := (unhide HT3).grown hgr (unhide HN3)
      have R4 := Row.grown (unhide HR3) hgr (unhide HN2)
      have y4 := (unhide HY3).grown2 hgr (unhide HN4)
      have HC1 := hide (fun V => unhide HC V i)
      have hcl := unhide HCl i
      rw [hcl.2, ← unhide Htg i] at HC1
      have hjk : tgt i < k := by rw [unhide Htg i]; exact hcl.1
      clear hcl
      have Hmc := hide (show mcF tgt cx (i + 1) = put (mcF tgt cx i) (tgt i) (cx i) from rfl)
      generalize tgt i = j at *
      generalize ix i = X at *
      generalize iy i = Y at *
      have hi0 : (0 : Int) ≤ (i : Int) := by omega
      have hik2 : (i : Int) < (k : Int) := by omega
      have hj0 : (0 : Int) ≤ (j : Int) := by omega
      have hj2 : (j : Int) < (k : Int) := by omega
      go_wp2_with fail
      have Z4 := Own.new wr X Y 36
      have hgr2 := gtrans hgr (gbelow (some (w.heap.size + 2)) (bal (o := .cells #[.int .i64 X, .int .i64 Y] 36) (Below.refl wr.heap.size wr)))
      have I4 := hI.keep (bal (o := .cells #[.int .i64 X, .int .i64 Y] 36) (Below.refl _ _))
      have T5 := T4.keep (bal (o := .cells #[.int .i64 X, .int .i64 Y] 36) (Below.refl _ _))
      have R5 := R4.keep (bal (o := .cells #[.int .i64 X, .int .i64 Y] 36) (Below.refl _ _))
      have n5 : some wr.heap.size ≠ some (w.heap.size + 2) := fun e => by have := Option.some.inj e; have := hI.1; omega
      have hz4 : w1.heap.size < wr.heap.size := by have := hgr.size; have := (unhide HY3).1; omega
      have hzr : wr.heap.size < (wr.alloc (.cells #[.int .i64 X, .int .i64 Y] 36)).heap.size := by simp
      have Hy5 := hide (show (wr.alloc (.cells #[.int .i64 X, .int .i64 Y] 36)).cell? ⟨w1.heap.size, 0, none⟩ = some (.int .i64 u) ∧ (wr.alloc (.cells #[.int .i64 X, .int .i64 Y] 36)).cell? ⟨w1.heap.size, 1, none⟩ = some (.int .i64 v) from
        ⟨keepC (bal (Below.refl _ _)) hz4 y4.1, keepC (bal (Below.refl _ _)) hz4 y4.2⟩)
      clear p1 p2 y4 hgr hI T4 R4
      generalize wr.alloc (.cells #[.int .i64 X, .int .i64 Y] 36) = w4 at *
      have hz5 : w1.heap.size < w4.heap.size := by omega
      have Mk := hide (show ∀ V, w4.grownBy V (some (w.heap.size + 2)) → (V.cell? ⟨w.heap.size, 0, none⟩ = some (.int .i64 g) ∧ V.cell? ⟨w.heap.size, 1, none⟩ = some (.int .i64 n) ∧ V.cell? ⟨w.heap.size, 2, none⟩ = some (.slice (some ⟨b, 0, none⟩) k cap)) ∧ (V.cell? ⟨wr.heap.size, 0, none⟩ = some (.int .i64 X) ∧ V.cell? ⟨wr.heap.size, 1, none⟩ = some (.int .i64 Y)) ∧ (V.cell? ⟨w1.heap.size, 0, none⟩ = some (.int .i64 u) ∧ V.cell? ⟨w1.heap.size, 1, none⟩ = some (.int .i64 v)) ∧ V.cell? ⟨b, i, none⟩ = some (.int .i64 (cx i)) from fun V hV =>
        ⟨(T5.grown hV (unhide HN3)).2, Z4.grown2 hV n5, ⟨gcell hV hz5 (unhide HN4) (unhide Hy5).1, gcell hV hz5 (unhide HN4) (unhide Hy5).2⟩, by have := (Row.grown R5 hV (unhide HN2)).2 i hlt; rwa [Nat.zero_add] at this⟩)
      clear T5 Z4 R5 n5 Hy5
      have HI4 := hide I4
      have hb2 := True.intro
      go_region_held3 (fun V => (w4.grownBy V (some (w.heap.size + 2)) ∧ w4.heap.size ≤ V.heap.size) ∧ ((V.cell? ⟨w.heap.size, 0, none⟩ = some (.int .i64 g) ∧ V.cell? ⟨w.heap.size, 1, none⟩ = some (.int .i64 n) ∧ V.cell? ⟨w.heap.size, 2, none⟩ = some (.slice (some ⟨b, 0, none⟩) k cap)) ∧ (V.cell? ⟨wr.heap.size, 0, none⟩ = some (.int .i64 X) ∧ V.cell? ⟨wr.heap.size, 1, none⟩ = some (.int .i64 Y)) ∧ (V.cell? ⟨w1.heap.size, 0, none⟩ = some (.int .i64 u) ∧ V.cell? ⟨w1.heap.size, 1, none⟩ = some (.int .i64 v)) ∧ V.cell? ⟨b, i, none⟩ = some (.int .i64 (cx i))) ∧ (V.cell? ⟨w.heap.size + 2, j, none⟩ = some (hat V (w.heap.size + 2) j) ∧ V.frozen? ⟨w.heap.size + 2, j, none⟩ = false))
        (first
          | (exact ⟨⟨gbelow _ (Below.drew (Below.refl _ _)), Nat.le_refl _⟩, unhide Mk _ (gbelow _ (Below.drew (Below.refl _ _))), hat_of (((unhide HI4).keep (Below.drew (Below.refl _ _))).2 j hjk).1, (((unhide HI4).keep (Below.drew (Below.refl _ _))).2 j hjk).2⟩)
          | (exact ⟨⟨gbelow _ hb2, hb2.size⟩, unhide Mk _ (gbelow _ hb2), hat_of (((unhide HI4).keep hb2).2 j hjk).1, (((unhide HI4).keep hb2).2 j hjk).2⟩)
          | (exact ⟨⟨gset (gbelow _ hb2) j _, by simpa using hb2.size⟩, unhide Mk _ (gset (gbelow _ hb2) j _), hat_of ((((unhide HI4).keep hb2).set j _ hjk).2 j hjk).1, ((((unhide HI4).keep hb2).set j _ hjk).2 j hjk).2⟩))
        (first
          | (go_at_call 49; refine (unhide HC1 _).mono ?_; rintro e w5 ⟨rfl, hb⟩; have hb2 := btrans (Below.drew (Below.refl w4.heap.size w4)) hb))
      have I5 := ((unhide HI4).keep hb2).set j (cx i) hjk
      have hg5 := gtrans hgr2 (gset (gbelow (some (w.heap.size + 2)) hb2) j (.int .i64 (cx i)))
      clear Mk hb
      go_wp2
      go_roundw
      case rel => exact ⟨i + 1, by omega, by go_num, by rw [unhide Hmc]; exact I5, hg5⟩
      case measure => simp [intOf]; omega
    · have e : i = k := by omega
      subst e
      have cl : ¬ ((i : Int) < (i : Int)) := by omega
      have Hrow := hide hI.row
      have HS := hide ((unhide HS3).grown hgr (by have := (unhide HS3).size; omega) (fun k hk => by cases hk; omega))
      clear hI hgr
      go_wp2
      go_ret
      exact ⟨_, rfl, ⟨unhide Hrow, by omega⟩, unhide HS⟩
end Go.Proofs.Ytpcajcgafmmlkaa
