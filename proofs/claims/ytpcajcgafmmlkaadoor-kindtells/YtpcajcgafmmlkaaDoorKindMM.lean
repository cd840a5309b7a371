/-
  KindBands: the law's walk.
-/
import Derived.Test.YtpcajcgafmmlkaaDoorBandA
import Derived.Test.YtpcajcgafmmlkaaDoorGD
import Derived.Test.YtpcajcgafmmlkaaDoorKindDD
import Derived.Test.YtpcajcgafmmlkaaDoorGL
import Derived.ProofKit
import Derived.OpenShut
import Derived.ChangeSlices
import Derived.Carry
import Derived.LaidMore
import Derived.Deep.DeepHandedRow
import Derived.Lib.SmallJoins
import Derived.Deep.CutRange
namespace Go.Proofs.YtpcajcgafmmlkaaDoor
open Go.RowKit

end Go.Proofs.YtpcajcgafmmlkaaDoor

namespace Go.Proofs.YtpcajcgafmmlkaaDoor
open Go.RowKit

def OwnE (W : World) (b : Nat) (g w h : Int) (q : Option Addr) (m cp : Nat) : Prop := Ch.OwnC W b g w h q m cp ∧ W.frozen? ⟨b, 3, none⟩ = false
theorem OwnE.new (W : World) (g w h : Int) (q : Option Addr) (m cp : Nat) (t : TypeId) : OwnE (W.alloc (.cells #[.int .i64 g, .int .i64 w, .int .i64 h, .slice q m cp] t)) W.heap.size g w h q m cp :=
  ⟨Ch.OwnC.new W g w h q m cp t, by simp [go_sem]⟩
theorem OwnE.below {W w1 : World} {B b : Nat} {g w h : Int} {q : Option Addr} {m cp : Nat} (k : OwnE W b g w h q m cp) (hb : Below B W w1) (hB : b < B) (hz : W.heap.size ≤ w1.heap.size) : OwnE w1 b g w h q m cp := by
  obtain ⟨⟨h0, h1, h2, h3, h4⟩, h5⟩ := k
  refine ⟨⟨by omega, ?_, ?_, ?_, ?_⟩, ?_⟩
  · rw [hb.cell (p := ⟨b, 0, none⟩) hB]; exact h1
  · rw [hb.cell (p := ⟨b, 1, none⟩) hB]; exact h2
  · rw [hb.cell (p := ⟨b, 2, none⟩) hB]; exact h3
  · rw [hb.cell (p := ⟨b, 3, none⟩) hB]; exact h4
  · rw [hb.frozen (p := ⟨b, 3, none⟩) hB]; exact h5
theorem OwnE.set3 {W : World} {b : Nat} {g w h : Int} {q : Option Addr} {m cp : Nat} (k : OwnE W b g w h q m cp) (q' : Option Addr) (m' cp' : Nat) : OwnE (W.setCell ⟨b, 3, none⟩ (.slice q' m' cp')) b g w h q' m' cp' := by
  obtain ⟨⟨h0, h1, h2, h3, h4⟩, h5⟩ := k
  refine ⟨⟨by simpa using h0, by simp [go_sem, h1], by simp [go_sem, h2], by simp [go_sem, h3], by simp [go_sem, h4]⟩, by simp [go_sem, h5]⟩

theorem g16_0 {a0 a1 a2 a3 a4 a5 a6 a7 a8 a9 a10 a11 a12 a13 a14 a15 : Oper} : (#[a0, a1, a2, a3, a4, a5, a6, a7, a8, a9, a10, a11, a12, a13, a14, a15] : Array Oper)[0]? = some a0 := rfl
theorem g16_1 {a0 a1 a2 a3 a4 a5 a6 a7 a8 a9 a10 a11 a12 a13 a14 a15 : Oper} : (#[a0, a1, a2, a3, a4, a5, a6, a7, a8, a9, a10, a11, a12, a13, a14, a15] : Array Oper)[1]? = some a1 := rfl
theorem g16_2 {a0 a1 a2 a3 a4 a5 a6 a7 a8 a9 a10 a11 a12 a13 a14 a15 : Oper} : (#[a0, a1, a2, a3, a4, a5, a6, a7, a8, a9, a10, a11, a12, a13, a14, a15] : Array Oper)[2]? = some a2 := rfl
theorem g16_3 {a0 a1 a2 a3 a4 a5 a6 a7 a8 a9 a10 a11 a12 a13 a14 a15 : Oper} : (#[a0, a1, a2, a3, a4, a5, a6, a7, a8, a9, a10, a11, a12, a13, a14, a15] : Array Oper)[3]? = some a3 := rfl
theorem g16_4 {a0 a1 a2 a3 a4 a5 a6 a7 a8 a9 a10 a11 a12 a13 a14 a15 : Oper} : (#[a0, a1, a2, a3, a4, a5, a6, a7, a8, a9, a10, a11, a12, a13, a14, a15] : Array Oper)[4]? = some a4 := rfl
theorem g16_5 {a0 a1 a2 a3 a4 a5 a6 a7 a8 a9 a10 a11 a12 a13 a14 a15 : Oper} : (#[a0, a1, a2, a3, a4, a5, a6, a7, a8, a9, a10, a11, a12, a13, a14, a15] : Array Oper)[5]? = some a5 := rfl
theorem g16_6 {a0 a1 a2 a3 a4 a5 a6 a7 a8 a9 a10 a11 a12 a13 a14 a15 : Oper} : (#[a0, a1, a2, a3, a4, a5, a6, a7, a8, a9, a10, a11, a12, a13, a14, a15] : Array Oper)[6]? = some a6 := rfl
theorem g16_7 {a0 a1 a2 a3 a4 a5 a6 a7 a8 a9 a10 a11 a12 a13 a14 a15 : Oper} : (#[a0, a1, a2, a3, a4, a5, a6, a7, a8, a9, a10, a11, a12, a13, a14, a15] : Array Oper)[7]? = some a7 := rfl
theorem g16_8 {a0 a1 a2 a3 a4 a5 a6 a7 a8 a9 a10 a11 a12 a13 a14 a15 : Oper} : (#[a0, a1, a2, a3, a4, a5, a6, a7, a8, a9, a10, a11, a12, a13, a14, a15] : Array Oper)[8]? = some a8 := rfl
theorem g16_9 {a0 a1 a2 a3 a4 a5 a6 a7 a8 a9 a10 a11 a12 a13 a14 a15 : Oper} : (#[a0, a1, a2, a3, a4, a5, a6, a7, a8, a9, a10, a11, a12, a13, a14, a15] : Array Oper)[9]? = some a9 := rfl
theorem g16_10 {a0 a1 a2 a3 a4 a5 a6 a7 a8 a9 a10 a11 a12 a13 a14 a15 : Oper} : (#[a0, a1, a2, a3, a4, a5, a6, a7, a8, a9, a10, a11, a12, a13, a14, a15] : Array Oper)[10]? = some a10 := rfl
theorem g16_11 {a0 a1 a2 a3 a4 a5 a6 a7 a8 a9 a10 a11 a12 a13 a14 a15 : Oper} : (#[a0, a1, a2, a3, a4, a5, a6, a7, a8, a9, a10, a11, a12, a13, a14, a15] : Array Oper)[11]? = some a11 := rfl
theorem g16_12 {a0 a1 a2 a3 a4 a5 a6 a7 a8 a9 a10 a11 a12 a13 a14 a15 : Oper} : (#[a0, a1, a2, a3, a4, a5, a6, a7, a8, a9, a10, a11, a12, a13, a14, a15] : Array Oper)[12]? = some a12 := rfl
theorem g16_13 {a0 a1 a2 a3 a4 a5 a6 a7 a8 a9 a10 a11 a12 a13 a14 a15 : Oper} : (#[a0, a1, a2, a3, a4, a5, a6, a7, a8, a9, a10, a11, a12, a13, a14, a15] : Array Oper)[13]? = some a13 := rfl
theorem g16_14 {a0 a1 a2 a3 a4 a5 a6 a7 a8 a9 a10 a11 a12 a13 a14 a15 : Oper} : (#[a0, a1, a2, a3, a4, a5, a6, a7, a8, a9, a10, a11, a12, a13, a14, a15] : Array Oper)[14]? = some a14 := rfl
theorem g16_15 {a0 a1 a2 a3 a4 a5 a6 a7 a8 a9 a10 a11 a12 a13 a14 a15 : Oper} : (#[a0, a1, a2, a3, a4, a5, a6, a7, a8, a9, a10, a11, a12, a13, a14, a15] : Array Oper)[15]? = some a15 := rfl
/-- the colours so far -/
def wyL (px : Nat → Int) (way w h at_ m : Nat) : List Int := (List.range m).map (wyC px way w h at_)
theorem wyL_succ (px : Nat → Int) (way w h at_ m : Nat) : wyL px way w h at_ (m + 1) = wyL px way w h at_ m ++ [wyC px way w h at_ m] := by
  unfold wyL; rw [List.range_succ, List.map_append]; rfl

end Go.Proofs.YtpcajcgafmmlkaaDoor

namespace Go.Proofs.YtpcajcgafmmlkaaDoor
open Go.RowKit

theorem wf_i64 {i : Int} (h : (Lit.int .i64 i).wf = true) : -9223372036854775808 ≤ i ∧ i ≤ 9223372036854775807 := by
  have h2 : (decide (IntKind.i64.min ≤ i) && decide (i ≤ IntKind.i64.max)) = true := h
  rw [Bool.and_eq_true, decide_eq_true_eq, decide_eq_true_eq] at h2
  have e1 : IntKind.i64.min = -9223372036854775808 := by decide
  have e2 : IntKind.i64.max = 9223372036854775807 := by decide
  rw [e1, e2] at h2
  exact h2
end Go.Proofs.YtpcajcgafmmlkaaDoor

namespace Go.Proofs.YtpcajcgafmmlkaaDoor
open Go.ChangeShapes Go.WideShapes Go.ChangeAt Go.RowKit Go.Joins Go.Deep

theorem own : ownKnob Tryd.prog.godebug = none := by kernel_rfl
theorem laidOut : laidOutB Tryd.prog = true := by kernel_rfl
theorem cells24 : Tryd.prog.cellsOf 24 = 4 := by kernel_rfl
theorem cells33 : Tryd.prog.cellsOf 33 = 2 := by kernel_rfl
theorem cells45 : Tryd.prog.cellsOf 41 = 4 := by kernel_rfl
theorem cells3 : Tryd.prog.cellsOf 3 = 1 := by kernel_rfl
theorem cells4 : Tryd.prog.cellsOf 4 = 1 := by kernel_rfl
theorem cells22 : Tryd.prog.cellsOf 22 = 1 := by kernel_rfl
theorem read24 : Tryd.prog.readableRec 24 = true := by kernel_rfl
theorem read33 : Tryd.prog.readableRec 33 = true := by kernel_rfl
theorem read45 : Tryd.prog.readableRec 41 = true := by kernel_rfl
theorem read3 : Tryd.prog.readableRec 3 = true := by kernel_rfl
theorem in24 : 24 < Tryd.prog.types.size := of_decide_eq_true (by kernel_rfl)
theorem in33 : 33 < Tryd.prog.types.size := of_decide_eq_true (by kernel_rfl)
theorem in45 : 41 < Tryd.prog.types.size := of_decide_eq_true (by kernel_rfl)
theorem in3 : 3 < Tryd.prog.types.size := of_decide_eq_true (by kernel_rfl)

set_option maxRecDepth 100000 in
theorem chart_open {H : Type} {enc : TypeId × Value → H} {W : World} {base : Nat} {sp : Nat → Bool} {hd : Bool} {r : Reach} {b0 : Nat} {v : Value} {d : DataW H} {p : List MemPlace} (hv : Value.okWide Tryd.prog W r b0 24 v) (h : DataW.Trod enc Tryd.prog W base sp hd 24 v d p) :
    ∃ (g w h : Int) (q : Option Addr) (n cap : Nat) (px : Nat → Int), v = Ch.ch g w h q n cap ∧ Ch.Cells W q n px := by
  obtain ⟨cs, rfl, hsz⟩ := okWide_struct Tryd.underlying24 hv
  obtain ⟨c0, c1, c2, c3, rfl⟩ := array4 (hsz.trans cells24)
  obtain ⟨fuel, hf⟩ := h
  obtain ⟨y0, y1, y2, y3, n, hx, _, h0, h1, h2, h3⟩ := trod_struct4 Tryd.underlying24 hf
  simp only [Value.cells, cells3, cells22, List.drop, List.take] at h0 h1 h2 h3
  obtain ⟨g, e0, rfl, wg⟩ := DataW.trod_int Tryd.underlying3 h0
  obtain ⟨w, e1, rfl, ww⟩ := DataW.trod_int Tryd.underlying3 h1
  obtain ⟨hh, e2, rfl, wh⟩ := DataW.trod_int Tryd.underlying3 h2
  simp at e0 e1 e2
  subst e0 e1 e2
  rcases open_ints Tryd.underlying22 Tryd.underlying3 cells3 h3 with ⟨e3, _⟩ | ⟨a, len, cap, zs, e3, _, hl, hm, hzl, _, hcell, _⟩
  · simp at e3
    subst e3
    exact ⟨g, w, hh, _, 0, 0, fun _ => 0, rfl, Or.inl rfl⟩
  · simp at e3
    subst e3
    refine ⟨g, w, hh, _, len, cap, fun k => zs.getD k 0, rfl, ?_⟩
    by_cases hz : len = 0
    · exact Or.inl hz
    · have hlen : len ≤ zs.length := by rw [hzl]; split <;> omega
      have hc0 := hcell 0 (by omega)
      have hsp := World.cell?_spot hc0
      obtain ⟨b, o, s⟩ := a
      simp [Addr.add] at hsp
      subst hsp
      refine Or.inr ⟨b, o, rfl, World.block_lt_of_cell? W _ hc0, fun k hk => ?_⟩
      have := hcell k (by omega)
      by_cases hk0 : k = 0
      · subst hk0
        simpa [Addr.add] using this
      · simpa [Addr.add, hk0] using this
set_option maxRecDepth 100000 in
theorem point_open {H : Type} {enc : TypeId × Value → H} {W : World} {base : Nat} {sp : Nat → Bool} {hd : Bool} {r : Reach} {b0 : Nat} {v : Value} {d : DataW H} {p : List MemPlace} (hv : Value.okWide Tryd.prog W r b0 33 v) (h : DataW.Trod enc Tryd.prog W base sp hd 33 v d p) :
    ∃ x y : Int, v = .agg #[.int .i64 x, .int .i64 y] := by
  obtain ⟨v0, v1, y0, y1, n, rfl, rfl, rfl, h0, h1⟩ := open_agg2 Tryd.underlying33 (by kernel_rfl) cells33 hv h
  obtain ⟨x, e0, -, wx⟩ := DataW.trod_int Tryd.underlying3 h0
  obtain ⟨y, e1, -, wy⟩ := DataW.trod_int Tryd.underlying3 h1
  simp at e0 e1
  subst e0 e1
  exact ⟨x, y, rfl⟩
set_option maxRecDepth 100000 in
theorem move_open {H : Type} {enc : TypeId × Value → H} {W : World} {base : Nat} {sp : Nat → Bool} {hd : Bool} {r : Reach} {b0 : Nat} {v : Value} {d : DataW H} {p : List MemPlace} (hv : Value.okWide Tryd.prog W r b0 41 v) (h : DataW.Trod enc Tryd.prog W base sp hd 41 v d p) :
    ∃ (t : Int) (f : Bool) (x y : Int), v = .agg #[.int .i64 t, .bool f, .int .i64 x, .int .i64 y] := by
  obtain ⟨cs, rfl, hsz⟩ := okWide_struct Tryd.underlying41 hv
  obtain ⟨c0, c1, c2, c3, rfl⟩ := array4 (hsz.trans cells45)
  obtain ⟨fuel, hf⟩ := h
  obtain ⟨y0, y1, y2, n, hx, _, h0, h1, h2⟩ := trod_struct3 Tryd.underlying41 hf
  simp only [Value.cells, cells3, cells4, cells33, List.drop, List.take] at h0 h1 h2
  obtain ⟨z0, z1, m, hy, _, k0, k1⟩ := trod_struct2 Tryd.underlying33 h2
  simp only [cells3, List.drop, List.take] at k0 k1
  obtain ⟨t, e0, rfl, wt⟩ := DataW.trod_int Tryd.underlying3 h0
  obtain ⟨f, e1, rfl⟩ := DataW.trod_bool Tryd.underlying4 h1
  obtain ⟨x, e2, rfl, wx⟩ := DataW.trod_int Tryd.underlying3 k0
  obtain ⟨y, e3, rfl, wy⟩ := DataW.trod_int Tryd.underlying3 k1
  simp at e0 e1 e2 e3
  subst e0 e1 e2 e3
  exact ⟨t, f, x, y, rfl⟩
end Go.Proofs.YtpcajcgafmmlkaaDoor

namespace Go.Proofs.YtpcajcgafmmlkaaDoor
open Go.RowKit

theorem kp_mov {P : Int → Int → Int} {g : Int} {t : Nat} {f : Bool} {u v : Int} (h : Kp P g t f u v) : Mov P P g t f u v := fun x y => (h x y).symm
theorem st_mov {P : Int → Int → Int} {g u v : Int} (h : St P u v) : Mov P P g 0 false u v := kp_mov ((kp_step P g u v).2 h)
theorem li_zero (g : Int) (t : Nat) (f : Bool) : li g t f 0 0 = (0, 0) := by
  have := li_mul g t f 0 0 0
  simpa using this
theorem li_back (g : Int) (t : Nat) (f : Bool) (x y : Int) (hg : g = 4 ∨ g = 6) (ht : (t : Int) < g) : li g (bt g t f).toNat f (li g t f x y).1 (li g t f x y).2 = (x, y) := by
  have e := li_comp g (bt g t f) f t f x y hg (bt_range g t f hg ⟨by omega, ht⟩) ⟨by omega, ht⟩
  rw [(cT_back g t f hg ⟨by omega, ht⟩).1, (cT_back g t f hg ⟨by omega, ht⟩).2.2, Int.toNat_natCast] at e
  rw [e]
  simp [li, tu, mi]
theorem mv_onto (g : Int) (t : Nat) (f : Bool) (u v x y : Int) (hg : g = 4 ∨ g = 6) (ht : (t : Int) < g) : ∃ a b, mv g t f u v a b = (x, y) := by
  have e := mv_back g t f u v x y hg ⟨by omega, ht⟩
  rw [Int.toNat_natCast] at e
  exact ⟨_, _, e⟩
/-- a step that keeps a pattern, turned likewise, keeps the moved one -/
theorem st_fore {P Q : Int → Int → Int} {g : Int} {t : Nat} {f : Bool} {u v a b : Int} (hg : g = 4 ∨ g = 6) (ht : (t : Int) < g) (h : Mov P Q g t f u v) (k : St P a b) : St Q (li g t f a b).1 (li g t f a b).2 := by
  intro x y
  obtain ⟨c, d, e⟩ := mv_onto g t f u v x y hg ht
  have h1 := h c d
  have h2 := h (c + a) (d + b)
  rw [e] at h1
  rw [mv_li] at e h2
  rw [li_add] at h2
  have e1 : (li g t f c d).1 + u = x := (Prod.mk.inj e).1
  have e2 : (li g t f c d).2 + v = y := (Prod.mk.inj e).2
  rw [h1, k c d, ← h2]
  congr 1 <;> dsimp only <;> omega
/-- moves of one turn and flip part by a step -/
theorem kp_sub {P : Int → Int → Int} {g : Int} {t : Nat} {f : Bool} {u v u' v' : Int} (hg : g = 4 ∨ g = 6) (ht : (t : Int) < g) (h : Kp P g t f u v) (k : Kp P g t f u' v') : St P (u - u') (v - v') := by
  intro x y
  obtain ⟨c, d, e⟩ := mv_onto g t f u' v' x y hg ht
  have h1 := h c d
  have h2 := k c d
  rw [e] at h2
  rw [mv_li] at h1 e
  have e1 : (li g t f c d).1 + u' = x := (Prod.mk.inj e).1
  have e2 : (li g t f c d).2 + v' = y := (Prod.mk.inj e).2
  dsimp only at h1 h2
  rw [← h2, h1]
  congr 1 <;> omega
theorem kp_add {P : Int → Int → Int} {g : Int} {t : Nat} {f : Bool} {u v a b : Int} (h : Kp P g t f u v) (k : St P a b) : Kp P g t f (u + a) (v + b) := by
  intro x y
  rw [h x y, k _ _, mv_li, mv_li]
  congr 1 <;> dsimp only <;> omega
theorem cj_map (g : Int) (t : Nat) (f : Bool) (u v : Int) (t' : Nat) (f' : Bool) (u' v' x y : Int) (hg : g = 4 ∨ g = 6) (ht : (t : Int) < g) (ht' : (t' : Int) < g) :
    mv g (cjT g t f t' f').toNat (cjF f f') (cjP g t f u v t' f' u' v').1 (cjP g t f u v t' f' u' v').2 (mv g t f u v x y).1 (mv g t f u v x y).2 = mv g t f u v (mv g t' f' u' v' x y).1 (mv g t' f' u' v' x y).2 := by
  unfold cjT cjF cjP
  rw [mv_comp g (cT g t f t') (cF f f') _ _ (bt g t f) f _ _ _ _ hg (cT_range g t f t' hg) (bt_range g t f hg ⟨by omega, ht⟩), mv_comp g t f u v t' f' u' v' _ _ hg ⟨by omega, ht⟩ ⟨by omega, ht'⟩]
  have e := mv_fore g t f u v x y hg ⟨by omega, ht⟩
  rw [Int.toNat_natCast] at e ⊢
  rw [e, Int.toNat_natCast]
theorem cj_keeps {P Q : Int → Int → Int} {g : Int} {t : Nat} {f : Bool} {u v : Int} {t' : Nat} {f' : Bool} {u' v' : Int} (hg : g = 4 ∨ g = 6) (ht : (t : Int) < g) (ht' : (t' : Int) < g) (h : Mov P Q g t f u v) (k : Kp P g t' f' u' v') :
    Kp Q g (cjT g t f t' f').toNat (cjF f f') (cjP g t f u v t' f' u' v').1 (cjP g t f u v t' f' u' v').2 := by
  refine Mov.keeps (P := P) (t := (t : Int)) (t' := (t' : Int)) hg ⟨by omega, ht⟩ ⟨by omega, ht'⟩ ?_ ?_
  · rw [Int.toNat_natCast]; exact h
  · rw [Int.toNat_natCast]; exact k
theorem cjT_lt (g : Int) (t : Nat) (f : Bool) (t' : Nat) (f' : Bool) (hg : g = 4 ∨ g = 6) : (((cjT g t f t' f').toNat : Nat) : Int) < g := by
  have := cT_range g (cT g t f t') (cF f f') (bt g t f) hg
  unfold cjT
  omega
theorem flip_twice (g : Int) (t : Nat) (u v x y : Int) (hg : g = 4 ∨ g = 6) (ht : (t : Int) < g) : mv g t true u v (mv g t true u v x y).1 (mv g t true u v x y).2 = (x + (mv g t true u v u v).1, y + (mv g t true u v u v).2) := by
  have e := li_back g t true x y hg ht
  rw [show bt g t true = (t : Int) from rfl, Int.toNat_natCast] at e
  rw [mv_li, mv_li g t true u v x y, mv_li g t true u v u v, li_add, e]
  exact Prod.ext (by dsimp only; omega) (by dsimp only; omega)

/-- a step along its line makes a mirror of a flip -/
def Mr (P : Int → Int → Int) (g : Int) (t : Nat) (u v : Int) : Prop := ∃ a b : Int, mv g t true u v u v = (-(2 * a), -(2 * b)) ∧ St P a b
theorem cj_twice (g : Int) (t : Nat) (f : Bool) (u v : Int) (t' : Nat) (u' v' : Int) (hg : g = 4 ∨ g = 6) (ht : (t : Int) < g) (ht' : (t' : Int) < g) :
    mv g (cjT g t f t' true).toNat true (cjP g t f u v t' true u' v').1 (cjP g t f u v t' true u' v').2 (cjP g t f u v t' true u' v').1 (cjP g t f u v t' true u' v').2 = li g t f (mv g t' true u' v' u' v').1 (mv g t' true u' v' u' v').2 := by
  have hF : cjF f true = true := by cases f <;> rfl
  have e1 := cj_map g t f u v t' true u' v' 0 0 hg ht ht'
  have e2 := cj_map g t f u v t' true u' v' (mv g t' true u' v' 0 0).1 (mv g t' true u' v' 0 0).2 hg ht ht'
  rw [hF] at e1 e2
  rw [← e1, flip_twice g _ _ _ _ _ hg (cjT_lt g t f t' true hg), flip_twice g t' u' v' 0 0 hg ht', mv_li g t f u v 0 0, mv_li g t f u v _ _, li_zero] at e2
  have a1 := (Prod.mk.inj e2).1
  have a2 := (Prod.mk.inj e2).2
  dsimp only at a1 a2
  simp only [Int.zero_add] at a1 a2
  exact Prod.ext (by omega) (by omega)
theorem li_dbl (g : Int) (t : Nat) (f : Bool) (a b : Int) : li g t f (-(2 * a)) (-(2 * b)) = (-(2 * (li g t f a b).1), -(2 * (li g t f a b).2)) := by
  have := li_mul g t f (-2) a b
  rw [Int.neg_mul, Int.neg_mul, Int.neg_mul, Int.neg_mul] at this
  exact this
theorem mr_cj {P Q : Int → Int → Int} {g : Int} {t : Nat} {f : Bool} {u v : Int} {t' : Nat} {u' v' : Int} (hg : g = 4 ∨ g = 6) (ht : (t : Int) < g) (ht' : (t' : Int) < g) (h : Mov P Q g t f u v) :
    Mr P g t' u' v' ↔ Mr Q g (cjT g t f t' true).toNat (cjP g t f u v t' true u' v').1 (cjP g t f u v t' true u' v').2 := by
  constructor
  · rintro ⟨a, b, e, k⟩
    refine ⟨_, _, ?_, st_fore hg ht h k⟩
    rw [cj_twice g t f u v t' u' v' hg ht ht', e]
    exact li_dbl g t f a b
  · rintro ⟨a, b, e, k⟩
    rw [cj_twice g t f u v t' u' v' hg ht ht'] at e
    have hb := bt_range g t f hg ⟨by omega, ht⟩
    have k2 := st_fore hg (show (((bt g t f).toNat : Nat) : Int) < g by omega) (h.back hg ht) k
    refine ⟨_, _, ?_, k2⟩
    have e2 := li_back g t f (mv g t' true u' v' u' v').1 (mv g t' true u' v' u' v').2 hg ht
    rw [e] at e2
    rw [← li_dbl]
    exact e2.symm
/-- flips of a turn: some that a step makes a mirror, some that none does -/
def HF (P : Int → Int → Int) (g : Int) (t : Nat) (b : Bool) : Prop := ∃ u v, Kp P g t true u v ∧ (Mr P g t u v ↔ b = true)
theorem hf_fore {P Q : Int → Int → Int} {g : Int} {t : Nat} {f : Bool} {u v : Int} {t' : Nat} {b : Bool} (hg : g = 4 ∨ g = 6) (ht : (t : Int) < g) (ht' : (t' : Int) < g) (h : Mov P Q g t f u v) (k : HF P g t' b) : HF Q g (cjT g t f t' true).toNat b := by
  obtain ⟨u', v', k1, k2⟩ := k
  have hF : cjF f true = true := by cases f <;> rfl
  have k3 := cj_keeps hg ht ht' h k1
  rw [hF] at k3
  exact ⟨_, _, k3, (mr_cj hg ht ht' h).symm.trans k2⟩
theorem cjT_back (g : Int) (t : Nat) (f : Bool) (t' : Nat) (hg : g = 4 ∨ g = 6) (ht : (t : Int) < g) (ht' : (t' : Int) < g) : cjT g ((bt g t f).toNat : Nat) f ((cjT g t f t' true).toNat : Nat) true = t' := by
  have h1 := cT_range g (cT g t f t') (cF f true) (bt g t f) hg
  have h2 := bt_range g t f hg ⟨by omega, ht⟩
  rw [Int.toNat_of_nonneg h2.1, Int.toNat_of_nonneg (show 0 ≤ cjT g t f t' true from h1.1)]
  rcases hg with rfl | rfl <;> cases f <;> simp only [cjT, cT, cF, bt, Bool.not_true] <;> omega
theorem hf_iff {P Q : Int → Int → Int} {g : Int} {t : Nat} {f : Bool} {u v : Int} {t' : Nat} {b : Bool} (hg : g = 4 ∨ g = 6) (ht : (t : Int) < g) (ht' : (t' : Int) < g) (h : Mov P Q g t f u v) : HF P g t' b ↔ HF Q g (cjT g t f t' true).toNat b := by
  refine ⟨hf_fore hg ht ht' h, fun k => ?_⟩
  have hb := bt_range g t f hg ⟨by omega, ht⟩
  have := hf_fore hg (show (((bt g t f).toNat : Nat) : Int) < g by omega) (cjT_lt g t f t' true hg) (h.back hg ht) k
  rw [cjT_back g t f t' hg ht ht', Int.toNat_natCast] at this
  exact this
/-- turned by so much -/
def HT (P : Int → Int → Int) (g : Int) (t : Nat) : Prop := ∃ u v, Kp P g t false u v
theorem ht_back {P : Int → Int → Int} {g : Int} {t : Nat} (hg : g = 4 ∨ g = 6) (ht : (t : Int) < g) (h : HT P g t) : HT P g (bt g t false).toNat := by
  obtain ⟨u, v, k⟩ := h
  exact ⟨_, _, Kp.inv (t := (t : Int)) hg ⟨by omega, ht⟩ (by rw [Int.toNat_natCast]; exact k)⟩
theorem ht_fore {P Q : Int → Int → Int} {g : Int} {t : Nat} {f : Bool} {u v : Int} {t' : Nat} (hg : g = 4 ∨ g = 6) (ht : (t : Int) < g) (ht' : (t' : Int) < g) (h : Mov P Q g t f u v) (k : HT P g t') : HT Q g t' := by
  cases f with
  | false =>
    obtain ⟨u', v', k1⟩ := k
    have k3 := cj_keeps hg ht ht' h k1
    rw [show cjT g t false t' false = t' by simp only [cjT, cT, cF, bt]; rcases hg with rfl | rfl <;> omega, Int.toNat_natCast] at k3
    exact ⟨_, _, k3⟩
  | true =>
    obtain ⟨u', v', k1⟩ := ht_back hg ht' k
    have hb := bt_range g t' false hg ⟨by omega, ht'⟩
    have k3 := cj_keeps hg ht (show (((bt g t' false).toNat : Nat) : Int) < g by omega) h k1
    rw [Int.toNat_of_nonneg hb.1, show cjT g t true (bt g t' false) false = t' by simp only [cjT, cT, cF, bt, Bool.not_false]; rcases hg with rfl | rfl <;> omega, Int.toNat_natCast] at k3
    exact ⟨_, _, k3⟩
theorem ht_iff {P Q : Int → Int → Int} {g : Int} {t : Nat} {f : Bool} {u v : Int} {t' : Nat} (hg : g = 4 ∨ g = 6) (ht : (t : Int) < g) (ht' : (t' : Int) < g) (h : Mov P Q g t f u v) : HT P g t' ↔ HT Q g t' := by
  have hb := bt_range g t f hg ⟨by omega, ht⟩
  exact ⟨ht_fore hg ht ht' h, ht_fore hg (show (((bt g t f).toNat : Nat) : Int) < g by omega) ht' (h.back hg ht)⟩

/-- a turn's point lies on a mirror's line: the mirror, and the mirror behind the turn, undo themselves -/
def OnA (P : Int → Int → Int) (g : Int) (t : Nat) (u v : Int) : Prop := ∃ (t1 : Nat) (p q : Int), (t1 : Int) < g ∧ Kp P g t1 true p q ∧ (∀ x y, mv g t1 true p q (mv g t1 true p q x y).1 (mv g t1 true p q x y).2 = (x, y)) ∧
  ∀ x y, mv g t1 true p q (mv g t false u v (mv g t1 true p q (mv g t false u v x y).1 (mv g t false u v x y).2).1 (mv g t1 true p q (mv g t false u v x y).1 (mv g t false u v x y).2).2).1 (mv g t false u v (mv g t1 true p q (mv g t false u v x y).1 (mv g t false u v x y).2).1 (mv g t1 true p q (mv g t false u v x y).1 (mv g t false u v x y).2).2).2 = (x, y)
theorem ona_fore {P Q : Int → Int → Int} {g : Int} {t : Nat} {f : Bool} {u v : Int} {t' : Nat} {u' v' : Int} (hg : g = 4 ∨ g = 6) (ht : (t : Int) < g) (ht' : (t' : Int) < g) (h : Mov P Q g t f u v) (k : OnA P g t' u' v') : OnA Q g (cjT g t f t' false).toNat (cjP g t f u v t' false u' v').1 (cjP g t f u v t' false u' v').2 := by
  obtain ⟨t1, p, q, k0, k1, k2, k3⟩ := k
  have hF : cjF f true = true := by cases f <;> rfl
  have hF' : cjF f false = false := by cases f <;> rfl
  have k4 := cj_keeps hg ht k0 h k1
  have M1 := fun x y => cj_map g t f u v t1 true p q x y hg ht k0
  have M2 := fun x y => cj_map g t f u v t' false u' v' x y hg ht ht'
  rw [hF] at k4
  simp only [hF] at M1
  simp only [hF'] at M2
  refine ⟨_, _, _, cjT_lt g t f t1 true hg, k4, fun x y => ?_, fun x y => ?_⟩
  · obtain ⟨a, b, e⟩ := mv_onto g t f u v x y hg ht
    have e1 : x = (mv g t f u v a b).1 := by rw [e]
    have e2 : y = (mv g t f u v a b).2 := by rw [e]
    rw [e1, e2, M1, M1, k2]
  · obtain ⟨a, b, e⟩ := mv_onto g t f u v x y hg ht
    have e1 : x = (mv g t f u v a b).1 := by rw [e]
    have e2 : y = (mv g t f u v a b).2 := by rw [e]
    rw [e1, e2, M2, M1, M2, M1, k3]
/-- the turn back has the same point -/
theorem ona_inv {P : Int → Int → Int} {g : Int} {t : Nat} {u v : Int} (hg : g = 4 ∨ g = 6) (ht : (t : Int) < g) (k : OnA P g t u v) : OnA P g (bt g t false).toNat (iP g t false u v).1 (iP g t false u v).2 := by
  obtain ⟨t1, p, q, k0, k1, k2, k3⟩ := k
  refine ⟨t1, p, q, k0, k1, k2, fun x y => ?_⟩
  have F := fun x y => mv_fore g t false u v x y hg ⟨by omega, ht⟩
  have B := fun x y => mv_back g t false u v x y hg ⟨by omega, ht⟩
  simp only [Int.toNat_natCast] at F B
  -- r (f (r z)) = f z
  have R : ∀ x y, mv g t false u v (mv g t1 true p q (mv g t false u v x y).1 (mv g t false u v x y).2).1 (mv g t1 true p q (mv g t false u v x y).1 (mv g t false u v x y).2).2 = mv g t1 true p q x y := by
    intro x y
    have e := k3 x y
    generalize mv g t false u v (mv g t1 true p q (mv g t false u v x y).1 (mv g t false u v x y).2).1 (mv g t1 true p q (mv g t false u v x y).1 (mv g t false u v x y).2).2 = z at e ⊢
    have e2 := k2 z.1 z.2
    rw [e] at e2
    exact e2.symm
  -- r' (f z) = f (r z)
  have R2 : ∀ x y, mv g (bt g t false).toNat false (iP g t false u v).1 (iP g t false u v).2 (mv g t1 true p q x y).1 (mv g t1 true p q x y).2 = mv g t1 true p q (mv g t false u v x y).1 (mv g t false u v x y).2 := by
    intro x y
    rw [← R x y]
    exact F _ _
  rw [R2, k2, B]
/-- each point round which a pattern is turned by a third lies on a mirror -/
def ThA (P : Int → Int → Int) (g : Int) : Prop := ∀ u v, Kp P g 2 false u v → OnA P g 2 u v
theorem ona_bwd {P Q : Int → Int → Int} {g : Int} {t : Nat} {f : Bool} {u v : Int} {t' : Nat} {u' v' : Int} (hg : g = 4 ∨ g = 6) (ht : (t : Int) < g) (ht' : (t' : Int) < g) (h : Mov P Q g t f u v) (k : OnA Q g (cjT g t f t' false).toNat (cjP g t f u v t' false u' v').1 (cjP g t f u v t' false u' v').2) : OnA P g t' u' v' := by
  obtain ⟨t1, p, q, k0, k1, k2, k3⟩ := k
  have hF : cjF f true = true := by cases f <;> rfl
  have hF' : cjF f false = false := by cases f <;> rfl
  have hb := bt_range g t f hg ⟨by omega, ht⟩
  have hbt : (((bt g t f).toNat : Nat) : Int) < g := by omega
  have k4 := cj_keeps hg hbt k0 (h.back hg ht) k1
  have M1 := fun x y => cj_map g (bt g t f).toNat f (iP g t f u v).1 (iP g t f u v).2 t1 true p q x y hg hbt k0
  have M3 := fun x y => cj_map g t f u v t' false u' v' x y hg ht ht'
  have F := fun x y => mv_fore g t f u v x y hg ⟨by omega, ht⟩
  have B := fun x y => mv_back g t f u v x y hg ⟨by omega, ht⟩
  rw [hF] at k4
  simp only [hF] at M1
  simp only [hF'] at M3
  simp only [Int.toNat_natCast] at F B
  have M2 : ∀ x y, mv g t' false u' v' x y = mv g (bt g t f).toNat f (iP g t f u v).1 (iP g t f u v).2 (mv g (cjT g t f t' false).toNat false (cjP g t f u v t' false u' v').1 (cjP g t f u v t' false u' v').2 (mv g t f u v x y).1 (mv g t f u v x y).2).1 (mv g (cjT g t f t' false).toNat false (cjP g t f u v t' false u' v').1 (cjP g t f u v t' false u' v').2 (mv g t f u v x y).1 (mv g t f u v x y).2).2 := by
    intro x y
    rw [M3, F]
  refine ⟨_, _, _, cjT_lt g (bt g t f).toNat f t1 true hg, k4, fun x y => ?_, fun x y => ?_⟩
  · have e := F x y
    have e1 : x = (mv g (bt g t f).toNat f (iP g t f u v).1 (iP g t f u v).2 (mv g t f u v x y).1 (mv g t f u v x y).2).1 := by rw [e]
    have e2 : y = (mv g (bt g t f).toNat f (iP g t f u v).1 (iP g t f u v).2 (mv g t f u v x y).1 (mv g t f u v x y).2).2 := by rw [e]
    generalize (mv g t f u v x y).1 = a at e1 e2
    generalize (mv g t f u v x y).2 = b at e1 e2
    rw [e1, e2, M1, M1, k2]
  · rw [M2 x y, M1, M2, B, M1, k3, F]
theorem iP_twice (u v : Int) : iP 6 2 false (iP 6 4 false u v).1 (iP 6 4 false u v).2 = (u, v) := by
  simp [iP, bt, li, tu, mi, tq]
  omega
theorem tha_fore {P Q : Int → Int → Int} {t : Nat} {f : Bool} {u v : Int} (ht : (t : Int) < 6) (h : Mov P Q 6 t f u v) (k : ThA Q 6) : ThA P 6 := by
  have hg : (6 : Int) = 4 ∨ (6 : Int) = 6 := Or.inr rfl
  intro u' v' k1
  have k2 := cj_keeps hg ht (show ((2 : Nat) : Int) < 6 by decide) h k1
  refine ona_bwd hg ht (show ((2 : Nat) : Int) < 6 by decide) h ?_
  cases f with
  | false =>
    have e : cjT 6 t false (2 : Nat) false = (2 : Nat) := by simp only [cjT, cT, cF, bt]; omega
    rw [e, Int.toNat_natCast] at k2 ⊢
    exact k _ _ k2
  | true =>
    have e : cjT 6 t true (2 : Nat) false = (4 : Nat) := by simp only [cjT, cT, cF, bt, Bool.not_false]; omega
    rw [e, Int.toNat_natCast] at k2 ⊢
    generalize (cjP 6 t true u v (2 : Nat) false u' v').1 = c at k2 ⊢
    generalize (cjP 6 t true u v (2 : Nat) false u' v').2 = d at k2 ⊢
    rw [show cjF true false = false from rfl] at k2
    have k3 := Kp.inv (t := 4) hg (by decide) k2
    have k4 := ona_inv hg (show ((2 : Nat) : Int) < 6 by decide) (k _ _ k3)
    have k5 := iP_twice c d
    rw [show bt 6 ((2 : Nat) : Int) false = 4 from rfl] at k4
    rw [show (((2 : Nat) : Int)) = 2 from rfl, k5] at k4
    exact k4
theorem tha_iff {P Q : Int → Int → Int} {t : Nat} {f : Bool} {u v : Int} (ht : (t : Int) < 6) (h : Mov P Q 6 t f u v) : ThA P 6 ↔ ThA Q 6 := by
  have hg : (6 : Int) = 4 ∨ (6 : Int) = 6 := Or.inr rfl
  have hb := bt_range 6 t f hg ⟨by omega, ht⟩
  exact ⟨tha_fore (show (((bt 6 t f).toNat : Nat) : Int) < 6 by omega) (h.back hg ht), tha_fore ht h⟩
end Go.Proofs.YtpcajcgafmmlkaaDoor

namespace Go.Proofs.YtpcajcgafmmlkaaDoor
open Go.RowKit Go.Maps

theorem kp_mod {P : Int → Int → Int} {N : Nat} (hP : Per P N) {g : Int} {t : Nat} {f : Bool} {u v : Int} : Kp P g t f (u % N) (v % N) ↔ Kp P g t f u v :=
  ⟨fun h => h.cong hP (mod_mod u N) (mod_mod v N), fun h => h.cong hP (mod_mod u N).symm (mod_mod v N).symm⟩
theorem fi_iff (w h N : Nat) (px : Nat → Int) (g : Int) (t : Nat) (f : Bool) (hN : 1 ≤ N) (ht : t < g.toNat) : (fi (movesL w h N px g) t f).isSome = true ↔ ∃ u v, Kp (pat w h N px) g t f u v := by
  rw [fi_some]
  constructor
  · rintro ⟨X, Y, hm⟩
    exact ⟨X, Y, ((mem_moves w h N px g t f X Y hN).1 hm).2.2.2⟩
  · rintro ⟨u, v, hk⟩
    have a1 := Int.emod_nonneg u (show (N : Int) ≠ 0 by omega)
    have a2 := Int.emod_lt_of_pos u (show (0 : Int) < N by omega)
    have b1 := Int.emod_nonneg v (show (N : Int) ≠ 0 by omega)
    have b2 := Int.emod_lt_of_pos v (show (0 : Int) < N by omega)
    refine ⟨(u % N).toNat, (v % N).toNat, (mem_moves w h N px g t f _ _ hN).2 ⟨ht, by omega, by omega, ?_⟩⟩
    rw [Int.toNat_of_nonneg a1, Int.toNat_of_nonneg b1]
    exact (kp_mod (pat_per w h N px)).2 hk
theorem fi_of (w h N : Nat) (px : Nat → Int) (g : Int) (t : Nat) (f : Bool) (hN : 1 ≤ N) {m : Mv} (h0 : fi (movesL w h N px g) t f = some m) : m.1 = t ∧ m.2.1 = f ∧ Kp (pat w h N px) g t f m.2.2.1 m.2.2.2 := by
  unfold fi at h0
  have h1 := List.find?_some h0
  have h2 := List.mem_of_find?_eq_some h0
  obtain ⟨t', f', X, Y⟩ := m
  simp at h1
  obtain ⟨rfl, rfl⟩ := h1
  exact ⟨rfl, rfl, ((mem_moves w h N px g t' f' X Y hN).1 h2).2.2.2⟩
theorem stB_iff (w h N : Nat) (px : Nat → Int) (g x y : Int) (hN : 1 ≤ N) : stB w h N px g x y = true ↔ St (pat w h N px) x y := by
  unfold stB
  rw [kpV_iff w h N px g 0 false _ _ hN, kp_mod (pat_per w h N px), kp_step]
theorem flB_iff (w h N : Nat) (px : Nat → Int) (g : Int) (t : Nat) (x y : Int) (hN : 1 ≤ N) : flB w h N px g t x y = true ↔ Kp (pat w h N px) g t true x y := by
  unfold flB
  rw [kpV_iff w h N px g t true _ _ hN, kp_mod (pat_per w h N px)]
theorem glB_iff (w h N : Nat) (px : Nat → Int) (g : Int) (t X Y : Nat) (hN : 1 ≤ N) : glB (stB w h N px g) g t X Y = false ↔ Mr (pat w h N px) g t X Y := by
  unfold glB Mr
  generalize mv g t true X Y X Y = z
  obtain ⟨a, b⟩ := z
  simp only [Bool.not_eq_false', Bool.and_eq_true, decide_eq_true_eq]
  rw [stB_iff w h N px g _ _ hN]
  constructor
  · rintro ⟨⟨h1, h2⟩, h3⟩
    exact ⟨_, _, Prod.ext (by dsimp only; omega) (by dsimp only; omega), h3⟩
  · rintro ⟨c, d, e, h3⟩
    have e1 := (Prod.mk.inj e).1
    have e2 := (Prod.mk.inj e).2
    refine ⟨⟨by omega, by omega⟩, ?_⟩
    rw [show (0 - a) / 2 = c by omega, show (0 - b) / 2 = d by omega]
    exact h3
theorem mr_add {P : Int → Int → Int} {g : Int} {t : Nat} {u v a b : Int} (hg : g = 4 ∨ g = 6) (ht : (t : Int) < g) (h : Kp P g t true u v) (k : St P a b) (m : Mr P g t u v) : Mr P g t (u + 2 * a) (v + 2 * b) := by
  obtain ⟨c, d, e, l⟩ := m
  have s := st_fore hg ht (kp_mov h) k
  refine ⟨c + (-((li g t true a b).1) + -a), d + (-((li g t true a b).2) + -b), ?_, l.add (s.neg.add k.neg)⟩
  rw [mv_li] at e ⊢
  rw [li_shift]
  have e1 := (Prod.mk.inj e).1
  have e2 := (Prod.mk.inj e).2
  exact Prod.ext (by dsimp only; omega) (by dsimp only; omega)
theorem mr_shift {P : Int → Int → Int} {g : Int} {t : Nat} {u v a b : Int} (hg : g = 4 ∨ g = 6) (ht : (t : Int) < g) (h : Kp P g t true u v) (k : St P a b) : Mr P g t (u + 2 * a) (v + 2 * b) ↔ Mr P g t u v := by
  refine ⟨fun m => ?_, mr_add hg ht h k⟩
  have h2 := kp_add h (k.add k)
  rw [show a + a = 2 * a by omega, show b + b = 2 * b by omega] at h2
  have := mr_add hg ht h2 k.neg m
  rwa [show u + 2 * a + 2 * -a = u by omega, show v + 2 * b + 2 * -b = v by omega] at this
/-- a move of the same turn and flip is one of those behind the first, and so many steps -/
theorem reduce {P : Int → Int → Int} {N s u v : Nat} {g : Int} {t : Nat} {f : Bool} {X Y x y : Int} (M : Nat) (hM : 1 ≤ M) (hF : Fine P N s u v) (hg : g = 4 ∨ g = 6) (ht : (t : Int) < g) (h : Kp P g t f X Y) (k : Kp P g t f x y) :
    ∃ (i j : Nat) (a b : Int), i < M ∧ j < M ∧ St P a b ∧ x = X + ((i * s : Int) + j * u) + M * a ∧ y = Y + (j * v : Int) + M * b := by
  have d := kp_sub hg ht k h
  obtain ⟨h1, h2⟩ := (hF.all _ _).1 d
  have hs := hF.hs
  have hv := hF.hv
  obtain ⟨j, hj⟩ := Int.dvd_of_emod_eq_zero h1
  have hjv : (y - Y) / (v : Int) = j := by rw [hj, Int.mul_ediv_cancel_left _ (by omega)]
  rw [hjv] at h2
  obtain ⟨i, hi⟩ := Int.dvd_of_emod_eq_zero h2
  have i1 := Int.emod_nonneg i (show (M : Int) ≠ 0 by omega)
  have i2 := Int.emod_lt_of_pos i (show (0 : Int) < M by omega)
  have j1 := Int.emod_nonneg j (show (M : Int) ≠ 0 by omega)
  have j2 := Int.emod_lt_of_pos j (show (0 : Int) < M by omega)
  have ei := Int.emod_add_mul_ediv i M
  have ej := Int.emod_add_mul_ediv j M
  refine ⟨(i % M).toNat, (j % M).toNat, i / M * s + j / M * u, j / M * v, by omega, by omega, ?_, ?_, ?_⟩
  · have := (hF.st1.mul (i / M)).add (hF.st2.mul (j / M))
    rwa [Int.mul_zero, Int.zero_add] at this
  · rw [Int.toNat_of_nonneg i1, Int.toNat_of_nonneg j1]
    have e1 : x = X + (i * s + j * u) := by rw [Int.mul_comm (s : Int) i] at hi; omega
    rw [e1]
    generalize i / (M : Int) = I at *
    generalize j / (M : Int) = J at *
    generalize i % (M : Int) = r at *
    generalize j % (M : Int) = q at *
    rw [← ei, ← ej]
    grind
  · rw [Int.toNat_of_nonneg j1]
    have e1 : y = Y + j * v := by rw [Int.mul_comm (v : Int) j] at hj; omega
    rw [e1]
    generalize j / (M : Int) = J at *
    generalize j % (M : Int) = q at *
    rw [← ej]
    grind
theorem st_fine {P : Int → Int → Int} {N s u v : Nat} (hF : Fine P N s u v) (i j : Nat) : St P ((i * s : Int) + j * u) (j * v : Int) := by
  have := (hF.st1.mul i).add (hF.st2.mul j)
  rwa [Int.mul_zero, Int.zero_add] at this
theorem mem_bAll (t : Nat) (f : Bool) (X Y s u v c k : Nat) (m : Mv) : m ∈ bAll t f X Y s u v c k ↔ ∃ i j, i < k ∧ j < c ∧ m = bMv t f X Y s u v i j := by
  unfold bAll bRow
  rw [List.mem_flatMap]
  constructor
  · rintro ⟨i, hi, hm⟩
    rw [List.mem_map] at hm
    obtain ⟨j, hj, rfl⟩ := hm
    exact ⟨i, j, List.mem_range.1 hi, List.mem_range.1 hj, rfl⟩
  · rintro ⟨i, j, hi, hj, rfl⟩
    exact ⟨i, List.mem_range.2 hi, List.mem_map.2 ⟨j, List.mem_range.2 hj, rfl⟩⟩
theorem cast_x (X i s j u : Nat) : ((X + (i * s + j * u) : Nat) : Int) = (X : Int) + ((i * s : Int) + j * u) := by rw [Int.natCast_add, Int.natCast_add, Int.natCast_mul, Int.natCast_mul]
theorem cast_y (Y j v : Nat) : ((Y + j * v : Nat) : Int) = (Y : Int) + (j * v : Int) := by rw [Int.natCast_add, Int.natCast_mul]
theorem any_hf (w h N : Nat) (px : Nat → Int) (g : Int) (s u v : Nat) (t X Y : Nat) (b : Bool) (hg : g = 4 ∨ g = 6) (hN : 1 ≤ N) (ht : (t : Int) < g) (hF : Fine (pat w h N px) N s u v) (hk : Kp (pat w h N px) g t true X Y) :
    (bAll t true X Y s u v 2 2).any (fun m => glB (stB w h N px g) g m.1 m.2.2.1 m.2.2.2 == !b) = true ↔ HF (pat w h N px) g t b := by
  rw [List.any_eq_true]
  have key : ∀ i j : Nat, (glB (stB w h N px g) g t (X + (i * s + j * u)) (Y + j * v) == !b) = true ↔ (Mr (pat w h N px) g t ((X : Int) + ((i * s : Int) + j * u)) ((Y : Int) + (j * v : Int)) ↔ b = true) := by
    intro i j
    rw [← cast_x, ← cast_y, ← glB_iff w h N px g t _ _ hN]
    cases b <;> cases glB (stB w h N px g) g t (X + (i * s + j * u)) (Y + j * v) <;> simp
  constructor
  · rintro ⟨m, hm, hq⟩
    obtain ⟨i, j, hi, hj, rfl⟩ := (mem_bAll t true X Y s u v 2 2 m).1 hm
    exact ⟨_, _, kp_add hk (st_fine hF i j), (key i j).1 hq⟩
  · rintro ⟨x, y, k1, k2⟩
    obtain ⟨i, j, a, c, hi, hj, hst, rfl, rfl⟩ := reduce 2 (by decide) hF hg ht hk k1
    refine ⟨bMv t true X Y s u v i j, (mem_bAll t true X Y s u v 2 2 _).2 ⟨i, j, hi, hj, rfl⟩, (key i j).2 ?_⟩
    exact (mr_shift hg ht (kp_add hk (st_fine hF i j)) hst).symm.trans k2
theorem flF_none (w h N : Nat) (px : Nat → Int) (g : Int) (s u v t : Nat) (hN : 1 ≤ N) (ht : t < g.toNat) : flF (stB w h N px g) g (movesL w h N px g) s u v t = none ↔ ¬ (HF (pat w h N px) g t true ∨ HF (pat w h N px) g t false) := by
  have e : (HF (pat w h N px) g t true ∨ HF (pat w h N px) g t false) ↔ ∃ x y, Kp (pat w h N px) g t true x y := by
    constructor
    · rintro (⟨x, y, k, -⟩ | ⟨x, y, k, -⟩) <;> exact ⟨x, y, k⟩
    · rintro ⟨x, y, k⟩
      by_cases m : Mr (pat w h N px) g t x y
      · exact Or.inl ⟨x, y, k, by simp [m]⟩
      · exact Or.inr ⟨x, y, k, by simp [m]⟩
  rw [e, ← fi_iff w h N px g t true hN ht]
  unfold flF
  cases fi (movesL w h N px g) t true <;> simp
theorem flF_some2 (w h N : Nat) (px : Nat → Int) (g : Int) (s u v t : Nat) (hg : g = 4 ∨ g = 6) (hN : 1 ≤ N) (ht : t < g.toNat) (hF : Fine (pat w h N px) N s u v) {c : Bool × Bool} (hc : flF (stB w h N px g) g (movesL w h N px g) s u v t = some c) :
    (c.1 = true ↔ HF (pat w h N px) g t true) ∧ (c.2 = true ↔ HF (pat w h N px) g t false) := by
  unfold flF at hc
  cases hm : fi (movesL w h N px g) t true with
  | none => rw [hm] at hc; cases hc
  | some m =>
    rw [hm] at hc
    obtain ⟨-, -, k⟩ := fi_of w h N px g t true hN hm
    cases hc
    have ht' : (t : Int) < g := by omega
    have a1 := any_hf w h N px g s u v t m.2.2.1 m.2.2.2 true hg hN ht' hF k
    have a2 := any_hf w h N px g s u v t m.2.2.1 m.2.2.2 false hg hN ht' hF k
    refine ⟨?_, ?_⟩
    · rw [← a1]; simp
    · rw [← a2]; simp

/-- what the choice among the kinds hangs on -/
theorem allW_iff2 (G : Nat) (F : Nat → Option (Bool × Bool)) (p : Bool × Bool → Bool) : allW G F p = true ↔ ∀ t c, t < G → F t = some c → p c = true := by
  unfold allW
  rw [List.all_eq_true]
  constructor
  · intro H t c ht hc
    have := H t (List.mem_range.2 ht)
    rw [hc] at this
    exact this
  · intro H t ht
    cases hc : F t with
    | none => rfl
    | some c => exact H t c (List.mem_range.1 ht) hc
theorem allW_same {G : Nat} {F F' : Nat → Option (Bool × Bool)} (h1 : ∀ t c, t < G → F t = some c → ∃ t', t' < G ∧ F' t' = some c) (h2 : ∀ t c, t < G → F' t = some c → ∃ t', t' < G ∧ F t' = some c) (p : Bool × Bool → Bool) : allW G F p = allW G F' p := by
  rw [Bool.eq_iff_iff, allW_iff2, allW_iff2]
  constructor
  · intro H t c ht hc
    obtain ⟨t', h3, h4⟩ := h2 t c ht hc
    exact H t' c h3 h4
  · intro H t c ht hc
    obtain ⟨t', h3, h4⟩ := h1 t c ht hc
    exact H t' c h3 h4
theorem Cn_zero (p : Nat → Bool) (G : Nat) : Cn p G = 0 ↔ ∀ t, t < G → p t = false := by
  unfold Cn
  rw [List.length_eq_zero_iff, List.filter_eq_nil_iff]
  constructor
  · intro H t ht
    have := H t (List.mem_range.2 ht)
    simpa using this
  · intro H t ht
    rw [H t (List.mem_range.1 ht)]
    simp
theorem kdO_same {T G : Nat} {F F' : Nat → Option (Bool × Bool)} {th th' : Bool} (h1 : ∀ t c, t < G → F t = some c → ∃ t', t' < G ∧ F' t' = some c) (h2 : ∀ t c, t < G → F' t = some c → ∃ t', t' < G ∧ F t' = some c) (h3 : T = 3 → th = th') : kdO T G F th = kdO T G F' th' := by
  have e : (Cn (fun t => (F t).isSome) G = 0) ↔ (Cn (fun t => (F' t).isSome) G = 0) := by
    rw [Cn_zero, Cn_zero]
    constructor
    · intro H t ht
      cases hc : F' t with
      | none => rfl
      | some c =>
        obtain ⟨t', h4, h5⟩ := h2 t c ht hc
        have := H t' h4
        rw [h5] at this
        cases this
    · intro H t ht
      cases hc : F t with
      | none => rfl
      | some c =>
        obtain ⟨t', h4, h5⟩ := h1 t c ht hc
        have := H t' h4
        rw [h5] at this
        cases this
  unfold kdO chO
  rw [allW_same h1 h2, allW_same h1 h2, allW_same h1 h2, allW_same h1 h2]
  simp only [e]
  by_cases hT : T = 3
  · rw [h3 hT]
  · simp only [hT, if_false]

/-- where a turn by a third has its point, thrice: the mirrors through it -/
theorem on_coord (t1 : Nat) (h1 : t1 < 6) (p q u v : Int) : ((∀ x y, mv 6 t1 true p q (mv 6 t1 true p q x y).1 (mv 6 t1 true p q x y).2 = (x, y)) ∧
  ∀ x y, mv 6 t1 true p q (mv 6 2 false u v (mv 6 t1 true p q (mv 6 2 false u v x y).1 (mv 6 2 false u v x y).2).1 (mv 6 t1 true p q (mv 6 2 false u v x y).1 (mv 6 2 false u v x y).2).2).1 (mv 6 2 false u v (mv 6 t1 true p q (mv 6 2 false u v x y).1 (mv 6 2 false u v x y).2).1 (mv 6 t1 true p q (mv 6 2 false u v x y).1 (mv 6 2 false u v x y).2).2).2 = (x, y)) ↔
  3 * p = u - v - (mv 6 t1 true 0 0 (u - v) (u + v + v)).1 ∧ 3 * q = u + v + v - (mv 6 t1 true 0 0 (u - v) (u + v + v)).2 := by
  constructor
  · rintro ⟨a, b⟩
    have a0 := a 0 0
    have b0 := b 0 0
    rcases six t1 h1 with rfl | rfl | rfl | rfl | rfl | rfl <;> simp [mv, tu, mi, tq] at a0 b0 ⊢ <;> omega
  · rintro ⟨a, b⟩
    rcases six t1 h1 with rfl | rfl | rfl | rfl | rfl | rfl <;> simp [mv, tu, mi, tq] at a b ⊢ <;> exact ⟨fun x y => by omega, fun x y => by omega⟩
theorem thM_iff (w h N : Nat) (px : Nat → Int) (X Y : Nat) (hN : 1 ≤ N) : thM (flB w h N px 6) 6 6 (2, false, X, Y) = true ↔ OnA (pat w h N px) 6 2 X Y := by
  unfold thM omB OnA omT
  rw [List.any_eq_true]
  simp only [if_true, Bool.and_eq_true, decide_eq_true_eq]
  constructor
  · rintro ⟨t, ht, ⟨e1, e2⟩, hk⟩
    rw [List.mem_range] at ht
    rw [flB_iff w h N px 6 t _ _ hN] at hk
    refine ⟨t, _, _, by omega, hk, (on_coord t ht _ _ X Y).2 ⟨by omega, by omega⟩⟩
  · rintro ⟨t, p, q, ht, hk, hc⟩
    have ht' : t < 6 := by omega
    obtain ⟨c1, c2⟩ := (on_coord t ht' p q X Y).1 hc
    refine ⟨t, List.mem_range.2 ht', ⟨by omega, by omega⟩, ?_⟩
    rw [flB_iff w h N px 6 t _ _ hN, ← c1, ← c2, Int.mul_ediv_cancel_left _ (by decide), Int.mul_ediv_cancel_left _ (by decide)]
    exact hk
/-- thrice a step behind a turn by a third takes its point to a like one -/
theorem ona_add {P : Int → Int → Int} {X Y a b : Int} (h : Kp P 6 2 false X Y) (k : St P a b) (o : OnA P 6 2 X Y) : OnA P 6 2 (X + 3 * a) (Y + 3 * b) := by
  have hg : (6 : Int) = 4 ∨ (6 : Int) = 6 := Or.inr rfl
  have s1 := st_fore hg (show ((2 : Nat) : Int) < 6 by decide) (kp_mov h) k
  have s2 := st_fore hg (show ((2 : Nat) : Int) < 6 by decide) (kp_mov h) s1
  have s3 := k.add s2.neg
  have o2 := ona_fore hg (show ((0 : Nat) : Int) < 6 by decide) (show ((2 : Nat) : Int) < 6 by decide) (st_mov (g := 6) s3) o
  rw [show cjT 6 ((0 : Nat) : Int) false ((2 : Nat) : Int) false = ((2 : Nat) : Int) from rfl, Int.toNat_natCast] at o2
  have e : cjP 6 ((0 : Nat) : Int) false (a + -(li 6 2 false (li 6 2 false a b).1 (li 6 2 false a b).2).1) (b + -(li 6 2 false (li 6 2 false a b).1 (li 6 2 false a b).2).2) ((2 : Nat) : Int) false X Y = (X + 3 * a, Y + 3 * b) := by
    simp [cjP, mv, iP, li, tu, mi, tq, bt, cT, cF]
    omega
  rw [e] at o2
  exact o2
theorem thB_iff (w h N : Nat) (px : Nat → Int) (s u v : Nat) (hN : 1 ≤ N) (hF : Fine (pat w h N px) N s u v) : thB (flB w h N px 6) 6 6 (movesL w h N px 6) s u v = true ↔ ThA (pat w h N px) 6 := by
  have hg : (6 : Int) = 4 ∨ (6 : Int) = 6 := Or.inr rfl
  unfold thB
  cases hm : fi (movesL w h N px 6) 2 false with
  | none =>
    simp only [true_iff]
    intro x y hk
    have := (fi_iff w h N px 6 2 false hN (by decide)).2 ⟨x, y, hk⟩
    rw [hm] at this
    cases this
  | some m =>
    obtain ⟨-, -, k⟩ := fi_of w h N px 6 2 false hN hm
    simp only []
    rw [List.all_eq_true]
    constructor
    · intro H x y hk
      obtain ⟨i, j, a, c, hi, hj, hst, rfl, rfl⟩ := reduce 3 (by decide) hF hg (show ((2 : Nat) : Int) < 6 by decide) k hk
      have h1 := H (bMv 2 false m.2.2.1 m.2.2.2 s u v i j) ((mem_bAll 2 false m.2.2.1 m.2.2.2 s u v 3 3 _).2 ⟨i, j, hi, hj, rfl⟩)
      unfold bMv at h1
      rw [thM_iff w h N px _ _ hN, cast_x, cast_y] at h1
      exact ona_add (kp_add k (st_fine hF i j)) hst h1
    · intro H x hx
      obtain ⟨i, j, hi, hj, rfl⟩ := (mem_bAll 2 false m.2.2.1 m.2.2.2 s u v 3 3 x).1 hx
      unfold bMv
      rw [thM_iff w h N px _ _ hN, cast_x, cast_y]
      exact H _ _ (kp_add k (st_fine hF i j))
/-- two patterns of which these are the same are of one kind -/
structure Alike (P Q : Int → Int → Int) (g : Int) : Prop where
  turns : ∀ t : Nat, (t : Int) < g → (HT P g t ↔ HT Q g t)
  fore : ∀ t : Nat, (t : Int) < g → ∃ t' : Nat, (t' : Int) < g ∧ ∀ b, HF P g t b ↔ HF Q g t' b
  back : ∀ t : Nat, (t : Int) < g → ∃ t' : Nat, (t' : Int) < g ∧ ∀ b, HF Q g t b ↔ HF P g t' b
  thirds : g = 6 → (ThA P g ↔ ThA Q g)
theorem flF_to (w h N : Nat) (px : Nat → Int) (s u v : Nat) (w' h' N' : Nat) (px' : Nat → Int) (s' u' v' : Nat) (g : Int) (hg : g = 4 ∨ g = 6) (hN : 1 ≤ N) (hN' : 1 ≤ N') (hF : Fine (pat w h N px) N s u v) (hF' : Fine (pat w' h' N' px') N' s' u' v')
    (H : ∀ t : Nat, (t : Int) < g → ∃ t' : Nat, (t' : Int) < g ∧ ∀ b, HF (pat w h N px) g t b ↔ HF (pat w' h' N' px') g t' b) :
    ∀ t c, t < g.toNat → flF (stB w h N px g) g (movesL w h N px g) s u v t = some c → ∃ t', t' < g.toNat ∧ flF (stB w' h' N' px' g) g (movesL w' h' N' px' g) s' u' v' t' = some c := by
  intro t c ht hc
  obtain ⟨t', h1, h2⟩ := H t (by omega)
  have ht' : t' < g.toNat := by omega
  refine ⟨t', ht', ?_⟩
  have a := flF_some2 w h N px g s u v t hg hN ht hF hc
  have hne : ¬ flF (stB w h N px g) g (movesL w h N px g) s u v t = none := by rw [hc]; simp
  rw [flF_none w h N px g s u v t hN ht, h2 true, h2 false, ← flF_none w' h' N' px' g s' u' v' t' hN' ht'] at hne
  cases hd : flF (stB w' h' N' px' g) g (movesL w' h' N' px' g) s' u' v' t' with
  | none => exact absurd hd hne
  | some d =>
    have b := flF_some2 w' h' N' px' g s' u' v' t' hg hN' ht' hF' hd
    have e1 : d.1 = c.1 := by rw [Bool.eq_iff_iff, a.1, b.1, h2]
    have e2 : d.2 = c.2 := by rw [Bool.eq_iff_iff, a.2, b.2, h2]
    rw [Prod.ext e1 e2]
theorem kindO_same (w h N : Nat) (px : Nat → Int) (s u v : Nat) (w' h' N' : Nat) (px' : Nat → Int) (s' u' v' : Nat) (g : Int) (hg : g = 4 ∨ g = 6) (hN : 1 ≤ N) (hN' : 1 ≤ N') (hF : Fine (pat w h N px) N s u v) (hF' : Fine (pat w' h' N' px') N' s' u' v')
    (A : Alike (pat w h N px) (pat w' h' N' px') g) : kindO w' h' N' px' g s' u' v' = kindO w h N px g s u v := by
  unfold kindO
  have e : Cn (fun t => (fi (movesL w' h' N' px' g) t false).isSome) g.toNat = Cn (fun t => (fi (movesL w h N px g) t false).isSome) g.toNat := by
    refine Cn_congr _ _ _ fun t ht => ?_
    rw [Bool.eq_iff_iff, fi_iff w' h' N' px' g t false hN' ht, fi_iff w h N px g t false hN ht]
    exact (A.turns t (by omega)).symm
  rw [e]
  refine kdO_same (flF_to w' h' N' px' s' u' v' w h N px s u v g hg hN' hN hF' hF A.back) (flF_to w h N px s u v w' h' N' px' s' u' v' g hg hN hN' hF hF' A.fore) ?_
  intro h3
  have hgr := moves_grp w h N px g hg hN
  have g6 : g = 6 := by
    rcases hg with rfl | rfl
    · have := hgr.count.1
      rw [h3] at this
      revert this
      decide
    · rfl
  subst g6
  rw [Bool.eq_iff_iff]
  exact (thB_iff w' h' N' px' s' u' v' hN' hF').trans ((A.thirds rfl).symm.trans (thB_iff w h N px s u v hN hF).symm)
theorem Alike.of_mov {P Q : Int → Int → Int} {g : Int} {t : Nat} {f : Bool} {u v : Int} (hg : g = 4 ∨ g = 6) (ht : (t : Int) < g) (h : Mov P Q g t f u v) : Alike P Q g := by
  have hb := bt_range g t f hg ⟨by omega, ht⟩
  refine ⟨fun t' ht' => ht_iff hg ht ht' h, fun t' ht' => ⟨_, cjT_lt g t f t' true hg, fun b => hf_iff hg ht ht' h⟩, fun t' ht' => ⟨_, cjT_lt g (bt g t f).toNat f t' true hg, fun b => hf_iff hg (show (((bt g t f).toNat : Nat) : Int) < g by omega) ht' (h.back hg ht)⟩, ?_⟩
  rintro rfl
  exact tha_iff ht h
theorem Alike.of_kp {P Q : Int → Int → Int} {g : Int} (h : ∀ t f u v, Kp P g t f u v ↔ Kp Q g t f u v) : Alike P Q g := by
  have hs : ∀ a b, St P a b ↔ St Q a b := fun a b => by rw [← kp_step P g a b, ← kp_step Q g a b]; exact h 0 false a b
  have hm : ∀ t u v, Mr P g t u v ↔ Mr Q g t u v := fun t u v => by unfold Mr; simp only [hs]
  have hf : ∀ t b, HF P g t b ↔ HF Q g t b := fun t b => by unfold HF; simp only [hm, h]
  refine ⟨fun t _ => by unfold HT; simp only [h], fun t ht => ⟨t, ht, fun b => hf t b⟩, fun t ht => ⟨t, ht, fun b => (hf t b).symm⟩, fun _ => ?_⟩
  unfold ThA OnA
  simp only [h]
end Go.Proofs.YtpcajcgafmmlkaaDoor

namespace Go.Proofs.YtpcajcgafmmlkaaDoor
open Go.RowKit

theorem g13_0 {a0 a1 a2 a3 a4 a5 a6 a7 a8 a9 a10 a11 a12 : Oper} : (#[a0, a1, a2, a3, a4, a5, a6, a7, a8, a9, a10, a11, a12] : Array Oper)[0]? = some a0 := rfl
theorem g13_1 {a0 a1 a2 a3 a4 a5 a6 a7 a8 a9 a10 a11 a12 : Oper} : (#[a0, a1, a2, a3, a4, a5, a6, a7, a8, a9, a10, a11, a12] : Array Oper)[1]? = some a1 := rfl
theorem g13_2 {a0 a1 a2 a3 a4 a5 a6 a7 a8 a9 a10 a11 a12 : Oper} : (#[a0, a1, a2, a3, a4, a5, a6, a7, a8, a9, a10, a11, a12] : Array Oper)[2]? = some a2 := rfl
theorem g13_3 {a0 a1 a2 a3 a4 a5 a6 a7 a8 a9 a10 a11 a12 : Oper} : (#[a0, a1, a2, a3, a4, a5, a6, a7, a8, a9, a10, a11, a12] : Array Oper)[3]? = some a3 := rfl
theorem g13_4 {a0 a1 a2 a3 a4 a5 a6 a7 a8 a9 a10 a11 a12 : Oper} : (#[a0, a1, a2, a3, a4, a5, a6, a7, a8, a9, a10, a11, a12] : Array Oper)[4]? = some a4 := rfl
theorem g13_5 {a0 a1 a2 a3 a4 a5 a6 a7 a8 a9 a10 a11 a12 : Oper} : (#[a0, a1, a2, a3, a4, a5, a6, a7, a8, a9, a10, a11, a12] : Array Oper)[5]? = some a5 := rfl
theorem g13_6 {a0 a1 a2 a3 a4 a5 a6 a7 a8 a9 a10 a11 a12 : Oper} : (#[a0, a1, a2, a3, a4, a5, a6, a7, a8, a9, a10, a11, a12] : Array Oper)[6]? = some a6 := rfl
theorem g13_7 {a0 a1 a2 a3 a4 a5 a6 a7 a8 a9 a10 a11 a12 : Oper} : (#[a0, a1, a2, a3, a4, a5, a6, a7, a8, a9, a10, a11, a12] : Array Oper)[7]? = some a7 := rfl
theorem g13_8 {a0 a1 a2 a3 a4 a5 a6 a7 a8 a9 a10 a11 a12 : Oper} : (#[a0, a1, a2, a3, a4, a5, a6, a7, a8, a9, a10, a11, a12] : Array Oper)[8]? = some a8 := rfl
theorem g13_9 {a0 a1 a2 a3 a4 a5 a6 a7 a8 a9 a10 a11 a12 : Oper} : (#[a0, a1, a2, a3, a4, a5, a6, a7, a8, a9, a10, a11, a12] : Array Oper)[9]? = some a9 := rfl
theorem g13_10 {a0 a1 a2 a3 a4 a5 a6 a7 a8 a9 a10 a11 a12 : Oper} : (#[a0, a1, a2, a3, a4, a5, a6, a7, a8, a9, a10, a11, a12] : Array Oper)[10]? = some a10 := rfl
theorem g13_11 {a0 a1 a2 a3 a4 a5 a6 a7 a8 a9 a10 a11 a12 : Oper} : (#[a0, a1, a2, a3, a4, a5, a6, a7, a8, a9, a10, a11, a12] : Array Oper)[11]? = some a11 := rfl
theorem g13_12 {a0 a1 a2 a3 a4 a5 a6 a7 a8 a9 a10 a11 a12 : Oper} : (#[a0, a1, a2, a3, a4, a5, a6, a7, a8, a9, a10, a11, a12] : Array Oper)[12]? = some a12 := rfl
theorem tcl_row (w h A : Nat) (px : Nat → Int) (r i : Nat) (hi : i < A) : tcl w h (A * w) px (r * (A * w) + i * w + w) = tcl w h (A * w) px (r * (A * w) + i * w) ++ (List.range w).map fun j => px (r % h * w + j) := by
  unfold tcl
  rw [List.range_add, List.map_append, List.map_map]
  congr 1
  refine List.map_congr_left fun j hj => ?_
  rw [List.mem_range] at hj
  show tcx w h (A * w) px (r * (A * w) + i * w + j) = _
  have hlt : i * w + j < A * w := by
    have := Nat.mul_le_mul_right w (show i + 1 ≤ A from hi)
    rw [Nat.add_mul, Nat.one_mul] at this
    omega
  rw [Nat.add_assoc, tcx_at w h (A * w) px (i * w + j) r hlt, Nat.mul_comm i w, Nat.mul_add_mod, Nat.mod_eq_of_lt hj]
/-- a colour, so many further -/
def rcO (add c : Int) : Int := (c + add.tmod 62) % 62
theorem range_map_succ (F : Nat → Int) (k : Nat) : (List.range (k + 1)).map F = (List.range k).map F ++ [F k] := by rw [List.range_succ, List.map_append]; rfl

end Go.Proofs.YtpcajcgafmmlkaaDoor

namespace Go.Proofs.YtpcajcgafmmlkaaDoor
open Go.RowKit

theorem mcF_or (tgt : Nat → Nat) (src : Nat → Int) (k j : Nat) : mcF tgt src k j = 0 ∨ ∃ i, mcF tgt src k j = src i := by
  induction k with
  | zero => exact Or.inl rfl
  | succ k ih =>
    simp only [mcF, put]
    split
    · exact Or.inr ⟨k, rfl⟩
    · exact ih
theorem allin_of (px : Nat → Int) (n : Nat) (h : ∀ k, 0 ≤ px k ∧ px k ≤ 61) : Ch.allin px n = true := by
  induction n with
  | zero => rfl
  | succ n ih =>
    have := h n
    simp only [Ch.allin, ih, Bool.true_and]
    simp only [this.1, this.2, decide_true, Bool.and_self]
theorem Right.colours {W : World} {g w h : Int} {p : Option Addr} {n : Nat} {px : Nat → Int} {w' h' N b o : Nat} (r : Right W g w h p n px w' h' N b o) : Ch.allin px n = true := by
  obtain ⟨_, _, _, _, hc, _⟩ := Ch.wE_zero g w h p n px W (Or.inr ⟨b, o, r.hp, r.row⟩) (toE_zero r.hE).1
  exact hc
theorem Right.moved {W : World} {g w h : Int} {p : Option Addr} {n : Nat} {px : Nat → Int} {w' h' N b o : Nat} (r : Right W g w h p n px w' h' N b o) (t : Nat) (f : Bool) (x y : Int) {V : World} {q : Nat} (hrow : Ch.Row V q 0 (N * N) (movP w' h' N px g t f x y)) :
    Right V g N N (some ⟨q, 0, none⟩) (N * N) (movP w' h' N px g t f x y) N N N q 0 := by
  have hN1 := r.hN1
  have hcol : ∀ k, 0 ≤ movP w' h' N px g t f x y k ∧ movP w' h' N px g t f x y k ≤ 61 := by
    intro k
    unfold movP
    rcases mcF_or (tgtF g t f (x % N) (y % N) N) (tcx w' h' N px) (N * N) k with e | ⟨i, e⟩
    · rw [e]; decide
    · rw [e]
      unfold tcx
      refine Ch.allin_get px n r.colours _ ?_
      rw [r.hn]
      have a := Nat.mod_lt (i / N) (show 0 < h' by have := r.hh; omega)
      have c := Nat.mod_lt (i % N) (show 0 < w' by have := r.hw; omega)
      have d := Nat.mul_le_mul_right w' (show i / N % h' + 1 ≤ h' by omega)
      rw [Nat.mul_comm w' h']
      rw [Nat.add_mul, Nat.one_mul] at d
      omega
  have hwE : Ch.wE g N N (N * N) (movP w' h' N px g t f x y) = 0 := by
    unfold Ch.wE
    rw [(Ch.okg_iff g).2 r.hg, (Ch.sw_iff _).2 (show 1 ≤ (N : Int) ∧ (N : Int) ≤ 64 by omega), allin_of _ _ hcol]
    rw [if_pos rfl, if_pos (by decide), if_pos (by rw [Int.natCast_mul]), if_pos rfl]
  have hlm : lm N N = N := by unfold lm; simp
  have hE : toE g N N (N * N) (movP w' h' N px g t f x y) = 0 := by
    unfold toE
    rw [if_pos hwE, hlm, if_pos (by omega)]
  exact { hg := r.hg, hw := ⟨rfl, by omega, by omega⟩, hh := ⟨rfl, by omega, by omega⟩, hn := rfl, hp := rfl, row := hrow, hE := hE, hN := by unfold toN; rw [if_pos hE, hlm], hN1 := hN1 }

/-- the pattern of a chart, without its torus -/
theorem pat_eq (w h N : Nat) (px : Nat → Int) (x y : Int) (hN : 1 ≤ N) (hw : w ∣ N) (hh : h ∣ N) : pat w h N px x y = px ((y % (h : Int)).toNat * w + (x % (w : Int)).toNat) := by
  have a1 := Int.emod_nonneg x (show (N : Int) ≠ 0 by omega)
  have a2 := Int.emod_lt_of_pos x (show (0 : Int) < N by omega)
  have b1 := Int.emod_nonneg y (show (N : Int) ≠ 0 by omega)
  obtain ⟨X, hX⟩ := Int.eq_ofNat_of_zero_le a1
  obtain ⟨Y, hY⟩ := Int.eq_ofNat_of_zero_le b1
  have ex : x % (w : Int) = ((X % w : Nat) : Int) := by rw [Int.natCast_emod, ← hX, Int.emod_emod_of_dvd _ (Int.natCast_dvd_natCast.2 hw)]
  have ey : y % (h : Int) = ((Y % h : Nat) : Int) := by rw [Int.natCast_emod, ← hY, Int.emod_emod_of_dvd _ (Int.natCast_dvd_natCast.2 hh)]
  unfold pat
  rw [hX, hY, ex, ey, Int.toNat_natCast, Int.toNat_natCast, ← Int.natCast_mul, ← Int.natCast_add, Int.toNat_natCast, tcx_at w h N px X Y (by omega)]
theorem Right.lcm {W : World} {g w h : Int} {p : Option Addr} {n : Nat} {px : Nat → Int} {w' h' N b o : Nat} (r : Right W g w h p n px w' h' N b o) : N = Nat.lcm w' h' := by
  have h1 := r.hN
  unfold toN at h1
  rw [if_pos r.hE, r.hw.1, r.hh.1] at h1
  unfold lm at h1
  rw [Int.toNat_natCast, Int.toNat_natCast] at h1
  exact (Int.ofNat.inj h1).symm
theorem cell_lt (w h : Nat) (x y : Int) (hw : 1 ≤ w) (hh : 1 ≤ h) : (y % (h : Int)).toNat * w + (x % (w : Int)).toNat < w * h := by
  have a1 := Int.emod_nonneg x (show (w : Int) ≠ 0 by omega)
  have a2 := Int.emod_lt_of_pos x (show (0 : Int) < w by omega)
  have b1 := Int.emod_nonneg y (show (h : Int) ≠ 0 by omega)
  have b2 := Int.emod_lt_of_pos y (show (0 : Int) < h by omega)
  have := Nat.mul_le_mul_left w (show (y % (h : Int)).toNat + 1 ≤ h by omega)
  rw [Nat.mul_add, Nat.mul_comm w (y % (h : Int)).toNat] at this
  omega
theorem rcO_inj (add c d : Int) (hc : 0 ≤ c ∧ c ≤ 61) (hd : 0 ≤ d ∧ d ≤ 61) : rcO add c = rcO add d ↔ c = d := by
  unfold rcO
  constructor
  · intro e; omega
  · rintro rfl; rfl
/-- a right chart is of one kind, wherever it lies -/
theorem right_kind {W : World} {g w h : Int} {p : Option Addr} {n : Nat} {px : Nat → Int} {w' h' N b o : Nat} (cap : Nat) (r : Right W g w h p n px w' h' N b o) : ∃ s u v, Fine (pat w' h' N px) N s u v ∧ KindIs g w h p n cap W (kindO w' h' N px g s u v) 0 := by
  have hN1 := r.hN1
  obtain ⟨s, hs⟩ := side_ex (stepK w' h' N px g) N hN1.1
  obtain ⟨u, v, hu⟩ := up_ex (stepK w' h' N px g) N s hN1.1 hs.1.1
  exact ⟨s, u, v, fine_of w' h' N px g s u v hN1.1 hs hu, Kind_right g w h p n cap px w' h' N b o s u v W r hs hu⟩
theorem toE_make (g : Int) (w h n : Nat) (px : Nat → Int) (hg : g = 4 ∨ g = 6) (hw : 1 ≤ w ∧ w ≤ 64) (hh : 1 ≤ h ∧ h ≤ 64) (hn : n = w * h) (hp : Ch.allin px n = true) : Ch.wE g w h n px = 0 := by
  unfold Ch.wE
  have s1 : Ch.sw (w : Int) = true := (Ch.sw_iff _).2 (by omega)
  have s2 : Ch.sw (h : Int) = true := (Ch.sw_iff _).2 (by omega)
  have s3 : Ch.okg g = true := (Ch.okg_iff g).2 hg
  rw [s1, s2, s3, hp, hn, Int.natCast_mul]
  simp
theorem right_make {V : World} (g : Int) (w h n q : Nat) (px : Nat → Int) (hg : g = 4 ∨ g = 6) (hw : 1 ≤ w ∧ w ≤ 64) (hh : 1 ≤ h ∧ h ≤ 64) (hn : n = w * h) (hp : Ch.allin px n = true) (hl : Nat.lcm w h ≤ 24) (hr : Ch.Row V q 0 n px) : Right V g w h (some ⟨q, 0, none⟩) n px w h (Nat.lcm w h) q 0 := by
  have h0 := toE_make g w h n px hg hw hh hn hp
  have hlm : lm (w : Int) (h : Int) = (Nat.lcm w h : Nat) := by unfold lm; rw [Int.toNat_natCast, Int.toNat_natCast]
  have hE : toE g w h n px = 0 := by unfold toE; rw [if_pos h0, hlm, if_pos (by omega)]
  have hN : toN g w h n px = (Nat.lcm w h : Nat) := by unfold toN; rw [if_pos hE, hlm]
  have hpos : 0 < Nat.lcm w h := Nat.lcm_pos (by omega) (by omega)
  exact ⟨hg, ⟨rfl, hw⟩, ⟨rfl, hh⟩, hn, rfl, hr, hE, hN, by omega, hl⟩

end Go.Proofs.YtpcajcgafmmlkaaDoor

namespace Go.Proofs.YtpcajcgafmmlkaaDoor
open Go.ChangeShapes Go.WideShapes Go.ChangeAt Go.RowKit Go.Joins Go.Deep

set_option maxRecDepth 100000 in
theorem chart_open2 {H : Type} {enc : TypeId × Value → H} {W : World} {base : Nat} {sp : Nat → Bool} {hd : Bool} {r : Reach} {b0 : Nat} {v : Value} {d : DataW H} {p : List MemPlace} (hv : Value.okWide Tryd.prog W r b0 24 v) (h : DataW.Trod enc Tryd.prog W base sp hd 24 v d p) :
    ∃ (g w h : Int) (q : Option Addr) (n cap : Nat) (px : Nat → Int), v = Ch.ch g w h q n cap ∧ Ch.Cells W q n px ∧ n ≤ cap := by
  obtain ⟨cs, rfl, hsz⟩ := okWide_struct Tryd.underlying24 hv
  obtain ⟨c0, c1, c2, c3, rfl⟩ := array4 (hsz.trans cells24)
  obtain ⟨fuel, hf⟩ := h
  obtain ⟨y0, y1, y2, y3, n, hx, _, h0, h1, h2, h3⟩ := trod_struct4 Tryd.underlying24 hf
  simp only [Value.cells, cells3, cells22, List.drop, List.take] at h0 h1 h2 h3
  obtain ⟨g, e0, rfl, wg⟩ := DataW.trod_int Tryd.underlying3 h0
  obtain ⟨w, e1, rfl, ww⟩ := DataW.trod_int Tryd.underlying3 h1
  obtain ⟨hh, e2, rfl, wh⟩ := DataW.trod_int Tryd.underlying3 h2
  simp at e0 e1 e2
  subst e0 e1 e2
  rcases open_ints Tryd.underlying22 Tryd.underlying3 cells3 h3 with ⟨e3, _⟩ | ⟨a, len, cap, zs, e3, _, hl, hm, hzl, _, hcell, _⟩
  · simp at e3
    subst e3
    exact ⟨g, w, hh, _, 0, 0, fun _ => 0, rfl, Or.inl rfl, Nat.le_refl _⟩
  · simp at e3
    subst e3
    refine ⟨g, w, hh, _, len, cap, fun k => zs.getD k 0, rfl, ?_, by omega⟩
    by_cases hz : len = 0
    · exact Or.inl hz
    · have hlen : len ≤ zs.length := by rw [hzl]; split <;> omega
      have hc0 := hcell 0 (by omega)
      have hsp := World.cell?_spot hc0
      obtain ⟨b, o, s⟩ := a
      simp [Addr.add] at hsp
      subst hsp
      refine Or.inr ⟨b, o, rfl, World.block_lt_of_cell? W _ hc0, fun k hk => ?_⟩
      have := hcell k (by omega)
      by_cases hk0 : k = 0
      · subst hk0
        simpa [Addr.add] using this
      · simpa [Addr.add, hk0] using this
end Go.Proofs.YtpcajcgafmmlkaaDoor

namespace Go.Proofs.YtpcajcgafmmlkaaDoor
open Go.RowKit

/-- of two ways across each other, both with mirrors, both or none have glides -/
theorem glide_other {P : Int → Int → Int} {g : Int} {t1 t2 : Nat} (hg : g = 4 ∨ g = 6) (h1 : (t1 : Int) < g) (hL : ∀ x y, li g t2 true x y = (-(li g t1 true x y).1, -(li g t1 true x y).2)) (A : HF P g t1 true) (B : HF P g t1 false) (C : HF P g t2 true) : HF P g t2 false := by
  obtain ⟨u1, v1, k1, m1⟩ := A
  obtain ⟨x1, y1, l1, n1⟩ := B
  obtain ⟨u2, v2, k2, m2⟩ := C
  obtain ⟨a1, b1, e1, s1⟩ := m1.2 rfl
  obtain ⟨a2, b2, e2, s2⟩ := m2.2 rfl
  have s := kp_sub hg h1 l1 k1
  refine ⟨_, _, kp_add k2 s, ⟨fun m => ?_, fun h => by cases h⟩⟩
  obtain ⟨c, d, e3, s3⟩ := m
  exfalso
  have : Mr P g t1 x1 y1 := by
    refine ⟨a1 - (x1 - u1) - (c - a2), b1 - (y1 - v1) - (d - b2), ?_, ?_⟩
    · have q1 := li_sub g t1 true x1 y1 u1 v1
      have q2 := li_add g t2 true u2 v2 (x1 - u1) (y1 - v1)
      have q3 := hL (x1 - u1) (y1 - v1)
      rw [mv_li] at e1 e2 e3 ⊢
      rw [q2, q3, q1] at e3
      have := (Prod.mk.inj e1).1
      have := (Prod.mk.inj e1).2
      have := (Prod.mk.inj e2).1
      have := (Prod.mk.inj e2).2
      have := (Prod.mk.inj e3).1
      have := (Prod.mk.inj e3).2
      dsimp only at *
      exact Prod.ext (by dsimp only; omega) (by dsimp only; omega)
    · have := (s1.add s.neg).add (s3.add s2.neg).neg
      rwa [show a1 + -(x1 - u1) + -(c + -a2) = a1 - (x1 - u1) - (c - a2) by omega, show b1 + -(y1 - v1) + -(d + -b2) = b1 - (y1 - v1) - (d - b2) by omega] at this
  exact absurd (n1.1 this) (by decide)
/-- a flip that a step makes a mirror has a mirror beside it -/
theorem mirror_of {P : Int → Int → Int} {g : Int} {t : Nat} {u v : Int} (hg : g = 4 ∨ g = 6) (ht : (t : Int) < g) (h : Kp P g t true u v) (m : Mr P g t u v) : ∃ p q, Kp P g t true p q ∧ mv g t true p q p q = (0, 0) := by
  obtain ⟨a, b, e, s⟩ := m
  refine ⟨_, _, kp_add h s, ?_⟩
  have w := flip_twice g t u v u v hg ht
  rw [mv_li] at e
  have e1 := (Prod.mk.inj e).1
  have e2 := (Prod.mk.inj e).2
  -- the step lies along the line
  have l : li g t true (-(2 * a)) (-(2 * b)) = (-(2 * a), -(2 * b)) := by
    have q := li_add g t true (li g t true u v).1 (li g t true u v).2 u v
    have bk := li_back g t true u v hg ht
    rw [show bt g t true = (t : Int) from rfl, Int.toNat_natCast] at bk
    rw [bk] at q
    dsimp only at q
    rw [e1, e2] at q
    rw [q]
    exact Prod.ext (by dsimp only; omega) (by dsimp only; omega)
  rw [li_dbl] at l
  have l1 := (Prod.mk.inj l).1
  have l2 := (Prod.mk.inj l).2
  rw [mv_li, li_add]
  exact Prod.ext (by dsimp only; omega) (by dsimp only; omega)
/-- steps that are turned by a quarter and mirrored: of each the slanting one is there -/
theorem slant {P : Int → Int → Int} {N s u v : Nat} (hF : Fine P N s u v) (h1 : ∀ a b, St P a b → St P (-b) a) (h2 : ∀ a b, St P a b → St P a (-b)) (a b : Int) (h : St P a b) : St P (-b) b := by
  have hs := hF.hs
  have hv := hF.hv
  have hu := hF.hu
  have sw : St P v u := by
    have := h2 _ _ (h1 _ _ (h2 _ _ hF.st2))
    have := h1 _ _ hF.st2
    have k := (h1 _ _ (h2 _ _ hF.st2))
    rw [Int.neg_neg] at k
    exact k
  have k1 := h1 _ _ hF.st1
  rw [Int.neg_zero] at k1
  have k2 := (hF.all _ _).1 k1
  have k3 := (hF.all _ _).1 (hF.st2.add (h2 _ _ hF.st2))
  have k4 := (hF.all _ _).1 sw
  have e0 : (v : Int) + -(v : Int) = 0 := by omega
  rw [e0] at k3
  simp only [Int.zero_ediv, Int.zero_mul, Int.sub_zero] at k3
  have d3 := Int.dvd_of_emod_eq_zero k3.2
  obtain ⟨c, hc⟩ := d3
  have hc2 : c = 0 ∨ c = 1 := by
    have c0 : 0 ≤ c := by
      by_cases hneg : c < 0
      · have : (s : Int) * c ≤ (s : Int) * (-1) := Int.mul_le_mul_of_nonneg_left (by omega) (by omega)
        omega
      · omega
    by_cases h2' : 2 ≤ c
    · have : (s : Int) * 2 ≤ (s : Int) * c := Int.mul_le_mul_of_nonneg_left h2' (by omega)
      omega
    · omega
  have dv := Int.dvd_of_emod_eq_zero k2.1
  rcases hc2 with rfl | rfl
  · have u0 : u = 0 := by omega
    subst u0
    have d4 : (s : Int) ∣ v := by
      have := k4.2
      simp at this
      exact Int.dvd_of_emod_eq_zero this
    have vs : v = s := Nat.dvd_antisymm (Int.natCast_dvd_natCast.1 dv) (Int.natCast_dvd_natCast.1 d4)
    have k := (hF.all _ _).1 h
    rw [vs] at k
    refine (hF.all _ _).2 ?_
    rw [vs]
    refine ⟨k.1, ?_⟩
    simp only [Int.natCast_zero, Int.mul_zero, Int.sub_zero]
    exact Int.emod_eq_zero_of_dvd (Int.dvd_neg.2 (Int.dvd_of_emod_eq_zero k.1))
  · have u2 : (u : Int) + u = s := by omega
    obtain ⟨k, hk⟩ := Int.dvd_of_emod_eq_zero k4.1
    have hk1 : (u : Int) / v = k := by rw [hk, Int.mul_ediv_cancel_left _ (by omega)]
    rw [hk1] at k4
    obtain ⟨m, hm⟩ := Int.dvd_of_emod_eq_zero k4.2
    have u1 : 1 ≤ u := by omega
    have kv : k = 1 := by
      have e : (v : Int) * 1 = (v : Int) * (k * (k + 2 * m)) := by
        have : (v : Int) - k * u = s * m := hm
        rw [← u2, hk] at this
        grind
      have e2 : (1 : Int) = k * (k + 2 * m) := Int.eq_of_mul_eq_mul_left (by omega) e
      have d : k ∣ 1 := ⟨_, e2⟩
      have kp : 0 < k := by
        by_cases hneg : k ≤ 0
        · have : (v : Int) * k ≤ (v : Int) * 0 := Int.mul_le_mul_of_nonneg_left hneg (by omega)
          omega
        · omega
      have := Int.le_of_dvd (by decide) d
      omega
    subst kv
    have uv : u = v := by omega
    subst uv
    have kk := (hF.all _ _).1 h
    refine (hF.all _ _).2 ⟨kk.1, ?_⟩
    obtain ⟨j, hj⟩ := Int.dvd_of_emod_eq_zero kk.1
    have hj1 : b / (u : Int) = j := by rw [hj, Int.mul_ediv_cancel_left _ (by omega)]
    rw [hj1, ← u2]
    refine Int.emod_eq_zero_of_dvd ⟨-j, ?_⟩
    rw [hj]
    grind

/-- the mirrors through the point of a quarter turn -/
def qpX (t : Nat) (u v : Int) : Int := if t = 0 then 0 else if t = 1 then -v else if t = 2 then u - v else u
def qpY (t : Nat) (u v : Int) : Int := if t = 0 then u + v else if t = 1 then v else if t = 2 then 0 else u
theorem quarter_coord (t1 : Nat) (h1 : t1 < 4) (p q u v : Int) : ((∀ x y, mv 4 t1 true p q (mv 4 t1 true p q x y).1 (mv 4 t1 true p q x y).2 = (x, y)) ∧
  ∀ x y, mv 4 t1 true p q (mv 4 1 false u v (mv 4 t1 true p q (mv 4 1 false u v x y).1 (mv 4 1 false u v x y).2).1 (mv 4 t1 true p q (mv 4 1 false u v x y).1 (mv 4 1 false u v x y).2).2).1 (mv 4 1 false u v (mv 4 t1 true p q (mv 4 1 false u v x y).1 (mv 4 1 false u v x y).2).1 (mv 4 t1 true p q (mv 4 1 false u v x y).1 (mv 4 1 false u v x y).2).2).2 = (x, y)) ↔
  p = qpX t1 u v ∧ q = qpY t1 u v := by
  constructor
  · rintro ⟨a, b⟩
    have a0 := a 0 0
    have b0 := b 0 0
    rcases four t1 h1 with rfl | rfl | rfl | rfl <;> simp [mv, tu, mi, tq, qpX, qpY] at a0 b0 ⊢ <;> omega
  · rintro ⟨rfl, rfl⟩
    refine ⟨fun x y => ?_, fun x y => ?_⟩ <;> rcases four t1 h1 with rfl | rfl | rfl | rfl <;> simp [mv, tu, mi, tq, qpX, qpY] <;> omega
theorem quarter_next {P : Int → Int → Int} {u v : Int} {t1 : Nat} (h1 : t1 < 4) (hr : Kp P 4 1 false u v) (h : Kp P 4 t1 true (qpX t1 u v) (qpY t1 u v)) : Kp P 4 ((t1 + 1) % 4) true (qpX ((t1 + 1) % 4) u v) (qpY ((t1 + 1) % 4) u v) := by
  have hg : (4 : Int) = 4 ∨ (4 : Int) = 6 := Or.inl rfl
  have k := Kp.comp (t := 1) (t' := (t1 : Int)) hg (by decide) (by omega) hr (by rw [Int.toNat_natCast]; exact h)
  have e1 : (cT 4 1 false (t1 : Int)).toNat = (t1 + 1) % 4 := by simp only [cT]; omega
  rw [e1, show cF false true = true from rfl] at k
  have e2 : mv 4 (1 : Int).toNat false u v (qpX t1 u v) (qpY t1 u v) = (qpX ((t1 + 1) % 4) u v, qpY ((t1 + 1) % 4) u v) := by
    rcases four t1 h1 with rfl | rfl | rfl | rfl <;> simp [mv, tu, mi, tq, qpX, qpY] <;> omega
  rw [e2] at k
  exact k
theorem quarter_back {P : Int → Int → Int} {u v : Int} (hr : Kp P 4 1 false u v) (o : OnA P 4 1 u v) : ∀ t : Nat, (t : Int) < 4 → HF P 4 t true := by
  obtain ⟨t1, p, q, h1, k, c⟩ := o
  have h1' : t1 < 4 := by omega
  obtain ⟨rfl, rfl⟩ := (quarter_coord t1 h1' p q u v).1 c
  have k1 := quarter_next h1' hr k
  have k2 := quarter_next (Nat.mod_lt _ (by decide)) hr k1
  have k3 := quarter_next (Nat.mod_lt _ (by decide)) hr k2
  have all : ∀ t : Nat, t < 4 → Kp P 4 t true (qpX t u v) (qpY t u v) := by
    intro t ht
    have : t = t1 ∨ t = (t1 + 1) % 4 ∨ t = ((t1 + 1) % 4 + 1) % 4 ∨ t = (((t1 + 1) % 4 + 1) % 4 + 1) % 4 := by omega
    rcases this with rfl | rfl | rfl | rfl
    · exact k
    · exact k1
    · exact k2
    · exact k3
  intro t ht
  have ht' : t < 4 := by omega
  refine ⟨_, _, all t ht', ⟨fun _ => rfl, fun _ => ⟨0, 0, ?_, St.zero P⟩⟩⟩
  rcases four t ht' with rfl | rfl | rfl | rfl <;> simp [mv, tu, mi, tq, qpX, qpY] <;> omega
theorem quarter_fore {P : Int → Int → Int} {N s u' v' : Nat} (hF : Fine P N s u' v') {u v : Int} (hr : Kp P 4 1 false u v) (H : ∀ t : Nat, (t : Int) < 4 → HF P 4 t true) : OnA P 4 1 u v := by
  have hg : (4 : Int) = 4 ∨ (4 : Int) = 6 := Or.inl rfl
  obtain ⟨x0, y0, k0, m0⟩ := H 0 (by decide)
  obtain ⟨x1, y1, k1, m1⟩ := H 1 (by decide)
  obtain ⟨p0, q0, l0, w0⟩ := mirror_of hg (by decide) k0 (m0.2 rfl)
  obtain ⟨p1, q1, l1, w1⟩ := mirror_of hg (by decide) k1 (m1.2 rfl)
  have c := Kp.comp (t := 1) (t' := 0) hg (by decide) (by decide) l1 l0
  rw [show (cT 4 1 true 0).toNat = 1 from rfl, show cF true true = false from rfl] at c
  have s := kp_sub hg (by decide) hr c
  have s1 : ∀ a b, St P a b → St P (-b) a := fun a b h => by
    have := st_fore hg (by decide) (kp_mov hr) h
    simpa [li, tu, mi, tq] using this
  have s2 : ∀ a b, St P a b → St P a (-b) := fun a b h => by
    have := st_fore hg (by decide) (kp_mov l0) h
    simpa [li, tu, mi, tq] using this
  have d := slant hF s1 s2 _ _ s
  have l2 := kp_add l1 d
  refine ⟨1, qpX 1 u v, qpY 1 u v, by decide, ?_, (quarter_coord 1 (by decide) _ _ u v).2 ⟨rfl, rfl⟩⟩
  have e : (p1 + -(v - (mv 4 (1 : Int).toNat true p1 q1 p0 q0).2), q1 + (v - (mv 4 (1 : Int).toNat true p1 q1 p0 q0).2)) = (qpX 1 u v, qpY 1 u v) := by
    simp [mv, tu, mi, tq, qpX, qpY] at w0 w1 ⊢
    omega
  have e1 := (Prod.mk.inj e).1
  have e2 := (Prod.mk.inj e).2
  rw [← e1, ← e2]
  exact l2
end Go.Proofs.YtpcajcgafmmlkaaDoor

namespace Go.Proofs.YtpcajcgafmmlkaaDoor
open Go.RowKit

/-- a flip that is a mirror up to a step, told: K tells the steps -/
def lnB (K : Int → Int → Bool) (g : Int) (t : Nat) (u v : Int) : Bool :=
  decide ((0 - (mv g t true u v u v).1) % 2 = 0) && decide ((0 - (mv g t true u v u v).2) % 2 = 0) && K ((0 - (mv g t true u v u v).1) / 2) ((0 - (mv g t true u v u v).2) / 2)
theorem lnB_iff (w h N : Nat) (px : Nat → Int) (g : Int) (t : Nat) (u v : Int) (hN : 1 ≤ N) : lnB (stB w h N px g) g t u v = true ↔ Mr (pat w h N px) g t u v := by
  unfold lnB Mr
  generalize mv g t true u v u v = z
  obtain ⟨a, b⟩ := z
  simp only [Bool.and_eq_true, decide_eq_true_eq]
  rw [stB_iff w h N px g _ _ hN]
  constructor
  · rintro ⟨⟨h1, h2⟩, h3⟩
    exact ⟨_, _, Prod.ext (by dsimp only; omega) (by dsimp only; omega), h3⟩
  · rintro ⟨c, d, e, h3⟩
    have e1 := (Prod.mk.inj e).1
    have e2 := (Prod.mk.inj e).2
    refine ⟨⟨by omega, by omega⟩, ?_⟩
    rw [show (0 - a) / 2 = c by omega, show (0 - b) / 2 = d by omega]
    exact h3
/-- the flips of the torus and of those beside it are enough -/
def lnA (K : Int → Int → Bool) (g : Int) (N : Nat) (L : List Mv) (t : Nat) (b : Bool) : Prop := ∃ X Y, (t, true, X, Y) ∈ L ∧ ∃ x y : Int, (-1 ≤ x ∧ x ≤ 1) ∧ (-1 ≤ y ∧ y ≤ 1) ∧ lnB K g t ((X : Int) + N * x) ((Y : Int) + N * y) = b
theorem lnA_iff (w h N : Nat) (px : Nat → Int) (g : Int) (t : Nat) (b : Bool) (hg : g = 4 ∨ g = 6) (hN : 1 ≤ N) (ht : t < g.toNat) : lnA (stB w h N px g) g N (movesL w h N px g) t b ↔ HF (pat w h N px) g t b := by
  have hP := pat_per w h N px
  have ht' : (t : Int) < g := by omega
  have key : ∀ u v, lnB (stB w h N px g) g t u v = b ↔ (Mr (pat w h N px) g t u v ↔ b = true) := by
    intro u v
    rw [← lnB_iff w h N px g t u v hN]
    cases b <;> cases lnB (stB w h N px g) g t u v <;> simp
  constructor
  · rintro ⟨X, Y, hm, x, y, -, -, e⟩
    have k := ((mem_moves w h N px g t true X Y hN).1 hm).2.2.2
    exact ⟨_, _, kp_add k (St.per hP x y), (key _ _).1 e⟩
  · rintro ⟨u, v, k, m⟩
    have a1 := Int.emod_nonneg u (show (N : Int) ≠ 0 by omega)
    have a2 := Int.emod_lt_of_pos u (show (0 : Int) < N by omega)
    have b1 := Int.emod_nonneg v (show (N : Int) ≠ 0 by omega)
    have b2 := Int.emod_lt_of_pos v (show (0 : Int) < N by omega)
    have eu := Int.emod_add_mul_ediv u N
    have ev := Int.emod_add_mul_ediv v N
    have q1 := Int.emod_add_mul_ediv (u / N) 2
    have q2 := Int.emod_add_mul_ediv (v / N) 2
    have k0 : Kp (pat w h N px) g t true (u % N) (v % N) := (kp_mod hP).2 k
    have k1 := kp_add k0 (St.per hP (u / N % 2) (v / N % 2))
    refine ⟨(u % N).toNat, (v % N).toNat, (mem_moves w h N px g t true _ _ hN).2 ⟨ht, by omega, by omega, ?_⟩, u / N % 2, v / N % 2, by omega, by omega, ?_⟩
    · rw [Int.toNat_of_nonneg a1, Int.toNat_of_nonneg b1]; exact k0
    · rw [Int.toNat_of_nonneg a1, Int.toNat_of_nonneg b1, key]
      have sh := mr_shift hg ht' k1 (St.per hP (u / N / 2) (v / N / 2))
      have e1 : u % N + N * (u / N % 2) + 2 * (N * (u / N / 2)) = u := by
        have : (N : Int) * (u / N) = N * (u / N % 2) + 2 * (N * (u / N / 2)) := by
          conv => lhs; rw [← q1, Int.mul_add]
          rw [← Int.mul_assoc, Int.mul_comm (N : Int) 2, Int.mul_assoc]
        omega
      have e2 : v % N + N * (v / N % 2) + 2 * (N * (v / N / 2)) = v := by
        have : (N : Int) * (v / N) = N * (v / N % 2) + 2 * (N * (v / N / 2)) := by
          conv => lhs; rw [← q2, Int.mul_add]
          rw [← Int.mul_assoc, Int.mul_comm (N : Int) 2, Int.mul_assoc]
        omega
      rw [e1, e2] at sh
      exact sh.symm.trans m

/-- mirrors: turn and By -/
abbrev Mi := Nat × Int × Int
/-- those of the torus and a little beyond -/
def mirX (g : Int) (N : Nat) (m : Mv) (y : Int) (k : Nat) : List Mi := (List.range k).filterMap fun (i : Nat) => if mv g m.1 true ((m.2.2.1 : Int) + N * ((i : Int) - 5)) ((m.2.2.2 : Int) + N * y) ((m.2.2.1 : Int) + N * ((i : Int) - 5)) ((m.2.2.2 : Int) + N * y) = (0, 0) then some (m.1, (m.2.2.1 : Int) + N * ((i : Int) - 5), (m.2.2.2 : Int) + N * y) else none
def mirY (g : Int) (N : Nat) (m : Mv) (k : Nat) : List Mi := (List.range k).flatMap fun (j : Nat) => mirX g N m ((j : Int) - 5) 11
def mirL (g : Int) (N : Nat) (L : List Mv) : List Mi := L.flatMap fun m => if m.2.1 = true then mirY g N m 11 else []
theorem mem_mirL (g : Int) (N : Nat) (L : List Mv) (t : Nat) (p q : Int) : (t, p, q) ∈ mirL g N L ↔ ∃ X Y, (t, true, X, Y) ∈ L ∧ ∃ x y : Int, (-5 ≤ x ∧ x ≤ 5) ∧ (-5 ≤ y ∧ y ≤ 5) ∧ p = X + N * x ∧ q = Y + N * y ∧ mv g t true p q p q = (0, 0) := by
  unfold mirL mirY mirX
  rw [List.mem_flatMap]
  constructor
  · rintro ⟨⟨t', f', X, Y⟩, hm, h⟩
    by_cases hf : f' = true
    · subst hf
      simp only [if_true] at h
      rw [List.mem_flatMap] at h
      obtain ⟨j, hj, h⟩ := h
      rw [List.mem_filterMap] at h
      obtain ⟨i, hi, h⟩ := h
      rw [List.mem_range] at hi hj
      split at h
      · rename_i hw
        cases h
        exact ⟨X, Y, hm, _, _, ⟨by omega, by omega⟩, ⟨by omega, by omega⟩, rfl, rfl, hw⟩
      · cases h
    · simp only [hf] at h
      simp at h
  · rintro ⟨X, Y, hm, x, y, hx, hy, rfl, rfl, hw⟩
    refine ⟨(t, true, X, Y), hm, ?_⟩
    simp only [if_true]
    rw [List.mem_flatMap]
    refine ⟨(y + 5).toNat, List.mem_range.2 (by omega), ?_⟩
    rw [List.mem_filterMap]
    refine ⟨(x + 5).toNat, List.mem_range.2 (by omega), ?_⟩
    have e1 : ((x + 5).toNat : Int) - 5 = x := by omega
    have e2 : ((y + 5).toNat : Int) - 5 = y := by omega
    simp only [e1, e2]
    rw [if_pos hw]
/-- a turn has its point on one of the mirrors -/
def onP (g : Int) (t : Nat) (u v : Int) (m : Mi) : Bool := decide (mv g (cT g m.1 true t).toNat true (mv g m.1 true m.2.1 m.2.2 u v).1 (mv g m.1 true m.2.1 m.2.2 u v).2 (mv g m.1 true m.2.1 m.2.2 u v).1 (mv g m.1 true m.2.1 m.2.2 u v).2 = (0, 0))
def onR (g : Int) (R : List Mi) (t : Nat) (u v : Int) : Bool := R.any (onP g t u v)
theorem onP_iff (g : Int) (t t1 : Nat) (u v p q : Int) (hg : g = 4 ∨ g = 6) (ht : (t : Int) < g) (h1 : (t1 : Int) < g) : onP g t u v (t1, p, q) = true ↔
    ∀ x y, mv g t1 true p q (mv g t false u v (mv g t1 true p q (mv g t false u v x y).1 (mv g t false u v x y).2).1 (mv g t1 true p q (mv g t false u v x y).1 (mv g t false u v x y).2).2).1 (mv g t false u v (mv g t1 true p q (mv g t false u v x y).1 (mv g t false u v x y).2).1 (mv g t1 true p q (mv g t false u v x y).1 (mv g t false u v x y).2).2).2 = (x, y) := by
  unfold onP
  rw [decide_eq_true_eq]
  have hc := cT_range g t1 true t hg
  have C : ∀ x y, mv g t1 true p q (mv g t false u v x y).1 (mv g t false u v x y).2 = mv g (cT g t1 true t).toNat true (mv g t1 true p q u v).1 (mv g t1 true p q u v).2 x y := by
    intro x y
    have := mv_comp g t1 true p q t false u v x y hg ⟨by omega, h1⟩ ⟨by omega, ht⟩
    simp only [Int.toNat_natCast] at this
    exact this.symm
  have T := fun x y => flip_twice g (cT g t1 true t).toNat (mv g t1 true p q u v).1 (mv g t1 true p q u v).2 x y hg (by omega)
  constructor
  · intro e x y
    rw [C, C, T, e]
    simp
  · intro H
    have e := H 0 0
    rw [C, C, T] at e
    simp at e
    exact Prod.ext e.1 e.2
theorem mir_id {g : Int} {t : Nat} {p q : Int} (hg : g = 4 ∨ g = 6) (ht : (t : Int) < g) : mv g t true p q p q = (0, 0) ↔ ∀ x y, mv g t true p q (mv g t true p q x y).1 (mv g t true p q x y).2 = (x, y) := by
  have T := fun x y => flip_twice g t p q x y hg ht
  constructor
  · intro e x y
    rw [T, e]
    simp
  · intro H
    have e := H 0 0
    rw [T] at e
    simp at e
    exact Prod.ext e.1 e.2
theorem mir_mem (w h N : Nat) (px : Nat → Int) (g : Int) (t : Nat) (p q : Int) (hN : 1 ≤ N) (ht : t < g.toNat) (k : Kp (pat w h N px) g t true p q) (hw : mv g t true p q p q = (0, 0)) (hp : -5 * (N : Int) ≤ p ∧ p < 6 * N) (hq : -5 * (N : Int) ≤ q ∧ q < 6 * N) : (t, p, q) ∈ mirL g N (movesL w h N px g) := by
  have a1 := Int.emod_nonneg p (show (N : Int) ≠ 0 by omega)
  have a2 := Int.emod_lt_of_pos p (show (0 : Int) < N by omega)
  have b1 := Int.emod_nonneg q (show (N : Int) ≠ 0 by omega)
  have b2 := Int.emod_lt_of_pos q (show (0 : Int) < N by omega)
  have ep := Int.emod_add_mul_ediv p N
  have eq := Int.emod_add_mul_ediv q N
  have d : ∀ z : Int, -5 * (N : Int) ≤ z → z < 6 * N → -5 ≤ z / N ∧ z / N ≤ 5 := by
    intro z h1 h2
    constructor
    · exact Int.le_ediv_of_mul_le (by omega) h1
    · have := Int.ediv_lt_of_lt_mul (show (0 : Int) < N by omega) h2
      omega
  refine (mem_mirL g N _ t p q).2 ⟨(p % N).toNat, (q % N).toNat, (mem_moves w h N px g t true _ _ hN).2 ⟨ht, by omega, by omega, ?_⟩, p / N, q / N, d p hp.1 hp.2, d q hq.1 hq.2, ?_, ?_, hw⟩
  · rw [Int.toNat_of_nonneg a1, Int.toNat_of_nonneg b1]; exact (kp_mod (pat_per w h N px)).2 k
  · rw [Int.toNat_of_nonneg a1]; omega
  · rw [Int.toNat_of_nonneg b1]; omega
theorem on_of (w h N : Nat) (px : Nat → Int) (g : Int) (t : Nat) (u v : Int) (hg : g = 4 ∨ g = 6) (hN : 1 ≤ N) (ht : (t : Int) < g) (H : onR g (mirL g N (movesL w h N px g)) t u v = true) : OnA (pat w h N px) g t u v := by
  unfold onR at H
  rw [List.any_eq_true] at H
  obtain ⟨⟨t1, p, q⟩, hm, ho⟩ := H
  obtain ⟨X, Y, hm2, x, y, -, -, rfl, rfl, hw⟩ := (mem_mirL g N _ t1 p q).1 hm
  obtain ⟨h1, -, -, k⟩ := (mem_moves w h N px g t1 true X Y hN).1 hm2
  have h1' : (t1 : Int) < g := by omega
  exact ⟨t1, _, _, h1', kp_add k (St.per (pat_per w h N px) x y), (mir_id hg h1').1 hw, (onP_iff g t t1 u v _ _ hg ht h1').1 ho⟩
theorem on_iff6 (w h N : Nat) (px : Nat → Int) (u v : Int) (hN : 1 ≤ N) (hu : 0 ≤ u ∧ u < 3 * N) (hv : 0 ≤ v ∧ v < 3 * N) : onR 6 (mirL 6 N (movesL w h N px 6)) 2 u v = true ↔ OnA (pat w h N px) 6 2 u v := by
  have hg : (6 : Int) = 4 ∨ (6 : Int) = 6 := Or.inr rfl
  refine ⟨on_of w h N px 6 2 u v hg hN (by decide), ?_⟩
  rintro ⟨t1, p, q, h1, k, c1, c2⟩
  have h1' : t1 < 6 := by omega
  obtain ⟨e1, e2⟩ := (on_coord t1 h1' p q u v).1 ⟨c1, c2⟩
  unfold onR
  rw [List.any_eq_true]
  refine ⟨(t1, p, q), mir_mem w h N px 6 t1 p q hN h1' k ((mir_id hg h1).2 c1) ?_ ?_, (onP_iff 6 2 t1 u v p q hg (by decide) h1).2 c2⟩
  all_goals
    rcases six t1 h1' with rfl | rfl | rfl | rfl | rfl | rfl <;> simp [mv, tu, mi, tq] at e1 e2 <;> omega
theorem on_iff4 (w h N : Nat) (px : Nat → Int) (u v : Int) (hN : 1 ≤ N) (hu : 0 ≤ u ∧ u < N) (hv : 0 ≤ v ∧ v < N) : onR 4 (mirL 4 N (movesL w h N px 4)) 1 u v = true ↔ OnA (pat w h N px) 4 1 u v := by
  have hg : (4 : Int) = 4 ∨ (4 : Int) = 6 := Or.inl rfl
  refine ⟨on_of w h N px 4 1 u v hg hN (by decide), ?_⟩
  rintro ⟨t1, p, q, h1, k, c1, c2⟩
  have h1' : t1 < 4 := by omega
  obtain ⟨rfl, rfl⟩ := (quarter_coord t1 h1' p q u v).1 ⟨c1, c2⟩
  unfold onR
  rw [List.any_eq_true]
  refine ⟨(t1, _, _), mir_mem w h N px 4 t1 _ _ hN h1' k ((mir_id hg h1).2 c1) ?_ ?_, (onP_iff 4 1 t1 u v _ _ hg (by decide) h1).2 c2⟩
  all_goals
    first | unfold qpX | unfold qpY
    rcases four t1 h1' with rfl | rfl | rfl | rfl <;> simp <;> omega
/-- each turn by a third, of the torus and of those beside it, has its point on a mirror -/
def cenP (g : Int) (N : Nat) (R : List Mi) (tn : Nat) (m : Mv) : Bool := (m.2.1 || decide (m.1 ≠ tn)) || (List.range 3).all fun y => (List.range 3).all fun x => onR g R tn ((m.2.2.1 : Int) + N * x) ((m.2.2.2 : Int) + N * y)
def cenB (g : Int) (N : Nat) (R : List Mi) (tn : Nat) (L : List Mv) : Bool := L.all (cenP g N R tn)
def somP (g : Int) (R : List Mi) (tn : Nat) (m : Mv) : Bool := !m.2.1 && (decide (m.1 = tn) && onR g R tn m.2.2.1 m.2.2.2)
def somB (g : Int) (R : List Mi) (tn : Nat) (L : List Mv) : Bool := L.any (somP g R tn)
theorem cen_iff (w h N : Nat) (px : Nat → Int) (hN : 1 ≤ N) : cenB 6 N (mirL 6 N (movesL w h N px 6)) 2 (movesL w h N px 6) = true ↔ ThA (pat w h N px) 6 := by
  have hP := pat_per w h N px
  unfold cenB cenP
  rw [List.all_eq_true]
  constructor
  · intro H u v k
    have a1 := Int.emod_nonneg u (show (N : Int) ≠ 0 by omega)
    have a2 := Int.emod_lt_of_pos u (show (0 : Int) < N by omega)
    have b1 := Int.emod_nonneg v (show (N : Int) ≠ 0 by omega)
    have b2 := Int.emod_lt_of_pos v (show (0 : Int) < N by omega)
    have eu := Int.emod_add_mul_ediv u N
    have ev := Int.emod_add_mul_ediv v N
    have q1 := Int.emod_add_mul_ediv (u / N) 3
    have q2 := Int.emod_add_mul_ediv (v / N) 3
    have k0 : Kp (pat w h N px) 6 2 false (u % N) (v % N) := (kp_mod hP).2 k
    have hm : (2, false, (u % N).toNat, (v % N).toNat) ∈ movesL w h N px 6 := (mem_moves w h N px 6 2 false _ _ hN).2 ⟨by decide, by omega, by omega, by rw [Int.toNat_of_nonneg a1, Int.toNat_of_nonneg b1]; exact k0⟩
    have h1 := H _ hm
    simp only [Bool.false_or, ne_eq, not_true, decide_false] at h1
    rw [List.all_eq_true] at h1
    have h2 := h1 (v / N % 3).toNat (List.mem_range.2 (by omega))
    rw [List.all_eq_true] at h2
    have h3 := h2 (u / N % 3).toNat (List.mem_range.2 (by omega))
    rw [Int.toNat_of_nonneg a1, Int.toNat_of_nonneg b1, Int.toNat_of_nonneg (show 0 ≤ u / N % 3 by omega), Int.toNat_of_nonneg (show 0 ≤ v / N % 3 by omega)] at h3
    have h4 := on_of w h N px 6 2 _ _ (Or.inr rfl) hN (by decide) h3
    have h5 := ona_add (kp_add k0 (St.per hP (u / N % 3) (v / N % 3))) (St.per hP (u / N / 3) (v / N / 3)) h4
    have e1 : u % N + N * (u / N % 3) + 3 * (N * (u / N / 3)) = u := by
      have : (N : Int) * (u / N) = N * (u / N % 3) + 3 * (N * (u / N / 3)) := by
        conv => lhs; rw [← q1, Int.mul_add]
        rw [← Int.mul_assoc, Int.mul_comm (N : Int) 3, Int.mul_assoc]
      omega
    have e2 : v % N + N * (v / N % 3) + 3 * (N * (v / N / 3)) = v := by
      have : (N : Int) * (v / N) = N * (v / N % 3) + 3 * (N * (v / N / 3)) := by
        conv => lhs; rw [← q2, Int.mul_add]
        rw [← Int.mul_assoc, Int.mul_comm (N : Int) 3, Int.mul_assoc]
      omega
    rw [e1, e2] at h5
    exact h5
  · rintro H ⟨t, f, X, Y⟩ hm
    obtain ⟨-, hX, hY, k⟩ := (mem_moves w h N px 6 t f X Y hN).1 hm
    cases f with
    | true => rfl
    | false =>
      by_cases ht : t = 2
      · subst ht
        simp only [Bool.false_or, ne_eq, not_true, decide_false]
        rw [List.all_eq_true]
        intro y hy
        rw [List.all_eq_true]
        intro x hx
        rw [List.mem_range] at hx hy
        have l1 : (N : Int) * x ≤ N * 2 := Int.mul_le_mul_of_nonneg_left (by omega) (by omega)
        have l2 : (N : Int) * y ≤ N * 2 := Int.mul_le_mul_of_nonneg_left (by omega) (by omega)
        have l3 : 0 ≤ (N : Int) * x := Int.mul_nonneg (by omega) (by omega)
        have l4 : 0 ≤ (N : Int) * y := Int.mul_nonneg (by omega) (by omega)
        exact (on_iff6 w h N px _ _ hN (by omega) (by omega)).2 (H _ _ (kp_add k (St.per hP x y)))
      · simp [ht]
theorem som_iff (w h N : Nat) (px : Nat → Int) (s u v : Nat) (hN : 1 ≤ N) (hF : Fine (pat w h N px) N s u v) (hq : HT (pat w h N px) 4 1) : somB 4 (mirL 4 N (movesL w h N px 4)) 1 (movesL w h N px 4) = true ↔ ∀ t : Nat, (t : Int) < 4 → HF (pat w h N px) 4 t true := by
  unfold somB somP
  rw [List.any_eq_true]
  constructor
  · rintro ⟨⟨t, f, X, Y⟩, hm, h1⟩
    obtain ⟨-, hX, hY, k⟩ := (mem_moves w h N px 4 t f X Y hN).1 hm
    simp only [Bool.and_eq_true, Bool.not_eq_true', decide_eq_true_eq] at h1
    obtain ⟨rfl, rfl, h3⟩ := h1
    exact quarter_back k (on_of w h N px 4 1 _ _ (Or.inl rfl) hN (by decide) h3)
  · intro H
    obtain ⟨X, Y, hm⟩ := fi_some.1 ((fi_iff w h N px 4 1 false hN (by decide)).2 hq)
    obtain ⟨-, hX, hY, k⟩ := (mem_moves w h N px 4 1 false X Y hN).1 hm
    refine ⟨_, hm, ?_⟩
    simp only [Bool.not_false, Bool.true_and, decide_true]
    exact (on_iff4 w h N px X Y hN (by omega) (by omega)).2 (quarter_fore hF k H)

/-- the document's table -/
def rkO (T FL M GL : Nat) (cen som : Bool) : Int :=
  if T = 1 then (if FL = 0 then 1 else if GL = 0 then 3 else if M = 0 then 4 else 5)
  else if T = 2 then (if FL = 0 then 2 else if GL = 0 then 6 else if M = 0 then 8 else if M = 2 then 9 else 7)
  else if T = 3 then (if FL = 0 then 13 else if cen = true then 14 else 15)
  else if T = 4 then (if FL = 0 then 10 else if som = true then 11 else 12)
  else (if FL = 0 then 16 else 17)
theorem Cn_pos {p : Nat → Bool} {G : Nat} (h : Cn p G ≠ 0) : ∃ t, t < G ∧ p t = true := by
  rcases Classical.em (∃ t, t < G ∧ p t = true) with e | e
  · exact e
  · refine absurd ((Cn_zero p G).2 fun t ht => ?_) h
    cases hp : p t with
    | false => rfl
    | true => exact absurd ⟨t, ht, hp⟩ e
theorem Cn_sub {p q : Nat → Bool} {G : Nat} (h : ∀ t, t < G → p t = true → q t = true) (e : Cn p G = Cn q G) : ∀ t, t < G → q t = true → p t = true := by
  unfold Cn at e
  have hs : (List.range G).filter p = ((List.range G).filter q).filter p := by
    rw [List.filter_filter]
    refine List.filter_congr fun t ht => ?_
    cases hp : p t with
    | false => simp
    | true => simp [h t (List.mem_range.1 ht) hp]
  rw [hs] at e
  have e2 := List.length_filter_eq_length_iff.1 e
  intro t ht hq
  exact e2 t (List.mem_filter.2 ⟨List.mem_range.2 ht, hq⟩)
/-- two flips of a pattern that is turned round in two ways lie across each other -/
theorem across {G : Nat} {r f : Nat → Bool} (h : Grp G r f) (h2 : Cn r G = 2) (a b : Nat) (ha : a < G) (hb : b < G) (hne : a ≠ b) (fa : f a = true) (fb : f b = true) : b = (a + G / 2) % G := by
  have hd := h.ff a b ha hb fa fb
  have r0 := h.one
  rcases h.hG with rfl | rfl
  · have hdd := h.rr _ _ (Nat.mod_lt _ (by decide)) (Nat.mod_lt _ (by decide)) hd hd
    rw [Cn4, r0] at h2
    have cs : (a + (4 - b)) % 4 = 1 ∨ (a + (4 - b)) % 4 = 2 ∨ (a + (4 - b)) % 4 = 3 := by omega
    rcases cs with e | e | e <;> rw [e] at hd hdd <;> simp only [Nat.reduceAdd, Nat.reduceMod] at hdd
    · rw [hd, hdd] at h2
      simp at h2
      try omega
    · omega
    · rw [hd, hdd] at h2
      simp at h2
  · have hdd := h.rr _ _ (Nat.mod_lt _ (by decide)) (Nat.mod_lt _ (by decide)) hd hd
    rw [Cn6, r0] at h2
    have cs : (a + (6 - b)) % 6 = 1 ∨ (a + (6 - b)) % 6 = 2 ∨ (a + (6 - b)) % 6 = 3 ∨ (a + (6 - b)) % 6 = 4 ∨ (a + (6 - b)) % 6 = 5 := by omega
    rcases cs with e | e | e | e | e <;> rw [e] at hd hdd <;> simp only [Nat.reduceAdd, Nat.reduceMod] at hdd
    · rw [hd, hdd] at h2
      simp at h2
      try omega
    · rw [hd, hdd] at h2
      simp at h2
      try omega
    · omega
    · rw [hd, hdd] at h2
      simp at h2
      try omega
    · rw [hd, hdd] at h2
      simp at h2
      try omega
theorem li_across (g : Int) (t1 t2 : Nat) (hg : g = 4 ∨ g = 6) (h1 : t1 < g.toNat) (h2 : t2 = (t1 + g.toNat / 2) % g.toNat) (x y : Int) : li g t2 true x y = (-(li g t1 true x y).1, -(li g t1 true x y).2) := by
  subst h2
  rcases hg with rfl | rfl
  · rcases four t1 h1 with rfl | rfl | rfl | rfl <;> (simp [li, tu, mi, tq]; try omega)
  · rcases six t1 h1 with rfl | rfl | rfl | rfl | rfl | rfl <;> (simp [li, tu, mi, tq]; try omega)
theorem Cn_full {p : Nat → Bool} {G : Nat} (h : Cn p G = G) : ∀ t, t < G → p t = true := by
  have e : Cn (fun _ => true) G = G := by
    unfold Cn
    rw [List.filter_eq_self.2 (fun _ _ => rfl), List.length_range]
  have := Cn_sub (p := p) (q := fun _ => true) (G := G) (fun _ _ _ => rfl) (h.trans e.symm)
  intro t ht
  exact this t ht rfl
theorem rk_same (w h N : Nat) (px : Nat → Int) (g : Int) (s u v : Nat) (hg : g = 4 ∨ g = 6) (hN : 1 ≤ N) (hF : Fine (pat w h N px) N s u v) (mB gB : Nat → Bool) (cen som : Bool)
    (hm : ∀ t, t < g.toNat → (mB t = true ↔ HF (pat w h N px) g t true)) (hgl : ∀ t, t < g.toNat → (gB t = true ↔ HF (pat w h N px) g t false))
    (hc : g = 6 → (cen = true ↔ ThA (pat w h N px) 6)) (hs : g = 4 → HT (pat w h N px) 4 1 → (som = true ↔ ∀ t : Nat, (t : Int) < 4 → HF (pat w h N px) 4 t true)) :
    rkO (Cn (fun t => (fi (movesL w h N px g) t false).isSome) g.toNat) (Cn (fun t => (fi (movesL w h N px g) t true).isSome) g.toNat) (Cn mB g.toNat) (Cn gB g.toNat) cen som = kindO w h N px g s u v := by
  have hgr := moves_grp w h N px g hg hN
  have hcnt := hgr.count
  have hfl := hgr.flips
  have hFt : ∀ t, t < g.toNat → ∀ c, flF (stB w h N px g) g (movesL w h N px g) s u v t = some c → (c.1 = mB t ∧ c.2 = gB t) := by
    intro t ht c hc
    have a := flF_some2 w h N px g s u v t hg hN ht hF hc
    exact ⟨by rw [Bool.eq_iff_iff, a.1, hm t ht], by rw [Bool.eq_iff_iff, a.2, hgl t ht]⟩
  have hSome : ∀ t, (flF (stB w h N px g) g (movesL w h N px g) s u v t).isSome = (fi (movesL w h N px g) t true).isSome := fun t => by unfold flF; rw [Option.isSome_map]
  have hNone : ∀ t, t < g.toNat → (fi (movesL w h N px g) t true).isSome = false → mB t = false ∧ gB t = false := by
    intro t ht hf
    have e : flF (stB w h N px g) g (movesL w h N px g) s u v t = none := by
      have := hSome t
      rw [hf] at this
      exact Option.isNone_iff_eq_none.1 (by simpa using this)
    rw [flF_none w h N px g s u v t hN ht] at e
    refine ⟨?_, ?_⟩
    · cases hb : mB t with
      | false => rfl
      | true => exact absurd (Or.inl ((hm t ht).1 hb)) e
    · cases hb : gB t with
      | false => rfl
      | true => exact absurd (Or.inr ((hgl t ht).1 hb)) e
  have hThird : g = 6 → (thB (flB w h N px g) g g.toNat (movesL w h N px g) s u v = cen) := by
    rintro rfl
    rw [Bool.eq_iff_iff, hc rfl]
    exact thB_iff w h N px s u v hN hF
  have hQ : g = 4 → Cn (fun t => (fi (movesL w h N px g) t false).isSome) g.toNat = 4 → Cn (fun t => (fi (movesL w h N px g) t true).isSome) g.toNat = 4 → (som = true ↔ ∀ t, t < g.toNat → mB t = true) := by
    rintro rfl hr hf
    have q : HT (pat w h N px) 4 1 := (fi_iff w h N px 4 1 false hN (by decide)).1 (Cn_full hr 1 (by decide))
    rw [hs rfl q]
    constructor
    · intro H t ht
      have ht' : t < 4 := ht
      exact (hm t ht).2 (H t (by omega))
    · intro H t ht
      have ht' : t < (4 : Int).toNat := by show t < 4; omega
      exact (hm t ht').1 (H t ht')
  have hAc : Cn (fun t => (fi (movesL w h N px g) t false).isSome) g.toNat = 2 → ∀ a b, a < g.toNat → b < g.toNat → a ≠ b → (fi (movesL w h N px g) a true).isSome = true → (fi (movesL w h N px g) b true).isSome = true → mB a = true → gB a = true → mB b = true → gB b = true := by
    intro h2 a b ha hb hne fa fb m1 g1 m2
    have e := across hgr h2 a b ha hb hne fa fb
    exact (hgl b hb).2 (glide_other hg (by omega) (li_across g a b hg ha e) ((hm a ha).1 m1) ((hgl a ha).1 g1) ((hm b hb).1 m2))
  unfold kindO kdO
  have eFL : Cn (fun t => (flF (stB w h N px g) g (movesL w h N px g) s u v t).isSome) g.toNat = Cn (fun t => (fi (movesL w h N px g) t true).isSome) g.toNat := Cn_congr _ _ _ fun t _ => hSome t
  rw [eFL]
  have hne : ∀ t c, flF (stB w h N px g) g (movesL w h N px g) s u v t = some c → c ≠ (false, false) := fun t c hc => flF_some hc
  generalize hFF : flF (stB w h N px g) g (movesL w h N px g) s u v = F at *
  generalize thB (flB w h N px g) g g.toNat (movesL w h N px g) s u v = th at *
  have hF2 : ∀ t, t < g.toNat → (fi (movesL w h N px g) t true).isSome = true → F t = some (mB t, gB t) := by
    intro t ht hf
    have := hSome t
    rw [hf] at this
    obtain ⟨c, hc⟩ := Option.isSome_iff_exists.1 this
    have a := hFt t ht c hc
    rw [hc]
    exact congrArg some (Prod.ext a.1 a.2)
  have hGL : Cn gB g.toNat = 0 ↔ allW g.toNat F (fun h => h == (true, false)) = true := by
    rw [Cn_zero, allW_iff2]
    constructor
    · intro H t c ht hc
      have a := hFt t ht c hc
      have n := hne t c hc
      rw [H t ht] at a
      obtain ⟨c1, c2⟩ := c
      have a2 : c2 = false := a.2
      subst a2
      cases c1 with
      | false => exact absurd rfl n
      | true => rfl
    · intro H t ht
      cases hf : (fi (movesL w h N px g) t true).isSome with
      | false => exact (hNone t ht hf).2
      | true =>
        have := H t _ ht (hF2 t ht hf)
        simp at this
        exact this.2
  have hM0 : Cn mB g.toNat = 0 ↔ allW g.toNat F (fun h => h == (false, true)) = true := by
    rw [Cn_zero, allW_iff2]
    constructor
    · intro H t c ht hc
      have a := hFt t ht c hc
      have n := hne t c hc
      rw [H t ht] at a
      obtain ⟨c1, c2⟩ := c
      have a2 : c1 = false := a.1
      subst a2
      cases c2 with
      | false => exact absurd rfl n
      | true => rfl
    · intro H t ht
      cases hf : (fi (movesL w h N px g) t true).isSome with
      | false => exact (hNone t ht hf).1
      | true =>
        have := H t _ ht (hF2 t ht hf)
        simp at this
        exact this.1
  have hSub : ∀ t, t < g.toNat → mB t = true → (fi (movesL w h N px g) t true).isSome = true := by
    intro t ht hb
    cases hf : (fi (movesL w h N px g) t true).isSome with
    | true => rfl
    | false => rw [(hNone t ht hf).1] at hb; cases hb
  have hSubg : ∀ t, t < g.toNat → gB t = true → (fi (movesL w h N px g) t true).isSome = true := by
    intro t ht hb
    cases hf : (fi (movesL w h N px g) t true).isSome with
    | true => rfl
    | false => rw [(hNone t ht hf).2] at hb; cases hb
  have hall1 : allW g.toNat F (fun h => h.1) = true ↔ ∀ t, t < g.toNat → (fi (movesL w h N px g) t true).isSome = true → mB t = true := by
    rw [allW_iff2]
    constructor
    · intro H t ht hf
      exact H t _ ht (hF2 t ht hf)
    · intro H t c ht hc
      have a := hFt t ht c hc
      rw [show c.1 = mB t from a.1]
      refine H t ht ?_
      rw [← hSome t, hc]
      rfl
  have hboth : allW g.toNat F (fun h => h == (true, true)) = true ↔ ∀ t, t < g.toNat → (fi (movesL w h N px g) t true).isSome = true → mB t = true ∧ gB t = true := by
    rw [allW_iff2]
    constructor
    · intro H t ht hf
      have := H t _ ht (hF2 t ht hf)
      simpa using this
    · intro H t c ht hc
      have a := hFt t ht c hc
      have b := H t ht (by rw [← hSome t, hc]; rfl)
      rw [← a.1, ← a.2] at b
      obtain ⟨c1, c2⟩ := c
      simp only at b
      simp [b.1, b.2]
  clear hFt hNone hne hF2 hSome eFL hFF
  generalize hT : Cn (fun t => (fi (movesL w h N px g) t false).isSome) g.toNat = T at *
  generalize hL : Cn (fun t => (fi (movesL w h N px g) t true).isSome) g.toNat = FL at *
  by_cases hz : FL = 0
  · rw [if_pos hz]
    subst hz
    rcases hcnt.1 with e | e | ⟨e, -⟩ | ⟨e, -⟩ | ⟨e, -⟩ <;> subst e <;> rfl
  · rw [if_neg hz]
    have hLT : FL = T := by rcases hfl with e | e; exact absurd e hz; exact e
    rcases hcnt.1 with e | e | ⟨e, g6⟩ | ⟨e, g4⟩ | ⟨e, g6⟩
    · subst e
      show (if FL = 0 then (1 : Int) else if Cn gB g.toNat = 0 then 3 else if Cn mB g.toNat = 0 then 4 else 5) = chO g.toNat F 3 4 5 0
      rw [if_neg hz]
      unfold chO
      by_cases c1 : Cn gB g.toNat = 0
      · rw [if_pos c1, if_pos (hGL.1 c1)]
      · rw [if_neg c1, if_neg (fun k => c1 (hGL.2 k))]
        by_cases c2 : Cn mB g.toNat = 0
        · rw [if_pos c2, if_pos (hM0.1 c2)]
        · rw [if_neg c2, if_neg (fun k => c2 (hM0.2 k)), if_pos]
          refine hboth.2 ?_
          obtain ⟨t1, l1, b1⟩ := Cn_pos c1
          obtain ⟨t2, l2, b2⟩ := Cn_pos c2
          have one : Cn (fun t => (fi (movesL w h N px g) t true).isSome) g.toNat = 1 := by rw [hL, hLT]
          intro t ht hf
          have e1 := Cn_two one l1 ht (hSubg t1 l1 b1) hf
          have e2 := Cn_two one l2 ht (hSub t2 l2 b2) hf
          subst e1 e2
          exact ⟨b2, b1⟩
    · subst e
      show (if FL = 0 then (2 : Int) else if Cn gB g.toNat = 0 then 6 else if Cn mB g.toNat = 0 then 8 else if Cn mB g.toNat = 2 then 9 else 7) = chO g.toNat F 6 8 9 7
      rw [if_neg hz]
      unfold chO
      by_cases c1 : Cn gB g.toNat = 0
      · rw [if_pos c1, if_pos (hGL.1 c1)]
      · rw [if_neg c1, if_neg (fun k => c1 (hGL.2 k))]
        by_cases c2 : Cn mB g.toNat = 0
        · rw [if_pos c2, if_pos (hM0.1 c2)]
        · rw [if_neg c2, if_neg (fun k => c2 (hM0.2 k))]
          by_cases c3 : Cn mB g.toNat = 2
          · rw [if_pos c3, if_pos]
            refine hboth.2 ?_
            obtain ⟨t1, l1, b1⟩ := Cn_pos c1
            have am := Cn_sub hSub (by rw [c3, hL, hLT])
            intro t ht hf
            refine ⟨am t ht hf, ?_⟩
            by_cases et : t1 = t
            · subst et; exact b1
            · exact hAc rfl t1 t l1 ht et (hSubg t1 l1 b1) hf (am t1 l1 (hSubg t1 l1 b1)) b1 (am t ht hf)
          · rw [if_neg c3, if_neg]
            intro k
            rw [hboth] at k
            refine c3 ?_
            rw [show (2 : Nat) = FL by omega, ← hL]
            refine Cn_congr _ _ _ fun t ht => ?_
            rw [Bool.eq_iff_iff]
            exact ⟨hSub t ht, fun hf => (k t ht hf).1⟩
    · subst e
      show (if FL = 0 then (13 : Int) else if cen = true then 14 else 15) = if th = true then 14 else 15
      rw [if_neg hz, hThird (by omega)]
    · subst e
      show (if FL = 0 then (10 : Int) else if som = true then 11 else 12) = if allW g.toNat F (fun h => h.1) = true then 11 else 12
      rw [if_neg hz]
      have hq := hQ (by omega) rfl (by omega)
      have full : ∀ t, t < g.toNat → (fi (movesL w h N px g) t true).isSome = true := Cn_full (by rw [hL, hLT, g4])
      have e2 : (som = true) ↔ allW g.toNat F (fun h => h.1) = true := by
        rw [hq, hall1]
        exact ⟨fun H t ht _ => H t ht, fun H t ht => H t ht (full t ht)⟩
      by_cases c : som = true
      · rw [if_pos c, if_pos (e2.1 c)]
      · rw [if_neg c, if_neg (fun k => c (e2.2 k))]
    · subst e
      show (if FL = 0 then (16 : Int) else 17) = 17
      rw [if_neg hz]
end Go.Proofs.YtpcajcgafmmlkaaDoor
