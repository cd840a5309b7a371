/-
  How a sett, numbers and the tables are read out of what a row gives.
-/
import Derived.Test.YtbnjjkanokmakaaDoorSQ
import Derived.Test.YtbnjjkanokmakaaDoorTie
import Derived.Test.YtbnjjkanokmakaaDoorCards
import Derived.ProofKit
import Derived.OpenShut
import Derived.ChangeSlices
import Derived.Carry
import Derived.LaidMore
import Derived.Deep.DeepHandedRow
import Derived.Deep.Grids
import Derived.Deep.SlicePairs
import Derived.Lib.LaidU8
import Derived.Lib.LaidTab
namespace Go.Proofs.YtbnjjkanokmakaaDoor
open Go.ChangeShapes Go.WideShapes Go.ChangeAt Go.RowKit Go.Joins Go.Deep

theorem own : ownKnob Tryd.prog.godebug = none := by kernel_rfl
theorem laidOut : laidOutB Tryd.prog = true := by kernel_rfl
theorem cells3 : Tryd.prog.cellsOf 3 = 1 := by kernel_rfl
theorem cells4 : Tryd.prog.cellsOf 4 = 1 := by kernel_rfl
theorem cells21 : Tryd.prog.cellsOf 21 = 1 := by kernel_rfl
theorem cells22 : Tryd.prog.cellsOf 22 = 1 := by kernel_rfl
theorem cells24 : Tryd.prog.cellsOf 24 = 2 := by kernel_rfl
theorem cells45 : Tryd.prog.cellsOf 45 = 2 := by kernel_rfl
theorem cells77 : Tryd.prog.cellsOf 77 = 3 := by kernel_rfl
theorem cells78 : Tryd.prog.cellsOf 78 = 18 := by kernel_rfl
theorem cells97 : Tryd.prog.cellsOf 97 = 1 := by kernel_rfl
theorem cells115 : Tryd.prog.cellsOf 115 = 20 := by kernel_rfl
theorem read9 : Tryd.prog.readableRec 9 = true := by kernel_rfl
theorem in9 : 9 < Tryd.prog.types.size := of_decide_eq_true (by kernel_rfl)
theorem read24 : Tryd.prog.readableRec 24 = true := by kernel_rfl
theorem in24 : 24 < Tryd.prog.types.size := of_decide_eq_true (by kernel_rfl)
theorem read32 : Tryd.prog.readableRec 32 = true := by kernel_rfl
theorem in32 : 32 < Tryd.prog.types.size := of_decide_eq_true (by kernel_rfl)
theorem gTab : Tryd.prog.globalNamed "tapestry/chart.groups" = some 0 := by kernel_rfl
theorem gTabType : (Tryd.prog.globals[0]?).map (·.type) = some 78 := by kernel_rfl
theorem gPowType : (Tryd.prog.globals[1]?).map (·.type) = some 115 := by kernel_rfl

/-- a list out of two functions -/
def lOf (m : Nat) (a b : Nat → Int) : List St := (List.range m).map fun i => (a i, b i)
theorem lOf_len (m : Nat) (a b : Nat → Int) : (lOf m a b).length = m := by simp [lOf]
theorem sl_of {W : World} {q : Option Addr} {m : Nat} {a b : Nat → Int} (h : Ps W q m a b) : Sl W q (lOf m a b) := by
  unfold Sl
  rw [lOf_len]
  refine h.congr fun k hk => ?_
  have e : (lOf m a b).getD k (0, 0) = (a k, b k) := by rw [getD_lt _ _ (by rw [lOf_len]; exact hk)]; simp [lOf]
  unfold ca cb
  rw [e]
  exact ⟨rfl, rfl⟩
def nOf (m : Nat) (a : Nat → Int) : List Int := (List.range m).map a
theorem nOf_len (m : Nat) (a : Nat → Int) : (nOf m a).length = m := by simp [nOf]
theorem il_of {W : World} {q : Option Addr} {m : Nat} {a : Nat → Int} (h : Is W q m a) : Il W q (nOf m a) := by
  unfold Il
  rw [nOf_len]
  rcases h with h | ⟨g, o, e, hl, hk⟩
  · exact .inl h
  · refine .inr ⟨g, o, e, hl, fun k hkn => ?_⟩
    have e2 : (nOf m a).getD k 0 = a k := by rw [getD_lt _ _ (by rw [nOf_len]; exact hkn)]; simp [nOf]
    rw [hk k hkn]
    show some (Value.int .i64 (a k)) = some (Value.int .i64 ((nOf m a).getD k 0))
    rw [e2]

set_option maxRecDepth 100000 in
theorem sett_open {H : Type} {enc : TypeId × Value → H} {W : World} {base : Nat} {hd : Bool} {r : Reach} {b0 : Nat} {v : Value} {d : DataW H} {p : List MemPlace} (hv : Value.okWide Tryd.prog W r b0 24 v) (h : DataW.Trod enc Tryd.prog W base (fun _ => true) hd 24 v d p) :
    ∃ (pv : Bool) (q : Option Addr) (l : List St) (c : Nat), v = sV pv q l.length c ∧ Sl W q l := by
  obtain ⟨cs, rfl, hsz⟩ := okWide_struct Tryd.underlying24 hv
  obtain ⟨c0, c1, rfl⟩ := array2 (hsz.trans cells24)
  obtain ⟨fuel, hf⟩ := h
  obtain ⟨y0, y1, n, hx, _, h0, h1⟩ := trod_struct2 Tryd.underlying24 hf
  simp only [Value.cells, cells4, cells22, List.drop, List.take] at h0 h1
  obtain ⟨pv, e0, -⟩ := DataW.trod_bool Tryd.underlying4 h0
  simp at e0
  subst e0
  rcases open_slice Tryd.underlying22 h1 with ⟨e3, hd⟩ | ⟨a, len, cap, m, n, D, Pl, e3, hb, hl, hm, hmm, hx, hel⟩
  · simp at e3
    subst e3
    exact ⟨pv, none, [], 0, rfl, .inl rfl⟩
  · simp at e3
    subst e3
    rw [if_pos rfl] at hmm
    have each : ∀ i, i < m → ∃ q : Int × Int, W.cell? (a.add (i * 2)) = some (.int .i64 q.1) ∧ W.cell? (a.add (i * 2 + 1)) = some (.int .i64 q.2) := by
      intro i hi
      obtain ⟨cs', h1, h2⟩ := hel i hi
      rw [cells45] at h1
      obtain ⟨_, hlen, hcell⟩ := World.cells?_some h1
      obtain ⟨xs, k, -, -, -, hxl, hfs⟩ := DataW.trod_struct Tryd.underlying45 h2
      match cs', hlen, xs, hxl with
      | [v0, v1], _, [y0, y1], _ =>
        obtain ⟨x0, e0, _⟩ := DataW.trod_int Tryd.underlying3 (hfs 0 _ rfl)
        obtain ⟨x1, e1, _⟩ := DataW.trod_int Tryd.underlying3 (hfs 1 _ rfl)
        simp [cells3] at e0 e1
        subst e0 e1
        have f0 := hcell 0 (by omega)
        have f1 := hcell 1 (by omega)
        rw [add_add] at f0 f1
        exact ⟨(x0, x1), by simpa using f0, by simpa using f1⟩
    obtain ⟨q, hq⟩ := choose_lt each
    refine ⟨pv, some a, lOf len (fun i => (q i).1) (fun i => (q i).2), cap, by rw [lOf_len], sl_of ?_⟩
    by_cases hz : len = 0
    · exact Or.inl hz
    · have hc0 := (hq 0 (by omega)).1
      have hsp := World.cell?_spot hc0
      obtain ⟨b, o, s⟩ := a
      simp [Addr.add] at hsp
      subst hsp
      refine Or.inr ⟨b, o, rfl, World.block_lt_of_cell? W _ hc0, fun k hk => ?_⟩
      obtain ⟨f0, f1⟩ := hq k (by omega)
      refine ⟨?_, ?_⟩
      · by_cases hk0 : k = 0
        · subst hk0
          simpa [Addr.add] using f0
        · have hk3 : ¬ k * 2 = 0 := by omega
          simpa [Addr.add, hk3] using f0
      · simpa [Addr.add, Nat.add_assoc] using f1
set_option maxRecDepth 100000 in
theorem nums_open {H : Type} {enc : TypeId × Value → H} {W : World} {base : Nat} {hd : Bool} {r : Reach} {b0 : Nat} {v : Value} {d : DataW H} {p : List MemPlace} (hv : Value.okWide Tryd.prog W r b0 32 v) (h : DataW.Trod enc Tryd.prog W base (fun _ => true) hd 32 v d p) :
    ∃ (q : Option Addr) (l : List Int) (c : Nat), v = .slice q l.length c ∧ Il W q l ∧ l.length ≤ Rows.uptoBulk d := by
  obtain ⟨a0, l0, k0, rfl⟩ := okWide_slice Tryd.underlying32 hv
  obtain ⟨fuel, hf⟩ := h
  rcases open_ints Tryd.underlying32 Tryd.underlying3 cells3 hf with ⟨e3, _⟩ | ⟨a, len, cap, zs, e3, _, hl, hm, hlen, hx, hcell, _⟩
  · simp [Value.cells] at e3
    obtain ⟨rfl, rfl, rfl⟩ := e3
    exact ⟨none, [], 0, rfl, .inl rfl, by simp⟩
  · simp [Value.cells] at e3
    obtain ⟨rfl, rfl, rfl⟩ := e3
    rw [if_pos rfl] at hlen
    have hdx := congrArg Prod.fst hx
    simp only at hdx
    refine ⟨_, nOf l0 (fun k => zs.getD k 0), _, by rw [nOf_len], il_of ?_, ?_⟩
    · by_cases hz : l0 = 0
      · exact Or.inl hz
      · have hc0 := hcell 0 (by omega)
        have hsp := World.cell?_spot hc0
        obtain ⟨b, o, s⟩ := a
        simp [Addr.add] at hsp
        subst hsp
        refine Or.inr ⟨b, o, rfl, World.block_lt_of_cell? W _ hc0, fun k hk => ?_⟩
        have := hcell k (by omega)
        by_cases hk0 : k = 0
        · subst hk0
          simpa [Addr.add] using this
        · simpa [Addr.add, hk0] using this
    · have h1 : ∀ l : List (DataW H), l.length ≤ Rows.uptoBulkAll l := fun l => by
        induction l with
        | nil => simp [Rows.uptoBulkAll]
        | cons x r ih =>
          have : 1 ≤ Rows.uptoBulk x := by
            cases x with
            | lit l => cases l <;> simp [Rows.uptoBulk]
            | _ => simp [Rows.uptoBulk]
          simp only [Rows.uptoBulkAll, List.length_cons]
          omega
      rw [nOf_len, hdx]
      simp only [Rows.uptoBulk]
      have := h1 (lits .i64 (zs.take l0))
      have e : (lits (H := H) .i64 (zs.take l0)).length = l0 := by simp [lits]; omega
      omega

theorem one_at {l : List Value} {j : Nat} {v : Value} (h : (l.drop j).take 1 = [v]) : l[j]? = some v := by
  have : ((l.drop j).take 1)[0]? = some v := by rw [h]; rfl
  simpa using this
theorem group_of {W : World} {enc : TypeId × Value → Unit} {base : Nat} {sp : Nat → Bool} {hd : Bool} {m : Nat} {l : List Value} {y : DataW Unit × List MemPlace} {a b c : Int} (h : DataW.trod enc Tryd.prog W base sp hd m 77 l = some y) (hy : y.1 = .agg [.lit (.int .i64 a), .lit (.int .i32 b), .lit (.int .i64 c)]) :
    l[0]? = some (.int .i64 a) ∧ l[1]? = some (.int .i32 b) ∧ l[2]? = some (.int .i64 c) := by
  obtain ⟨y0, y1, y2, n, hx, _, h0, h1, h2⟩ := trod_struct3 Tryd.underlying77 h
  simp only [cells3, cells21] at h0 h1 h2
  obtain ⟨a', e0, rfl, _⟩ := DataW.trod_int Tryd.underlying3 h0
  obtain ⟨b', e1, rfl, _⟩ := DataW.trod_int Tryd.underlying21 h1
  obtain ⟨c', e2, rfl, _⟩ := DataW.trod_int Tryd.underlying3 h2
  subst hx
  simp at hy
  obtain ⟨rfl, rfl, rfl⟩ := hy
  exact ⟨one_at e0, one_at e1, one_at e2⟩
/-- the table, out of its reading -/
theorem tab_of {W : World} {cs : Array Value} {f : Nat} {p : List MemPlace} {enc : TypeId × Value → Unit} {base : Nat} {sp : Nat → Bool} {hd : Bool} (hv : W.var? Tryd.prog "tapestry/chart.groups" = some cs) (h : DataW.trod enc Tryd.prog W base sp hd f 78 cs.toList = some (Rows.laid_tapestry_chart_groups, p)) : Tab W := by
  have hcell := fun i => World.var?_cell gTab hv i
  obtain ⟨xs, m, rfl, hx, hlen, hn, hel⟩ := DataW.trod_array Tryd.underlying78 h
  simp only [Prod.mk.injEq, Rows.laid_tapestry_chart_groups, DataW.agg.injEq] at hx
  have key : ∀ (i : Nat) (a b c : Int), i < 6 → (xs.map (·.1))[i]? = some (.agg [.lit (.int .i64 a), .lit (.int .i32 b), .lit (.int .i64 c)]) →
      W.cell? ⟨0, i * 3, none⟩ = some (.int .i64 a) ∧ W.cell? ⟨0, i * 3 + 1, none⟩ = some (.int .i32 b) ∧ W.cell? ⟨0, i * 3 + 2, none⟩ = some (.int .i64 c) := by
    intro i a b c hi hxi
    obtain ⟨y, hy, hy1⟩ : ∃ y, xs[i]? = some y ∧ y.1 = .agg [.lit (.int .i64 a), .lit (.int .i32 b), .lit (.int .i64 c)] := by
      simp only [List.getElem?_map, Option.map_eq_some_iff] at hxi
      exact hxi
    have hl := hel i hi
    rw [hy, cells77] at hl
    obtain ⟨k0, k1, k2⟩ := group_of hl hy1
    simp [List.getElem?_drop] at k0 k1 k2
    exact ⟨by rw [hcell]; simpa using k0, by rw [hcell]; simpa using k1, by rw [hcell]; simpa using k2⟩
  rw [← hx.1] at key
  have k0 := key 0 0 183 1 (by omega) rfl
  have k1 := key 1 1 9608 1 (by omega) rfl
  have k2 := key 2 2 48 10 (by omega) rfl
  have k3 := key 3 12 945 17 (by omega) rfl
  have k4 := key 4 29 963 7 (by omega) rfl
  have k5 := key 5 36 97 26 (by omega) rfl
  have hcs : cs = tabA := by
    apply Array.ext_getElem?
    intro i
    rw [← hcell]
    by_cases hi : i < 18
    · have : i = 0 ∨ i = 1 ∨ i = 2 ∨ i = 3 ∨ i = 4 ∨ i = 5 ∨ i = 6 ∨ i = 7 ∨ i = 8 ∨ i = 9 ∨ i = 10 ∨ i = 11 ∨ i = 12 ∨ i = 13 ∨ i = 14 ∨ i = 15 ∨ i = 16 ∨ i = 17 := by omega
      rcases this with rfl | rfl | rfl | rfl | rfl | rfl | rfl | rfl | rfl | rfl | rfl | rfl | rfl | rfl | rfl | rfl | rfl | rfl
      · exact k0.1
      · exact k0.2.1
      · exact k0.2.2
      · exact k1.1
      · exact k1.2.1
      · exact k1.2.2
      · exact k2.1
      · exact k2.2.1
      · exact k2.2.2
      · exact k3.1
      · exact k3.2.1
      · exact k3.2.2
      · exact k4.1
      · exact k4.2.1
      · exact k4.2.2
      · exact k5.1
      · exact k5.2.1
      · exact k5.2.2
    · have hz : cs.size = 18 := by rw [← Array.length_toList, hlen, cells78]
      rw [hcell, Array.getElem?_eq_none (by omega), Array.getElem?_eq_none (show (tabA).size ≤ i by show 18 ≤ i; omega)]
  subst hcs
  simp only [World.var?, gTab, Option.bind_some] at hv
  split at hv
  · rename_i c t fr hh
    obtain rfl := Option.some.inj hv
    exact ⟨t, fr, hh⟩
  · cases hv
theorem pow_of {W : World} (h : Lib.VarReads Tryd.prog W "internal/strconv.uint64pow10" Rows.laid_internal_strconv_uint64pow10) : Pow W := by
  obtain ⟨g, t, cs, fuel, p, hg, hty, hvar, hd⟩ := h
  obtain rfl := Option.some.inj (gPow.symm.trans hg)
  obtain rfl := Option.some.inj (gPowType.symm.trans hty)
  have e : (Rows.laid_internal_strconv_uint64pow10 : DataW Unit) = Lib.tabData .u64 Lib.pow10Tab := by kernel_rfl
  rw [e] at hd
  unfold Pow Lib.TabIs
  rw [hvar, ← Lib.cells_of_tab Tryd.underlying115 Tryd.underlying97 cells97 cells115 hd]
theorem tab_reads {W : World} (h : Lib.VarReads Tryd.prog W "tapestry/chart.groups" Rows.laid_tapestry_chart_groups) : Tab W := by
  obtain ⟨g, t, cs, fuel, p, hg, hty, hvar, hd⟩ := h
  obtain rfl := Option.some.inj (gTab.symm.trans hg)
  obtain rfl := Option.some.inj (gTabType.symm.trans hty)
  exact tab_of hvar hd
end Go.Proofs.YtbnjjkanokmakaaDoor
