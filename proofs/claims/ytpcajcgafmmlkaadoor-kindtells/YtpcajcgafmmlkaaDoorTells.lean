/-
  KindTells is proved: for every chart and every number the law answers true, and its arguments read as before, where the table of the kinds' names stands as its initialiser lays it (the card ties it). No other condition.
-/
import Derived.Test.YtpcajcgafmmlkaaDoorTHK
import Derived.Test.YtpcajcgafmmlkaaDoorKindMM
import Derived.Test.YtpcajcgafmmlkaaDoorTie
import Derived.Test.YtpcajcgafmmlkaaDoorCards
namespace Go.Proofs.YtpcajcgafmmlkaaDoor
open Go.ChangeShapes Go.WideShapes Go.ChangeAt Go.RowKit Go.Joins Go.Deep

theorem gNm : Tryd.prog.globalNamed "tapestry/kind.names" = some 0 := by kernel_rfl
theorem gNmType : (Tryd.prog.globals[0]?).map (·.type) = some 47 := by kernel_rfl
theorem cells9 : Tryd.prog.cellsOf 9 = 1 := by kernel_rfl
theorem one_at {l : List Value} {j : Nat} {v : Value} (h : (l.drop j).take 1 = [v]) : l[j]? = some v := by
  have : ((l.drop j).take 1)[0]? = some v := by rw [h]; rfl
  simpa using this
theorem laid_eq : (Rows.laid_tapestry_kind_names : DataW Unit) = .agg (nmL.map fun l => .lit (.string l)) := rfl
set_option maxRecDepth 100000 in
theorem ntab_of {W : World} {cs : Array Value} {f : Nat} {p : List MemPlace} {enc : TypeId × Value → Unit} {base : Nat} {sp : Nat → Bool} {hd : Bool} (hv : W.var? Tryd.prog "tapestry/kind.names" = some cs) (h : DataW.trod enc Tryd.prog W base sp hd f 47 cs.toList = some (Rows.laid_tapestry_kind_names, p)) : NTab W := by
  have hcell := fun i => World.var?_cell gNm hv i
  obtain ⟨xs, m, rfl, hx, hlen, hn, hel⟩ := DataW.trod_array Tryd.underlying47 h
  rw [laid_eq] at hx
  simp only [Prod.mk.injEq, DataW.agg.injEq] at hx
  have key : ∀ i, i < 18 → W.cell? ⟨0, i, none⟩ = some (.string (nm i)) := by
    intro i hi
    have hl := hel i hi
    rw [cells9] at hl
    cases hxi : xs[i]? with
    | none =>
      have e : (xs.map (·.1))[i]? = none := by rw [List.getElem?_map, hxi]; rfl
      rw [← hx.1, List.getElem?_map, Option.map_eq_none_iff, List.getElem?_eq_none_iff] at e
      have : nmL.length = 18 := rfl
      omega
    | some y =>
      rw [hxi] at hl
      obtain ⟨s, e1, e2, -⟩ := DataW.trod_string Tryd.underlying9 hl
      have e : (xs.map (·.1))[i]? = some (.lit (.string s.data.toList)) := by rw [List.getElem?_map, hxi, e2]; rfl
      rw [← hx.1, List.getElem?_map] at e
      obtain ⟨l, hl1, hl2⟩ := Option.map_eq_some_iff.1 e
      have hl3 : l = s.data.toList := by injection hl2 with h1; injection h1
      have hs : s = nm i := by
        unfold nm
        rw [List.getD_eq_getElem?_getD, hl1, hl3]
        rfl
      rw [hcell, ← Array.getElem?_toList, ← hs]
      have := one_at e1
      simpa using this
  exact ⟨World.block_lt_of_cell? W _ (key 0 (by omega)), key⟩
theorem ktells_table {W : World} (h : laidMetH Tryd.prog Rows.kindTellsRow.laid W) : NTab W := by
  rw [MakeChecks.laidMetH_plain _ _ _ (by kernel_rfl)] at h
  obtain ⟨ps, ⟨g0, t0, cs0, f0, p0, q0, hg0, ht0, hv0, hd0, _⟩, _, _⟩ := h
  obtain rfl := Option.some.inj (gNm.symm.trans hg0)
  obtain rfl := Option.some.inj (gNmType.symm.trans ht0)
  exact ntab_of hv0 hd0

set_option maxRecDepth 100000 in
theorem ktells_contract (H : Type) (enc : TypeId × Value → H) (W : World) (base : Nat) (args : Array Value) (ds gs : List (DataW H)) (before : List MemPlace)
    (hval : ∀ (j : Nat) t v, Tryd.f3.params[j]? = some t → args[j]? = some v → Value.okWide Tryd.prog W .any base t v)
    (hW : DataW.Whole enc Tryd.prog Tryd.f3.params.toList Rows.kindTellsSpec.vars false W args.toList ds gs before) (hL : laidMetH Tryd.prog Rows.kindTellsRow.laid W) :
    Calls Tryd.prog 3 args W fun e W' => ∃ v, e = .returned v ∧ Rows.kindTellsSpec.post enc Tryd.prog Tryd.f3 false true false false W args v W' := by
  have hW' := hW
  have hlt := hW.lt
  obtain ⟨p, q, hA0, hV, rfl, hfz, hnd⟩ := hW
  have hA : DataW.TrodAll enc Tryd.prog W 0 (fun _ => true) true Tryd.f3.params.toList args.toList ds p := hA0
  rw [Tryd.params3] at hA hval
  obtain ⟨v0, v1, d0, d1, p0, p1, rfl, rfl, rfl, h0, h1⟩ := trodAll_two hA
  obtain ⟨rfl, rfl⟩ := trodVars_none hV
  obtain ⟨g, w, h, a, n, cap, px, rfl, hc⟩ := chart_open (hval 0 24 v0 rfl rfl) h0
  obtain ⟨k, rfl, rfl, rfl, wk⟩ := open_int Tryd.underlying3 (hval 1 3 v1 rfl rfl) h1
  clear hA0
  simp only [List.append_nil] at hW' hlt
  refine (ktells_walk g w h a n cap px k W hc (ktells_table hL)).mono fun e W' ⟨he, hg⟩ => ?_
  subst he
  exact ⟨_, rfl, _, _, _, [], _, [], hW', trodAll_cons_mk (shut_bool Tryd.underlying4 _) trodAll_mk0,
    trodAll_cons_mk (Below.trod laidOut read24 in24 h0 hg (fun x hx => hlt x (by simp [hx]))) (trodAll_cons_mk (shut_int Tryd.underlying3 wk) trodAll_mk0), rfl, hg.frame _, fun h => by cases h⟩

theorem ktells_door (os : Os) (args : Array Value) : laidMetH Tryd.prog Rows.kindTellsRow.laid ((World.doorLaid Tryd.prog 30 os).forCall (fun _ _ => 0) ⟨#[], args, []⟩).memory :=
  laidMetH_of_parts3 (fuel := 8) (laidMet_of_run' 8 (by kernel_rfl) (by kernel_rfl)) (by kernel_rfl) (by kernel_rfl)

set_option maxRecDepth 100000 in
theorem ktells_lifted (os : Os) (started : os.Started) (H : Type) (enc : TypeId × Value → H) :
    ReturnsInHanded {} Tryd.checked os 3 .any (fun w args => (Rows.kindTellsSpec.pre enc Tryd.prog Tryd.f3 [] false w args ∧ laidMetH Tryd.prog Rows.kindTellsRow.laid w) ∧ sizedMet enc Tryd.prog Tryd.f3 (OpenSpec.ofChange Rows.kindTellsSpec) false w args)
      (Rows.kindTellsSpec.post enc Tryd.prog Tryd.f3 false true false false) := by
  refine returnsInHanded_of_change_and (C := Tryd.checked) (X := fun w _ => laidMetH Tryd.prog Rows.kindTellsRow.laid w) (fun _ _ _ hh h => h.of_heap hh) own started (by kernel_rfl) Tryd.func3
    (ChangeSpec.witness_shaped (enc := enc) (C := Tryd.checked) (os := os) (X := fun w _ => laidMetH Tryd.prog Rows.kindTellsRow.laid w) false (World.doorLaid Tryd.prog 30 os) #[.agg #[.int .i64 0, .int .i64 0, .int .i64 0, .slice none 0 0], .int .i64 0] 8 rfl (World.shaped_of_RefB (by kernel_rfl) (by kernel_rfl)) (by kernel_rfl) (by kernel_rfl) (by kernel_rfl) (ktells_door os _)) ?_
  intro W base args ds gs before hval0 hW _ _ hL _
  exact ktells_contract H enc W base args ds gs before hval0 hW hL

theorem ktells_row : Rows.KindTellsSaid :=
  OpenClaim.holds_of_wide 3 Tryd.f3 rfl rfl rfl rfl rfl rfl rfl ⟨rfl, rfl, rfl, rfl, rfl⟩ rfl rfl rfl rfl rfl (by kernel_rfl) Tryd.func3 (by kernel_rfl)
    (of_decide_eq_true (by kernel_rfl)) (by unfold Func.isWrapper; first | (rw [if_pos (by decide +kernel)]; kernel_rfl) | (rw [if_neg (by decide +kernel)]; exact ⟨rfl, rfl⟩))
    (fun os started H enc _ => ktells_lifted os started H enc)

theorem ktells_plain (f : FuncId) (fn : Func) (hf : Tryd.pinned.checked.prog.funcNamed "tapestry/tapestrylaw4.KindTells" = some f) (hfn : Tryd.pinned.checked.prog.funcs[f]? = some fn) :
    false = Tryd.pinned.checked.prog.looks [] ∧ ∀ (j : Nat) t, fn.params[j]? = some t → Tryd.pinned.checked.prog.wantsStandIn t = false := by
  obtain rfl : f = 3 := Option.some.inj ((show Tryd.prog.funcNamed "tapestry/tapestrylaw4.KindTells" = some 3 by kernel_rfl).symm.trans hf) |>.symm
  obtain rfl : fn = Tryd.f3 := (Option.some.inj (Tryd.func3.symm.trans hfn)).symm
  refine ⟨by kernel_rfl, fun j t ht => ?_⟩
  rw [Tryd.params3] at ht
  have hm : t ∈ [24, 3] := by simpa using Array.mem_of_getElem? ht
  have hall : ([24, 3].all fun u => !Tryd.prog.wantsStandIn u) = true := by kernel_rfl
  exact (show Tryd.prog.wantsStandIn t = false by simpa using List.all_eq_true.1 hall t hm)

theorem ktells_holds : Rows.KindTellsCardSaid :=
  Claim7.holds_tied_plain_at .later [] _ _ _ _ ktells_row (fun _ h => by cases h) (by kernel_rfl) (fun _ h => by cases h) kindTells_row_tie rfl ⟨rfl, rfl⟩ (by kernel_rfl) rfl ktells_plain (by kernel_rfl)
#print axioms ktells_holds
end Go.Proofs.YtpcajcgafmmlkaaDoor
