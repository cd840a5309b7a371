/-
  SettFolds is proved in its second form: for every sett and all threads of bulk at most the form's bound the law answers true, and its arguments read as before, where the tables and the errors that the row lists stand as their initialisers lay them (the card ties them). No other condition.
-/
import Derived.Test.YtbnjjkanokmakaaDoorRowT
import Derived.Test.YtbnjjkanokmakaaDoorLF
namespace Go.Proofs.YtbnjjkanokmakaaDoor
open Go.ChangeShapes Go.WideShapes Go.ChangeAt Go.RowKit Go.Joins Go.Deep

set_option maxRecDepth 100000 in
theorem folds_contract (H : Type) (enc : TypeId × Value → H) (W : World) (base : Nat) (args : Array Value) (ds gs : List (DataW H)) (before : List MemPlace)
    (hval : ∀ (j : Nat) t v, Tryd.f6.params[j]? = some t → args[j]? = some v → Value.okWide Tryd.prog W .any base t v)
    (hW : DataW.Whole enc Tryd.prog Tryd.f6.params.toList Rows.settFoldsSpec.vars false W args.toList ds gs before) (hL : laidMetH Tryd.prog Rows.settFoldsUptoRow.laid W) (hk : Rows.uptoSmall H (ds ++ gs) = true) :
    Calls Tryd.prog 6 args W fun e W' => ∃ v, e = .returned v ∧ Rows.settFoldsSpec.post enc Tryd.prog Tryd.f6 false true false false W args v W' := by
  have hW' := hW
  have hlt := hW.lt
  obtain ⟨p, q, hA0, hV, rfl, hfz, hnd⟩ := hW
  have hA : DataW.TrodAll enc Tryd.prog W 0 (fun _ => true) true Tryd.f6.params.toList args.toList ds p := hA0
  rw [Tryd.params6] at hA hval
  obtain ⟨v0, v1, d0, d1, p0, p1, rfl, rfl, rfl, h0, h1⟩ := trodAll_two hA
  obtain ⟨rfl, rfl⟩ := trodVars_none hV
  obtain ⟨q1, l, c1, rfl, hi, hb⟩ := nums_open (hval 0 32 v0 rfl rfl) h0
  obtain ⟨pv, q0, sl, c0, rfl, hs⟩ := sett_open (hval 1 24 v1 rfl rfl) h1
  have hn : l.length ≤ 1048576 := by
    have h := of_decide_eq_true hk
    simp only [List.append_nil, Rows.uptoBulkAll] at h
    omega
  have hT := rtabs_of hL
  clear hA0
  simp only [List.append_nil] at hW' hlt
  refine (folds_walk q1 l c1 pv q0 sl c0 W hi hn hs hT).mono fun e W' ⟨he, hg⟩ => ?_
  subst he
  exact ⟨_, rfl, _, _, _, [], _, [], hW', trodAll_cons_mk (shut_bool Tryd.underlying4 _) trodAll_mk0,
    trodAll_cons_mk (Below.trod laidOut read32 in32 h0 hg (fun x hx => hlt x (by simp [hx]))) (trodAll_cons_mk (Below.trod laidOut read24 in24 h1 hg (fun x hx => hlt x (by simp [hx]))) trodAll_mk0), rfl, hg.frame _, fun h => by cases h⟩

abbrev foldsArgs : Array Value := #[.slice none 0 0, .agg #[.bool false, .slice none 0 0]]
theorem folds_reads (os : Os) {H : Type} (enc : TypeId × Value → H) : ∃ ds places, DataW.whole enc Tryd.prog ((withFirst (World.doorLaid Tryd.prog 90 os)).forCall (fun _ _ => 0) ⟨#[], foldsArgs, []⟩).memory Tryd.f6.params.toList Rows.settFoldsSpec.vars false foldsArgs.toList 8 = some (ds, [], places) ∧ Rows.uptoSmall H (ds ++ []) = true :=
  ⟨[.nil, .agg [.lit (.bool false), .nil]], [], by kernel_rfl, by kernel_rfl⟩

set_option maxRecDepth 100000 in
theorem folds_lifted (os : Os) (started : os.Started) (H : Type) (enc : TypeId × Value → H) (F : Stop.Interp) :
    ReturnsInHanded {} Tryd.checked os 6 .any ((Rows.OpenSpec.upto Rows.settFoldsSpec).preRow enc Tryd.prog Tryd.f6 Rows.settFoldsUptoRow.domain false Rows.settFoldsUptoRow.laid) (((Rows.OpenSpec.upto Rows.settFoldsSpec).at F).post enc Tryd.prog Tryd.f6 false true false false) := by
  obtain ⟨ds, places, hx, hk⟩ := folds_reads os enc
  refine returnsInHanded_of_row (C := Tryd.checked) (s := Rows.OpenSpec.upto Rows.settFoldsSpec) own started (by kernel_rfl) Tryd.func6
    (witness_row_atRef (enc := enc) (C := Tryd.checked) false (withFirst (World.doorLaid Tryd.prog 90 os)) foldsArgs rfl (by kernel_rfl) (by kernel_rfl) (by kernel_rfl)
      (OpenSpec.preRow_of_cond 8 hx (by kernel_rfl) (fun k hk' => by cases hk'; exact hk) (by kernel_rfl) (tabs_door os _))) ?_
  intro W base args ds gs before hval hW _ hcond _ hL _ _
  exact folds_contract H enc W base args ds gs before hval hW hL (hcond _ rfl)

theorem folds_row : Rows.SettFoldsUptoSaid :=
  OpenClaim.holds_of_cond 6 Tryd.f6 rfl rfl rfl rfl rfl rfl rfl ⟨rfl, rfl, rfl, rfl, rfl⟩ rfl rfl rfl rfl rfl (by kernel_rfl) Tryd.func6 (by kernel_rfl)
    (of_decide_eq_true (by kernel_rfl)) (by unfold Func.isWrapper; first | (rw [if_pos (by decide +kernel)]; kernel_rfl) | (rw [if_neg (by decide +kernel)]; exact ⟨rfl, rfl⟩))
    (fun os started H enc _ F => by rw [OpenClaim.pre_eq_preRow]; exact folds_lifted os started H enc F)

theorem folds_plain (f : FuncId) (fn : Func) (hf : Tryd.pinned.checked.prog.funcNamed "tapestry/tapestrylaw18.SettFolds" = some f) (hfn : Tryd.pinned.checked.prog.funcs[f]? = some fn) :
    true = Tryd.pinned.checked.prog.looks [] ∧ ∀ (j : Nat) t, fn.params[j]? = some t → Tryd.pinned.checked.prog.wantsStandIn t = false := by
  obtain rfl : f = 6 := Option.some.inj ((show Tryd.prog.funcNamed "tapestry/tapestrylaw18.SettFolds" = some 6 by kernel_rfl).symm.trans hf) |>.symm
  obtain rfl : fn = Tryd.f6 := (Option.some.inj (Tryd.func6.symm.trans hfn)).symm
  refine ⟨by kernel_rfl, fun j t ht => ?_⟩
  rw [Tryd.params6] at ht
  have hm : t ∈ [32, 24] := by simpa using Array.mem_of_getElem? ht
  have hall : ([32, 24].all fun u => !Tryd.prog.wantsStandIn u) = true := by kernel_rfl
  exact (show Tryd.prog.wantsStandIn t = false by simpa using List.all_eq_true.1 hall t hm)

theorem settFoldsUpto_holds : Rows.SettFoldsUptoCardSaid :=
  Claim7.holds_tied_plain_at .later [] _ _ _ _ folds_row (fun _ h => by cases h) (by kernel_rfl) (fun _ h => by cases h) settFoldsUpto_row_tie rfl ⟨rfl, rfl⟩ (by kernel_rfl) rfl folds_plain (by kernel_rfl)
#print axioms settFoldsUpto_holds
end Go.Proofs.YtbnjjkanokmakaaDoor
