/-
  KnitRuns is proved: whatever number of needles and whatever stitches are handed to it, KnitRuns answers true (Run and Knit say what the document's say), and each argument reads as it read before. No condition beyond the row's own.
-/
import Derived.Test.YtnolblcfafdnpaaLwR
import Derived.Test.YtnolblcfafdnpaaRowA
namespace Go.Proofs.Ytnolblcfafdnpaa
open Go.ChangeShapes Go.WideShapes Go.ChangeAt Go.RowKit Go.Joins Go.Deep

set_option maxRecDepth 100000 in
theorem runs_lifted (os : Os) (started : os.Started) (H : Type) (enc : TypeId × Value → H) :
    ReturnsInHanded {} Try.checked os 3 .any (Rows.knitRunsSpec.pre6 enc Try.prog Try.f3 Rows.knitRunsRow.domain false) (Rows.knitRunsSpec.post enc Try.prog Try.f3 false true false false) := by
  refine returnsInHanded_of_change_sized (C := Try.checked) own started (by kernel_rfl) Try.func3
    (ChangeSpec.witness6 (enc := enc) (C := Try.checked) false ⟨#[], #[.int .i64 0, .slice none 0 0], []⟩ 8 (by kernel_rfl) (by kernel_rfl) (by kernel_rfl) (by kernel_rfl)) ?_
  intro W base args ds gs before hval0 hW hcnd hsz0 _
  have hval : ∀ (j : Nat) t v, Try.f3.params[j]? = some t → args[j]? = some v → Value.okWide Try.prog W .any base t v := hval0
  have hW' := hW
  have hlt := hW.lt
  have hsz : (DataW.weightsEach Try.prog (Try.f3.params.toList ++ Rows.knitRunsSpec.plain.varTypes Try.prog) (ds ++ gs)).all (· ≤ reachBytes) = true := hsz0
  obtain ⟨p, q, hA0, hV, rfl, hfz, hnd⟩ := hW
  have hA : DataW.TrodAll enc Try.prog W 0 (fun _ => true) true Try.f3.params.toList args.toList ds p := hA0
  rw [Try.params3] at hA hval hsz
  obtain ⟨v0, vs0, d0, ds0, p0, q0, hargs, rfl, rfl, h0, r0⟩ := trodAll_cons hA
  obtain ⟨v1, vs1, d1, ds1, p1, q1, rfl, rfl, rfl, h1, r1⟩ := trodAll_cons r0
  obtain ⟨rfl, rfl, rfl⟩ := trodAll_nil r1
  obtain rfl : args = #[v0, v1] := by cases args; simp_all
  obtain ⟨rfl, rfl⟩ := trodVars_none hV
  obtain ⟨n0, rfl, rfl, rfl, wi0⟩ := open_int Try.underlying3 (hval 0 3 v0 rfl rfl) h0
  obtain ⟨sq, m1, sc, f1, rfl, hs1, hroom⟩ := stitches_open (hval 1 22 v1 rfl rfl) h1
  have hm8 : m1 * 40 + 4096 ≤ 140737488355328 := by
    have hb : reachBytes = 140737488351232 := by decide
    rcases hroom with ⟨-, rfl⟩ | ⟨el, sp, rfl, rfl⟩
    · omega
    · have := sized_slice hsz (j := 1) (t := 22) (e := 44) (elems := el) (spare := sp) rfl rfl Try.underlying22
      rw [bytes44, hb] at this
      omega
  clear hA0 hval0 hsz hsz0 hroom
  simp only [List.append_nil] at hW' hlt
  refine (runs_any n0 W sq m1 sc f1 hs1 hm8).mono fun e W' ⟨he, hg⟩ => ?_
  subst he
  exact ⟨_, rfl, _, _, _, [], _, [], hW', trodAll_cons_mk (shut_bool Try.underlying4 _) trodAll_mk0,
    trodAll_cons_mk (shut_int Try.underlying3 wi0) (trodAll_cons_mk (Below.trod laidOut read22 in22 h1 hg (fun x hx => hlt x (by simp [hx]))) trodAll_mk0), rfl, hg.frame _, fun h => by cases h⟩

theorem runs_holds : Rows.KnitRunsSaid :=
  OpenClaim.holds_of_wide 3 Try.f3 rfl rfl rfl rfl rfl rfl rfl ⟨rfl, rfl, rfl, rfl, rfl⟩ rfl rfl rfl rfl rfl (by kernel_rfl) Try.func3 (by kernel_rfl)
    (of_decide_eq_true (by kernel_rfl)) (by unfold Func.isWrapper; first | (rw [if_pos (by decide +kernel)]; kernel_rfl) | (rw [if_neg (by decide +kernel)]; exact ⟨rfl, rfl⟩))
    (fun os started H enc _ => runs_lifted os started H enc)
#print axioms runs_holds
end Go.Proofs.Ytnolblcfafdnpaa
