/-
  LoomOnce is proved: whatever cloth and whatever turns are handed to it, LoomOnce answers true (each pick is beaten once, in its order, whatever breaks, stops or loses its power; and whoever goes on long enough has the cloth), and each argument reads as it read before. No condition beyond the row's own.
-/
import Derived.Test.YtndfecdhmncdaaaLwA
import Derived.Test.YtndfecdhmncdaaaRowI
namespace Go.Proofs.Ytndfecdhmncdaaa
open Go.ChangeShapes Go.WideShapes Go.ChangeAt Go.RowKit Go.Joins Go.Deep

theorem bytes3 : Try.prog.bytesOf 3 = 8 := by kernel_rfl
theorem read37 : Try.prog.readableRec 37 = true := by kernel_rfl
theorem in37 : 37 < Try.prog.types.size := of_decide_eq_true (by kernel_rfl)

set_option maxRecDepth 100000 in
theorem once_lifted (os : Os) (started : os.Started) (H : Type) (enc : TypeId × Value → H) :
    ReturnsInHanded {} Try.checked os 4 .any (Rows.loomOnceSpec.pre6 enc Try.prog Try.f4 Rows.loomOnceRow.domain false) (Rows.loomOnceSpec.post enc Try.prog Try.f4 false true false false) := by
  refine returnsInHanded_of_change_sized (C := Try.checked) own started (by kernel_rfl) Try.func4
    (ChangeSpec.witness6 (enc := enc) (C := Try.checked) false ⟨#[], #[.agg #[.int .i64 0, .int .i64 0, .slice none 0 0], .slice none 0 0], []⟩ 8 (by kernel_rfl) (by kernel_rfl) (by kernel_rfl) (by kernel_rfl)) ?_
  intro W base args ds gs before hval0 hW hcnd hsz0 _
  have hval : ∀ (j : Nat) t v, Try.f4.params[j]? = some t → args[j]? = some v → Value.okWide Try.prog W .any base t v := hval0
  have hW' := hW
  have hlt := hW.lt
  have hsz : (DataW.weightsEach Try.prog (Try.f4.params.toList ++ Rows.loomOnceSpec.plain.varTypes Try.prog) (ds ++ gs)).all (· ≤ reachBytes) = true := hsz0
  obtain ⟨p, q, hA0, hV, rfl, hfz, hnd⟩ := hW
  have hA : DataW.TrodAll enc Try.prog W 0 (fun _ => true) true Try.f4.params.toList args.toList ds p := hA0
  rw [Try.params4] at hA hval hsz
  obtain ⟨v0, vs0, d0, ds0, p0, q0, hargs, rfl, rfl, h0, r0⟩ := trodAll_cons hA
  obtain ⟨v1, vs1, d1, ds1, p1, q1, rfl, rfl, rfl, h1, r1⟩ := trodAll_cons r0
  obtain ⟨rfl, rfl, rfl⟩ := trodAll_nil r1
  obtain rfl : args = #[v0, v1] := by cases args; simp_all
  obtain ⟨rfl, rfl⟩ := trodVars_none hV
  obtain ⟨w0, hh0, a0, n0, cap0, f0, rfl, hc0⟩ := truth_open (hval 0 24 v0 rfl rfl) h0
  obtain ⟨q1, m1, c1, f1, rfl, hi1, hnil, hm1, hroom⟩ := nums_open Try.underlying37 Try.underlying3 cells3 (hval 1 37 v1 rfl rfl) h1
  have hm8 : m1 * 8 + 4096 ≤ 140737488355328 := by
    have hb : reachBytes = 140737488351232 := by decide
    rcases hroom with ⟨-, rfl⟩ | ⟨el, sp, rfl, rfl⟩
    · omega
    · have := sized_slice hsz (j := 1) (t := 37) (e := 3) (elems := el) (spare := sp) rfl rfl Try.underlying37
      rw [bytes3, hb] at this
      omega
  clear hA0 hval0 hsz hsz0 hroom
  simp only [List.append_nil] at hW' hlt
  refine (once_any w0 hh0 a0 n0 cap0 f0 q1 m1 c1 f1 W hc0 hi1 hnil hm8).mono fun e W' ⟨he, hg⟩ => ?_
  subst he
  exact ⟨_, rfl, _, _, _, [], _, [], hW', trodAll_cons_mk (shut_bool Try.underlying4 _) trodAll_mk0,
    trodAll_cons_mk (Below.trod laidOut read24 in24 h0 hg (fun x hx => hlt x (by simp [hx]))) (trodAll_cons_mk (Below.trod laidOut read37 in37 h1 hg (fun x hx => hlt x (by simp [hx]))) trodAll_mk0), rfl, hg.frame _, fun h => by cases h⟩

theorem once_holds : Rows.LoomOnceSaid :=
  OpenClaim.holds_of_wide 4 Try.f4 rfl rfl rfl rfl rfl rfl rfl ⟨rfl, rfl, rfl, rfl, rfl⟩ rfl rfl rfl rfl rfl (by kernel_rfl) Try.func4 (by kernel_rfl)
    (of_decide_eq_true (by kernel_rfl)) (by unfold Func.isWrapper; first | (rw [if_pos (by decide +kernel)]; kernel_rfl) | (rw [if_neg (by decide +kernel)]; exact ⟨rfl, rfl⟩))
    (fun os started H enc _ => once_lifted os started H enc)
#print axioms once_holds
end Go.Proofs.Ytndfecdhmncdaaa
