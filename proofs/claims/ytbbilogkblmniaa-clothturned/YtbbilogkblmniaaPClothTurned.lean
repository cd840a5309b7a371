/-
  ClothTurned is proved: for every cloth the law answers true, and its argument reads as before. No condition.
-/
import Derived.Test.YtbbilogkblmniaaTuA
import Derived.Test.YtbbilogkblmniaaRowN
import Derived.SizedLaws
namespace Go.Proofs.Ytbbilogkblmniaa
open Go.ChangeShapes Go.WideShapes Go.ChangeAt Go.RowKit Go.Joins Go.Deep

theorem bytes4 : Try.prog.bytesOf 4 = 1 := by kernel_rfl
/-- truths that were read take no more room than a reading may -/
theorem truth_room {H : Type} {enc : TypeId × Value → H} {W : World} {base : Nat} {hd : Bool} {r : Reach} {b0 : Nat} {w h : Int} {q : Option Addr} {n cap : Nat} {d : DataW H} {p : List MemPlace} (hv : Value.okWide Try.prog W r b0 24 (tr w h q n cap)) (hT : DataW.Trod enc Try.prog W base (fun _ => true) hd 24 (tr w h q n cap) d p)
    (hs : (DataW.weightsEach Try.prog [24] [d]).all (· ≤ reachBytes) = true) : n ≤ 140737488355328 := by
  obtain ⟨fuel, hf⟩ := hT
  obtain ⟨y0, y1, y2, m, hx, _, h0, h1, h2⟩ := trod_struct3 Try.underlying24 hf
  simp only [Value.cells, cells3, cells22, List.drop, List.take] at h0 h1 h2
  simp only [Prod.mk.injEq] at hx
  obtain ⟨rfl, _⟩ := hx
  have hb := reachBytes_lt
  rcases open_bools Try.underlying22 Try.underlying4 cells4 h2 with ⟨e3, _⟩ | ⟨a, len, cap', B, e3, _, hl, hm, hy, hcell⟩
  · simp at e3
    omega
  · simp at e3
    obtain ⟨rfl, rfl, rfl⟩ := e3
    subst hy
    have := List.all_eq_true.1 hs ((n + (cap - n)) * Try.prog.bytesOf 4) (by simp [DataW.weightsEach, DataW.weights, Try.underlying24, boolRow, Try.underlying22])
    rw [bytes4] at this
    simp at this
    omega
set_option maxRecDepth 100000 in
theorem turn_lifted (os : Os) (started : os.Started) (H : Type) (enc : TypeId × Value → H) :
    ReturnsInHanded {} Try.checked os 6 .any (Rows.clothTurnedSpec.pre6 enc Try.prog Try.f6 Rows.clothTurnedRow.domain false) (Rows.clothTurnedSpec.post enc Try.prog Try.f6 false true false false) := by
  refine returnsInHanded_of_change_sized (C := Try.checked) own started (by kernel_rfl) Try.func6
    (ChangeSpec.witness6 (enc := enc) (C := Try.checked) false ⟨#[], #[.agg #[.int .i64 0, .int .i64 0, .slice none 0 0]], []⟩ 8 (by kernel_rfl) (by kernel_rfl) (by kernel_rfl) (by kernel_rfl)) ?_
  intro W base args ds gs before hval0 hW hcnd hsz0 _
  have hval : ∀ (j : Nat) t v, Try.f6.params[j]? = some t → args[j]? = some v → Value.okWide Try.prog W .any base t v := hval0
  have hW' := hW
  have hlt := hW.lt
  have hsz : (DataW.weightsEach Try.prog (Try.f6.params.toList ++ Rows.clothTurnedSpec.plain.varTypes Try.prog) (ds ++ gs)).all (· ≤ reachBytes) = true := hsz0
  obtain ⟨p, q, hA0, hV, rfl, hfz, hnd⟩ := hW
  have hA : DataW.TrodAll enc Try.prog W 0 (fun _ => true) true Try.f6.params.toList args.toList ds p := hA0
  rw [Try.params6] at hA hval hsz
  obtain ⟨v0, vs0, d0, ds0, p0, q0, hargs, rfl, rfl, h0, r0⟩ := trodAll_cons hA
  obtain ⟨rfl, rfl, rfl⟩ := trodAll_nil r0
  obtain rfl : args = #[v0] := by cases args; simp_all
  obtain ⟨rfl, rfl⟩ := trodVars_none hV
  obtain ⟨w0, hh0, a0, n0, cap0, f0, rfl, hc0⟩ := truth_open (hval 0 24 v0 rfl rfl) h0
  clear hA0 hval0
  simp only [List.append_nil] at hW' hlt
  refine (turn_any w0 hh0 a0 n0 cap0 f0 W hc0 (truth_room (hval 0 24 _ rfl rfl) h0 hsz)).mono fun e W' ⟨he, hg⟩ => ?_
  subst he
  exact ⟨_, rfl, _, _, _, [], _, [], hW', trodAll_cons_mk (shut_bool Try.underlying4 _) trodAll_mk0,
    trodAll_cons_mk (Below.trod laidOut read24 in24 h0 hg (fun x hx => hlt x (by simp [hx]))) trodAll_mk0, rfl, hg.frame _, fun h => by cases h⟩

theorem turn_holds : Rows.ClothTurnedSaid :=
  OpenClaim.holds_of_wide 6 Try.f6 rfl rfl rfl rfl rfl rfl rfl ⟨rfl, rfl, rfl, rfl, rfl⟩ rfl rfl rfl rfl rfl (by kernel_rfl) Try.func6 (by kernel_rfl)
    (of_decide_eq_true (by kernel_rfl)) (by unfold Func.isWrapper; first | (rw [if_pos (by decide +kernel)]; kernel_rfl) | (rw [if_neg (by decide +kernel)]; exact ⟨rfl, rfl⟩))
    (fun os started H enc _ => turn_lifted os started H enc)
#print axioms turn_holds
end Go.Proofs.Ytbbilogkblmniaa
