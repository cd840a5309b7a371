/-
  LoomPlays is proved, where what it reads is of bulk at most 1048576: whatever cloth, whatever words of a disk and whatever steps are handed to it, LoomPlays answers true (the program's loom and the document's own one are seen alike, step by step), and each argument reads as it read before. The condition: the row's own bound on bulk.
-/
import Derived.Test.YtndfecdhmncdaaaRfF
import Derived.Test.YtndfecdhmncdaaaRfG
import Derived.Test.YtndfecdhmncdaaaLwB
import Derived.Test.YtndfecdhmncdaaaRowS
import Derived.JoinedCond
namespace Go.Proofs.Ytndfecdhmncdaaa
open Go.ChangeShapes Go.WideShapes Go.ChangeAt Go.RowKit Go.Joins Go.Deep

theorem plays_any (w h : Int) (p : Option Addr) (n cap : Nat) (f : Nat → Bool) (wq : Option Addr) (nw wcp : Nat) (g : Nat → Int) (sq : Option Addr) (m sc : Nat) (P : Nat → Int) (O : Nat → Bool) (E : Nat → Int) (W : World) (hB : Bs W p n cap f) (hwd : Is W wq nw g) (hnil : wq = none → nw = 0 ∧ wcp = 0) (hsc : Sc W sq m P O E) (hnw : nw ≤ 1048576) (hms : m ≤ 1048576) :
    LawIs 3 #[tr w h p n cap, .slice wq nw wcp, .slice sq m sc] W := by
  by_cases he : opE w h n nw = 0
  · obtain ⟨h0, h1, h2⟩ : wE w h n = 0 ∧ n ≠ 0 ∧ ¬ nw < 2 := by
      unfold opE at he
      by_cases c0 : wE w h n = 0
      · rw [if_neg (by simp [c0])] at he
        by_cases c1 : n = 0
        · rw [if_pos c1] at he; omega
        · rw [if_neg c1] at he
          by_cases c2 : nw < 2
          · rw [if_pos c2] at he; omega
          · exact ⟨c0, c1, c2⟩
      · rw [if_pos c0] at he; exact absurd he c0
    obtain ⟨w', h', rfl, rfl, b1, b2, b3⟩ := wE_zero w h n h0
    have hm : Rt W w' h' p n cap f := ⟨b1, b2, b3, hB⟩
    have ha := alike_pl h' P O E (openS h' g (-1)) m
    refine plays_of w' h' p n cap f w' (by omega) wq nw wcp sq m sc hnw hms (plT h' P O E (openS h' g (-1)) m) (plR h' P O E (openS h' g (-1)) m).2.2.2.2.1 (fun V hV => ?_) (fun V hV => ?_)
    · have := loom_ok (hm.keep hV) (by omega) (wcp := wcp) (hwd.keep hV) (by omega) hnw (sc := sc) (hsc.keep hV) hms
      rw [ha.2, rl_words ha.1] at this
      exact this
    · exact play_ok (hm.keep hV) (by omega) (hwd.keep hV) (by omega) hnw (hsc.keep hV) hms
  · exact plays_of w h p n cap f 0 (by omega) wq nw wcp sq m sc hnw hms (List.replicate m (noSn (opE w h n nw))) g
      (fun V hV => loom_err w h p n cap f 0 (hwd.keep hV) hnil hnw (hsc.keep hV) hms _ rfl he)
      (fun V hV => play_err w h p n cap f 0 (hwd.keep hV) hnil hnw (hsc.keep hV) hms _ rfl he)

theorem cells2 : Try.prog.cellsOf 2 = 1 := by kernel_rfl
theorem read25 : Try.prog.readableRec 25 = true := by kernel_rfl
theorem in25 : 25 < Try.prog.types.size := of_decide_eq_true (by kernel_rfl)
theorem read26 : Try.prog.readableRec 26 = true := by kernel_rfl
theorem in26 : 26 < Try.prog.types.size := of_decide_eq_true (by kernel_rfl)

set_option maxRecDepth 100000 in
theorem plays_lifted (os : Os) (started : os.Started) (H : Type) (enc : TypeId × Value → H) (F : Stop.Interp) :
    ReturnsInHanded {} Try.checked os 3 .any ((Rows.OpenSpec.upto Rows.loomPlaysSpec).pre6 enc Try.prog Try.f3 Rows.loomPlaysUptoRow.domain false) (((Rows.OpenSpec.upto Rows.loomPlaysSpec).at F).post enc Try.prog Try.f3 false true false false) := by
  refine returnsInHanded_of_cond (C := Try.checked) (s := Rows.OpenSpec.upto Rows.loomPlaysSpec) (k := Rows.uptoSmall) rfl own started (by kernel_rfl) Try.func3
    (OpenSpec.witness (enc := enc) (C := Try.checked) (s := Rows.OpenSpec.upto Rows.loomPlaysSpec) (k := Rows.uptoSmall) rfl false ⟨#[], #[.agg #[.int .i64 0, .int .i64 0, .slice none 0 0], .slice none 0 0, .slice none 0 0], []⟩ 8 (by kernel_rfl) (by kernel_rfl) (by kernel_rfl)
      (x := ([.agg [.lit (.int .i64 0), .lit (.int .i64 0), .nil], .nil, .nil], [], [])) (by kernel_rfl) rfl (by kernel_rfl)) ?_
  intro W base args ds gs before hval0 hW _ hk _
  have hval : ∀ (j : Nat) t v, Try.f3.params[j]? = some t → args[j]? = some v → Value.okWide Try.prog W .any base t v := hval0
  have hW' := hW
  have hlt := hW.lt
  obtain ⟨p, q, hA0, hV, rfl, hfz, hnd⟩ := hW
  have hA : DataW.TrodAll enc Try.prog W 0 (fun _ => true) true Try.f3.params.toList args.toList ds p := hA0
  rw [Try.params3] at hA hval
  obtain ⟨v0, vs0, d0, ds0, p0, q0, hargs, rfl, rfl, h0, r0⟩ := trodAll_cons hA
  obtain ⟨v1, vs1, d1, ds1, p1, q1, rfl, rfl, rfl, h1, r1⟩ := trodAll_cons r0
  obtain ⟨v2, vs2, d2, ds2, p2, q2, rfl, rfl, rfl, h2, r2⟩ := trodAll_cons r1
  obtain ⟨rfl, rfl, rfl⟩ := trodAll_nil r2
  obtain rfl : args = #[v0, v1, v2] := by cases args; simp_all
  obtain ⟨rfl, rfl⟩ := trodVars_none hV
  obtain ⟨w0, hh0, a0, n0, cap0, f0, rfl, hc0⟩ := truth_open (hval 0 24 v0 rfl rfl) h0
  obtain ⟨wq, nw, wcp, g, rfl, hi1, hnil, _, hroom1⟩ := nums_open Try.underlying25 Try.underlying2 cells2 (hval 1 25 v1 rfl rfl) h1
  obtain ⟨sq, m, sc, P, O, E, rfl, hsc, hroom2⟩ := steps_open (hval 2 26 v2 rfl rfl) h2
  have hbk : Rows.uptoBulkAll [d0, d1, d2] ≤ 1048576 := by
    have := of_decide_eq_true hk
    simpa using this
  simp only [Rows.uptoBulkAll] at hbk
  have hn1 := slice_bulk hroom1
  have hn2 := slice_bulk hroom2
  have hnw : nw ≤ 1048576 := by omega
  have hms : m ≤ 1048576 := by omega
  clear hA0 hval0 hroom1 hroom2 hbk hn1 hn2 hk
  simp only [List.append_nil] at hW' hlt
  refine (plays_any w0 hh0 a0 n0 cap0 f0 wq nw wcp g sq m sc P O E W hc0 hi1 hnil hsc hnw hms).mono fun e W' ⟨he, hg⟩ => ?_
  subst he
  exact ⟨_, rfl, _, _, _, [], _, [], hW', trodAll_cons_mk (shut_bool Try.underlying4 _) trodAll_mk0,
    trodAll_cons_mk (Below.trod laidOut read24 in24 h0 hg (fun x hx => hlt x (by simp [hx]))) (trodAll_cons_mk (Below.trod laidOut read25 in25 h1 hg (fun x hx => hlt x (by simp [hx]))) (trodAll_cons_mk (Below.trod laidOut read26 in26 h2 hg (fun x hx => hlt x (by simp [hx]))) trodAll_mk0)), rfl, hg.frame _, fun h => by cases h⟩

theorem plays_holds : Rows.LoomPlaysUptoSaid :=
  OpenClaim.holds_of_cond 3 Try.f3 rfl rfl rfl rfl rfl rfl rfl ⟨rfl, rfl, rfl, rfl, rfl⟩ rfl rfl rfl rfl rfl (by kernel_rfl) Try.func3 (by kernel_rfl)
    (of_decide_eq_true (by kernel_rfl)) (by unfold Func.isWrapper; first | (rw [if_pos (by decide +kernel)]; kernel_rfl) | (rw [if_neg (by decide +kernel)]; exact ⟨rfl, rfl⟩))
    (fun os started H enc _ F => plays_lifted os started H enc F)
#print axioms plays_holds
end Go.Proofs.Ytndfecdhmncdaaa
