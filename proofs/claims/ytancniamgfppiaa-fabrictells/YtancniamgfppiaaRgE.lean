/-
  The document's May and Tidy.
-/
import Derived.Test.YtancniamgfppiaaMY
import Derived.Test.YtancniamgfppiaaTB
import Derived.Laws.EntriesVeiled
namespace Go.Proofs.Ytancniamgfppiaa
open Go.RowKit

/-- has a stitch to do with a needle? -/
def tchB (x : Sx) (r b n : Int) : Bool := if x.dk = 3 then false else if x.bed = b ∧ x.ndl = n then true else if x.dk ≠ 4 then false else if x.bed = 0 then decide (b = 1 ∧ n = wrap64 (x.ndl - r)) else decide (b = 0 ∧ n = wrap64 (x.ndl + r))
theorem tch_mem (x : Sx) (r b n : Int) : tchB x r b n = (ndL x r).any fun q => (b, n) == q := by
  unfold tchB ndL fcI
  by_cases h3 : x.dk = 3
  · rw [if_pos h3, if_pos h3]; rfl
  rw [if_neg h3, if_neg h3]
  by_cases h4 : x.dk = 4
  · rw [if_pos h4, if_neg (show ¬ x.dk ≠ 4 from fun q => q h4)]
    by_cases hb : x.bed = b ∧ x.ndl = n
    · rw [if_pos hb]
      simp [hb.1, hb.2]
    · rw [if_neg hb]
      have e1 : ((b, n) == (x.bed, x.ndl)) = false := by
        simp only [beq_eq_false_iff_ne, ne_eq, Prod.mk.injEq]
        exact fun q => hb ⟨q.1.symm, q.2.symm⟩
      by_cases h0 : x.bed = 0
      · rw [if_pos h0, if_pos h0]
        simp only [List.any_cons, List.any_nil, Bool.or_false, e1, Bool.false_or]
        simp
        rfl
      · rw [if_neg h0, if_neg h0]
        simp only [List.any_cons, List.any_nil, Bool.or_false, e1, Bool.false_or]
        simp
        rfl
  · rw [if_neg h4, if_pos h4]
    by_cases hb : x.bed = b ∧ x.ndl = n
    · rw [if_pos hb]
      simp [hb.1, hb.2]
    · rw [if_neg hb]
      have e1 : ((b, n) == (x.bed, x.ndl)) = false := by
        simp only [beq_eq_false_iff_ne, ne_eq, Prod.mk.injEq]
        exact fun q => hb ⟨q.1.symm, q.2.symm⟩
      simp [e1]
/-- the document's way of asking -/
def rmyB (x y : Sx) (r : Int) : Bool := if rkB x = true ∨ rkB y = true then false else if mkB x = true ∧ mkB y = true ∧ x.car = y.car then false else if x.dk = 3 then true else if tchB y r x.bed x.ndl = true then false else if x.dk ≠ 4 then true else if x.bed = 0 then !(tchB y r 1 (wrap64 (x.ndl - r))) else !(tchB y r 0 (wrap64 (x.ndl + r)))
theorem rmy_may (x y : Sx) (r : Int) : rmyB x y r = mayB x y r := by
  unfold rmyB mayB
  by_cases h1 : rkB x = true ∨ rkB y = true
  · rw [if_pos h1]
    rcases h1 with h | h <;> simp [h]
  rw [if_neg h1]
  have r1 : rkB x = false := by cases h : rkB x with | false => rfl | true => exact absurd (.inl h) h1
  have r2 : rkB y = false := by cases h : rkB y with | false => rfl | true => exact absurd (.inr h) h1
  rw [r1, r2]
  by_cases h2 : mkB x = true ∧ mkB y = true ∧ x.car = y.car
  · rw [if_pos h2]; simp [h2.1, h2.2.1, h2.2.2]
  rw [if_neg h2]
  have e2 : (mkB x && mkB y && x.car == y.car) = false := by
    cases a : mkB x with
    | false => rfl
    | true =>
      cases b : mkB y with
      | false => rfl
      | true =>
        have : ¬ x.car = y.car := fun e => h2 ⟨a, b, e⟩
        simpa using this
  rw [e2]
  have hm : mtB (ndL x r) (ndL y r) = (ndL x r).any fun p => tchB y r p.1 p.2 := by
    unfold mtB
    congr 1
    funext p
    rw [tch_mem]
  rw [hm]
  unfold ndL fcI
  by_cases h3 : x.dk = 3
  · rw [if_pos h3, if_pos h3]; rfl
  rw [if_neg h3, if_neg h3]
  by_cases h4 : x.dk = 4
  · rw [if_pos h4, if_neg (show ¬ x.dk ≠ 4 from fun q => q h4)]
    cases ht : tchB y r x.bed x.ndl with
    | true => simp [ht]
    | false =>
      by_cases h0 : x.bed = 0
      · simp [h0]
        rw [h0] at ht
        simp [ht]
      · simp [ht, h0]
  · rw [if_neg h4, if_pos h4]
    cases ht : tchB y r x.bed x.ndl <;> simp [ht]

set_option maxRecDepth 100000 in
set_option maxHeartbeats 1000000 in
theorem own_any (x : Sx) (W : World) : Ans 28 #[sxV x] W (.bool (mkB x)) := by
  unfold Ans
  have HX := hide (XB.new W x)
  have B0 := hide (bnew W (.cells #[.int .i64 x.dk, .int .i64 x.bed, .int .i64 x.ndl, .int .i64 x.car, .int .i64 x.tt] 24))
  unfold mkB
  go_enter Try.func28, Try.ntmps28
  go_upto_region 1 with fail
  generalize W.alloc (.cells #[.int .i64 x.dk, .int .i64 x.bed, .int .i64 x.ndl, .int .i64 x.car, .int .i64 x.tt] 24) = w0 at *
  obtain ⟨-, x0, x1, x2, x3, x4⟩ := unhide HX
  cases h1 : (x.dk == 1)
  · cases h2 : (x.dk == 2)
    all_goals
      go_wp2
      go_ret
      exact ⟨ret_bool (by rw [h1, h2]; rfl), unhide B0⟩
  · go_wp2
    go_ret
    exact ⟨ret_bool (by rw [h1]; rfl), unhide B0⟩

set_option maxRecDepth 100000 in
set_option maxHeartbeats 4000000 in
theorem touches_any (x : Sx) (r b n : Int) (W : World) : Ans 29 #[sxV x, .int .i64 r, .int .i64 b, .int .i64 n] W (.bool (tchB x r b n)) := by
  unfold Ans
  have HX := hide (XB.new W x)
  have B0 := hide (bnew W (.cells #[.int .i64 x.dk, .int .i64 x.bed, .int .i64 x.ndl, .int .i64 x.car, .int .i64 x.tt] 24))
  have He := hide (show tchB x r b n = if x.dk = 3 then false else if x.bed = b ∧ x.ndl = n then true else if x.dk ≠ 4 then false else if x.bed = 0 then decide (b = 1 ∧ n = wrap64 (x.ndl - r)) else decide (b = 0 ∧ n = wrap64 (x.ndl + r)) from rfl)
  generalize tchB x r b n = R at *
  go_enter Try.func29, Try.ntmps29
  go_upto_region 1 with fail
  generalize W.alloc (.cells #[.int .i64 x.dk, .int .i64 x.bed, .int .i64 x.ndl, .int .i64 x.car, .int .i64 x.tt] 24) = w0 at *
  obtain ⟨-, x0, x1, x2, x3, x4⟩ := unhide HX
  obtain ⟨dk, hdk⟩ : ∃ z, z = x.dk := ⟨_, rfl⟩
  obtain ⟨bd, hbd⟩ : ∃ z, z = x.bed := ⟨_, rfl⟩
  obtain ⟨nd, hnd⟩ : ∃ z, z = x.ndl := ⟨_, rfl⟩
  rw [← hdk] at x0 He
  rw [← hbd] at x1 He
  rw [← hnd] at x2 He
  clear hdk hbd hnd
  by_cases h3 : dk = 3
  · have g1 : (dk == 3) = true := by simp [h3]
    have HR := hide (show R = false by rw [unhide He, if_pos h3])
    clear h3 He
    go_wp2
    go_ret
    exact ⟨ret_bool (unhide HR).symm, unhide B0⟩
  have g1 : (dk == 3) = false := by simpa using h3
  have He := hide (show R = if bd = b ∧ nd = n then true else if dk ≠ 4 then false else if bd = 0 then decide (b = 1 ∧ n = wrap64 (nd - r)) else decide (b = 0 ∧ n = wrap64 (nd + r)) by rw [unhide He, if_neg h3])
  clear h3
  by_cases hb : bd = b ∧ nd = n
  · have g2 : (bd = b) = True := by simpa using hb.1
    have g2' : (bd == b) = true := by simpa using hb.1
    have g3 : (nd = n) = True := by simpa using hb.2
    have g3' : (nd == n) = true := by simpa using hb.2
    have HR := hide (show R = true by rw [unhide He, if_pos hb])
    clear hb He
    go_wp2
    go_ret
    exact ⟨ret_bool (unhide HR).symm, unhide B0⟩
  have He := hide (show R = if dk ≠ 4 then false else if bd = 0 then decide (b = 1 ∧ n = wrap64 (nd - r)) else decide (b = 0 ∧ n = wrap64 (nd + r)) by rw [unhide He, if_neg hb])
  have key : ((bd == b) = false) ∨ ((bd == b) = true ∧ (nd == n) = false) := by
    by_cases q : bd = b
    · exact .inr ⟨by simpa using q, by simpa using fun e => hb ⟨q, e⟩⟩
    · exact .inl (by simpa using q)
  clear hb
  rcases key with g2 | ⟨g2, g3⟩
  all_goals
    by_cases h4 : dk ≠ 4
    · have g4 : (dk != 4) = true := by simpa using h4
      have HR := hide (show R = false by rw [unhide He, if_pos h4])
      clear h4 He
      go_wp2
      go_ret
      exact ⟨ret_bool (unhide HR).symm, unhide B0⟩
    · have g4 : (dk != 4) = false := by simpa using h4
      have He := hide (show R = if bd = 0 then decide (b = 1 ∧ n = wrap64 (nd - r)) else decide (b = 0 ∧ n = wrap64 (nd + r)) by rw [unhide He, if_neg h4])
      clear h4
      by_cases h0 : bd = 0
      · have g5 : (bd == 0) = true := by simpa using h0
        have He := hide (show R = decide (b = 1 ∧ n = wrap64 (nd - r)) by rw [unhide He, if_pos h0])
        clear h0
        obtain ⟨z, hz⟩ : ∃ z, z = wrap64 (nd - r) := ⟨_, rfl⟩
        rw [← hz] at He
        have hz2 := hz.symm
        clear hz
        by_cases h1 : b = 1
        · have g6 : (b == 1) = true := by simpa using h1
          by_cases h2 : n = z
          · have g7 : (n = z) = True := by simpa using h2
            have g7' : (n == z) = true := by simpa using h2
            have HR := hide (show R = true by rw [unhide He]; simp [h1, h2])
            clear h1 h2 He
            go_wp2
            go_ret
            exact ⟨ret_bool (unhide HR).symm, unhide B0⟩
          · have g7' : (n == z) = false := by simpa using h2
            have HR := hide (show R = false by rw [unhide He]; simp [h2])
            clear h1 h2 He
            go_wp2
            go_ret
            exact ⟨ret_bool (unhide HR).symm, unhide B0⟩
        · have g6 : (b == 1) = false := by simpa using h1
          have HR := hide (show R = false by rw [unhide He]; simp [h1])
          clear h1 He
          go_wp2
          go_ret
          exact ⟨ret_bool (unhide HR).symm, unhide B0⟩
      · have g5 : (bd == 0) = false := by simpa using h0
        have He := hide (show R = decide (b = 0 ∧ n = wrap64 (nd + r)) by rw [unhide He, if_neg h0])
        clear h0
        obtain ⟨z, hz⟩ : ∃ z, z = wrap64 (nd + r) := ⟨_, rfl⟩
        rw [← hz] at He
        have hz2 := hz.symm
        clear hz
        by_cases h1 : b = 0
        · have g6 : (b == 0) = true := by simpa using h1
          by_cases h2 : n = z
          · have g7 : (n = z) = True := by simpa using h2
            have g7' : (n == z) = true := by simpa using h2
            have HR := hide (show R = true by rw [unhide He]; simp [h1, h2])
            clear h1 h2 He
            go_wp2
            go_ret
            exact ⟨ret_bool (unhide HR).symm, unhide B0⟩
          · have g7' : (n == z) = false := by simpa using h2
            have HR := hide (show R = false by rw [unhide He]; simp [h2])
            clear h1 h2 He
            go_wp2
            go_ret
            exact ⟨ret_bool (unhide HR).symm, unhide B0⟩
        · have g6 : (b == 0) = false := by simpa using h1
          have HR := hide (show R = false by rw [unhide He]; simp [h1])
          clear h1 He
          go_wp2
          go_ret
          exact ⟨ret_bool (unhide HR).symm, unhide B0⟩

set_option maxRecDepth 100000 in
set_option maxHeartbeats 8000000 in
theorem rmay_any (x y : Sx) (r : Int) (W : World) : Ans 11 #[sxV x, sxV y, .int .i64 r] W (.bool (mayB x y r)) := by
  unfold Ans
  rw [← rmy_may]
  obtain ⟨t1, t2, t3⟩ := x_boxes W x y
  have HX := hide t1
  have HY := hide t2
  have B0 := hide t3
  clear t1 t2 t3
  have HL := hide (fun x V => own_any x V)
  have HT := hide (fun b n V => touches_any y r b n V)
  unfold Ans at HL HT
  have He := hide (show rmyB x y r = if rkB x = true ∨ rkB y = true then false else if mkB x = true ∧ mkB y = true ∧ x.car = y.car then false else if x.dk = 3 then true else if tchB y r x.bed x.ndl = true then false else if x.dk ≠ 4 then true else if x.bed = 0 then !(tchB y r 1 (wrap64 (x.ndl - r))) else !(tchB y r 0 (wrap64 (x.ndl + r))) from rfl)
  generalize rmyB x y r = R at *
  go_enter Try.func11, Try.ntmps11
  go_upto_region 1 with fail
  generalize (W.alloc (.cells #[.int .i64 x.dk, .int .i64 x.bed, .int .i64 x.ndl, .int .i64 x.car, .int .i64 x.tt] 24)).alloc (.cells #[.int .i64 y.dk, .int .i64 y.bed, .int .i64 y.ndl, .int .i64 y.car, .int .i64 y.tt] 24) = w0 at *
  obtain ⟨yb, hyb⟩ : ∃ b, b = W.heap.size + 1 := ⟨_, rfl⟩
  rw [← hyb] at HY
  rw [← hyb]
  obtain ⟨xb, hxb⟩ : ∃ b, b = W.heap.size := ⟨_, rfl⟩
  rw [← hxb] at HX
  rw [← hxb]
  clear hyb hxb
  obtain ⟨-, x0, x1, x2, x3, x4⟩ := unhide HX
  obtain ⟨-, y0, y1, y2, y3, y4⟩ := unhide HY
  by_cases hr1 : rkB x = true
  · have g1 : (x.dk == 6) = true := hr1
    have HR := hide (show R = false by rw [unhide He, if_pos (.inl hr1)])
    clear hr1 He
    go_wp2
    go_ret
    exact ⟨ret_bool (unhide HR).symm, unhide B0⟩
  have g1 : (x.dk == 6) = false := by simpa [rkB] using hr1
  by_cases hr2 : rkB y = true
  · have g2 : (y.dk == 6) = true := hr2
    have HR := hide (show R = false by rw [unhide He, if_pos (.inr hr2)])
    clear hr1 hr2 He
    go_wp2
    go_ret
    exact ⟨ret_bool (unhide HR).symm, unhide B0⟩
  have g2 : (y.dk == 6) = false := by simpa [rkB] using hr2
  have He := hide (show R = if mkB x = true ∧ mkB y = true ∧ x.car = y.car then false else if x.dk = 3 then true else if tchB y r x.bed x.ndl = true then false else if x.dk ≠ 4 then true else if x.bed = 0 then !(tchB y r 1 (wrap64 (x.ndl - r))) else !(tchB y r 0 (wrap64 (x.ndl + r))) by rw [unhide He, if_neg (fun q => q.elim hr1 hr2)])
  clear hr1 hr2
  go_wp2_with fail
  clear x0 x1 x2 x3 x4 y0 y1 y2 y3 y4
  refine (unhide HL x _).mono ?_
  rintro e w3 ⟨rfl, hb3⟩
  have S3 := hide hb3
  clear hb3
  cases hm1 : mkB x with
  | false =>
    have He2 := hide (show R = if x.dk = 3 then true else if tchB y r x.bed x.ndl = true then false else if x.dk ≠ 4 then true else if x.bed = 0 then !(tchB y r 1 (wrap64 (x.ndl - r))) else !(tchB y r 0 (wrap64 (x.ndl + r))) by rw [unhide He, if_neg (by rw [hm1]; simp)])
    clear hm1 He
    obtain ⟨-, x0, x1, x2, x3, x4⟩ := (unhide HX).keep (unhide S3)
    obtain ⟨-, y0, y1, y2, y3, y4⟩ := (unhide HY).keep (unhide S3)
    by_cases h3 : x.dk = 3
    · have g3 : (x.dk == 3) = true := by simpa using h3
      have HR := hide (show R = true by rw [unhide He2, if_pos h3])
      clear h3 He2
      go_wp2
      go_ret
      exact ⟨ret_bool (unhide HR).symm, btrans (unhide B0) (unhide S3)⟩
    · have g3 : (x.dk == 3) = false := by simpa using h3
      have He3 := hide (show R = if tchB y r x.bed x.ndl = true then false else if x.dk ≠ 4 then true else if x.bed = 0 then !(tchB y r 1 (wrap64 (x.ndl - r))) else !(tchB y r 0 (wrap64 (x.ndl + r))) by rw [unhide He2, if_neg h3])
      clear h3 He2
      go_wp2_with fail
      clear x0 x1 x2 x3 x4 y0 y1 y2 y3 y4
      refine (unhide HT x.bed x.ndl _).mono ?_
      rintro e wu ⟨rfl, hbu⟩
      have Su := hide (btrans (unhide S3) hbu)
      clear hbu
      cases ht : tchB y r x.bed x.ndl with
      | true =>
        have HR := hide (show R = false by rw [unhide He3, if_pos ht])
        clear ht He3
        go_wp2
        go_ret
        exact ⟨ret_bool (unhide HR).symm, btrans (unhide B0) (unhide Su)⟩
      | false =>
        have He4 := hide (show R = if x.dk ≠ 4 then true else if x.bed = 0 then !(tchB y r 1 (wrap64 (x.ndl - r))) else !(tchB y r 0 (wrap64 (x.ndl + r))) by rw [unhide He3, if_neg (by rw [ht]; decide)])
        clear ht He3
        obtain ⟨-, x0, x1, x2, x3, x4⟩ := (unhide HX).keep (unhide Su)
        obtain ⟨-, y0, y1, y2, y3, y4⟩ := (unhide HY).keep (unhide Su)
        by_cases h4 : x.dk ≠ 4
        · have g4 : (x.dk != 4) = true := by simpa using h4
          have HR := hide (show R = true by rw [unhide He4, if_pos h4])
          clear h4 He4
          go_wp2
          go_ret
          exact ⟨ret_bool (unhide HR).symm, btrans (unhide B0) (unhide Su)⟩
        · have g4 : (x.dk != 4) = false := by simpa using h4
          have He5 := hide (show R = if x.bed = 0 then !(tchB y r 1 (wrap64 (x.ndl - r))) else !(tchB y r 0 (wrap64 (x.ndl + r))) by rw [unhide He4, if_neg h4])
          clear h4 He4
          by_cases h0 : x.bed = 0
          · have g5 : (x.bed == 0) = true := by simpa using h0
            have HR := hide (show R = !(tchB y r 1 (wrap64 (x.ndl - r))) by rw [unhide He5, if_pos h0])
            clear h0 He5
            go_wp2_with fail
            refine (unhide HT 1 (wrap64 (x.ndl - r)) _).mono ?_
            rintro e wv ⟨rfl, hbv⟩
            have Sv := hide (btrans (unhide Su) hbv)
            clear hbv
            generalize tchB y r 1 (wrap64 (x.ndl - r)) = tt at *
            go_wp2
            go_ret
            exact ⟨ret_bool (unhide HR).symm, btrans (unhide B0) (unhide Sv)⟩
          · have g5 : (x.bed == 0) = false := by simpa using h0
            have HR := hide (show R = !(tchB y r 0 (wrap64 (x.ndl + r))) by rw [unhide He5, if_neg h0])
            clear h0 He5
            go_wp2_with fail
            refine (unhide HT 0 (wrap64 (x.ndl + r)) _).mono ?_
            rintro e wv ⟨rfl, hbv⟩
            have Sv := hide (btrans (unhide Su) hbv)
            clear hbv
            generalize tchB y r 0 (wrap64 (x.ndl + r)) = tt at *
            go_wp2
            go_ret
            exact ⟨ret_bool (unhide HR).symm, btrans (unhide B0) (unhide Sv)⟩
  | true =>
  obtain ⟨-, y0, y1, y2, y3, y4⟩ := (unhide HY).keep (unhide S3)
  go_wp2_with fail
  clear y0 y1 y2 y3 y4
  refine (unhide HL y _).mono ?_
  rintro e w4 ⟨rfl, hb4⟩
  have S4 := hide (btrans (unhide S3) hb4)
  clear hb4 S3
  cases hm2 : mkB y with
  | false =>
    have He2 := hide (show R = if x.dk = 3 then true else if tchB y r x.bed x.ndl = true then false else if x.dk ≠ 4 then true else if x.bed = 0 then !(tchB y r 1 (wrap64 (x.ndl - r))) else !(tchB y r 0 (wrap64 (x.ndl + r))) by rw [unhide He, if_neg (by rw [hm2]; simp)])
    clear hm1 hm2 He
    obtain ⟨-, x0, x1, x2, x3, x4⟩ := (unhide HX).keep (unhide S4)
    obtain ⟨-, y0, y1, y2, y3, y4⟩ := (unhide HY).keep (unhide S4)
    by_cases h3 : x.dk = 3
    · have g3 : (x.dk == 3) = true := by simpa using h3
      have HR := hide (show R = true by rw [unhide He2, if_pos h3])
      clear h3 He2
      go_wp2
      go_ret
      exact ⟨ret_bool (unhide HR).symm, btrans (unhide B0) (unhide S4)⟩
    · have g3 : (x.dk == 3) = false := by simpa using h3
      have He3 := hide (show R = if tchB y r x.bed x.ndl = true then false else if x.dk ≠ 4 then true else if x.bed = 0 then !(tchB y r 1 (wrap64 (x.ndl - r))) else !(tchB y r 0 (wrap64 (x.ndl + r))) by rw [unhide He2, if_neg h3])
      clear h3 He2
      go_wp2_with fail
      clear x0 x1 x2 x3 x4 y0 y1 y2 y3 y4
      refine (unhide HT x.bed x.ndl _).mono ?_
      rintro e wu ⟨rfl, hbu⟩
      have Su := hide (btrans (unhide S4) hbu)
      clear hbu
      cases ht : tchB y r x.bed x.ndl with
      | true =>
        have HR := hide (show R = false by rw [unhide He3, if_pos ht])
        clear ht He3
        go_wp2
        go_ret
        exact ⟨ret_bool (unhide HR).symm, btrans (unhide B0) (unhide Su)⟩
      | false =>
        have He4 := hide (show R = if x.dk ≠ 4 then true else if x.bed = 0 then !(tchB y r 1 (wrap64 (x.ndl - r))) else !(tchB y r 0 (wrap64 (x.ndl + r))) by rw [unhide He3, if_neg (by rw [ht]; decide)])
        clear ht He3
        obtain ⟨-, x0, x1, x2, x3, x4⟩ := (unhide HX).keep (unhide Su)
        obtain ⟨-, y0, y1, y2, y3, y4⟩ := (unhide HY).keep (unhide Su)
        by_cases h4 : x.dk ≠ 4
        · have g4 : (x.dk != 4) = true := by simpa using h4
          have HR := hide (show R = true by rw [unhide He4, if_pos h4])
          clear h4 He4
          go_wp2
          go_ret
          exact ⟨ret_bool (unhide HR).symm, btrans (unhide B0) (unhide Su)⟩
        · have g4 : (x.dk != 4) = false := by simpa using h4
          have He5 := hide (show R = if x.bed = 0 then !(tchB y r 1 (wrap64 (x.ndl - r))) else !(tchB y r 0 (wrap64 (x.ndl + r))) by rw [unhide He4, if_neg h4])
          clear h4 He4
          by_cases h0 : x.bed = 0
          · have g5 : (x.bed == 0) = true := by simpa using h0
            have HR := hide (show R = !(tchB y r 1 (wrap64 (x.ndl - r))) by rw [unhide He5, if_pos h0])
            clear h0 He5
            go_wp2_with fail
            refine (unhide HT 1 (wrap64 (x.ndl - r)) _).mono ?_
            rintro e wv ⟨rfl, hbv⟩
            have Sv := hide (btrans (unhide Su) hbv)
            clear hbv
            generalize tchB y r 1 (wrap64 (x.ndl - r)) = tt at *
            go_wp2
            go_ret
            exact ⟨ret_bool (unhide HR).symm, btrans (unhide B0) (unhide Sv)⟩
          · have g5 : (x.bed == 0) = false := by simpa using h0
            have HR := hide (show R = !(tchB y r 0 (wrap64 (x.ndl + r))) by rw [unhide He5, if_neg h0])
            clear h0 He5
            go_wp2_with fail
            refine (unhide HT 0 (wrap64 (x.ndl + r)) _).mono ?_
            rintro e wv ⟨rfl, hbv⟩
            have Sv := hide (btrans (unhide Su) hbv)
            clear hbv
            generalize tchB y r 0 (wrap64 (x.ndl + r)) = tt at *
            go_wp2
            go_ret
            exact ⟨ret_bool (unhide HR).symm, btrans (unhide B0) (unhide Sv)⟩
  | true =>
  by_cases hc : x.car = y.car
  · obtain ⟨-, x0, x1, x2, x3, x4⟩ := (unhide HX).keep (unhide S4)
    obtain ⟨-, y0, y1, y2, y3, y4⟩ := (unhide HY).keep (unhide S4)
    have k1 : (x.car = y.car) = True := by simpa using hc
    have k2 : (x.car == y.car) = true := by simpa using hc
    have HR := hide (show R = false by rw [unhide He, if_pos ⟨hm1, hm2, hc⟩])
    clear hc He hm1 hm2
    go_wp2
    go_ret
    exact ⟨ret_bool (unhide HR).symm, btrans (unhide B0) (unhide S4)⟩
  · have k1 : (x.car = y.car) = False := by simpa using hc
    have k2 : (x.car == y.car) = false := by simpa using hc
    have He2 := hide (show R = if x.dk = 3 then true else if tchB y r x.bed x.ndl = true then false else if x.dk ≠ 4 then true else if x.bed = 0 then !(tchB y r 1 (wrap64 (x.ndl - r))) else !(tchB y r 0 (wrap64 (x.ndl + r))) by rw [unhide He, if_neg (fun q => hc q.2.2)])
    clear hm1 hm2 He hc
    obtain ⟨-, x0, x1, x2, x3, x4⟩ := (unhide HX).keep (unhide S4)
    obtain ⟨-, y0, y1, y2, y3, y4⟩ := (unhide HY).keep (unhide S4)
    by_cases h3 : x.dk = 3
    · have g3 : (x.dk == 3) = true := by simpa using h3
      have HR := hide (show R = true by rw [unhide He2, if_pos h3])
      clear h3 He2
      go_wp2
      go_ret
      exact ⟨ret_bool (unhide HR).symm, btrans (unhide B0) (unhide S4)⟩
    · have g3 : (x.dk == 3) = false := by simpa using h3
      have He3 := hide (show R = if tchB y r x.bed x.ndl = true then false else if x.dk ≠ 4 then true else if x.bed = 0 then !(tchB y r 1 (wrap64 (x.ndl - r))) else !(tchB y r 0 (wrap64 (x.ndl + r))) by rw [unhide He2, if_neg h3])
      clear h3 He2
      go_wp2_with fail
      clear x0 x1 x2 x3 x4 y0 y1 y2 y3 y4
      refine (unhide HT x.bed x.ndl _).mono ?_
      rintro e wu ⟨rfl, hbu⟩
      have Su := hide (btrans (unhide S4) hbu)
      clear hbu
      cases ht : tchB y r x.bed x.ndl with
      | true =>
        have HR := hide (show R = false by rw [unhide He3, if_pos ht])
        clear ht He3
        go_wp2
        go_ret
        exact ⟨ret_bool (unhide HR).symm, btrans (unhide B0) (unhide Su)⟩
      | false =>
        have He4 := hide (show R = if x.dk ≠ 4 then true else if x.bed = 0 then !(tchB y r 1 (wrap64 (x.ndl - r))) else !(tchB y r 0 (wrap64 (x.ndl + r))) by rw [unhide He3, if_neg (by rw [ht]; decide)])
        clear ht He3
        obtain ⟨-, x0, x1, x2, x3, x4⟩ := (unhide HX).keep (unhide Su)
        obtain ⟨-, y0, y1, y2, y3, y4⟩ := (unhide HY).keep (unhide Su)
        by_cases h4 : x.dk ≠ 4
        · have g4 : (x.dk != 4) = true := by simpa using h4
          have HR := hide (show R = true by rw [unhide He4, if_pos h4])
          clear h4 He4
          go_wp2
          go_ret
          exact ⟨ret_bool (unhide HR).symm, btrans (unhide B0) (unhide Su)⟩
        · have g4 : (x.dk != 4) = false := by simpa using h4
          have He5 := hide (show R = if x.bed = 0 then !(tchB y r 1 (wrap64 (x.ndl - r))) else !(tchB y r 0 (wrap64 (x.ndl + r))) by rw [unhide He4, if_neg h4])
          clear h4 He4
          by_cases h0 : x.bed = 0
          · have g5 : (x.bed == 0) = true := by simpa using h0
            have HR := hide (show R = !(tchB y r 1 (wrap64 (x.ndl - r))) by rw [unhide He5, if_pos h0])
            clear h0 He5
            go_wp2_with fail
            refine (unhide HT 1 (wrap64 (x.ndl - r)) _).mono ?_
            rintro e wv ⟨rfl, hbv⟩
            have Sv := hide (btrans (unhide Su) hbv)
            clear hbv
            generalize tchB y r 1 (wrap64 (x.ndl - r)) = tt at *
            go_wp2
            go_ret
            exact ⟨ret_bool (unhide HR).symm, btrans (unhide B0) (unhide Sv)⟩
          · have g5 : (x.bed == 0) = false := by simpa using h0
            have HR := hide (show R = !(tchB y r 0 (wrap64 (x.ndl + r))) by rw [unhide He5, if_neg h0])
            clear h0 He5
            go_wp2_with fail
            refine (unhide HT 0 (wrap64 (x.ndl + r)) _).mono ?_
            rintro e wv ⟨rfl, hbv⟩
            have Sv := hide (btrans (unhide Su) hbv)
            clear hbv
            generalize tchB y r 0 (wrap64 (x.ndl + r)) = tt at *
            go_wp2
            go_ret
            exact ⟨ret_bool (unhide HR).symm, btrans (unhide B0) (unhide Sv)⟩
end Go.Proofs.Ytancniamgfppiaa

namespace Go.Proofs.Ytancniamgfppiaa
open Go.RowKit

set_option maxRecDepth 100000 in
set_option maxHeartbeats 8000000 in
theorem rtidy_any {W : World} {q : Option Addr} {n c : Nat} {g : Nat → Sx} (hs : Sc W q n g) (hn : n * 40 + 4096 ≤ 140737488355328) : Lst 13 q n c W (tidyL (lsG g n)) := by
  have l1 := wm_le (lsG g n)
  have l2 := wp_le (wmL (lsG g n))
  rw [lsG_len] at l1
  unfold Lst
  have He := show tidyL (lsG g n) = wiL 0 (wpL (wmL (lsG g n))) from rfl
  rw [He]
  clear He
  obtain ⟨la, hla⟩ : ∃ l, wmL (lsG g n) = l := ⟨_, rfl⟩
  rw [hla] at l1 l2
  rw [hla]
  obtain ⟨lb, hlb⟩ : ∃ l, wpL la = l := ⟨_, rfl⟩
  rw [hlb] at l2
  rw [hlb]
  obtain ⟨lc, hlc⟩ : ∃ l, wiL 0 lb = l := ⟨_, rfl⟩
  rw [hlc]
  have Hla := hide hla
  have H2 := hide ((congrArg wpL (lsG_list la)).trans hlb)
  have H3 := hide ((congrArg (wiL 0) (lsG_list lb)).trans hlc)
  clear hla hlb hlc
  have HS0 := hide (fun V (hV : Below W.heap.size W V) => hs.keep hV)
  clear hs
  go_enter Try.func13, Try.ntmps13
  go_wp2
  go_loopw [3, 15] (fun dv i wr => ∃ x : Nat, x ≤ n ∧ i = .int .i64 x ∧ wr.ownsRow W.heap.size 24 5 dv (wmI g x).length (stV (wmI g x)) ∧ Below W.heap.size W wr) (fun _ i _ => n - (intOf i).toNat)
  case atStart => exact ⟨0, Nat.zero_le _, rfl, World.ownsRow_nil _ _ _ _, Below.refl _ _⟩
  case round =>
    obtain ⟨x, hx, rfl, hD, hB⟩ := hrel
    obtain ⟨dq, dc, rfl⟩ := own_form hD
    have HD := hide hD
    have HB := hide hB
    clear hD hB
    by_cases hlt : x < n
    · have q1 : (x : Int) < (n : Int) := by omega
      have q2 : (0 : Int) ≤ (x : Int) := by omega
      obtain ⟨b5, o5, e5, c0, c1, c2, c3, c4⟩ := (unhide HS0 wr (unhide HB)).at hlt
      cases e5
      have HX := hide (XB.new wr (g x))
      have HB1 := hide (btrans (unhide HB) (bnew wr (.cells #[.int .i64 (g x).dk, .int .i64 (g x).bed, .int .i64 (g x).ndl, .int .i64 (g x).car, .int .i64 (g x).tt] 24)))
      have HD1 := hide (own_keep (unhide HD) (bnew wr (.cells #[.int .i64 (g x).dk, .int .i64 (g x).bed, .int .i64 (g x).ndl, .int .i64 (g x).car, .int .i64 (g x).tt] 24)))
      have hdl := wmI_le g x
      obtain ⟨dn, hdn⟩ : ∃ dn, dn = (wmI g x).length := ⟨_, rfl⟩
      rw [← hdn] at HD1 hdl
      rw [← hdn]
      have Hdn := hide hdn
      clear hdn HD
      by_cases h0 : ((g x).dk != 3) = true
      · have Hok := hide (show wmI g (x + 1) = wmI g x ++ [g x] by simp only [wmI]; rw [if_pos h0])
        go_upto_region 5 with fail
        generalize wr.alloc (.cells #[.int .i64 (g x).dk, .int .i64 (g x).bed, .int .i64 (g x).ndl, .int .i64 (g x).car, .int .i64 (g x).tt] 24) = w5 at *
        obtain ⟨-, x0, x1, x2, x3, x4⟩ := unhide HX
        have HD2 := hide (own_keep (unhide HD1) (bnew w5 (.cells #[.int .i64 (g x).dk, .int .i64 (g x).bed, .int .i64 (g x).ndl, .int .i64 (g x).car, .int .i64 (g x).tt] 24)))
        have HY2 := hide (own_lit (B := 0) (e := 24) (z := 5) (k := 1) w5 #[.int .i64 (g x).dk, .int .i64 (g x).bed, .int .i64 (g x).ndl, .int .i64 (g x).car, .int .i64 (g x).tt] (Nat.zero_le _) (by unfold maxLen; omega) rfl)
        have H1 := hide (one_st (g x))
        have hsz5 := (unhide HB1).size
        go_wp2_with (at_builtin; refine wl_app rfl rfl Try.underlying22 info44 rfl (by decide) (B := W.heap.size) (C := 0) (n := dn) (m := 1) rfl rfl (unhide HD2) (unhide HY2) (unhide H1) (by unfold maxLen; omega) (by omega) (by simp; omega) ?_)
        intro v' w6 hown' hgrow _
        have HB6 := hide ((btrans (unhide HB1) (bnew w5 (.cells #[.int .i64 (g x).dk, .int .i64 (g x).bed, .int .i64 (g x).ndl, .int .i64 (g x).car, .int .i64 (g x).tt] 24))).grown hgrow (by simp; omega) (fun k hk => ((unhide HD2).lt k hk).1))
        have HD6 := hide hown'
        obtain ⟨q', cap', rfl⟩ := own_form hown'
        clear hown' hgrow x0 x1 x2 x3 x4
        go_wp2
        go_roundw
        case rel => exact ⟨x + 1, by omega, by go_num, by rw [unhide Hok, stV_snoc, List.length_append]; exact (unhide Hdn) ▸ unhide HD6, unhide HB6⟩
        case measure => simp [intOf]; omega
      · have Hok := hide (show wmI g (x + 1) = wmI g x by simp only [wmI]; rw [if_neg h0])
        have h1 : ((g x).dk != 3) = false := by simpa using h0
        clear h0
        go_upto_region 5 with fail
        generalize wr.alloc (.cells #[.int .i64 (g x).dk, .int .i64 (g x).bed, .int .i64 (g x).ndl, .int .i64 (g x).car, .int .i64 (g x).tt] 24) = w5 at *
        obtain ⟨-, x0, x1, x2, x3, x4⟩ := unhide HX
        generalize (g x).dk = dk at *
        go_wp2
        go_roundw
        case rel => exact ⟨x + 1, by omega, by go_num, by rw [unhide Hok]; exact (unhide Hdn) ▸ unhide HD1, unhide HB1⟩
        case measure => simp [intOf]; omega
    · obtain rfl : n = x := by omega
      have cl : ¬ ((n : Int) < (n : Int)) := by omega
      obtain ⟨w1, hw1⟩ : ∃ w1, w1 = wr := ⟨_, rfl⟩
      subst hw1
      rw [wm_all, unhide Hla] at HD
      rw [wm_all, unhide Hla]
      have HO1 := hide (own_sc (unhide HD))
      have S1 := hide (unhide HB)
      clear HD HB HS0
      obtain ⟨ga, hga⟩ : ∃ f, f = (fun j => la.getD j x0) := ⟨_, rfl⟩
      rw [← hga] at HO1 H2
      clear hga
      generalize la.length = na at *
      have HS0 := hide (fun V (hV : Below w1.heap.size w1 V) => (unhide HO1).keep hV)
      clear HO1
      go_wp2
      go_loopw [4, 29] (fun dv i wr => ∃ x : Nat, x ≤ na ∧ i = .int .i64 x ∧ wr.ownsRow w1.heap.size 24 5 dv (wpI ga na x).length (stV (wpI ga na x)) ∧ Below w1.heap.size w1 wr) (fun _ i _ => na - (intOf i).toNat)
      case atStart => exact ⟨0, Nat.zero_le _, rfl, World.ownsRow_nil _ _ _ _, Below.refl _ _⟩
      case round =>
        obtain ⟨x, hx, rfl, hD, hB⟩ := hrel
        obtain ⟨dq, dc, rfl⟩ := own_form hD
        have HD := hide hD
        have HB := hide hB
        clear hD hB
        by_cases hlt : x < na
        · have q1 : (x : Int) < (na : Int) := by omega
          have q2 : (0 : Int) ≤ (x : Int) := by omega
          obtain ⟨b5, o5, e5, c0, c1, c2, c3, c4⟩ := (unhide HS0 wr (unhide HB)).at hlt
          cases e5
          have HX := hide (XB.new wr (ga x))
          have HB1 := hide (btrans (unhide HB) (bnew wr (.cells #[.int .i64 (ga x).dk, .int .i64 (ga x).bed, .int .i64 (ga x).ndl, .int .i64 (ga x).car, .int .i64 (ga x).tt] 24)))
          have HD1 := hide (own_keep (unhide HD) (bnew wr (.cells #[.int .i64 (ga x).dk, .int .i64 (ga x).bed, .int .i64 (ga x).ndl, .int .i64 (ga x).car, .int .i64 (ga x).tt] 24)))
          have hdl := wpI_le ga na x
          obtain ⟨dn, hdn⟩ : ∃ dn, dn = (wpI ga na x).length := ⟨_, rfl⟩
          rw [← hdn] at HD1 hdl
          rw [← hdn]
          have Hdn := hide hdn
          clear hdn HD
          cases hr : (ga x).dk == 6 with
          | false =>
            have Hok := hide (show wpI ga na (x + 1) = wpI ga na x ++ [ga x] by simp only [wpI]; rw [if_neg (by simp [rkB, hr])])
            have h1 : ((ga x).dk != 6) = true := by simpa using hr
            clear hr
            go_upto_region 11 with fail
            generalize wr.alloc (.cells #[.int .i64 (ga x).dk, .int .i64 (ga x).bed, .int .i64 (ga x).ndl, .int .i64 (ga x).car, .int .i64 (ga x).tt] 24) = w5 at *
            obtain ⟨-, x0, x1, x2, x3, x4⟩ := unhide HX
            have HD2 := hide (own_keep (unhide HD1) (bnew w5 (.cells #[.int .i64 (ga x).dk, .int .i64 (ga x).bed, .int .i64 (ga x).ndl, .int .i64 (ga x).car, .int .i64 (ga x).tt] 24)))
            have HY2 := hide (own_lit (B := 0) (e := 24) (z := 5) (k := 1) w5 #[.int .i64 (ga x).dk, .int .i64 (ga x).bed, .int .i64 (ga x).ndl, .int .i64 (ga x).car, .int .i64 (ga x).tt] (Nat.zero_le _) (by unfold maxLen; omega) rfl)
            have H1 := hide (one_st (ga x))
            have hsz5 := (unhide HB1).size
            go_wp2_with (at_builtin; refine wl_app rfl rfl Try.underlying22 info44 rfl (by decide) (B := w1.heap.size) (C := 0) (n := dn) (m := 1) rfl rfl (unhide HD2) (unhide HY2) (unhide H1) (by unfold maxLen; omega) (by omega) (by simp; omega) ?_)
            intro v' w6 hown' hgrow _
            have HB6 := hide ((btrans (unhide HB1) (bnew w5 (.cells #[.int .i64 (ga x).dk, .int .i64 (ga x).bed, .int .i64 (ga x).ndl, .int .i64 (ga x).car, .int .i64 (ga x).tt] 24))).grown hgrow (by simp; omega) (fun k hk => ((unhide HD2).lt k hk).1))
            have HD6 := hide hown'
            obtain ⟨q', cap', rfl⟩ := own_form hown'
            clear hown' hgrow x0 x1 x2 x3 x4
            go_wp2
            go_roundw
            case rel => exact ⟨x + 1, by omega, by go_num, by rw [unhide Hok, stV_snoc, List.length_append]; exact (unhide Hdn) ▸ unhide HD6, unhide HB6⟩
            case measure => simp [intOf]; omega
          | true =>
            have h1 : ((ga x).dk != 6) = false := by simpa using hr
            have hr' : rkB (ga x) = true := hr
            clear hr
            by_cases hx1 : x + 1 < na
            · have q3 : ((x + 1 : Nat) : Int) < (na : Int) := by omega
              have q4 : (0 : Int) ≤ ((x + 1 : Nat) : Int) := by omega
              obtain ⟨b6, o6, e6, d0, d1, d2, d3, d4⟩ := (unhide HS0 _ (unhide HB1)).at hx1
              cases e6
              have q5 : (x : Int) + 1 = ((x + 1 : Nat) : Int) := by omega
              have q6 : (((x + 1 : Nat) : Int) == (na : Int)) = false := by simp; omega
              obtain ⟨y, hy⟩ : ∃ y, y = x + 1 := ⟨_, rfl⟩
              rw [← hy] at q3 q4 q5 q6 d0 d1 d2 d3 d4
              have Hy := hide hy
              clear hy
              cases hr2 : (ga y).dk == 6 with
              | true =>
                have Hok := hide (show wpI ga na (x + 1) = wpI ga na x by simp only [wpI]; rw [if_pos (by rw [hr', ← unhide Hy, show rkB (ga y) = true from hr2]; simp [unhide Hy, hx1])])
                have h2 : ((ga y).dk != 6) = false := by simpa using hr2
                clear hr2 hr'
                go_upto_region 11 with fail
                generalize wr.alloc (.cells #[.int .i64 (ga x).dk, .int .i64 (ga x).bed, .int .i64 (ga x).ndl, .int .i64 (ga x).car, .int .i64 (ga x).tt] 24) = w5 at *
                obtain ⟨-, x0, x1, x2, x3, x4⟩ := unhide HX
                generalize (ga x).dk = dkx at *
                go_wp2
                go_roundw
                case rel => exact ⟨x + 1, by omega, by go_num, by rw [unhide Hok]; exact (unhide Hdn) ▸ unhide HD1, unhide HB1⟩
                case measure => simp [intOf]; omega
              | false =>
                have Hok := hide (show wpI ga na (x + 1) = wpI ga na x ++ [ga x] by simp only [wpI]; rw [if_neg (by rw [← unhide Hy, show rkB (ga y) = false from hr2]; simp)])
                have h2 : ((ga y).dk != 6) = true := by simpa using hr2
                clear hr2 hr'
                go_upto_region 11 with fail
                generalize wr.alloc (.cells #[.int .i64 (ga x).dk, .int .i64 (ga x).bed, .int .i64 (ga x).ndl, .int .i64 (ga x).car, .int .i64 (ga x).tt] 24) = w5 at *
                obtain ⟨-, x0, x1, x2, x3, x4⟩ := unhide HX
                have HD2 := hide (own_keep (unhide HD1) (bnew w5 (.cells #[.int .i64 (ga x).dk, .int .i64 (ga x).bed, .int .i64 (ga x).ndl, .int .i64 (ga x).car, .int .i64 (ga x).tt] 24)))
                have HY2 := hide (own_lit (B := 0) (e := 24) (z := 5) (k := 1) w5 #[.int .i64 (ga x).dk, .int .i64 (ga x).bed, .int .i64 (ga x).ndl, .int .i64 (ga x).car, .int .i64 (ga x).tt] (Nat.zero_le _) (by unfold maxLen; omega) rfl)
                have H1 := hide (one_st (ga x))
                have hsz5 := (unhide HB1).size
                go_wp2_with (at_builtin; refine wl_app rfl rfl Try.underlying22 info44 rfl (by decide) (B := w1.heap.size) (C := 0) (n := dn) (m := 1) rfl rfl (unhide HD2) (unhide HY2) (unhide H1) (by unfold maxLen; omega) (by omega) (by simp; omega) ?_)
                intro v' w6 hown' hgrow _
                have HB6 := hide ((btrans (unhide HB1) (bnew w5 (.cells #[.int .i64 (ga x).dk, .int .i64 (ga x).bed, .int .i64 (ga x).ndl, .int .i64 (ga x).car, .int .i64 (ga x).tt] 24))).grown hgrow (by simp; omega) (fun k hk => ((unhide HD2).lt k hk).1))
                have HD6 := hide hown'
                obtain ⟨q', cap', rfl⟩ := own_form hown'
                clear hown' hgrow x0 x1 x2 x3 x4
                go_wp2
                go_roundw
                case rel => exact ⟨x + 1, by omega, by go_num, by rw [unhide Hok, stV_snoc, List.length_append]; exact (unhide Hdn) ▸ unhide HD6, unhide HB6⟩
                case measure => simp [intOf]; omega
            · have Hok := hide (show wpI ga na (x + 1) = wpI ga na x ++ [ga x] by simp only [wpI]; rw [if_neg (by simp [hx1])])
              have q6 : ((x : Int) + 1 == (na : Int)) = true := by simp; omega
              clear hr'
              go_upto_region 11 with fail
              generalize wr.alloc (.cells #[.int .i64 (ga x).dk, .int .i64 (ga x).bed, .int .i64 (ga x).ndl, .int .i64 (ga x).car, .int .i64 (ga x).tt] 24) = w5 at *
              obtain ⟨-, x0, x1, x2, x3, x4⟩ := unhide HX
              have HD2 := hide (own_keep (unhide HD1) (bnew w5 (.cells #[.int .i64 (ga x).dk, .int .i64 (ga x).bed, .int .i64 (ga x).ndl, .int .i64 (ga x).car, .int .i64 (ga x).tt] 24)))
              have HY2 := hide (own_lit (B := 0) (e := 24) (z := 5) (k := 1) w5 #[.int .i64 (ga x).dk, .int .i64 (ga x).bed, .int .i64 (ga x).ndl, .int .i64 (ga x).car, .int .i64 (ga x).tt] (Nat.zero_le _) (by unfold maxLen; omega) rfl)
              have H1 := hide (one_st (ga x))
              have hsz5 := (unhide HB1).size
              go_wp2_with (at_builtin; refine wl_app rfl rfl Try.underlying22 info44 rfl (by decide) (B := w1.heap.size) (C := 0) (n := dn) (m := 1) rfl rfl (unhide HD2) (unhide HY2) (unhide H1) (by unfold maxLen; omega) (by omega) (by simp; omega) ?_)
              intro v' w6 hown' hgrow _
              have HB6 := hide ((btrans (unhide HB1) (bnew w5 (.cells #[.int .i64 (ga x).dk, .int .i64 (ga x).bed, .int .i64 (ga x).ndl, .int .i64 (ga x).car, .int .i64 (ga x).tt] 24))).grown hgrow (by simp; omega) (fun k hk => ((unhide HD2).lt k hk).1))
              have HD6 := hide hown'
              obtain ⟨q', cap', rfl⟩ := own_form hown'
              clear hown' hgrow x0 x1 x2 x3 x4
              go_wp2
              go_roundw
              case rel => exact ⟨x + 1, by omega, by go_num, by rw [unhide Hok, stV_snoc, List.length_append]; exact (unhide Hdn) ▸ unhide HD6, unhide HB6⟩
              case measure => simp [intOf]; omega
        · obtain rfl : na = x := by omega
          have cl : ¬ ((na : Int) < (na : Int)) := by omega
          obtain ⟨w2, hw2⟩ : ∃ w2, w2 = wr := ⟨_, rfl⟩
          subst hw2
          rw [wp_all, unhide H2] at HD
          rw [wp_all, unhide H2]
          have HO1 := hide (own_sc (unhide HD))
          have S2 := hide (btrans (unhide S1) (unhide HB))
          clear HD HB HS0 H2
          obtain ⟨gb, hgb⟩ : ∃ f, f = (fun j => lb.getD j x0) := ⟨_, rfl⟩
          rw [← hgb] at HO1 H3
          clear hgb
          generalize lb.length = nb at *
          have HS0 := hide (fun V (hV : Below w2.heap.size w2 V) => (unhide HO1).keep hV)
          clear HO1
          go_wp2
          go_loopw [5, 10, 60] (fun dv rv i wr => ∃ x : Nat, x ≤ nb ∧ rv = .int .i64 (wiR gb x) ∧ i = .int .i64 x ∧ wr.ownsRow w2.heap.size 24 5 dv (wiI gb x).length (stV (wiI gb x)) ∧ Below w2.heap.size w2 wr) (fun _ _ i _ => nb - (intOf i).toNat)
          case atStart => exact ⟨0, Nat.zero_le _, rfl, rfl, World.ownsRow_nil _ _ _ _, Below.refl _ _⟩
          case round =>
            obtain ⟨x, hx, rfl, rfl, hD, hB⟩ := hrel
            obtain ⟨dq, dc, rfl⟩ := own_form hD
            have HD := hide hD
            have HB := hide hB
            clear hD hB
            by_cases hlt : x < nb
            · have q1 : (x : Int) < (nb : Int) := by omega
              have q2 : (0 : Int) ≤ (x : Int) := by omega
              obtain ⟨b5, o5, e5, c0, c1, c2, c3, c4⟩ := (unhide HS0 wr (unhide HB)).at hlt
              cases e5
              have HX := hide (XB.new wr (gb x))
              have HB1 := hide (btrans (unhide HB) (bnew wr (.cells #[.int .i64 (gb x).dk, .int .i64 (gb x).bed, .int .i64 (gb x).ndl, .int .i64 (gb x).car, .int .i64 (gb x).tt] 24)))
              have HD1 := hide (own_keep (unhide HD) (bnew wr (.cells #[.int .i64 (gb x).dk, .int .i64 (gb x).bed, .int .i64 (gb x).ndl, .int .i64 (gb x).car, .int .i64 (gb x).tt] 24)))
              have hdl := wiI_le gb x
              obtain ⟨dn, hdn⟩ : ∃ dn, dn = (wiI gb x).length := ⟨_, rfl⟩
              rw [← hdn] at HD1 hdl
              rw [← hdn]
              have Hdn := hide hdn
              clear hdn HD
              have Hn1 := hide (show wiI gb (x + 1) = if (rkB (gb x) && (gb x).tt == wiR gb x) = true then wiI gb x else wiI gb x ++ [gb x] from rfl)
              have Hn2 := hide (show wiR gb (x + 1) = if rkB (gb x) = true then (gb x).tt else wiR gb x from rfl)
              obtain ⟨rk, hrk⟩ : ∃ r, r = wiR gb x := ⟨_, rfl⟩
              rw [← hrk] at Hn1 Hn2
              rw [← hrk]
              clear hrk
              cases hr : (gb x).dk == 6 with
              | false =>
                have Hok := hide (show wiI gb (x + 1) = wiI gb x ++ [gb x] by rw [unhide Hn1, if_neg (by simp [rkB, hr])])
                have Hrk := hide (show wiR gb (x + 1) = rk by rw [unhide Hn2, if_neg (by simp [rkB, hr])])
                go_upto_region 18 with fail
                generalize wr.alloc (.cells #[.int .i64 (gb x).dk, .int .i64 (gb x).bed, .int .i64 (gb x).ndl, .int .i64 (gb x).car, .int .i64 (gb x).tt] 24) = w5 at *
                obtain ⟨-, x0, x1, x2, x3, x4⟩ := unhide HX
                have HD2 := hide (own_keep (unhide HD1) (bnew w5 (.cells #[.int .i64 (gb x).dk, .int .i64 (gb x).bed, .int .i64 (gb x).ndl, .int .i64 (gb x).car, .int .i64 (gb x).tt] 24)))
                have HY2 := hide (own_lit (B := 0) (e := 24) (z := 5) (k := 1) w5 #[.int .i64 (gb x).dk, .int .i64 (gb x).bed, .int .i64 (gb x).ndl, .int .i64 (gb x).car, .int .i64 (gb x).tt] (Nat.zero_le _) (by unfold maxLen; omega) rfl)
                have H1 := hide (one_st (gb x))
                have hsz5 := (unhide HB1).size
                go_wp2_with (at_builtin; refine wl_app rfl rfl Try.underlying22 info44 rfl (by decide) (B := w2.heap.size) (C := 0) (n := dn) (m := 1) rfl rfl (unhide HD2) (unhide HY2) (unhide H1) (by unfold maxLen; omega) (by omega) (by simp; omega) ?_)
                intro v' w6 hown' hgrow _
                have HB6 := hide ((btrans (unhide HB1) (bnew w5 (.cells #[.int .i64 (gb x).dk, .int .i64 (gb x).bed, .int .i64 (gb x).ndl, .int .i64 (gb x).car, .int .i64 (gb x).tt] 24))).grown hgrow (by simp; omega) (fun k hk => ((unhide HD2).lt k hk).1))
                have HD6 := hide hown'
                obtain ⟨q', cap', rfl⟩ := own_form hown'
                clear hown' hgrow x0 x1 x2 x3 x4
                go_wp2
                go_roundw
                case rel => exact ⟨x + 1, by omega, by rw [unhide Hrk], by go_num, by rw [unhide Hok, stV_snoc, List.length_append]; exact (unhide Hdn) ▸ unhide HD6, unhide HB6⟩
                case measure => simp [intOf]; omega
              | true =>
                have hr' : rkB (gb x) = true := hr
                have Hrk := hide (show wiR gb (x + 1) = (gb x).tt by rw [unhide Hn2, if_pos hr'])
                by_cases ht : (gb x).tt = rk
                · have Hok := hide (show wiI gb (x + 1) = wiI gb x by rw [unhide Hn1, if_pos (by simp [hr', ht])])
                  have Hrk2 := hide (show wiR gb (x + 1) = rk by rw [unhide Hrk]; exact ht)
                  have g1 : ((gb x).tt == rk) = true := by simp [ht]
                  clear hr' ht
                  go_upto_region 18 with fail
                  generalize wr.alloc (.cells #[.int .i64 (gb x).dk, .int .i64 (gb x).bed, .int .i64 (gb x).ndl, .int .i64 (gb x).car, .int .i64 (gb x).tt] 24) = w5 at *
                  obtain ⟨-, x0, x1, x2, x3, x4⟩ := unhide HX
                  go_wp2
                  go_roundw
                  case rel => exact ⟨x + 1, by omega, by rw [unhide Hrk2], by go_num, by rw [unhide Hok]; exact (unhide Hdn) ▸ unhide HD1, unhide HB1⟩
                  case measure => simp [intOf]; omega
                · have Hok := hide (show wiI gb (x + 1) = wiI gb x ++ [gb x] by rw [unhide Hn1, if_neg (by simp [ht])])
                  have g1 : ((gb x).tt == rk) = false := by simpa using ht
                  clear hr' ht
                  go_upto_region 18 with fail
                  generalize wr.alloc (.cells #[.int .i64 (gb x).dk, .int .i64 (gb x).bed, .int .i64 (gb x).ndl, .int .i64 (gb x).car, .int .i64 (gb x).tt] 24) = w5 at *
                  obtain ⟨-, x0, x1, x2, x3, x4⟩ := unhide HX
                  have HD2 := hide (own_keep (unhide HD1) (bnew w5 (.cells #[.int .i64 (gb x).dk, .int .i64 (gb x).bed, .int .i64 (gb x).ndl, .int .i64 (gb x).car, .int .i64 (gb x).tt] 24)))
                  have HY2 := hide (own_lit (B := 0) (e := 24) (z := 5) (k := 1) w5 #[.int .i64 (gb x).dk, .int .i64 (gb x).bed, .int .i64 (gb x).ndl, .int .i64 (gb x).car, .int .i64 (gb x).tt] (Nat.zero_le _) (by unfold maxLen; omega) rfl)
                  have H1 := hide (one_st (gb x))
                  have hsz5 := (unhide HB1).size
                  go_wp2_with (at_builtin; refine wl_app rfl rfl Try.underlying22 info44 rfl (by decide) (B := w2.heap.size) (C := 0) (n := dn) (m := 1) rfl rfl (unhide HD2) (unhide HY2) (unhide H1) (by unfold maxLen; omega) (by omega) (by simp; omega) ?_)
                  intro v' w6 hown' hgrow _
                  have HB6 := hide ((btrans (unhide HB1) (bnew w5 (.cells #[.int .i64 (gb x).dk, .int .i64 (gb x).bed, .int .i64 (gb x).ndl, .int .i64 (gb x).car, .int .i64 (gb x).tt] 24))).grown hgrow (by simp; omega) (fun k hk => ((unhide HD2).lt k hk).1))
                  have HD6 := hide hown'
                  obtain ⟨q', cap', rfl⟩ := own_form hown'
                  clear hown' hgrow x0 x1 x2 x3 x4
                  go_wp2
                  go_roundw
                  case rel => exact ⟨x + 1, by omega, by rw [unhide Hrk], by go_num, by rw [unhide Hok, stV_snoc, List.length_append]; exact (unhide Hdn) ▸ unhide HD6, unhide HB6⟩
                  case measure => simp [intOf]; omega
            · obtain rfl : nb = x := by omega
              have cl : ¬ ((nb : Int) < (nb : Int)) := by omega
              rw [wi_all, unhide H3] at HD
              rw [wi_all, unhide H3]
              have HO3 := hide (own_le (unhide HD) (unhide S2).size)
              have S3 := hide (btrans (unhide S2) (unhide HB))

              go_wp2
              go_ret
              exact ⟨_, rfl, unhide HO3, unhide S3⟩
end Go.Proofs.Ytancniamgfppiaa
