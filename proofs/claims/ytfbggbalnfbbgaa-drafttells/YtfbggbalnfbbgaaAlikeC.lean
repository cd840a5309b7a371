/-
  Alike of package truth.
-/
import Derived.Test.YtfbggbalnfbbgaaAlikeB
namespace Go.Proofs.Ytfbggbalnfbbgaa
open Go.RowKit Go.Shelf

attribute [local go_sem] Oper.semAt_some

def AlikeErr (F : Nat) (w h : Int) (p : Option Addr) (n cap : Nat) (W : World) (er : Int) : Prop := Calls Try.prog F #[tr w h p n cap] W fun e w' => e = .returned (.tuple #[.slice none 0 0, .int .i64 er]) ∧ Below W.heap.size W w'
set_option maxHeartbeats 1000000 in
theorem alike_err (w h : Int) (p : Option Addr) (n cap : Nat) (W : World) (er : Int) (her : wE w h n = er) (hp : 1 ≤ er) : AlikeErr 28 w h p n cap W er := by
  have HW := hide (fun W => wrong_any w h p n cap W)
  rw [her] at HW
  have hp' : (er != 0) = true := by simp; omega
  have B0 := hide (bal (o := .cells #[.int .i64 w, .int .i64 h, .slice p n cap] 25) (Below.refl W.heap.size W))
  clear her
  unfold AlikeErr
  go_enter Try.func28, Try.ntmps28
  go_wp2_with fail
  refine (unhide HW _).mono ?_
  rintro e w1 ⟨rfl, hb⟩
  have S := btrans (unhide B0) hb
  clear hb
  go_wp2
  exact bodyPost_ret (v := .tuple #[.slice none 0 0, .int .i64 er]) (by simp [results, Try.results28, go_sem]) rfl ⟨rfl, S⟩

theorem own_keep {w w1 : World} {B : Nat} {e : TypeId} {size : Nat} {v : Value} {n : Nat} {xs : List Value} (h : w.ownsRow B e size v n xs) (hb : Below w.heap.size w w1) : w1.ownsRow B e size v n xs :=
  h.kept (row := none) ⟨hb.os, hb.tape, hb.output, hb.size, fun k hk _ => hb.block k hk⟩ (by cases v.ownBlock <;> simp)
/-- what stands between two rounds -/
def AlI (w0 : World) (qo Bu h : Nat) (f : Nat → Bool) (w : Nat) (E : Nat → Value) (l : List (Fin h)) (V : World) : Prop :=
  (∃ v, Boxed V Bu 61 v ∧ V.ownsRow w0.heap.size 23 1 v (alS f w (l.map (·.1))).1.length ((alS f w (l.map (·.1))).1.map E) ∧ True) ∧ (IRow V qo h (alS f w (l.map (·.1))).2 ∧ Kept (fun k => k = qo ∨ k = Bu) w0 V)
theorem alI_own (w0 : World) (qo Bu h : Nat) (f : Nat → Bool) (w : Nat) (E : Nat → Value) (hq : qo < w0.heap.size) : OwnFrom w0.heap.size (AlI w0 qo Bu h f w E) :=
  OwnFrom.and (Own.from (holdsRow_own w0.heap.size Bu 61 23 1 (fun l : List (Fin h) => (alS f w (l.map (·.1))).1.length) (fun l : List (Fin h) => (alS f w (l.map (·.1))).1.map E) (fun _ _ => True)) _)
    (fun s A B row hs hg hr => ⟨hs.1.grown hg (fun e => by have := (hr qo e.symm).1; omega), hs.2.grown hg (fun r e => .inl (hr r e).1)⟩)

/-- the row of a round lies in a box; the rest is told by A -/
def AxB (w0 : World) (h : Nat) (E : Nat → Value) (A : Fin h → Nat → Act) (y : Fin h) (a' : Act) (V : World) : Prop := ∃ Bx, w0.heap.size ≤ Bx ∧ Boxed V Bx 23 (E y.1) ∧ a' = A y Bx
theorem axB_own (w0 : World) (h : Nat) (E : Nat → Value) (A : Fin h → Nat → Act) : ∀ x a', OwnFrom w0.heap.size (fun (_ : Unit) V => AxB w0 h E A x a' V) := fun x a' _ X Y row hs hg hr => by
  obtain ⟨Bx, h1, h2, h3⟩ := hs
  exact ⟨Bx, h1, boxed_own Bx 23 (fun (_ : Unit) => E x.1) () X Y row h2 hg (fun r e => (hr r e).2), h3⟩

set_option maxRecDepth 100000 in
set_option maxHeartbeats 1000000 in
theorem alike_in (w h : Nat) (p : Option Addr) (n cap : Nat) (f : Nat → Bool) (W : World) (hw : w ≤ 64) (hh : h ≤ 64) (hn : n = w * h) (hf : Bs W p n cap f) :
    CallsIn Fence.wide 9 Try.prog 28 #[tr w h p n cap] W fun e w' => ∃ q, e = .returned (.tuple #[.slice (some ⟨q, 0, none⟩) h h, .int .i64 0]) ∧ W.heap.size ≤ q ∧ IRow w' q h (alS f w (List.range h)).2 ∧ Below W.heap.size W w' := by
  have HW := hide (fun W => wrong_any w h p n cap W)
  rw [wE_right w h n hw hh hn] at HW
  have B0 := hide (bal (o := .cells #[.int .i64 w, .int .i64 h, .slice p n cap] 25) (Below.refl W.heap.size W))
  have M := hide (OwnM.new W w h p n cap 25)
  obtain ⟨j0, ji, jz0, jz1, jz2⟩ := info_parts info22
  have Hn := hide hn
  have Hf := hide hf
  clear hn hf
  refine callsIn_of_wp_marks Try.func28 rfl trivial ?_ rfl
  simp only [Try.ntmps28, List.size_toArray, List.length_cons, List.length_nil, Nat.reduceAdd, Nat.reduceSub, Array.replicate_succ, Array.replicate_zero, List.push_toArray, List.append_toArray, List.nil_append, List.cons_append]
  gi_wp2_with fail
  refine ⟨trivial, (callsIn_wide.2 (unhide HW _)).mono ?_⟩
  rintro e w1 ⟨rfl, hb⟩
  have S1 := hide (btrans (unhide B0) hb)
  have M1 := hide ((unhide M).keep hb)
  have m1 := (unhide M1).2
  have hW1 : W.heap.size < w1.heap.size := (unhide M1).1
  clear hb B0 M
  gi_wp2_with (gi_at_make; refine make_nums _ _ h hh rfl rfl rfl ?_)
  intro w2 hrow b2
  have R2 := hide hrow
  have S2 := hide (btrans (unhide S1) b2)
  have M2 := hide ((unhide M1).keep b2)
  have hq2 : w1.heap.size < w2.heap.size := (unhide R2).1
  have B3 := bal (o := .cells #[.slice none 0 0] 61) (bal (o := .cells #[.slice (some ⟨w1.heap.size, 0, none⟩) h h] 22) (Below.refl w2.heap.size w2))
  have S3 := hide (btrans (unhide S2) B3)
  have M3 := hide ((unhide M2).keep B3)
  have R3 := hide ((unhide R2).keep B3)
  have O3 := hide ((Boxed.new w2 22 (.slice (some ⟨w1.heap.size, 0, none⟩) h h)).alloc (.cells #[.slice none 0 0] 61))
  have U3 := Boxed.new (w2.alloc (.cells #[.slice (some ⟨w1.heap.size, 0, none⟩) h h] 22)) 61 (.slice none 0 0)
  rw [World.size_alloc] at U3
  have HU3 := hide U3
  have m3 := (unhide M3).2
  clear hrow b2 S1 M1 m1 S2 M2 R2 B3 U3
  gi_wp2_with fail
  have hs3 : ((w2.alloc (.cells #[.slice (some ⟨w1.heap.size, 0, none⟩) h h] 22)).alloc (.cells #[.slice none 0 0] 61)).heap.size = w2.heap.size + 1 + 1 := by simp
  have Hs3 := hide hs3
  clear hs3
  generalize (w2.alloc (.cells #[.slice (some ⟨w1.heap.size, 0, none⟩) h h] 22)).alloc (.cells #[.slice none 0 0] 61) = w3 at *
  generalize hqo : w1.heap.size = qo at *
  generalize hbo : w2.heap.size = bo at *
  have hWq : W.heap.size < qo := by omega
  clear m3 hqo hbo
  refine ⟨trivial, (callsIn_wide.2 (rows_any w h p n cap w3)).mono ?_⟩
  rintro e w6 ⟨rfl, rfl⟩
  gi_wp2_with fail
  have B6 := bal (o := .cells #[.int .i64 w, .int .i64 h, .slice p n cap] 25) (Below.refl w3.heap.size w3)
  have S6 := hide (btrans (unhide S3) B6)
  have R6 := hide ((unhide R3).keep B6)
  have O6 := hide ((unhide O3).alloc (.cells #[.int .i64 w, .int .i64 h, .slice p n cap] 25))
  have U6 := hide ((unhide HU3).alloc (.cells #[.int .i64 w, .int .i64 h, .slice p n cap] 25))
  have N6 := hide (OwnM.new w3 w h p n cap 25)
  clear S3 M3 R3 O3 HU3 B6 HW
  generalize hw6 : w3.alloc (.cells #[.int .i64 w, .int .i64 h, .slice p n cap] 25) = w6 at *
  have hsz : w3.heap.size < w6.heap.size := by rw [← hw6]; simp
  have hs3 := unhide Hs3
  clear hw6 Hs3
  generalize w3.heap.size = bm at *
  subst hs3
  have hqs : qo < w6.heap.size := by omega
  have hcp : h * w ≤ cap := by rw [Nat.mul_comm, ← unhide Hn]; exact (unhide Hf).1
  refine wpIn_rangeFunc_ownH rfl (by omega) (gf := 48) (lb := #[.pointer (some ⟨bo + 1 + 1, 0, none⟩)]) rfl trivial (enters_of Try.func48 (by kernel_rfl) rfl)
    (rows_stops _ (bo + 1 + 1) w h n p cap hw hh hcp w6 (unhide N6)) kpB_t (kpB_b hsz) (Below.refl _ _) (fun _ => rfl)
    (AlI w6 qo (bo + 1) h f w (rowV p cap w)) (fun _ _ _ => False) (alI_own _ _ _ _ _ _ _ hqs) (fun _ _ _ _ _ hs _ _ => hs)
    ⟨⟨_, unhide U6, World.ownsRow_nil _ _ _ _, trivial⟩, unhide R6, Kept.refl _ _⟩
    (AxB w6 h (rowV p cap w) (fun y Bx => { tmps := #[tr w h p n cap, .pointer (some ⟨W.heap.size, 0, none⟩), .slice none 0 0, .int .i64 0, .int .i64 0, .pointer (some ⟨bo, 0, none⟩), .pointer (some ⟨bo + 1, 0, none⟩), .int .i64 ((y.1 : Nat) : Int), .pointer (some ⟨Bx, 0, none⟩), undef, .agg #[.int .i64 w, .int .i64 h, .slice p n cap], .int .i64 0, .int .i64 0, .bool false, undef, .pointer (some ⟨W.heap.size, 1, none⟩), .int .i64 h, .slice (some ⟨qo, 0, none⟩) h h, .agg #[.int .i64 w, .int .i64 h, .slice p n cap], .func (.func 48) #[] #[.pointer (some ⟨bo + 1 + 1, 0, none⟩)], .int .i64 ((y.1 : Nat) : Int), rowV p cap w y.1, undef, undef, undef, undef, undef, undef, undef, undef, undef, undef, undef, undef, undef, undef, undef, undef], defers := [] })) (axB_own w6 h (rowV p cap w) _)
    ?assign ?body ?done ?stop
  case assign =>
    rintro l pre y V K hi hK
    have hVz : w6.heap.size ≤ V.heap.size := hi.2.2.2.2.2.1
    have hI2 := hide (show AlI w6 qo (bo + 1) h f w (rowV p cap w) pre (V.alloc (.cells #[rowV p cap w y.1] 23)) from (alI_own _ _ _ _ _ _ _ hqs).alloc _ hi)
    have hKp := hide (show KpB (bo + 1 + 1) V (V.alloc (.cells #[rowV p cap w y.1] 23)) from KpB.of_grown (World.grownBy_alloc V _ none) (by omega) (by simp))
    have hbx := hide (Boxed.new V 23 (rowV p cap w y.1))
    have hkf := hide ((KeepsOthers.alloc V (.cells #[rowV p cap w y.1] 23)).from w6.heap.size)
    clear hi
    have HK := hide hK
    clear hK
    gi_wp2
    generalize V.alloc (.cells #[rowV p cap w y.1] 23) = V1 at *
    generalize V.heap.size = Bx at *
    exact unhide HK _ _ (unhide hkf) (unhide hKp) (unhide hI2) ⟨Bx, hVz, unhide hbx, rfl⟩
  case stop =>
    rintro D c pre V _ _ h _
    exact h.elim
  case body =>
    rintro l pre ⟨y, hy⟩ a' V hl - hI ⟨Bx, hBx, hbx, rfl⟩ hlen
    have hVz : w6.heap.size ≤ V.heap.size := hI.2.2.2.2.2.1
    obtain ⟨⟨v, hu, ho, -⟩, hR, hk⟩ := hI
    have hbs := hk.bs ((unhide Hf).keep (unhide S6)) (fun q hq => (unhide Hf).off (by rcases hq with rfl | rfl <;> omega))
    rw [unhide Hn] at hbs
    have Hbs := hide hbs
    obtain ⟨U, hU⟩ : ∃ U, U = (alS f w (pre.map (·.1))).1 := ⟨_, rfl⟩
    obtain ⟨O, hO⟩ : ∃ O, O = (alS f w (pre.map (·.1))).2 := ⟨_, rfl⟩
    have hUl : U.length ≤ h := by have := alS_len f w (pre.map (·.1)); rw [List.length_map] at this; rw [hU]; omega
    have hUm : ∀ u ∈ U, u < h := fun u hu' => by
      rw [hU] at hu'
      have := alS_mem f w _ u hu'
      simp at this
      obtain ⟨a, -, rfl⟩ := this
      exact a.2
    have Hs := hide (show alS f w ((pre ++ [(⟨y, hy⟩ : Fin h)]).map (fun x : Fin h => x.1)) = alStep f w (U, O) y by rw [List.map_append, List.map_cons, List.map_nil, alS_snoc, hU, hO])
    rw [← hU] at ho
    rw [← hO] at hR
    have HIx := hide (index_own U (fun u => rwE f w u y) (rowV p cap w) w6.heap.size Bx v V (by omega) (fun u => ⟨_, _, _, rfl⟩) ho (fun u hu' X hX =>
      same_row_any _ _ w _ _ Bx _ _ X hw ((hbs.keep hX).row (hUm u hu')) ((hbs.keep hX).row hy) (keepC hX hbx.lt hbx.cell)))
    obtain ⟨qv, cv, rfl⟩ : ∃ q cap, v = .slice q U.length cap := by
      rcases ho.2 with ⟨hv, h0⟩ | ⟨g, cap, cur, hv, _⟩
      · exact ⟨none, 0, by rw [hv, h0]⟩
      · exact ⟨_, _, hv⟩
    have u1 := hu.cell
    have Hu := hide hu
    have Ho := hide ho
    have HR := hide hR
    have HK := hide hk
    have Hbx := hide hbx
    have o1 := hk.cell (p := ⟨bo, 0, none⟩) (by dsimp only; omega) (by dsimp only; omega) (unhide O6).cell
    clear hu ho hR hk hbx hbs hU hO hUm
    dsimp only [rowV] at *
    have hRI := hide (show ∀ X, AlI w6 qo (bo + 1) h f w (rowV p cap w) (pre ++ [⟨y, hy⟩]) X = ((∃ v, Boxed X (bo + 1) 61 v ∧ X.ownsRow w6.heap.size 23 1 v (alStep f w (U, O) y).1.length ((alStep f w (U, O) y).1.map (rowV p cap w)) ∧ True) ∧ (IRow X qo h (alStep f w (U, O) y).2 ∧ Kept (fun k => k = qo ∨ k = bo + 1) w6 X)) from fun X => by unfold AlI; rw [unhide Hs])
    cases hany : U.any (fun u => rwE f w u y) with
    | true =>
      have hst : alStep f w (U, O) y = (U, fun j => if j = y then U.findIdx (fun u => rwE f w u y) else O j) := by unfold alStep; rw [if_pos hany]
      rw [hst] at hRI
      rw [ixI, if_pos hany] at HIx
      generalize U.findIdx (fun u => rwE f w u y) = m at *
      clear hst hany
      gi_wp2_with fail
      refine ⟨trivial, (CallsIn.inRound l (callsIn_wide.2 (unhide HIx))).mono ?_⟩
      rintro e V2 ⟨rfl, hb⟩
      have o2 := keepC hb (by omega) o1
      have R2 := hide ((unhide HR).keep hb)
      have r1 := ((unhide R2).2 y hy).1
      have r2 := ((unhide R2).2 y hy).2
      have q1 : (0 : Int) ≤ (m : Int) := by omega
      have q2 : (y : Int) < (h : Int) := by omega
      have q3 : (0 : Int) ≤ (y : Int) := by omega
      have q4 : decide ((m : Int) < 0) = false := by simp
      have K2 := hide ((unhide HK).below hb)
      have U2 := hide ((unhide Hu).kept (gbelow none hb) (by simp))
      have Ow2 := hide (own_keep (unhide Ho) hb)
      have Hb := hide hb
      clear hb u1 o1 HR HK Hu Ho HIx
      gi_wp2
      have hb2 := unhide Hb
      have g2 : V.grownBy (V2.setCell ⟨qo, y, none⟩ (.int .i64 (m : Nat))) (some qo) := gset (gbelow (some qo) hb2) y _
      refine ⟨KeepsFrom.of_grownBy g2 (fun j e => by cases e; exact hqs), KpB.of_grown g2 (by omega) (fun e => by have := Option.some.inj e; omega), ?_⟩
      rw [unhide hRI]
      exact ⟨⟨_, (unhide U2).kept (gset (World.grownBy.refl _ _) y _) (fun e => by have := Option.some.inj e; omega), ownsRow_setCell_below (unhide Ow2) (by dsimp only; omega) _, trivial⟩, (unhide R2).set y m, (unhide K2).grown (gset (o := qo) (World.grownBy.refl _ _) y _) (fun r e => by cases e; exact .inr (.inl rfl))⟩
    | false =>
      have hst : alStep f w (U, O) y = (U ++ [y], fun j => if j = y then U.length else O j) := by unfold alStep; rw [if_neg (by simp [hany])]
      rw [hst] at hRI
      rw [ixI, if_neg (by simp [hany])] at HIx
      clear hst hany
      gi_wp2_with fail
      refine ⟨trivial, (CallsIn.inRound l (callsIn_wide.2 (unhide HIx))).mono ?_⟩
      rintro e V2 ⟨rfl, hb⟩
      have o2 := keepC hb (by omega) o1
      have R2 := hide ((unhide HR).keep hb)
      have K2 := hide ((unhide HK).below hb)
      have U2 := hide ((unhide Hu).kept (gbelow none hb) (by simp))
      have Ow2 := hide (own_keep (unhide Ho) hb)
      have X2 := hide ((unhide Hbx).kept (gbelow none hb) (by simp))
      have Hb := hide hb
      have u2 := (unhide U2).cell
      have x2 := (unhide X2).cell
      have hz2 : V.heap.size ≤ V2.heap.size := hb.size
      clear hb u1 o1 HR HK Hu Ho HIx Hbx
      gi_wp2_with (gi_at_builtin; refine wpListIn_append_own _ rfl _ _ 61 rfl w6.heap.size 23 j0 (.slice none 0 0) 1 24 Try.underlying61 ji jz0 jz1 jz2 rfl (by decide) _ _ _ rfl ((unhide Ow2).alloc _) ⟨V2.heap.size, 0, none⟩ 1 1 [rowV p cap w y] rfl rfl (cell_one_new _ _ _) (by simp [Value.oneCell']) (by unfold maxLen; omega) (by omega) (by simp; omega) ?_)
      intro v' V4 hown' hgrow _
      obtain ⟨g', cap', rfl⟩ := ownsRow_succ hown'
      have hbk : ∀ j, (Value.slice qv U.length cv).ownBlock = some j → w6.heap.size ≤ j := fun j e => ((unhide Ow2).lt j e).1
      have a4 := bal (o := .cells #[rowV p cap w y] 23) (Below.refl V2.heap.size V2)
      have U4 := ((unhide U2).alloc (.cells #[rowV p cap w y] 23)).kept hgrow (fun e => by have := hbk _ e.symm; omega)
      have R4 := hide (((unhide R2).keep a4).grown hgrow (fun e => by have := hbk _ e.symm; omega))
      have K4 := hide (((unhide K2).below a4).grown hgrow (fun r e => .inl (hbk r e)))
      have o4 := gcell (p := ⟨bo, 0, none⟩) hgrow (by dsimp only; simp; omega) (fun e => by have := hbk bo e.symm; omega) (keepC a4 (by omega) o2)
      have kp4 := hide (kpB_t (KpB.of_grown (B := bo + 1 + 1) (gbelow none (btrans (unhide Hb) a4)) (by omega) (by simp)) (KpB.of_grown hgrow (by simp; omega) (fun e => by have := hbk _ e.symm; omega)))
      have ko4 := hide (((KeepsOthers.of_grownBy (gbelow none (btrans (unhide Hb) a4)) (fun j o ej _ => by cases ej)).trans (KeepsOthers.of_grownBy hgrow (fun j o ej hj => by
        rcases ((unhide Ow2).alloc (.cells #[rowV p cap w y] 23)).2 with ⟨e0, _⟩ | ⟨g, c', cur, e0, _, hgb, _⟩
        · rw [e0] at ej; simp [Value.ownBlock] at ej
        · rw [e0] at ej
          obtain rfl : g = j := by simpa [Value.ownBlock] using ej
          rw [hgb] at hj; cases hj; rfl))).from w6.heap.size)
      have c4 := U4.cell
      have f4 := U4.frozen
      have HU4 := hide U4
      have Hown := hide hown'
      have hz4 : V2.heap.size ≤ V4.heap.size := Nat.le_trans a4.size hgrow.size
      clear U4 hown' hgrow a4 u2 x2 o2 R2 K2 U2 Ow2 X2 hbk
      have r1 := ((unhide R4).2 y hy).1
      have r2 := ((unhide R4).2 y hy).2
      have q2 : (y : Int) < (h : Int) := by omega
      have q3 : (0 : Int) ≤ (y : Int) := by omega
      gi_wp2
      have g5 : V4.grownBy (V4.setCell ⟨bo + 1, 0, none⟩ (.slice (some ⟨g', 0, none⟩) (U.length + 1) cap')) (some (bo + 1)) := gset (World.grownBy.refl _ _) 0 _
      have g6 : (V4.setCell ⟨bo + 1, 0, none⟩ (.slice (some ⟨g', 0, none⟩) (U.length + 1) cap')).grownBy ((V4.setCell ⟨bo + 1, 0, none⟩ (.slice (some ⟨g', 0, none⟩) (U.length + 1) cap')).setCell ⟨qo, y, none⟩ (.int .i64 ((U.length : Nat) : Int))) (some qo) := gset (World.grownBy.refl _ _) y _
      refine ⟨((unhide ko4).trans (KeepsFrom.of_grownBy g5 (fun j e => by cases e; omega))).trans (KeepsFrom.of_grownBy g6 (fun j e => by cases e; exact hqs)), kpB_t (kpB_t (unhide kp4) (KpB.of_grown g5 (by omega) (fun e => by have := Option.some.inj e; omega))) (KpB.of_grown g6 (by simp; omega) (fun e => by have := Option.some.inj e; omega)), ?_⟩
      rw [unhide hRI]
      refine ⟨⟨_, ((unhide HU4).set _).kept g6 (fun e => by have := Option.some.inj e; omega), ?_, trivial⟩, ((unhide R4).grown g5 (fun e => by have := Option.some.inj e; omega)).set y U.length, ((unhide K4).grown g5 (fun r e => by cases e; exact .inr (.inr rfl))).grown g6 (fun r e => by cases e; exact .inr (.inl rfl))⟩
      have := ownsRow_setCell_below (a := ⟨qo, y, none⟩) (ownsRow_setCell_below (a := ⟨bo + 1, 0, none⟩) (unhide Hown) (by dsimp only; omega) (.slice (some ⟨g', 0, none⟩) (U.length + 1) cap')) (by dsimp only; omega) (.int .i64 ((U.length : Nat) : Int))
      simpa using this
  case done =>
    rintro D ys V hD hys hI hK
    have o1 := hI.2.2.cell (p := ⟨bo, 0, none⟩) (by dsimp only; omega) (by dsimp only; omega) (unhide O6).cell
    have R7 := hide hI.2.1
    have K7 := hide hI.2.2
    rw [hys] at R7
    have HD := hide hD
    clear hI hD hys
    gi_wp2
    have hD' := unhide HD
    have hs6 := (unhide S6).size
    have hg := grownBy_putObj' V D (.deferred none)
    refine ⟨by simp, .inl ⟨_, _, rfl, run_takeDeferred hK, .tuple #[.slice (some ⟨qo, 0, none⟩) h h, .int .i64 0], ?_, qo, rfl, by omega, (unhide R7).grown hg (fun e => by have := Option.some.inj e; omega), ?_⟩⟩
    · simp [results, Try.f28, go_sem]
    · exact (((unhide K7).grown hg (fun r e => by cases e; exact .inl hD')).back (unhide S6) (fun q e => by rcases e with rfl | rfl <;> omega))
end Go.Proofs.Ytfbggbalnfbbgaa
