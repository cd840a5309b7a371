/-
  The workshop: beat.
-/
import Derived.Test.YtndfecdhmncdaaaWkA
namespace Go.Proofs.Ytndfecdhmncdaaa
open Go.RowKit

theorem g14_0 {a0 a1 a2 a3 a4 a5 a6 a7 a8 a9 a10 a11 a12 a13 : Oper} : (#[a0, a1, a2, a3, a4, a5, a6, a7, a8, a9, a10, a11, a12, a13] : Array Oper)[0]? = some a0 := rfl
theorem g14_1 {a0 a1 a2 a3 a4 a5 a6 a7 a8 a9 a10 a11 a12 a13 : Oper} : (#[a0, a1, a2, a3, a4, a5, a6, a7, a8, a9, a10, a11, a12, a13] : Array Oper)[1]? = some a1 := rfl
theorem g14_2 {a0 a1 a2 a3 a4 a5 a6 a7 a8 a9 a10 a11 a12 a13 : Oper} : (#[a0, a1, a2, a3, a4, a5, a6, a7, a8, a9, a10, a11, a12, a13] : Array Oper)[2]? = some a2 := rfl
theorem g14_3 {a0 a1 a2 a3 a4 a5 a6 a7 a8 a9 a10 a11 a12 a13 : Oper} : (#[a0, a1, a2, a3, a4, a5, a6, a7, a8, a9, a10, a11, a12, a13] : Array Oper)[3]? = some a3 := rfl
theorem g14_4 {a0 a1 a2 a3 a4 a5 a6 a7 a8 a9 a10 a11 a12 a13 : Oper} : (#[a0, a1, a2, a3, a4, a5, a6, a7, a8, a9, a10, a11, a12, a13] : Array Oper)[4]? = some a4 := rfl
theorem g14_5 {a0 a1 a2 a3 a4 a5 a6 a7 a8 a9 a10 a11 a12 a13 : Oper} : (#[a0, a1, a2, a3, a4, a5, a6, a7, a8, a9, a10, a11, a12, a13] : Array Oper)[5]? = some a5 := rfl
theorem g14_6 {a0 a1 a2 a3 a4 a5 a6 a7 a8 a9 a10 a11 a12 a13 : Oper} : (#[a0, a1, a2, a3, a4, a5, a6, a7, a8, a9, a10, a11, a12, a13] : Array Oper)[6]? = some a6 := rfl
theorem g14_7 {a0 a1 a2 a3 a4 a5 a6 a7 a8 a9 a10 a11 a12 a13 : Oper} : (#[a0, a1, a2, a3, a4, a5, a6, a7, a8, a9, a10, a11, a12, a13] : Array Oper)[7]? = some a7 := rfl
theorem g14_8 {a0 a1 a2 a3 a4 a5 a6 a7 a8 a9 a10 a11 a12 a13 : Oper} : (#[a0, a1, a2, a3, a4, a5, a6, a7, a8, a9, a10, a11, a12, a13] : Array Oper)[8]? = some a8 := rfl
theorem g14_9 {a0 a1 a2 a3 a4 a5 a6 a7 a8 a9 a10 a11 a12 a13 : Oper} : (#[a0, a1, a2, a3, a4, a5, a6, a7, a8, a9, a10, a11, a12, a13] : Array Oper)[9]? = some a9 := rfl
theorem g14_10 {a0 a1 a2 a3 a4 a5 a6 a7 a8 a9 a10 a11 a12 a13 : Oper} : (#[a0, a1, a2, a3, a4, a5, a6, a7, a8, a9, a10, a11, a12, a13] : Array Oper)[10]? = some a10 := rfl
theorem g14_11 {a0 a1 a2 a3 a4 a5 a6 a7 a8 a9 a10 a11 a12 a13 : Oper} : (#[a0, a1, a2, a3, a4, a5, a6, a7, a8, a9, a10, a11, a12, a13] : Array Oper)[11]? = some a11 := rfl
theorem g14_12 {a0 a1 a2 a3 a4 a5 a6 a7 a8 a9 a10 a11 a12 a13 : Oper} : (#[a0, a1, a2, a3, a4, a5, a6, a7, a8, a9, a10, a11, a12, a13] : Array Oper)[12]? = some a12 := rfl
theorem g14_13 {a0 a1 a2 a3 a4 a5 a6 a7 a8 a9 a10 a11 a12 a13 : Oper} : (#[a0, a1, a2, a3, a4, a5, a6, a7, a8, a9, a10, a11, a12, a13] : Array Oper)[13]? = some a13 := rfl

theorem info22 : (Try.prog.info? 22).map (fun i => (i.zero, i.size, i.bytes)) = some (some (.slice none 0 0), 1, 24) := by kernel_rfl
theorem grown_kept {S : Nat → Prop} {W V : World} {row : Option Nat} (h : W.grownBy V row) (k : ∀ r, row = some r → S r ∨ W.heap.size ≤ r) : Kept S W V :=
  ⟨h.os, h.tape, h.output, h.size, fun i hi hS => h.block i hi (fun e => by rcases k i e.symm with q | q; exact hS q; omega)⟩
theorem own_tg {W : World} {B : Nat} {e : TypeId} {z : Nat} {v : Value} {n : Nat} {xs : List Value} (h : W.ownsRow B e z v n xs) {g : Nat} (hg : v.ownBlock = some g) : Tg W g e := by
  rcases h.2 with ⟨h0, -⟩ | ⟨g', cap, cur, e1, e2, e3, -⟩
  · rw [h0] at hg; cases hg
  · rw [e1] at hg
    obtain rfl : g' = g := by simpa [Value.ownBlock] using hg
    exact ⟨_, _, e3⟩
/-- what beat may change -/
abbrev bk (S B : Nat) (W : World) (i : Nat) : Prop := i = S ∨ (B ≤ i ∧ Tg W i 22)
abbrev BeatS (W : World) (S B : Nat) (u : Value) (V : World) : Prop := Kept (bk S B W) W V ∧ V.cell? ⟨S, 4, none⟩ = some u

set_option maxRecDepth 100000 in
set_option maxHeartbeats 4000000 in
theorem beat_any {W : World} {S L : Nat} {td : Int} {up th : Bool} {rq : Option Addr} {rn rc : Nat} {tq : Option Addr} {tn tc : Nat} {bad : Bool} {B : Nat} {xs : List Value} (k : SB W S L td up th rq rn rc tq tn tc bad) (hB : B ≤ W.heap.size) (ho : W.ownsRow B 22 1 (.slice tq tn tc) tn xs) (htn : tn ≤ 65) :
    Calls Try.prog 22 #[.pointer (some ⟨S, 0, none⟩)] W fun e w' => e = .returned (.tuple #[]) ∧ ∃ tq' tc', SB w' S L td up th rq rn rc tq' (tn + 1) tc' bad ∧ w'.ownsRow B 22 1 (.slice tq' (tn + 1) tc') (tn + 1) (xs ++ [.slice rq rn rc]) ∧ Kept (bk S B W) W w' := by
  obtain ⟨i0, hi, hz0, hz1, hz2⟩ := info_parts info22
  have DC := k.keep (bdrew W)
  have hown := own_keep ho (bdrew W)
  have hSd : BeatS W S B (.slice rq rn rc) W.drew := ⟨(Kept.refl _ _).below (bdrew W), DC.2.1.2.2.2.2.1⟩
  have K0 := hide k
  have HTg := hide (fun g (hg : (Value.slice tq tn tc).ownBlock = some g) => (⟨(ho.lt g hg).1, own_tg ho hg⟩ : B ≤ g ∧ Tg W g 22))
  have HSt := hide k.1.2
  clear ho k
  go_enter Try.func22, Try.ntmps22
  go_wp2_with fail
  refine wp_region_noPanic ?_
  refine wp_region_held_drew (S := BeatS W S B (.slice rq rn rc)) (by kernel_rfl) hSd ?_
  intro _
  refine wpAnyH_take (i := 0) (oi := _) (v := .pointer (some ⟨S, 0, none⟩)) g14_0 (by kernel_rfl) (by kernel_rfl) (by kernel_rfl) (fun _ _ _ h => h) (Or.inl ⟨by rfl, ?_⟩) (by assumption) ?_
  · intro V hSw
    try dsimp only at hSw
    go_simp
  simp only [Act.put, List.setIfInBounds_toArray, List.set_cons_zero, List.set_cons_succ]
  refine wpAnyH_take (i := 1) (oi := _) (v := .pointer (some ⟨S, 0, none⟩)) g14_1 (by kernel_rfl) (by kernel_rfl) (by kernel_rfl) (fun _ _ _ h => h) (Or.inl ⟨by rfl, ?_⟩) (by assumption) ?_
  · intro V hSw
    try dsimp only at hSw
    go_simp
  simp only [Act.put, List.setIfInBounds_toArray, List.set_cons_zero, List.set_cons_succ]
  refine wpAnyH_take (i := 2) (oi := _) (v := .pointer (some ⟨S, 0, none⟩)) g14_2 (by kernel_rfl) (by kernel_rfl) (by kernel_rfl) (fun _ _ _ h => h) (Or.inl ⟨by rfl, ?_⟩) (by assumption) ?_
  · intro V hSw
    try dsimp only at hSw
    go_simp
  simp only [Act.put, List.setIfInBounds_toArray, List.set_cons_zero, List.set_cons_succ]
  refine wpAnyH_take (i := 3) (oi := _) (v := .pointer (some ⟨S, 5, none⟩)) g14_3 (by kernel_rfl) (by kernel_rfl) (by kernel_rfl) (fun _ _ _ h => h) (Or.inl ⟨by rfl, ?_⟩) (by assumption) ?_
  · intro V hSw
    try dsimp only at hSw
    go_simp
  simp only [Act.put, List.setIfInBounds_toArray, List.set_cons_zero, List.set_cons_succ]
  refine wpAnyH_take (i := 5) (oi := _) (v := .pointer (some ⟨S, 0, none⟩)) g14_5 (by kernel_rfl) (by kernel_rfl) (by kernel_rfl) (fun _ _ _ h => h) (Or.inl ⟨by rfl, ?_⟩) (by assumption) ?_
  · intro V hSw
    try dsimp only at hSw
    go_simp
  simp only [Act.put, List.setIfInBounds_toArray, List.set_cons_zero, List.set_cons_succ]
  refine wpAnyH_take (i := 6) (oi := _) (v := .pointer (some ⟨S, 0, none⟩)) g14_6 (by kernel_rfl) (by kernel_rfl) (by kernel_rfl) (fun _ _ _ h => h) (Or.inl ⟨by rfl, ?_⟩) (by assumption) ?_
  · intro V hSw
    try dsimp only at hSw
    go_simp
  simp only [Act.put, List.setIfInBounds_toArray, List.set_cons_zero, List.set_cons_succ]
  refine wpAnyH_take (i := 7) (oi := _) (v := .pointer (some ⟨S, 4, none⟩)) g14_7 (by kernel_rfl) (by kernel_rfl) (by kernel_rfl) (fun _ _ _ h => h) (Or.inl ⟨by rfl, ?_⟩) (by assumption) ?_
  · intro V hSw
    try dsimp only at hSw
    go_simp
  simp only [Act.put, List.setIfInBounds_toArray, List.set_cons_zero, List.set_cons_succ]
  refine wpAnyH_take (i := 8) (oi := _) (v := .slice rq rn rc) g14_8 (by kernel_rfl) (by kernel_rfl) (by kernel_rfl) (fun _ _ _ h => h) (Or.inl ⟨by rfl, ?_⟩) (by assumption) ?_
  · intro V hSw
    try dsimp only at hSw
    have hc4 := hSw.2
    go_simp
  simp only [Act.put, List.setIfInBounds_toArray, List.set_cons_zero, List.set_cons_succ]
  refine wpAnyH_ready (rs := [4, 9]) (by kernel_rfl) (by simp) ?_
  refine AllReadyH.cons (o := _) g14_4 (fun K hK => ?_) (AllReadyH.cons (o := _) g14_9 (fun K hK => ?_) AllReadyH.nil)
  · have d5 := DC.2.1.2.2.2.2.2.1
    go_simp
    refine hK.out _ _ hSd (fun _ => ?_)
    clear hK K d5
    refine wpAnyH_ready (rs := [9]) (by kernel_rfl) (by simp) ?_
    refine AllReadyH.cons (o := _) g14_9 (fun K hK => ?_) AllReadyH.nil
    go_simp
    refine hK.out _ _ ⟨hSd.1.al _, (DC.keep (bal (Below.refl _ _))).2.1.2.2.2.2.1⟩ (fun _ => ?_)
    clear hK K
    refine wpAnyH_ready (rs := [10]) (by kernel_rfl) (by simp) ?_
    refine AllReadyH.cons (o := _) g14_10 (fun K hK => ?_) AllReadyH.nil
    refine wp_append_own _ _ _ 40 rfl B 22 i0 (.slice none 0 0) 1 24 Try.underlying40 hi hz0 hz1 hz2 rfl (by decide) (.slice tq tn tc) tn xs rfl (hown.alloc _) ⟨W.drew.heap.size, 0, none⟩ 1 1 [.slice rq rn rc] rfl ?c1 ?c2 ?c3 ?c4 ?c5 ?c6 ?_
    case c1 => rfl
    case c2 =>
      intro j u hj
      match j, hj with
      | 0, hj => simp at hj; subst hj; simp [Addr.add]
    case c3 => intro u hu; simp at hu; subst hu; rfl
    case c4 => unfold maxLen; omega
    case c5 => omega
    case c6 => simp; omega
    intro v' w4 hown' hgrow _
    have D4a := DC.keep (bal (o := .cells #[.slice rq rn rc] 22) (Below.refl _ _))
    have hKg := grown_kept (S := fun i => B ≤ i ∧ Tg W i 22) hgrow (fun r e => .inl (unhide HTg r e))
    have D4 := D4a.kept hKg (fun e => absurd rfl (e.2.ne (unhide HSt) (by decide)))
    have S4a := ((Kept.refl (bk S B W) W).below (bdrew W)).al (.cells #[.slice rq rn rc] 22)
    have S4 := S4a.trans (hKg.more (T := bk S B W) (fun i hi => .inl (.inr hi)))
    obtain ⟨q', cap', rfl⟩ := own_form hown'
    have hS4 : BeatS W S B (.slice rq rn rc) w4 := ⟨S4, D4.2.1.2.2.2.2.1⟩
    refine hK.out _ _ hS4 (fun _ => ?_)
    clear hK K hown hgrow hKg D4a S4a DC hSd
    refine wpAnyH_take (i := 11) (oi := _) (v := .pointer (some ⟨S, 0, none⟩)) g14_11 (by kernel_rfl) (by kernel_rfl) (by kernel_rfl) (fun _ _ _ h => h) (Or.inl ⟨by rfl, ?_⟩) (by assumption) ?_
    · intro V hSw
      try dsimp only at hSw
      go_simp
    simp only [Act.put, List.setIfInBounds_toArray, List.set_cons_zero, List.set_cons_succ]
    refine wpAnyH_take (i := 12) (oi := _) (v := .pointer (some ⟨S, 5, none⟩)) g14_12 (by kernel_rfl) (by kernel_rfl) (by kernel_rfl) (fun _ _ _ h => h) (Or.inl ⟨by rfl, ?_⟩) (by assumption) ?_
    · intro V hSw
      try dsimp only at hSw
      go_simp
    simp only [Act.put, List.setIfInBounds_toArray, List.set_cons_zero, List.set_cons_succ]
    refine wpAnyH_ready (rs := [13]) (by kernel_rfl) (by simp) ?_
    refine AllReadyH.cons (o := _) g14_13 (fun K hK => ?_) AllReadyH.nil
    have d5 := D4.2.1.2.2.2.2.2.1
    have f5 := D4.2.2.2.2.2.2.2.1
    go_simp
    have S5 := S4.set 5 (.slice q' (tn + 1) cap') (.inl (.inl rfl))
    have D5 := D4.rows q' (tn + 1) cap'
    have hne : ∀ g, (Value.slice q' (tn + 1) cap').ownBlock = some g → S ≠ g := fun g hg => D4.1.2.ne (own_tg hown' hg) (by decide)
    have own5 := own_kept hown' (kset w4 S 5 (.slice q' (tn + 1) cap')) (fun i e t => absurd rfl ((show Tg w4 S 22 from e ▸ t).ne D4.1.2 (by decide)))
    refine hK.out _ _ ⟨S5, D5.2.1.2.2.2.2.1⟩ (fun _ => ?_)
    refine wpAnyH_done (by kernel_rfl) ?_ _
    refine NoPanic.normal ?_
    clear hK K d5 f5 hne
    have HS5 := hide S5
    have HD5 := hide D5
    have HO5 := hide own5
    clear S5 D5 own5 S4 D4 hown'
    first | go_end0 | (go_wp2; go_end0)
    exact ⟨rfl, q', cap', unhide HD5, unhide HO5, unhide HS5⟩
  · go_simp
    refine hK.out _ _ ⟨hSd.1.al _, (DC.keep (bal (Below.refl _ _))).2.1.2.2.2.2.1⟩ (fun _ => ?_)
    clear hK K
    refine wpAnyH_ready (rs := [4]) (by kernel_rfl) (by simp) ?_
    refine AllReadyH.cons (o := _) g14_4 (fun K hK => ?_) AllReadyH.nil
    have d5 := ((unhide K0).keep (bal (o := .cells #[.slice rq rn rc] 22) (Below.refl _ _))).2.1.2.2.2.2.2.1
    go_simp
    refine hK.out _ _ ⟨hSd.1.al _, (DC.keep (bal (Below.refl _ _))).2.1.2.2.2.2.1⟩ (fun _ => ?_)
    clear hK K d5
    refine wpAnyH_ready (rs := [10]) (by kernel_rfl) (by simp) ?_
    refine AllReadyH.cons (o := _) g14_10 (fun K hK => ?_) AllReadyH.nil
    refine wp_append_own _ _ _ 40 rfl B 22 i0 (.slice none 0 0) 1 24 Try.underlying40 hi hz0 hz1 hz2 rfl (by decide) (.slice tq tn tc) tn xs rfl (hown.alloc _) ⟨W.drew.heap.size, 0, none⟩ 1 1 [.slice rq rn rc] rfl ?c1 ?c2 ?c3 ?c4 ?c5 ?c6 ?_
    case c1 => rfl
    case c2 =>
      intro j u hj
      match j, hj with
      | 0, hj => simp at hj; subst hj; simp [Addr.add]
    case c3 => intro u hu; simp at hu; subst hu; rfl
    case c4 => unfold maxLen; omega
    case c5 => omega
    case c6 => simp; omega
    intro v' w4 hown' hgrow _
    have D4a := DC.keep (bal (o := .cells #[.slice rq rn rc] 22) (Below.refl _ _))
    have hKg := grown_kept (S := fun i => B ≤ i ∧ Tg W i 22) hgrow (fun r e => .inl (unhide HTg r e))
    have D4 := D4a.kept hKg (fun e => absurd rfl (e.2.ne (unhide HSt) (by decide)))
    have S4a := ((Kept.refl (bk S B W) W).below (bdrew W)).al (.cells #[.slice rq rn rc] 22)
    have S4 := S4a.trans (hKg.more (T := bk S B W) (fun i hi => .inl (.inr hi)))
    obtain ⟨q', cap', rfl⟩ := own_form hown'
    have hS4 : BeatS W S B (.slice rq rn rc) w4 := ⟨S4, D4.2.1.2.2.2.2.1⟩
    refine hK.out _ _ hS4 (fun _ => ?_)
    clear hK K hown hgrow hKg D4a S4a DC hSd
    refine wpAnyH_take (i := 11) (oi := _) (v := .pointer (some ⟨S, 0, none⟩)) g14_11 (by kernel_rfl) (by kernel_rfl) (by kernel_rfl) (fun _ _ _ h => h) (Or.inl ⟨by rfl, ?_⟩) (by assumption) ?_
    · intro V hSw
      try dsimp only at hSw
      go_simp
    simp only [Act.put, List.setIfInBounds_toArray, List.set_cons_zero, List.set_cons_succ]
    refine wpAnyH_take (i := 12) (oi := _) (v := .pointer (some ⟨S, 5, none⟩)) g14_12 (by kernel_rfl) (by kernel_rfl) (by kernel_rfl) (fun _ _ _ h => h) (Or.inl ⟨by rfl, ?_⟩) (by assumption) ?_
    · intro V hSw
      try dsimp only at hSw
      go_simp
    simp only [Act.put, List.setIfInBounds_toArray, List.set_cons_zero, List.set_cons_succ]
    refine wpAnyH_ready (rs := [13]) (by kernel_rfl) (by simp) ?_
    refine AllReadyH.cons (o := _) g14_13 (fun K hK => ?_) AllReadyH.nil
    have d5 := D4.2.1.2.2.2.2.2.1
    have f5 := D4.2.2.2.2.2.2.2.1
    go_simp
    have S5 := S4.set 5 (.slice q' (tn + 1) cap') (.inl (.inl rfl))
    have D5 := D4.rows q' (tn + 1) cap'
    have hne : ∀ g, (Value.slice q' (tn + 1) cap').ownBlock = some g → S ≠ g := fun g hg => D4.1.2.ne (own_tg hown' hg) (by decide)
    have own5 := own_kept hown' (kset w4 S 5 (.slice q' (tn + 1) cap')) (fun i e t => absurd rfl ((show Tg w4 S 22 from e ▸ t).ne D4.1.2 (by decide)))
    refine hK.out _ _ ⟨S5, D5.2.1.2.2.2.2.1⟩ (fun _ => ?_)
    refine wpAnyH_done (by kernel_rfl) ?_ _
    refine NoPanic.normal ?_
    clear hK K d5 f5 hne
    have HS5 := hide S5
    have HD5 := hide D5
    have HO5 := hide own5
    clear S5 D5 own5 S4 D4 hown'
    first | go_end0 | (go_wp2; go_end0)
    exact ⟨rfl, q', cap', unhide HD5, unhide HO5, unhide HS5⟩
end Go.Proofs.Ytndfecdhmncdaaa
