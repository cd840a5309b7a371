/-
  A picture without colours, its threads; whether threads go with sides; what is wrong with a picture.
-/
import Derived.Test.YtbmgjoocpbikkaaRp
namespace Go.Proofs.Ytbmgjoocpbikkaa
open Go.RowKit

theorem g10_0 {a0 a1 a2 a3 a4 a5 a6 a7 a8 a9 : Oper} : (#[a0, a1, a2, a3, a4, a5, a6, a7, a8, a9] : Array Oper)[0]? = some a0 := rfl
theorem g10_1 {a0 a1 a2 a3 a4 a5 a6 a7 a8 a9 : Oper} : (#[a0, a1, a2, a3, a4, a5, a6, a7, a8, a9] : Array Oper)[1]? = some a1 := rfl
theorem g10_2 {a0 a1 a2 a3 a4 a5 a6 a7 a8 a9 : Oper} : (#[a0, a1, a2, a3, a4, a5, a6, a7, a8, a9] : Array Oper)[2]? = some a2 := rfl
theorem g10_3 {a0 a1 a2 a3 a4 a5 a6 a7 a8 a9 : Oper} : (#[a0, a1, a2, a3, a4, a5, a6, a7, a8, a9] : Array Oper)[3]? = some a3 := rfl
theorem g10_4 {a0 a1 a2 a3 a4 a5 a6 a7 a8 a9 : Oper} : (#[a0, a1, a2, a3, a4, a5, a6, a7, a8, a9] : Array Oper)[4]? = some a4 := rfl
theorem g10_5 {a0 a1 a2 a3 a4 a5 a6 a7 a8 a9 : Oper} : (#[a0, a1, a2, a3, a4, a5, a6, a7, a8, a9] : Array Oper)[5]? = some a5 := rfl
theorem g10_6 {a0 a1 a2 a3 a4 a5 a6 a7 a8 a9 : Oper} : (#[a0, a1, a2, a3, a4, a5, a6, a7, a8, a9] : Array Oper)[6]? = some a6 := rfl
theorem g10_7 {a0 a1 a2 a3 a4 a5 a6 a7 a8 a9 : Oper} : (#[a0, a1, a2, a3, a4, a5, a6, a7, a8, a9] : Array Oper)[7]? = some a7 := rfl
theorem g10_8 {a0 a1 a2 a3 a4 a5 a6 a7 a8 a9 : Oper} : (#[a0, a1, a2, a3, a4, a5, a6, a7, a8, a9] : Array Oper)[8]? = some a8 := rfl
theorem g10_9 {a0 a1 a2 a3 a4 a5 a6 a7 a8 a9 : Oper} : (#[a0, a1, a2, a3, a4, a5, a6, a7, a8, a9] : Array Oper)[9]? = some a9 := rfl
theorem g13_0 {a0 a1 a2 a3 a4 a5 a6 a7 a8 a9 a10 a11 a12 : Oper} : (#[a0, a1, a2, a3, a4, a5, a6, a7, a8, a9, a10, a11, a12] : Array Oper)[0]? = some a0 := rfl
theorem g13_1 {a0 a1 a2 a3 a4 a5 a6 a7 a8 a9 a10 a11 a12 : Oper} : (#[a0, a1, a2, a3, a4, a5, a6, a7, a8, a9, a10, a11, a12] : Array Oper)[1]? = some a1 := rfl
theorem g13_2 {a0 a1 a2 a3 a4 a5 a6 a7 a8 a9 a10 a11 a12 : Oper} : (#[a0, a1, a2, a3, a4, a5, a6, a7, a8, a9, a10, a11, a12] : Array Oper)[2]? = some a2 := rfl
theorem g13_3 {a0 a1 a2 a3 a4 a5 a6 a7 a8 a9 a10 a11 a12 : Oper} : (#[a0, a1, a2, a3, a4, a5, a6, a7, a8, a9, a10, a11, a12] : Array Oper)[3]? = some a3 := rfl
theorem g13_4 {a0 a1 a2 a3 a4 a5 a6 a7 a8 a9 a10 a11 a12 : Oper} : (#[a0, a1, a2, a3, a4, a5, a6, a7, a8, a9, a10, a11, a12] : Array Oper)[4]? = some a4 := rfl
theorem g13_5 {a0 a1 a2 a3 a4 a5 a6 a7 a8 a9 a10 a11 a12 : Oper} : (#[a0, a1, a2, a3, a4, a5, a6, a7, a8, a9, a10, a11, a12] : Array Oper)[5]? = some a5 := rfl
theorem g13_6 {a0 a1 a2 a3 a4 a5 a6 a7 a8 a9 a10 a11 a12 : Oper} : (#[a0, a1, a2, a3, a4, a5, a6, a7, a8, a9, a10, a11, a12] : Array Oper)[6]? = some a6 := rfl
theorem g13_7 {a0 a1 a2 a3 a4 a5 a6 a7 a8 a9 a10 a11 a12 : Oper} : (#[a0, a1, a2, a3, a4, a5, a6, a7, a8, a9, a10, a11, a12] : Array Oper)[7]? = some a7 := rfl
theorem g13_8 {a0 a1 a2 a3 a4 a5 a6 a7 a8 a9 a10 a11 a12 : Oper} : (#[a0, a1, a2, a3, a4, a5, a6, a7, a8, a9, a10, a11, a12] : Array Oper)[8]? = some a8 := rfl
theorem g13_9 {a0 a1 a2 a3 a4 a5 a6 a7 a8 a9 a10 a11 a12 : Oper} : (#[a0, a1, a2, a3, a4, a5, a6, a7, a8, a9, a10, a11, a12] : Array Oper)[9]? = some a9 := rfl
theorem g13_10 {a0 a1 a2 a3 a4 a5 a6 a7 a8 a9 a10 a11 a12 : Oper} : (#[a0, a1, a2, a3, a4, a5, a6, a7, a8, a9, a10, a11, a12] : Array Oper)[10]? = some a10 := rfl
theorem g13_11 {a0 a1 a2 a3 a4 a5 a6 a7 a8 a9 a10 a11 a12 : Oper} : (#[a0, a1, a2, a3, a4, a5, a6, a7, a8, a9, a10, a11, a12] : Array Oper)[11]? = some a11 := rfl
theorem g13_12 {a0 a1 a2 a3 a4 a5 a6 a7 a8 a9 a10 a11 a12 : Oper} : (#[a0, a1, a2, a3, a4, a5, a6, a7, a8, a9, a10, a11, a12] : Array Oper)[12]? = some a12 := rfl

theorem bset1 {B : Nat} {W0 W : World} (hb : Below B W0 W) {b : Nat} (hB : B ≤ b) (j : Nat) (v : Value) : Below B W0 (W.setCell ⟨b, j, none⟩ v) := hb.setCell (p := ⟨b, j, none⟩) (u := v) hB
theorem bset5 {B : Nat} {W0 W : World} (hb : Below B W0 W) {b : Nat} (hB : B ≤ b) (v0 v1 v2 v3 v4 : Value) : Below B W0 (((((W.setCell ⟨b, 0, none⟩ v0).setCell ⟨b, 1, none⟩ v1).setCell ⟨b, 2, none⟩ v2).setCell ⟨b, 3, none⟩ v3).setCell ⟨b, 4, none⟩ v4) := bset1 (bset1 (bset1 (bset1 (bset1 hb hB _ _) hB _ _) hB _ _) hB _ _) hB _ _
theorem OwnC.but {S : Nat → Prop} {W V : World} {b : Nat} {g w h : Int} {p : Option Addr} {n cap : Nat} (k : OwnC W b g w h p n cap) (hb : Kept S W V) (hS : ¬ S b) : OwnC V b g w h p n cap :=
  ⟨Nat.lt_of_lt_of_le k.1 hb.size, hb.cell k.1 hS k.2.1, hb.cell k.1 hS k.2.2.1, hb.cell k.1 hS k.2.2.2.1, hb.cell k.1 hS k.2.2.2.2⟩
/-- a box that may be written: what lies in it -/
def Bx (V : World) (b : Nat) (cs : List Value) : Prop := b < V.heap.size ∧ ∀ j v, cs[j]? = some v → V.cell? ⟨b, j, none⟩ = some v ∧ V.frozen? ⟨b, j, none⟩ = false
theorem Bx.but {S : Nat → Prop} {W V : World} {b : Nat} {cs : List Value} (k : Bx W b cs) (hb : Kept S W V) (hS : ¬ S b) : Bx V b cs :=
  ⟨Nat.lt_of_lt_of_le k.1 hb.size, fun j v hj => ⟨hb.cell k.1 hS (k.2 j v hj).1, hb.froz k.1 hS (k.2 j v hj).2⟩⟩
theorem Bx.keep {W V : World} {b : Nat} {cs : List Value} (k : Bx W b cs) (hb : Below W.heap.size W V) : Bx V b cs := k.but (Kept.of (S := fun _ => False) hb) id
theorem Bx.new (W : World) (cs : Array Value) (t : TypeId) : Bx (W.alloc (.cells cs t)) W.heap.size cs.toList :=
  ⟨by simp, fun j v hj => ⟨by rw [World.cell?_alloc_new]; simpa using hj, by simp [go_sem]⟩⟩
theorem Bx.set {W : World} {b : Nat} {cs : List Value} (k : Bx W b cs) (j : Nat) (v : Value) : Bx (W.setCell ⟨b, j, none⟩ v) b (cs.set j v) := by
  refine ⟨by simpa using k.1, fun i u hi => ?_⟩
  by_cases e : i = j
  · subst e
    rw [List.getElem?_set_self'] at hi
    cases hc : cs[i]? with
    | none => rw [hc] at hi; cases hi
    | some c => rw [hc] at hi; cases hi; exact ⟨csame (k.2 i c hc).1, fset (k.2 i c hc).2⟩
  · rw [List.getElem?_set_ne (by omega)] at hi
    exact ⟨cset (k.2 i u hi).1 e, fset (k.2 i u hi).2⟩
/-- a picture is stored: only its box changes -/
theorem put49 {B : Nat} {W0 W : World} (hb : Below B W0 W) {b : Nat} (hB : B ≤ b) {cs : List Value} (h : Bx W b cs) (hl : cs.length = 5) (v0 v1 v2 v3 v4 : Value) :
    ∃ w', (((((W.setCell ⟨b, 0, none⟩ v0).setCell ⟨b, 1, none⟩ v1).setCell ⟨b, 2, none⟩ v2).setCell ⟨b, 3, none⟩ v3).setCell ⟨b, 4, none⟩ v4) = w' ∧ Below B W0 w' ∧ Kept (fun i => i = b) W w' ∧ Bx w' b [v0, v1, v2, v3, v4] := by
  refine ⟨_, rfl, bset5 hb hB _ _ _ _ _, ((((kset _ b 0 _).trans (kset _ b 1 _)).trans (kset _ b 2 _)).trans (kset _ b 3 _)).trans (kset _ b 4 _), ?_⟩
  have := ((((h.set 0 v0).set 1 v1).set 2 v2).set 3 v3).set 4 v4
  obtain ⟨c0, c1, c2, c3, c4, rfl⟩ : ∃ c0 c1 c2 c3 c4, cs = [c0, c1, c2, c3, c4] := by
    match cs, hl with
    | [c0, c1, c2, c3, c4], _ => exact ⟨c0, c1, c2, c3, c4, rfl⟩
  exact this
theorem put24 {B : Nat} {W0 W : World} (hb : Below B W0 W) {b : Nat} (hB : B ≤ b) {cs : List Value} (h : Bx W b cs) (hl : cs.length = 2) (v0 v1 : Value) :
    ∃ w', ((W.setCell ⟨b, 0, none⟩ v0).setCell ⟨b, 1, none⟩ v1) = w' ∧ Below B W0 w' ∧ Kept (fun i => i = b) W w' ∧ Bx w' b [v0, v1] := by
  refine ⟨_, rfl, bset1 (bset1 hb hB _ _) hB _ _, (kset _ b 0 _).trans (kset _ b 1 _), ?_⟩
  have := (h.set 0 v0).set 1 v1
  obtain ⟨c0, c1, rfl⟩ : ∃ c0 c1, cs = [c0, c1] := by
    match cs, hl with
    | [c0, c1], _ => exact ⟨c0, c1, rfl⟩
  exact this

set_option maxHeartbeats 1000000 in
theorem goes_any (p : Option Addr) (n c : Nat) (q : Option Addr) (m d : Nat) (w h : Int) (W : World) : Calls Try.prog 18 #[sg p n c q m d, .int .i64 w, .int .i64 h] W fun e w' => e = .returned (.bool (decide ((n : Int) = w) && decide ((m : Int) = h))) ∧ Below W.heap.size W w' := by
  cases h1 : ((n : Int) == w)
  · have H := hide (show false = (decide ((n : Int) = w) && decide ((m : Int) = h)) by have : ¬ (n : Int) = w := by simpa using h1
                                                                                       simp [this])
    go_enter Try.func18, Try.ntmps18
    go_wp2
    go_ret
    exact ⟨ret_bool (unhide H), bal (Below.refl _ _)⟩
  · have H := hide (show ∀ r, ((m : Int) == h) = r → r = (decide ((n : Int) = w) && decide ((m : Int) = h)) by
      intro r hr
      have e1 : (n : Int) = w := by simpa using h1
      rw [← hr]
      by_cases e2 : (m : Int) = h <;> simp [e1, e2])
    generalize (decide ((n : Int) = w) && decide ((m : Int) = h)) = r0 at *
    cases h2 : ((m : Int) == h)
    all_goals
      have H2 := hide (unhide H _ h2)
      go_enter Try.func18, Try.ntmps18
      go_wp2
      go_ret
      exact ⟨ret_bool (unhide H2), bal (Below.refl _ _)⟩

/-- what is wrong with a chart that is to be woven -/
def pE (g w h : Int) (n : Nat) (px : Nat → Int) : Int := if Ch.wE g w h n px = 0 then (if g = 4 then 0 else 8) else Ch.wE g w h n px
set_option maxHeartbeats 1000000 in
theorem picture_any (g w h : Int) (p : Option Addr) (n cap : Nat) (px : Nat → Int) (W : World) (hI : T.Is W p n px) : Calls Try.prog 22 #[Ch.ch g w h p n cap] W (ErIs W (pE g w h n px)) := by
  have B0 := hide (bnew W (.cells #[.int .i64 g, .int .i64 w, .int .i64 h, .slice p n cap] 29))
  have O0 := hide (OwnC.new W g w h p n cap 29)
  have HW := hide (Ch.wrong_any g w h p n cap px _ (hI.keep (unhide B0)))
  unfold Ch.WrongIs at HW
  have HE := hide (show pE g w h n px = if Ch.wE g w h n px = 0 then (if g = 4 then 0 else 8) else Ch.wE g w h n px from rfl)
  generalize pE g w h n px = er at *
  generalize Ch.wE g w h n px = c at *
  clear hI
  by_cases hc : c = 0
  · subst hc
    by_cases hg : g = 4
    · have hne : (g != 4) = false := by simp [hg]
      have HE2 := hide (show er = 0 by rw [unhide HE, if_pos rfl, if_pos hg])
      clear hg
      go_enter Try.func22, Try.ntmps22
      go_wp2_with (go_at_call 34; refine (unhide HW).mono ?_; rintro e w1 ⟨rfl, hb⟩; obtain ⟨_, o0, o1, o2, o3⟩ := (unhide O0).keep hb)
      go_ret
      exact ⟨ret_int (unhide HE2).symm, btrans (unhide B0) hb⟩
    · have hne : (g != 4) = true := by simp [hg]
      have HE2 := hide (show er = 8 by rw [unhide HE, if_pos rfl, if_neg hg])
      clear hg
      go_enter Try.func22, Try.ntmps22
      go_wp2_with (go_at_call 34; refine (unhide HW).mono ?_; rintro e w1 ⟨rfl, hb⟩; obtain ⟨_, o0, o1, o2, o3⟩ := (unhide O0).keep hb)
      go_ret
      exact ⟨ret_int (unhide HE2).symm, btrans (unhide B0) hb⟩
  · have hne : (c != 0) = true := by simp [hc]
    have HE2 := hide (show er = c by rw [unhide HE, if_neg hc])
    clear hc
    go_enter Try.func22, Try.ntmps22
    go_wp2_with (go_at_call 34; refine (unhide HW).mono ?_; rintro e w1 ⟨rfl, hb⟩)
    go_ret
    exact ⟨ret_int (unhide HE2).symm, btrans (unhide B0) hb⟩

set_option maxRecDepth 100000 in
set_option maxHeartbeats 2000000 in
theorem blank_any (W : World) (w h : Nat) (p : Option Addr) (n cap Kt : Nat) (hK : Kt = w + h) (h1 : 1 ≤ w) (hw : w ≤ 64) (hh : h ≤ 64) : Calls Try.prog 23 #[Ch.ch 4 w h p n cap] W fun e w' =>
    ∃ q, e = .returned (pcV w h p n cap q Kt) ∧ W.heap.size ≤ q ∧ CR w' q Kt (fun _ => -1) ∧ Below W.heap.size W w' := by
  have hk1 : 1 ≤ Kt := by omega
  have hk2 : Kt ≤ 128 := by omega
  have e1 : (w : Int) + (h : Int) = (Kt : Int) := by omega
  have e2 : IntKind.i64.wrap (Kt : Int) = (Kt : Int) := Go.IntWalk.i64_in _ (by omega)
  have HR := hide (fun V b0 hl hc => repeat_any V b0 Kt hl hc hk1 hk2)
  have hb := bnew W (.cells #[.int .i64 4, .int .i64 (w : Int), .int .i64 (h : Int), .slice p n cap] 29)
  have hO := OwnC.new W 4 (w : Int) (h : Int) p n cap 29
  clear hK h1 hw hh hk1 hk2
  go_enter Try.func23, Try.ntmps23
  go_wp2_with fail
  have hb2 := bal (o := .cells #[.int .i64 0, .int .i64 0, .int .i64 0, .slice none 0 0, .slice none 0 0] 49) hb
  have hZ := Bx.new (W.alloc (.cells #[.int .i64 4, .int .i64 (w : Int), .int .i64 (h : Int), .slice p n cap] 29)) #[.int .i64 0, .int .i64 0, .int .i64 0, .slice none 0 0, .slice none 0 0] 49
  replace hO := hO.keep (bnew (W.alloc (.cells #[.int .i64 4, .int .i64 (w : Int), .int .i64 (h : Int), .slice p n cap] 29)) (.cells #[.int .i64 0, .int .i64 0, .int .i64 0, .slice none 0 0, .slice none 0 0] 49))
  rw [World.size_alloc] at hZ
  generalize (W.alloc (.cells #[.int .i64 4, .int .i64 (w : Int), .int .i64 (h : Int), .slice p n cap] 29)).alloc (.cells #[.int .i64 0, .int .i64 0, .int .i64 0, .slice none 0 0, .slice none 0 0] 49) = w0 at *
  have hne : W.heap.size ≠ W.heap.size + 1 := by omega
  have hge : W.heap.size ≤ W.heap.size + 1 := by omega
  clear hb
  replace hO := hO.keep (bdrew w0)
  replace hZ := hZ.keep (bdrew w0)
  replace hb2 := btrans hb2 (bdrew w0)
  refine wp_region_noPanic ?_
  refine wp_region_held_drew (S := fun V => Kept (fun i => i = W.heap.size + 1) w0.drew V) (by kernel_rfl) (Kept.refl _ _) ?_
  intro _
  generalize w0.drew = w8 at *
  refine wpAnyH_take (i := 0) (oi := _) (v := Ch.ch 4 w h p n cap) g10_0 (by kernel_rfl) (by kernel_rfl) (by kernel_rfl) (fun _ _ _ h => h) (Or.inl ⟨by rfl, ?_⟩) (by assumption) ?_
  · intro V hSw
    try dsimp only at hSw
    obtain ⟨_, o0, o1, o2, o3⟩ := hO.but hSw hne
    go_simp
  simp only [Act.put, List.setIfInBounds_toArray, List.set_cons_zero, List.set_cons_succ]
  refine wpAnyH_take (i := 2) (oi := _) (v := .pointer (some ⟨W.heap.size, 1, none⟩)) g10_2 (by kernel_rfl) (by kernel_rfl) (by kernel_rfl) (fun _ _ _ h => h) (Or.inl ⟨by rfl, ?_⟩) (by assumption) ?_
  · intro V hSw
    try dsimp only at hSw
    go_simp
  simp only [Act.put, List.setIfInBounds_toArray, List.set_cons_zero, List.set_cons_succ]
  refine wpAnyH_take (i := 3) (oi := _) (v := .int .i64 (w : Int)) g10_3 (by kernel_rfl) (by kernel_rfl) (by kernel_rfl) (fun _ _ _ h => h) (Or.inl ⟨by rfl, ?_⟩) (by assumption) ?_
  · intro V hSw
    try dsimp only at hSw
    obtain ⟨_, o0, o1, o2, o3⟩ := hO.but hSw hne
    go_simp
  simp only [Act.put, List.setIfInBounds_toArray, List.set_cons_zero, List.set_cons_succ]
  refine wpAnyH_take (i := 4) (oi := _) (v := .pointer (some ⟨W.heap.size, 2, none⟩)) g10_4 (by kernel_rfl) (by kernel_rfl) (by kernel_rfl) (fun _ _ _ h => h) (Or.inl ⟨by rfl, ?_⟩) (by assumption) ?_
  · intro V hSw
    try dsimp only at hSw
    go_simp
  simp only [Act.put, List.setIfInBounds_toArray, List.set_cons_zero, List.set_cons_succ]
  refine wpAnyH_take (i := 5) (oi := _) (v := .int .i64 (h : Int)) g10_5 (by kernel_rfl) (by kernel_rfl) (by kernel_rfl) (fun _ _ _ h => h) (Or.inl ⟨by rfl, ?_⟩) (by assumption) ?_
  · intro V hSw
    try dsimp only at hSw
    obtain ⟨_, o0, o1, o2, o3⟩ := hO.but hSw hne
    go_simp
  simp only [Act.put, List.setIfInBounds_toArray, List.set_cons_zero, List.set_cons_succ]
  refine wpAnyH_take (i := 6) (oi := _) (v := .int .i64 (Kt : Int)) g10_6 (by kernel_rfl) (by kernel_rfl) (by kernel_rfl) (fun _ _ _ h => h) (Or.inl ⟨by rfl, ?_⟩) (by assumption) ?_
  · intro V hSw
    try dsimp only at hSw
    go_simp
  simp only [Act.put, List.setIfInBounds_toArray, List.set_cons_zero, List.set_cons_succ]
  refine wpAnyH_ready (rs := [1]) (by kernel_rfl) (by simp) ?_
  refine AllReadyH.cons (o := _) g10_1 (fun K hK => ?_) AllReadyH.nil
  go_simp
  have hO9 := hO.keep (bnew w8 (.cells #[.int .i64 (-1)] 3))
  have hZ9 := hZ.keep (bnew w8 (.cells #[.int .i64 (-1)] 3))
  have hb9 := btrans hb2 (bnew w8 (.cells #[.int .i64 (-1)] 3))
  refine hK.out _ _ (Kept.of (bnew _ _)) (fun _ => ?_)
  clear hK K
  refine wpAnyH_ready (rs := [7]) (by kernel_rfl) (by simp) ?_
  refine AllReadyH.cons (o := _) g10_7 (fun K hK => ?_) AllReadyH.nil
  go_simp
  refine (unhide HR _ _ (by simp) (by simp [go_sem])).mono ?_
  rintro e w9 ⟨q, rfl, hq, hcr, hb10⟩
  replace hO9 := hO9.keep hb10
  replace hZ9 := hZ9.keep hb10
  have hb11 := btrans hb9 hb10
  have hq2 : W.heap.size + 1 < q := by have := hZ.1; simp at hq; omega
  refine hK.out _ _ ((Kept.of (bnew _ _)).below hb10) (fun _ => ?_)
  clear hK K
  refine wpAnyH_take (i := 8) (oi := _) (v := pcV w h p n cap q Kt) g10_8 (by kernel_rfl) (by kernel_rfl) (by kernel_rfl) (fun _ _ _ h => h) (Or.inl ⟨by rfl, ?_⟩) (by assumption) ?_
  · intro V hSw
    try dsimp only at hSw
    go_simp
  simp only [Act.put, List.setIfInBounds_toArray, List.set_cons_zero, List.set_cons_succ]
  refine wpAnyH_ready (rs := [9]) (by kernel_rfl) (by simp) ?_
  refine AllReadyH.cons (o := _) g10_9 (fun K hK => ?_) AllReadyH.nil
  have z0 := hZ9.2 0 _ rfl
  have z1 := hZ9.2 1 _ rfl
  have z2 := hZ9.2 2 _ rfl
  have z3 := hZ9.2 3 _ rfl
  have z4 := hZ9.2 4 _ rfl
  obtain ⟨x0, y0⟩ := z0
  obtain ⟨x1, y1⟩ := z1
  obtain ⟨x2, y2⟩ := z2
  obtain ⟨x3, y3⟩ := z3
  obtain ⟨x4, y4⟩ := z4
  obtain ⟨w12, hw12, hb12, hk12, hx12⟩ := put49 hb11 hge hZ9 rfl (.int .i64 4) (.int .i64 (w : Int)) (.int .i64 (h : Int)) (.slice p n cap) (.slice (some ⟨q, 0, none⟩) Kt Kt)
  go_simp
  refine hK.out _ _ (((Kept.of (bnew _ _)).below hb10).trans hk12) (fun _ => ?_)
  clear hK K
  have HX := hide hx12
  have HC := hide (hcr.but hk12 (by omega))
  have HB := hide hb12
  clear hO hZ hb2 hO9 hZ9 hb9 hb10 hb11 hk12 hx12 hcr x0 y0 x1 y1 x2 y2 x3 y3 x4 y4 hw12 HR e1 e2
  refine wpAnyH_done (by kernel_rfl) ?_ _
  refine NoPanic.normal ?_
  have u0 := ((unhide HX).2 0 _ rfl).1
  have u1 := ((unhide HX).2 1 _ rfl).1
  have u2 := ((unhide HX).2 2 _ rfl).1
  have u3 := ((unhide HX).2 3 _ rfl).1
  have u4 := ((unhide HX).2 4 _ rfl).1
  go_wp2_with fail
  exact bodyPost_ret (v := pcV w h p n cap q Kt) (by simp [results, Try.results23, go_sem, u0, u1, u2, u3, u4]) rfl ⟨q, rfl, by omega, unhide HC, unhide HB⟩

set_option maxRecDepth 100000 in
set_option maxHeartbeats 2000000 in
theorem strung_any (W : World) (w h : Nat) (p : Option Addr) (n cap cb Kt : Nat) (hK : Kt = w + h) (h1 : 1 ≤ h) : Calls Try.prog 25 #[pcV w h p n cap cb Kt] W fun e w' =>
    e = .returned (sg (some ⟨cb, 0, none⟩) w w (some ⟨cb, w, none⟩) h h) ∧ Below W.heap.size W w' := by
  have e1 : (Kt : Int) - (w : Int) = (h : Int) := by omega
  have e2 : Kt - w = h := by omega
  have e3 : (w : Int) < (Kt : Int) := by omega
  have e4 : (w : Int) ≤ (Kt : Int) := by omega
  have e5 : Kt ≠ w := by omega
  have hb := bnew W (.cells (pcC w h p n cap cb Kt) 49)
  have hO := OwnP.new W w h p n cap cb Kt 49
  clear hK h1
  go_enter Try.func25, Try.ntmps25
  go_wp2_with fail
  go_quiet (fail)
  go_wp2_with fail
  have hb2 := bal (o := .cells #[.slice none 0 0, .slice none 0 0] 24) hb
  have hZ := Bx.new (W.alloc (.cells (pcC w h p n cap cb Kt) 49)) #[.slice none 0 0, .slice none 0 0] 24
  replace hO := hO.keep (bnew (W.alloc (.cells (pcC w h p n cap cb Kt) 49)) (.cells #[.slice none 0 0, .slice none 0 0] 24))
  rw [World.size_alloc] at hZ
  generalize (W.alloc (.cells (pcC w h p n cap cb Kt) 49)).alloc (.cells #[.slice none 0 0, .slice none 0 0] 24) = w0 at *
  have hne : W.heap.size ≠ W.heap.size + 1 := by omega
  have hge : W.heap.size ≤ W.heap.size + 1 := by omega
  clear hb
  replace hO := hO.keep (Joins.below_draws _ w0 nq)
  replace hZ := hZ.keep (Joins.below_draws _ w0 nq)
  replace hb2 := btrans hb2 (Joins.below_draws _ w0 nq)
  generalize w0.drewN nq = w7 at *
  replace hO := hO.keep (bdrew w7)
  replace hZ := hZ.keep (bdrew w7)
  replace hb2 := btrans hb2 (bdrew w7)
  refine wp_region_noPanic ?_
  refine wp_region_held_drew (S := fun V => Kept (fun i => i = W.heap.size + 1) w7.drew V) (by kernel_rfl) (Kept.refl _ _) ?_
  intro _
  generalize w7.drew = w8 at *
  refine wpAnyH_take (i := 0) (oi := _) (v := .pointer (some ⟨W.heap.size, 4, none⟩)) g13_0 (by kernel_rfl) (by kernel_rfl) (by kernel_rfl) (fun _ _ _ h => h) (Or.inl ⟨by rfl, ?_⟩) (by assumption) ?_
  · intro V hSw
    try dsimp only at hSw
    go_simp
  simp only [Act.put, List.setIfInBounds_toArray, List.set_cons_zero, List.set_cons_succ]
  refine wpAnyH_take (i := 1) (oi := _) (v := .slice (some ⟨cb, 0, none⟩) Kt Kt) g13_1 (by kernel_rfl) (by kernel_rfl) (by kernel_rfl) (fun _ _ _ h => h) (Or.inl ⟨by rfl, ?_⟩) (by assumption) ?_
  · intro V hSw
    try dsimp only at hSw
    obtain ⟨_, o0, o1, o2, o3, o4⟩ := hO.but hSw hne
    go_simp
  simp only [Act.put, List.setIfInBounds_toArray, List.set_cons_zero, List.set_cons_succ]
  refine wpAnyH_take (i := 2) (oi := _) (v := .int .i64 (w : Int)) g13_2 (by kernel_rfl) (by kernel_rfl) (by kernel_rfl) (fun _ _ _ h => h) (Or.inl ⟨by rfl, ?_⟩) (by assumption) ?_
  · intro V hSw
    try dsimp only at hSw
    go_simp
  simp only [Act.put, List.setIfInBounds_toArray, List.set_cons_zero, List.set_cons_succ]
  refine wpAnyH_take (i := 3) (oi := _) (v := .int .i64 (w : Int)) g13_3 (by kernel_rfl) (by kernel_rfl) (by kernel_rfl) (fun _ _ _ h => h) (Or.inl ⟨by rfl, ?_⟩) (by assumption) ?_
  · intro V hSw
    try dsimp only at hSw
    go_simp
  simp only [Act.put, List.setIfInBounds_toArray, List.set_cons_zero, List.set_cons_succ]
  refine wpAnyH_take (i := 4) (oi := _) (v := .slice (some ⟨cb, 0, none⟩) w w) g13_4 (by kernel_rfl) (by kernel_rfl) (by kernel_rfl) (fun _ _ _ h => h) (Or.inl ⟨by rfl, ?_⟩) (by assumption) ?_
  · intro V hSw
    try dsimp only at hSw
    go_simp
  simp only [Act.put, List.setIfInBounds_toArray, List.set_cons_zero, List.set_cons_succ]
  refine wpAnyH_take (i := 5) (oi := _) (v := .pointer (some ⟨W.heap.size, 4, none⟩)) g13_5 (by kernel_rfl) (by kernel_rfl) (by kernel_rfl) (fun _ _ _ h => h) (Or.inl ⟨by rfl, ?_⟩) (by assumption) ?_
  · intro V hSw
    try dsimp only at hSw
    go_simp
  simp only [Act.put, List.setIfInBounds_toArray, List.set_cons_zero, List.set_cons_succ]
  refine wpAnyH_take (i := 6) (oi := _) (v := .slice (some ⟨cb, 0, none⟩) Kt Kt) g13_6 (by kernel_rfl) (by kernel_rfl) (by kernel_rfl) (fun _ _ _ h => h) (Or.inl ⟨by rfl, ?_⟩) (by assumption) ?_
  · intro V hSw
    try dsimp only at hSw
    obtain ⟨_, o0, o1, o2, o3, o4⟩ := hO.but hSw hne
    go_simp
  simp only [Act.put, List.setIfInBounds_toArray, List.set_cons_zero, List.set_cons_succ]
  refine wpAnyH_take (i := 7) (oi := _) (v := .int .i64 (w : Int)) g13_7 (by kernel_rfl) (by kernel_rfl) (by kernel_rfl) (fun _ _ _ h => h) (Or.inl ⟨by rfl, ?_⟩) (by assumption) ?_
  · intro V hSw
    try dsimp only at hSw
    go_simp
  simp only [Act.put, List.setIfInBounds_toArray, List.set_cons_zero, List.set_cons_succ]
  refine wpAnyH_take (i := 8) (oi := _) (v := .int .i64 (Kt : Int)) g13_8 (by kernel_rfl) (by kernel_rfl) (by kernel_rfl) (fun _ _ _ h => h) (Or.inl ⟨by rfl, ?_⟩) (by assumption) ?_
  · intro V hSw
    try dsimp only at hSw
    go_simp
  simp only [Act.put, List.setIfInBounds_toArray, List.set_cons_zero, List.set_cons_succ]
  refine wpAnyH_take (i := 9) (oi := _) (v := .int .i64 (Kt : Int)) g13_9 (by kernel_rfl) (by kernel_rfl) (by kernel_rfl) (fun _ _ _ h => h) (Or.inl ⟨by rfl, ?_⟩) (by assumption) ?_
  · intro V hSw
    try dsimp only at hSw
    go_simp
  simp only [Act.put, List.setIfInBounds_toArray, List.set_cons_zero, List.set_cons_succ]
  refine wpAnyH_take (i := 10) (oi := _) (v := .slice (some ⟨cb, w, none⟩) h h) g13_10 (by kernel_rfl) (by kernel_rfl) (by kernel_rfl) (fun _ _ _ h => h) (Or.inl ⟨by rfl, ?_⟩) (by assumption) ?_
  · intro V hSw
    try dsimp only at hSw
    go_simp
  simp only [Act.put, List.setIfInBounds_toArray, List.set_cons_zero, List.set_cons_succ]
  refine wpAnyH_take (i := 11) (oi := _) (v := sg (some ⟨cb, 0, none⟩) w w (some ⟨cb, w, none⟩) h h) g13_11 (by kernel_rfl) (by kernel_rfl) (by kernel_rfl) (fun _ _ _ h => h) (Or.inl ⟨by rfl, ?_⟩) (by assumption) ?_
  · intro V hSw
    try dsimp only at hSw
    go_simp
  simp only [Act.put, List.setIfInBounds_toArray, List.set_cons_zero, List.set_cons_succ]
  refine wpAnyH_ready (rs := [12]) (by kernel_rfl) (by simp) ?_
  refine AllReadyH.cons (o := _) g13_12 (fun K hK => ?_) AllReadyH.nil
  obtain ⟨x0, y0⟩ := hZ.2 0 _ rfl
  obtain ⟨x1, y1⟩ := hZ.2 1 _ rfl
  obtain ⟨w12, hw12, hb12, hk12, hx12⟩ := put24 hb2 hge hZ rfl (.slice (some ⟨cb, 0, none⟩) w w) (.slice (some ⟨cb, w, none⟩) h h)
  go_simp
  refine hK.out _ _ (hk12) (fun _ => ?_)
  clear hK K
  have HX := hide hx12
  have HB := hide hb12
  clear hO hZ hb2 hk12 hx12 hb12 x0 y0 x1 y1 hw12 e1 e2 e3 e4
  refine wpAnyH_done (by kernel_rfl) ?_ _
  refine NoPanic.normal ?_
  have u0 := ((unhide HX).2 0 _ rfl).1
  have u1 := ((unhide HX).2 1 _ rfl).1
  go_wp2_with fail
  exact bodyPost_ret (v := sg (some ⟨cb, 0, none⟩) w w (some ⟨cb, w, none⟩) h h) (by simp [results, Try.results25, go_sem, u0, u1]) rfl ⟨rfl, unhide HB⟩
end Go.Proofs.Ytbmgjoocpbikkaa
