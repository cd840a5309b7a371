/-
  The reference's Read: what is wrong is told.
-/
import Derived.Test.YtbnjjkanokmakaaDoorRJ
namespace Go.Proofs.YtbnjjkanokmakaaDoor
open Go.RowKit

theorem gb6_0 {a0 a1 a2 a3 a4 a5 : Oper} : (#[a0, a1, a2, a3, a4, a5] : Array Oper)[0]? = some a0 := rfl
theorem gb6_1 {a0 a1 a2 a3 a4 a5 : Oper} : (#[a0, a1, a2, a3, a4, a5] : Array Oper)[1]? = some a1 := rfl
theorem gb6_2 {a0 a1 a2 a3 a4 a5 : Oper} : (#[a0, a1, a2, a3, a4, a5] : Array Oper)[2]? = some a2 := rfl
theorem gb6_3 {a0 a1 a2 a3 a4 a5 : Oper} : (#[a0, a1, a2, a3, a4, a5] : Array Oper)[3]? = some a3 := rfl
theorem gb6_4 {a0 a1 a2 a3 a4 a5 : Oper} : (#[a0, a1, a2, a3, a4, a5] : Array Oper)[4]? = some a4 := rfl
theorem gb6_5 {a0 a1 a2 a3 a4 a5 : Oper} : (#[a0, a1, a2, a3, a4, a5] : Array Oper)[5]? = some a5 := rfl

set_option maxRecDepth 100000 in
set_option maxHeartbeats 2000000 in
theorem bad_any (W : World) (b p : Nat) (er : Int) (h : Oz W b p) : Calls Tryd.prog 21 #[.int .i64 er, .pointer (some ⟨b, 0, none⟩)] W fun e V => e = .returned (.tuple #[sV false none 0 0, .agg #[.int .i64 er, .int .i64 (p : Int)]]) ∧ Below W.heap.size W V := by
  have b1 := bnew W (.cells #[.bool false, .slice none 0 0] 24)
  have b2 := bnew (W.alloc (.cells #[.bool false, .slice none 0 0] 24)) (.cells #[.int .i64 0, .int .i64 0] 27)
  have HS := (show ReS W W.heap.size (W.heap.size + 1) ((W.alloc (.cells #[.bool false, .slice none 0 0] 24)).alloc (.cells #[.int .i64 0, .int .i64 0] 27)) from ⟨b1.trans (b2.mono b1.size), (BSx.new W false (.slice none 0 0) 24).keep b2, by
    have := Bx.new (W.alloc (.cells #[.bool false, .slice none 0 0] 24)) 0 0 27
    rwa [show (W.alloc (.cells #[.bool false, .slice none 0 0] 24)).heap.size = W.heap.size + 1 by simp] at this⟩)
  have HO := (h.keep b1).keep b2
  have hlt := h.1
  clear b1 b2 h
  go_enter Tryd.func21, Tryd.ntmps21
  go_upto_region 1 with fail
  generalize (W.alloc (.cells #[.bool false, .slice none 0 0] 24)).alloc (.cells #[.int .i64 0, .int .i64 0] 27) = w2 at *
  replace HS := HS.keep (bdrew w2)
  replace HO := HO.keep (bdrew w2)
  have hn1 : W.heap.size ≠ W.heap.size + 1 := by omega
  have hn2 : W.heap.size + 1 ≠ W.heap.size := by omega
  have hb1 : b ≠ W.heap.size := by omega
  have hb2 : b ≠ W.heap.size + 1 := by omega
  refine wp_region_noPanic ?_
  refine wp_region_held_drew (S := fun V => Oz V b p) (by kernel_rfl) (HO) ?_
  intro _
  generalize w2.drew = w3 at *
  refine wpAnyH_take (i := 0) (oi := _) (v := .agg #[.bool false, .slice none 0 0]) gb6_0 (by kernel_rfl) (by kernel_rfl) (by kernel_rfl) (fun _ _ _ h => h) (Or.inl ⟨by rfl, ?_⟩) (by assumption) ?_
  · intro V hSw
    try dsimp only at hSw
    go_simp
  simp only [Act.put, List.setIfInBounds_toArray, List.set_cons_zero, List.set_cons_succ]
  refine wpAnyH_take (i := 1) (oi := _) (v := .int .i64 er) gb6_1 (by kernel_rfl) (by kernel_rfl) (by kernel_rfl) (fun _ _ _ h => h) (Or.inl ⟨by rfl, ?_⟩) (by assumption) ?_
  · intro V hSw
    try dsimp only at hSw
    go_simp
  simp only [Act.put, List.setIfInBounds_toArray, List.set_cons_zero, List.set_cons_succ]
  refine wpAnyH_take (i := 2) (oi := _) (v := .int .i64 (p : Int)) gb6_2 (by kernel_rfl) (by kernel_rfl) (by kernel_rfl) (fun _ _ _ h => h) (Or.inl ⟨by rfl, ?_⟩) (by assumption) ?_
  · intro V hSw
    try dsimp only at hSw
    obtain ⟨-, o0, -⟩ := hSw
    go_simp
  simp only [Act.put, List.setIfInBounds_toArray, List.set_cons_zero, List.set_cons_succ]
  refine wpAnyH_take (i := 3) (oi := _) (v := .agg #[.int .i64 er, .int .i64 (p : Int)]) gb6_3 (by kernel_rfl) (by kernel_rfl) (by kernel_rfl) (fun _ _ _ h => h) (Or.inl ⟨by rfl, ?_⟩) (by assumption) ?_
  · intro V hSw
    try dsimp only at hSw
    go_simp
  simp only [Act.put, List.setIfInBounds_toArray, List.set_cons_zero, List.set_cons_succ]
  obtain ⟨U, hU, r1, r2, u0, u1, u2, u3⟩ := HS.fill (by omega) (by omega) hn1 false (.slice none 0 0) er (p : Int)
  obtain ⟨-, ⟨⟨-, x0, x1⟩, fx⟩, ⟨⟨-, y0, y1⟩, fy⟩⟩ := HS
  have fx0 := fx 0
  have fx1 := fx 1
  have fy0 := fy 0
  have fy1 := fy 1
  have O1 : Oz ((w3.setCell ⟨W.heap.size, 0, none⟩ (.bool false)).setCell ⟨W.heap.size, 1, none⟩ (.slice none 0 0)) b p := (HO.but (kset w3 W.heap.size 0 _) hb1).but (kset _ W.heap.size 1 _) hb1
  have O2 : Oz U b p := by
    rw [← hU]
    exact (O1.but (kset _ (W.heap.size + 1) 0 _) hb2).but (kset _ (W.heap.size + 1) 1 _) hb2
  clear fx fy r2
  refine wpAnyH_ready (rs := [4]) (by kernel_rfl) (by simp) ?_
  refine AllReadyH.cons (o := _) gb6_4 (fun K hK => ?_) AllReadyH.nil
  go_simp
  refine hK.out _ _ (O1) (fun _ => ?_)
  clear hK K
  refine wpAnyH_ready (rs := [5]) (by kernel_rfl) (by simp) ?_
  refine AllReadyH.cons (o := _) gb6_5 (fun K hK => ?_) AllReadyH.nil
  go_simp
  refine hK.out _ _ (O2) (fun _ => ?_)
  clear hK K
  refine wpAnyH_done (by kernel_rfl) ?_ _
  refine NoPanic.normal ?_
  go_wp2_with fail
  exact bodyPost_ret (v := .tuple #[sV false none 0 0, .agg #[.int .i64 er, .int .i64 (p : Int)]]) (by simp [results, Tryd.results21, sV, go_sem, u0, u1, u2, u3]) rfl ⟨rfl, r1⟩
end Go.Proofs.YtbnjjkanokmakaaDoor
