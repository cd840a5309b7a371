/-
  Package dye: parts of colours.
-/
import Derived.Test.YtlilmchlddiacaaBase
import Derived.Test.YtlilmchlddiacaaFy
import Derived.Laws.FloatArith
namespace Go.Proofs.Ytlilmchlddiacaa
open Go.RowKit

/-- three parts -/
abbrev pvV (p : Nat → Nat) : Value := .agg #[.float .f64 (p 0), .float .f64 (p 1), .float .f64 (p 2)]
/-- is it no less, no more? -/
def geB (x c : Nat) : Bool := FloatKind.f64.format.order x c == some .gt || FloatKind.f64.format.order x c == some .eq
def leB (x c : Nat) : Bool := FloatKind.f64.format.order x c == some .lt || FloatKind.f64.format.order x c == some .eq
/-- from nought to one -/
def unB (x : Nat) : Bool := geB x 0 && leB x 4607182418800017408
/-- a share that may be -/
def shB (x : Nat) : Bool := geB x 4517110426252607488 && leB x 4697254411347427328
def faB (p : Nat → Nat) : Bool := unB (p 0) && unB (p 1) && unB (p 2)

set_option maxHeartbeats 2000000 in
theorem unit_any (x : Nat) (W : World) : Calls Try.prog 30 #[.float .f64 x] W fun e w' => e = .returned (.bool (unB x)) ∧ Below W.heap.size W w' := by
  obtain ⟨o1, h1⟩ : ∃ o, FloatKind.f64.format.order x 0 = o := ⟨_, rfl⟩
  obtain ⟨o2, h2⟩ : ∃ o, FloatKind.f64.format.order x 4607182418800017408 = o := ⟨_, rfl⟩
  have Hu := hide (show unB x = ((o1 == some .gt || o1 == some .eq) && (o2 == some .lt || o2 == some .eq)) by unfold unB geB leB; rw [h1, h2])
  rw [unhide Hu]
  clear Hu
  rcases o1 with _ | (_ | _ | _) <;> rcases o2 with _ | (_ | _ | _) <;>
  · go_enter Try.func30, Try.ntmps30
    go_wp2
    go_ret
    exact ⟨rfl, Below.refl _ _⟩
set_option maxHeartbeats 2000000 in
theorem share_any (x : Nat) (W : World) : Calls Try.prog 17 #[.float .f64 x] W fun e w' => e = .returned (.bool (shB x)) ∧ Below W.heap.size W w' := by
  obtain ⟨o1, h1⟩ : ∃ o, FloatKind.f64.format.order x 4517110426252607488 = o := ⟨_, rfl⟩
  obtain ⟨o2, h2⟩ : ∃ o, FloatKind.f64.format.order x 4697254411347427328 = o := ⟨_, rfl⟩
  have Hu := hide (show shB x = ((o1 == some .gt || o1 == some .eq) && (o2 == some .lt || o2 == some .eq)) by unfold shB geB leB; rw [h1, h2])
  rw [unhide Hu]
  clear Hu
  rcases o1 with _ | (_ | _ | _) <;> rcases o2 with _ | (_ | _ | _) <;>
  · go_enter Try.func17, Try.ntmps17
    go_wp2
    go_ret
    exact ⟨rfl, Below.refl _ _⟩

/-- three parts in memory, that may be written -/
def FR (W : World) (b : Nat) (f : Nat → Nat) : Prop := b < W.heap.size ∧ ∀ j, j < 3 → W.cell? ⟨b, j, none⟩ = some (.float .f64 (f j)) ∧ W.frozen? ⟨b, j, none⟩ = false
theorem FR.keep {W V : World} {b : Nat} {f : Nat → Nat} (h : FR W b f) (hb : Below W.heap.size W V) : FR V b f :=
  ⟨Nat.lt_of_lt_of_le h.1 hb.size, fun j hj => ⟨keepC hb h.1 (h.2 j hj).1, keepF hb h.1 (h.2 j hj).2⟩⟩
theorem FR.kept {S : Nat → Prop} {W V : World} {b : Nat} {f : Nat → Nat} (h : FR W b f) (hK : Kept S W V) (hS : ¬ S b) : FR V b f :=
  ⟨Nat.lt_of_lt_of_le h.1 hK.size, fun j hj => ⟨hK.cell h.1 hS (h.2 j hj).1, hK.froz h.1 hS (h.2 j hj).2⟩⟩
theorem FR.new (W : World) (f : Nat → Nat) (t : TypeId) : FR (W.alloc (.cells #[.float .f64 (f 0), .float .f64 (f 1), .float .f64 (f 2)] t)) W.heap.size f := by
  refine ⟨by simp, fun j hj => ?_⟩
  rcases (show j = 0 ∨ j = 1 ∨ j = 2 by omega) with rfl | rfl | rfl <;> simp [go_sem]
/-- the first x are g's, the others f's -/
def fup (f g : Nat → Nat) (x : Nat) : Nat → Nat := fun j => if j < x then g j else f j
theorem fup_zero (f g : Nat → Nat) : fup f g 0 = f := by funext j; simp [fup]
theorem FR.put {W : World} {b x : Nat} {f g : Nat → Nat} {v : Nat} (h : FR W b (fup f g x)) (hv : g x = v) : FR (W.setCell ⟨b, x, none⟩ (.float .f64 v)) b (fup f g (x + 1)) := by
  refine ⟨by simpa using h.1, fun j hj => ⟨?_, fset (h.2 j hj).2⟩⟩
  by_cases e : j = x
  · subst e
    rw [show fup f g (j + 1) j = v by unfold fup; rw [if_pos (by omega)]; exact hv]
    exact csame (h.2 j hj).1
  · rw [show fup f g (x + 1) j = fup f g x j by unfold fup; by_cases h2 : j < x; rw [if_pos h2, if_pos (by omega)]; rw [if_neg h2, if_neg (by omega)]]
    exact cset (h.2 j hj).1 e
theorem fup_at (f g : Nat → Nat) (x : Nat) : fup f g x x = f x := by unfold fup; rw [if_neg (by omega)]

theorem FR.ext {W : World} {b : Nat} {f g : Nat → Nat} (h : FR W b f) (hg : ∀ j, j < 3 → f j = g j) : FR W b g :=
  ⟨h.1, fun j hj => by rw [← hg j hj]; exact h.2 j hj⟩
theorem fup_three (f g : Nat → Nat) (j : Nat) (hj : j < 3) : fup f g 3 j = g j := by unfold fup; rw [if_pos hj]
/-- three parts are written -/
theorem FR.put3 {W : World} {b : Nat} {f : Nat → Nat} (h : FR W b f) (g : Nat → Nat) : ∃ V, ((W.setCell ⟨b, 0, none⟩ (.float .f64 (g 0))).setCell ⟨b, 1, none⟩ (.float .f64 (g 1))).setCell ⟨b, 2, none⟩ (.float .f64 (g 2)) = V ∧ FR V b g ∧ Kept (fun i => i = b) W V := by
  refine ⟨_, rfl, ?_, (((Kept.refl (fun i => i = b) W).set 0 _ (.inl rfl)).set 1 _ (.inl rfl)).set 2 _ (.inl rfl)⟩
  have h0 : FR W b (fup f g 0) := by rw [fup_zero]; exact h
  exact (((h0.put rfl).put rfl).put rfl).ext (fun j hj => fup_three f g j hj)
/-- two boxes of three parts -/
theorem two_boxes (W : World) (p : Nat → Nat) (t u : TypeId) : ∃ V, (W.alloc (.cells #[.float .f64 (p 0), .float .f64 (p 1), .float .f64 (p 2)] t)).alloc (.cells #[.float .f64 0, .float .f64 0, .float .f64 0] u) = V ∧ FR V W.heap.size p ∧ FR V (W.heap.size + 1) (fun _ => 0) ∧ Below W.heap.size W V := by
  refine ⟨_, rfl, (FR.new W p t).keep (bnew _ _), ?_, bal (bnew _ _)⟩
  have := FR.new (W.alloc (.cells #[.float .f64 (p 0), .float .f64 (p 1), .float .f64 (p 2)] t)) (fun _ => 0) u
  simpa using this
/-- two boxes, both of something -/
theorem two_full (W : World) (p q : Nat → Nat) (t u : TypeId) : ∃ V, (W.alloc (.cells #[.float .f64 (p 0), .float .f64 (p 1), .float .f64 (p 2)] t)).alloc (.cells #[.float .f64 (q 0), .float .f64 (q 1), .float .f64 (q 2)] u) = V ∧ FR V W.heap.size p ∧ FR V (W.heap.size + 1) q ∧ Below W.heap.size W V := by
  refine ⟨_, rfl, (FR.new W p t).keep (bnew _ _), ?_, bal (bnew _ _)⟩
  have := FR.new (W.alloc (.cells #[.float .f64 (p 0), .float .f64 (p 1), .float .f64 (p 2)] t)) q u
  simpa using this
/-- three boxes -/
theorem three_boxes (W : World) (p q : Nat → Nat) (t u v : TypeId) : ∃ V, ((W.alloc (.cells #[.float .f64 (p 0), .float .f64 (p 1), .float .f64 (p 2)] t)).alloc (.cells #[.float .f64 (q 0), .float .f64 (q 1), .float .f64 (q 2)] u)).alloc (.cells #[.float .f64 0, .float .f64 0, .float .f64 0] v) = V ∧ FR V W.heap.size p ∧ FR V (W.heap.size + 1) q ∧ FR V (W.heap.size + 1 + 1) (fun _ => 0) ∧ Below W.heap.size W V := by
  obtain ⟨V, hV, h1, h2, h3⟩ := two_full W p q t u
  have hs : V.heap.size = W.heap.size + 1 + 1 := by rw [← hV]; simp
  refine ⟨_, rfl, ?_, ?_, ?_, ?_⟩
  · rw [hV]; exact h1.keep (bnew _ _)
  · rw [hV]; exact h2.keep (bnew _ _)
  · rw [hV, ← hs]; exact FR.new V (fun _ => 0) v
  · rw [hV]; exact bal h3
/-- a float is stored -/
theorem stF : ∀ (w : World) (a : Addr) (b : Nat) (m : Mode), (store a (.float .f64 b) m).run Try.prog w = stored Try.prog w a (.float .f64 b) m := fun w a _ m => run_store Try.prog w a _ m rfl
set_option maxHeartbeats 1000000 in
theorem partsOf_any (p : Nat → Nat) (W : World) : Calls Try.prog 18 #[pvV p] W fun e w' => e = .returned (pvV p) ∧ Below W.heap.size W w' := by
  obtain ⟨w0, E, hA, hB, hb⟩ := two_boxes W p 26 45
  obtain ⟨V, E2, hV, hK⟩ := hB.put3 p
  have Hb := hide (Kept.back hb hK hb.size (fun i hi => by omega))
  have a0 := (hA.2 0 (by omega)).1
  have a1 := (hA.2 1 (by omega)).1
  have a2 := (hA.2 2 (by omega)).1
  have b0 := (hB.2 0 (by omega)).1
  have b1 := (hB.2 1 (by omega)).1
  have b2 := (hB.2 2 (by omega)).1
  have f0 := (hB.2 0 (by omega)).2
  have f1 := (hB.2 1 (by omega)).2
  have f2 := (hB.2 2 (by omega)).2
  have HV := hide hV
  clear hV hA hB hK hb
  unfold pvV
  have hst := stF
  go_enter Try.func18, Try.ntmps18
  go_upto_region 1 with fail
  clear E
  generalize W.heap.size + 1 = n1 at *
  generalize W.heap.size = n0 at a0 a1 a2 ⊢
  go_wp2
  have v0 := ((unhide HV).2 0 (by omega)).1
  have v1 := ((unhide HV).2 1 (by omega)).1
  have v2 := ((unhide HV).2 2 (by omega)).1
  exact bodyPost_ret (v := .agg #[.float .f64 (p 0), .float .f64 (p 1), .float .f64 (p 2)]) (by simp [results, Try.results18, go_sem, v0, v1, v2]) rfl ⟨rfl, unhide Hb⟩
set_option maxHeartbeats 1000000 in
theorem dye_any (p : Nat → Nat) (W : World) : Calls Try.prog 23 #[pvV p] W fun e w' => e = .returned (pvV p) ∧ Below W.heap.size W w' := by
  obtain ⟨w0, E, hA, hB, hb⟩ := two_boxes W p 45 26
  obtain ⟨V, E2, hV, hK⟩ := hB.put3 p
  have Hb := hide (Kept.back hb hK hb.size (fun i hi => by omega))
  have a0 := (hA.2 0 (by omega)).1
  have a1 := (hA.2 1 (by omega)).1
  have a2 := (hA.2 2 (by omega)).1
  have b0 := (hB.2 0 (by omega)).1
  have b1 := (hB.2 1 (by omega)).1
  have b2 := (hB.2 2 (by omega)).1
  have f0 := (hB.2 0 (by omega)).2
  have f1 := (hB.2 1 (by omega)).2
  have f2 := (hB.2 2 (by omega)).2
  have HV := hide hV
  clear hV hA hB hK hb
  unfold pvV
  have hst := stF
  go_enter Try.func23, Try.ntmps23
  go_upto_region 1 with fail
  clear E
  generalize W.heap.size + 1 = n1 at *
  generalize W.heap.size = n0 at a0 a1 a2 ⊢
  go_wp2
  have v0 := ((unhide HV).2 0 (by omega)).1
  have v1 := ((unhide HV).2 1 (by omega)).1
  have v2 := ((unhide HV).2 2 (by omega)).1
  exact bodyPost_ret (v := .agg #[.float .f64 (p 0), .float .f64 (p 1), .float .f64 (p 2)]) (by simp [results, Try.results23, go_sem, v0, v1, v2]) rfl ⟨rfl, unhide Hb⟩
set_option maxHeartbeats 1000000 in
theorem times_any (p r : Nat → Nat) (s : Nat) (h : ∀ j, j < 3 → floatBits .mul .f64 s (p j) = some (r j)) (W : World) : Calls Try.prog 21 #[pvV p, .float .f64 s] W fun e w' => e = .returned (pvV r) ∧ Below W.heap.size W w' := by
  obtain ⟨w0, E, hA, hB, hb⟩ := two_boxes W p 45 45
  have H := hide h
  have HA := hide hA
  have HB := hide hB
  have Hb := hide hb
  clear h hA hB hb
  unfold pvV
  have hst := stF
  go_enter Try.func21, Try.ntmps21
  go_upto_region 1 with fail
  clear E
  obtain ⟨n1, hn1⟩ : ∃ n1, W.heap.size + 1 = n1 := ⟨_, rfl⟩
  obtain ⟨n0, hn0⟩ : ∃ n0, W.heap.size = n0 := ⟨_, rfl⟩
  have Hn := hide (And.intro hn0 hn1)
  rw [hn1] at HB ⊢
  rw [hn0] at HA ⊢
  clear hn0 hn1
  go_wp2
  go_loopw [6] (fun i wr => ∃ x : Nat, x ≤ 3 ∧ i = .int .i64 x ∧ FR wr n0 (fup p r x) ∧ FR wr n1 (fun _ => 0) ∧ Below W.heap.size W wr) (fun i _ => 3 - (intOf i).toNat)
  case atStart => exact ⟨0, by omega, rfl, by rw [fup_zero]; exact unhide HA, unhide HB, unhide Hb⟩
  case round =>
    clear HA HB Hb
    obtain ⟨x, hx, rfl, hF, hG, hb⟩ := hrel
    by_cases hlt : x < 3
    · have q0 : (x : Int) < 3 := by omega
      have q1 : (0 : Int) ≤ (x : Int) := by omega
      have kx := (hF.2 x hlt).1
      rw [fup_at] at kx
      have kf := (hF.2 x hlt).2
      have hop : ∀ t w, (binOp .mul t (.float .f64 s) (.float .f64 (p x))).run Try.prog w = .ok (.float .f64 (r x)) w := fun t w => run_float_arith w .mul t .f64 _ _ _ (unhide H x hlt)
      have HF := hide (hF.put (v := r x) rfl)
      have HG := hide (hG.kept (kset wr n0 x (.float .f64 (r x))) (by have := unhide Hn; omega))
      have Hb := hide (bset (p := ⟨n0, x, none⟩) (u := .float .f64 (r x)) hb (by have := unhide Hn; show W.heap.size ≤ n0; omega))
      generalize p x = px at *
      generalize r x = rx at *
      clear hF hG hb
      go_wp2
      go_roundw
      case rel => exact ⟨x + 1, by omega, by go_num, unhide HF, unhide HG, unhide Hb⟩
      case measure => simp [intOf]; omega
    · obtain rfl : x = 3 := by omega
      have cl : ¬ ((3 : Int) < 3) := by omega
      have hF3 := hF.ext (fun j hj => fup_three p r j hj)
      obtain ⟨V, E2, hV, hK⟩ := hG.put3 r
      have Hb := hide (Kept.back hb hK hb.size (fun i hi => by have := unhide Hn; omega))
      have a0 := (hF3.2 0 (by omega)).1
      have a1 := (hF3.2 1 (by omega)).1
      have a2 := (hF3.2 2 (by omega)).1
      have b0 := (hG.2 0 (by omega)).1
      have b1 := (hG.2 1 (by omega)).1
      have b2 := (hG.2 2 (by omega)).1
      have f0 := (hG.2 0 (by omega)).2
      have f1 := (hG.2 1 (by omega)).2
      have f2 := (hG.2 2 (by omega)).2
      have v0 := (hV.2 0 (by omega)).1
      have v1 := (hV.2 1 (by omega)).1
      have v2 := (hV.2 2 (by omega)).1
      clear hF hF3 hG hb hV hK H
      go_wp2
      exact bodyPost_ret (v := .agg #[.float .f64 (r 0), .float .f64 (r 1), .float .f64 (r 2)]) (by simp [results, Try.results21, go_sem, v0, v1, v2]) rfl ⟨rfl, unhide Hb⟩
set_option maxHeartbeats 1000000 in
theorem over_any (p r : Nat → Nat) (s : Nat) (h : ∀ j, j < 3 → floatBits .quo .f64 (p j) s = some (r j)) (W : World) : Calls Try.prog 22 #[pvV p, .float .f64 s] W fun e w' => e = .returned (pvV r) ∧ Below W.heap.size W w' := by
  obtain ⟨w0, E, hA, hB, hb⟩ := two_boxes W p 45 45
  have H := hide h
  have HA := hide hA
  have HB := hide hB
  have Hb := hide hb
  clear h hA hB hb
  unfold pvV
  have hst := stF
  go_enter Try.func22, Try.ntmps22
  go_upto_region 1 with fail
  clear E
  obtain ⟨n1, hn1⟩ : ∃ n1, W.heap.size + 1 = n1 := ⟨_, rfl⟩
  obtain ⟨n0, hn0⟩ : ∃ n0, W.heap.size = n0 := ⟨_, rfl⟩
  have Hn := hide (And.intro hn0 hn1)
  rw [hn1] at HB ⊢
  rw [hn0] at HA ⊢
  clear hn0 hn1
  go_wp2
  go_loopw [6] (fun i wr => ∃ x : Nat, x ≤ 3 ∧ i = .int .i64 x ∧ FR wr n0 (fup p r x) ∧ FR wr n1 (fun _ => 0) ∧ Below W.heap.size W wr) (fun i _ => 3 - (intOf i).toNat)
  case atStart => exact ⟨0, by omega, rfl, by rw [fup_zero]; exact unhide HA, unhide HB, unhide Hb⟩
  case round =>
    clear HA HB Hb
    obtain ⟨x, hx, rfl, hF, hG, hb⟩ := hrel
    by_cases hlt : x < 3
    · have q0 : (x : Int) < 3 := by omega
      have q1 : (0 : Int) ≤ (x : Int) := by omega
      have kx := (hF.2 x hlt).1
      rw [fup_at] at kx
      have kf := (hF.2 x hlt).2
      have hop : ∀ t w, (binOp .quo t (.float .f64 (p x)) (.float .f64 s)).run Try.prog w = .ok (.float .f64 (r x)) w := fun t w => run_float_arith w .quo t .f64 _ _ _ (unhide H x hlt)
      have HF := hide (hF.put (v := r x) rfl)
      have HG := hide (hG.kept (kset wr n0 x (.float .f64 (r x))) (by have := unhide Hn; omega))
      have Hb := hide (bset (p := ⟨n0, x, none⟩) (u := .float .f64 (r x)) hb (by have := unhide Hn; show W.heap.size ≤ n0; omega))
      generalize p x = px at *
      generalize r x = rx at *
      clear hF hG hb
      go_wp2
      go_roundw
      case rel => exact ⟨x + 1, by omega, by go_num, unhide HF, unhide HG, unhide Hb⟩
      case measure => simp [intOf]; omega
    · obtain rfl : x = 3 := by omega
      have cl : ¬ ((3 : Int) < 3) := by omega
      have hF3 := hF.ext (fun j hj => fup_three p r j hj)
      obtain ⟨V, E2, hV, hK⟩ := hG.put3 r
      have Hb := hide (Kept.back hb hK hb.size (fun i hi => by have := unhide Hn; omega))
      have a0 := (hF3.2 0 (by omega)).1
      have a1 := (hF3.2 1 (by omega)).1
      have a2 := (hF3.2 2 (by omega)).1
      have b0 := (hG.2 0 (by omega)).1
      have b1 := (hG.2 1 (by omega)).1
      have b2 := (hG.2 2 (by omega)).1
      have f0 := (hG.2 0 (by omega)).2
      have f1 := (hG.2 1 (by omega)).2
      have f2 := (hG.2 2 (by omega)).2
      have v0 := (hV.2 0 (by omega)).1
      have v1 := (hV.2 1 (by omega)).1
      have v2 := (hV.2 2 (by omega)).1
      clear hF hF3 hG hb hV hK H
      go_wp2
      exact bodyPost_ret (v := .agg #[.float .f64 (r 0), .float .f64 (r 1), .float .f64 (r 2)]) (by simp [results, Try.results22, go_sem, v0, v1, v2]) rfl ⟨rfl, unhide Hb⟩
end Go.Proofs.Ytlilmchlddiacaa
