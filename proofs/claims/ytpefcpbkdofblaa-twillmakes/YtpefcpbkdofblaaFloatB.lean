/-
  longest of package truth.
-/
import Derived.Test.YtpefcpbkdofblaaFloatA
namespace Go.Proofs.Ytpefcpbkdofblaa
open Go.RowKit Go.Shelf

attribute [local go_sem] Oper.semAt_some

/-- the longest run of what is v in the rows of truths -/
def lgM (f : Nat → Bool) (v : Bool) (w h : Nat) : Nat := mxN (fun y => lgI (soF (fun x => f (y * w + x)) v) w) h
def mxL (G : Nat → Nat) (l : List Nat) : Nat := l.foldl (fun m y => max m (G y)) 0
theorem mxL_snoc (G : Nat → Nat) (l : List Nat) (y : Nat) : mxL G (l ++ [y]) = max (mxL G l) (G y) := by simp [mxL]
theorem mxL_range (G : Nat → Nat) (k : Nat) : mxL G (List.range k) = mxN G k := by
  induction k with
  | zero => rfl
  | succ k ih => rw [List.range_succ, mxL_snoc, ih]; rfl

def LgI (w0 : World) (Bm h : Nat) (G : Nat → Nat) (l : List (Fin h)) (V : World) : Prop := Boxed V Bm 3 (.int .i64 (mxL G (l.map (·.1)) : Nat)) ∧ Kept (fun k => k = Bm) w0 V
theorem lgI_own (w0 : World) (Bm h : Nat) (G : Nat → Nat) : OwnFrom w0.heap.size (LgI w0 Bm h G) :=
  OwnFrom.and (Own.from (boxed_own Bm 3 (fun l : List (Fin h) => .int .i64 (mxL G (l.map (·.1)) : Nat))) _) (fun _ _ _ _ hs hg hr => hs.grown hg (fun r e => .inl (hr r e).1))

set_option maxRecDepth 100000 in
set_option maxHeartbeats 1000000 in
theorem longest_in (w h : Nat) (p : Option Addr) (n cap : Nat) (f : Nat → Bool) (v : Bool) (W : World) (r : Rt W w h p n cap f) :
    CallsIn Fence.wide 9 Try.prog 31 #[tr w h p n cap, .bool v] W fun e w' => e = .returned (.int .i64 (lgM f v w h : Nat)) ∧ Below W.heap.size W w' := by
  have hw := r.1
  have hh := r.2.1
  have Hn := hide r.2.2.1
  have Hf := hide r.2.2.2
  have B0 := bal (o := .cells #[.int .i64 0] 3) (bal (o := .cells #[.bool v] 4) (bal (o := .cells #[.int .i64 w, .int .i64 h, .slice p n cap] 25) (Below.refl W.heap.size W)))
  have S0 := hide B0
  have M0 := hide (((OwnM.new W w h p n cap 25).alloc (.cells #[.bool v] 4)).alloc (.cells #[.int .i64 0] 3))
  have V0 := (Boxed.new (W.alloc (.cells #[.int .i64 w, .int .i64 h, .slice p n cap] 25)) 4 (.bool v)).alloc (.cells #[.int .i64 0] 3)
  have X0 := Boxed.new ((W.alloc (.cells #[.int .i64 w, .int .i64 h, .slice p n cap] 25)).alloc (.cells #[.bool v] 4)) 3 (.int .i64 0)
  rw [World.size_alloc] at V0 X0
  rw [World.size_alloc] at X0
  have HV := hide V0
  have HX := hide X0
  have hs0 : (((W.alloc (.cells #[.int .i64 w, .int .i64 h, .slice p n cap] 25)).alloc (.cells #[.bool v] 4)).alloc (.cells #[.int .i64 0] 3)).heap.size = W.heap.size + 1 + 1 + 1 := by simp
  have Hs0 := hide hs0
  have m0 := (unhide M0).2
  clear B0 V0 X0 hs0 r
  refine callsIn_of_wp_marks Try.func31 rfl trivial ?_ rfl
  simp only [Try.ntmps31, List.size_toArray, List.length_cons, List.length_nil, Nat.reduceAdd, Nat.reduceSub, Array.replicate_succ, Array.replicate_zero, List.push_toArray, List.append_toArray, List.nil_append, List.cons_append]
  gi_wp2_with fail
  clear m0
  generalize ((W.alloc (.cells #[.int .i64 w, .int .i64 h, .slice p n cap] 25)).alloc (.cells #[.bool v] 4)).alloc (.cells #[.int .i64 0] 3) = w3 at *
  refine ⟨trivial, (callsIn_wide.2 (rows_any w h p n cap w3)).mono ?_⟩
  rintro e w6 ⟨rfl, rfl⟩
  gi_wp2_with fail
  have B6 := bal (o := .cells #[.int .i64 w, .int .i64 h, .slice p n cap] 25) (Below.refl w3.heap.size w3)
  have S6 := hide (btrans (unhide S0) B6)
  have V6 := hide ((unhide HV).alloc (.cells #[.int .i64 w, .int .i64 h, .slice p n cap] 25))
  have X6 := hide ((unhide HX).alloc (.cells #[.int .i64 w, .int .i64 h, .slice p n cap] 25))
  have N6 := hide (OwnM.new w3 w h p n cap 25)
  clear S0 M0 HV HX B6
  generalize hw6 : w3.alloc (.cells #[.int .i64 w, .int .i64 h, .slice p n cap] 25) = w6 at *
  have hsz : w3.heap.size < w6.heap.size := by rw [← hw6]; simp
  have hs3 := unhide Hs0
  clear hw6 Hs0
  generalize w3.heap.size = bm at *
  subst hs3
  have hcp : h * w ≤ cap := by rw [Nat.mul_comm, ← unhide Hn]; exact (unhide Hf).1
  refine wpIn_rangeFunc_ownG rfl (by omega) (gf := 39) (lb := #[.pointer (some ⟨W.heap.size + 1 + 1 + 1, 0, none⟩)]) rfl trivial (enters_of Try.func39 (by kernel_rfl) rfl)
    (rows_stops _ (W.heap.size + 1 + 1 + 1) w h n p cap hw hh hcp w6 (unhide N6)) kpB_t (kpB_b hsz) (Below.refl _ _) (fun _ => rfl)
    (LgI w6 (W.heap.size + 1 + 1) h (fun y => lgI (soF (fun x => f (y * w + x)) v) w)) (fun _ _ _ => False) (lgI_own _ _ _ _) (fun _ _ _ _ _ hs _ _ => hs)
    ⟨unhide X6, Kept.refl _ _⟩ ?a1 ?assign ?body ?done ?stop
  case assign =>
    intro l x V K hK
    gi_wp2
    exact hK
  case stop =>
    rintro D c pre V _ _ h _
    exact h.elim
  case body =>
    rintro l pre ⟨y, hy⟩ V hI _
    have hVz : w6.heap.size ≤ V.heap.size := hI.2.2.2.2.1
    obtain ⟨hx, hk⟩ := hI
    have hbs := hk.bs ((unhide Hf).keep (unhide S6)) (fun q hq => (unhide Hf).off (by omega))
    rw [unhide Hn] at hbs
    have HL := hide (show ∀ V', Below V.heap.size V V' → Calls Try.prog 38 #[rowV p cap w y, .bool v] V' fun e w' => e = .returned (.int .i64 (lgI (soF (fun x => f (y * w + x)) v) w : Nat)) ∧ Below V'.heap.size V' w' from fun V' hb => longestIn_any _ w _ _ v V' hw ((hbs.keep hb).row hy))
    have HI := hide (show ∀ X, LgI w6 (W.heap.size + 1 + 1) h (fun y => lgI (soF (fun x => f (y * w + x)) v) w) (pre ++ [⟨y, hy⟩]) X = (Boxed X (W.heap.size + 1 + 1) 3 (.int .i64 (max (mxL (fun y => lgI (soF (fun x => f (y * w + x)) v) w) (pre.map (·.1))) (lgI (soF (fun x => f (y * w + x)) v) w) : Nat)) ∧ Kept (fun k => k = W.heap.size + 1 + 1) w6 X) from fun X => by
      unfold LgI; rw [List.map_append, List.map_cons, List.map_nil, mxL_snoc])
    have hG := lgI_le (soF (fun x => f (y * w + x)) v) w hw
    generalize lgI (soF (fun x => f (y * w + x)) v) w = g at *
    generalize mxL (fun y => lgI (soF (fun x => f (y * w + x)) v) w) (pre.map (·.1)) = m at *
    have x1 := hx.cell
    have x2 := hx.frozen
    have v1 := hk.cell (p := ⟨W.heap.size + 1, 0, none⟩) (by dsimp only; omega) (by dsimp only; omega) (unhide V6).cell
    have Hx := hide hx
    have HK := hide hk
    have hmx : Try.prog.follows .mixedOrders = true := by kernel_rfl
    have hxl : W.heap.size + 1 + 1 < V.heap.size := by omega
    have Fin' := hide (show ∀ (w1 : World) (u : Nat), Below V.heap.size V w1 → u = max m g → KeepsFrom w6.heap.size V (w1.setCell ⟨W.heap.size + 1 + 1, 0, none⟩ (.int .i64 (u : Nat))) ∧ KpB (W.heap.size + 1 + 1 + 1) V (w1.setCell ⟨W.heap.size + 1 + 1, 0, none⟩ (.int .i64 (u : Nat))) ∧ LgI w6 (W.heap.size + 1 + 1) h (fun y => lgI (soF (fun x => f (y * w + x)) v) w) (pre ++ [⟨y, hy⟩]) (w1.setCell ⟨W.heap.size + 1 + 1, 0, none⟩ (.int .i64 (u : Nat))) from fun w1 u hbb hu => by
      have g2 : V.grownBy (w1.setCell ⟨W.heap.size + 1 + 1, 0, none⟩ (.int .i64 (u : Nat))) (some (W.heap.size + 1 + 1)) := gset (gbelow (some (W.heap.size + 1 + 1)) hbb) 0 _
      refine ⟨KeepsFrom.of_grownBy g2 (fun j e => by cases e; omega), KpB.of_grown g2 (by omega) (fun e => by have := Option.some.inj e; omega), ?_⟩
      rw [unhide HI, ← hu]
      exact ⟨(hx.kept (gbelow none hbb) (by simp)).set _, hk.grown g2 (fun r e => by cases e; exact .inr rfl)⟩)
    clear hx hk hbs
    dsimp only [rowV]
    gi_wp2
    gi_region_with_o (refine ⟨trivial, ?_⟩; gi_at_call 38; refine (CallsIn.inRound l (callsIn_wide.2 (unhide HL _ (Below.drew (Below.refl _ _))))).mono ?_; rintro e w1 ⟨rfl, hb⟩; have hbb := btrans (Below.drew (Below.refl V.heap.size V)) hb; have y1 := keepC hbb hxl x1; have y2 := keepF hbb hxl x2)
    all_goals gi_wp2
    all_goals (refine unhide Fin' _ _ hbb ?_; omega)
  case done =>
    rintro D ys V hD hys hI hK
    have x1 := hI.1.cell
    rw [hys, mxL_range] at x1
    have K7 := hide hI.2
    have HD := hide hD
    have HZ := hide (show mxN (fun y => lgI (soF (fun x => f (y * w + x)) v) w) h = lgM f v w h from rfl)
    clear hI hD hys
    gi_wp2
    have hD' := unhide HD
    have hs6 := (unhide S6).size
    have hg := grownBy_putObj' V D (.deferred none)
    refine ⟨by simp, .inl ⟨_, _, rfl, run_takeDeferred hK, .int .i64 (lgM f v w h : Nat), ?_, rfl, ?_⟩⟩
    · rw [← unhide HZ]; simp [results, Try.f31, go_sem]
    · exact (((unhide K7).grown hg (fun r e => by cases e; exact .inl hD')).back (unhide S6) (fun q e => by omega))

theorem longest_ok {W : World} {w h : Nat} {p : Option Addr} {n cap : Nat} {f : Nat → Bool} (v : Bool) (r : Rt W w h p n cap f) :
    Calls Try.prog 31 #[tr w h p n cap, .bool v] W fun e w' => e = .returned (.int .i64 (lgM f v w h : Nat)) ∧ Below W.heap.size W w' :=
  (callsIn_wide (n := 9)).1 (longest_in w h p n cap f v W r)
end Go.Proofs.Ytpefcpbkdofblaa
