/-
  FabricSwaps: what has nothing to do with one another may come in either order.
-/
import Derived.Test.YtancniamgfppiaaCM
import Derived.Test.YtancniamgfppiaaFB
import Derived.Test.YtancniamgfppiaaRowB
namespace Go.Proofs.Ytancniamgfppiaa
open Go.RowKit


set_option maxRecDepth 100000 in
set_option maxHeartbeats 4000000 in
theorem swaps_no {W : World} {n : Int} {q aq : Option Addr} {l c na ac : Nat} {er at_ : Int} (her : er ≠ 0) (h : ∀ V, Below W.heap.size W V → RunNo 7 #[.int .i64 n, .slice q l c] V er at_) : LawIs 4 #[.int .i64 n, .slice q l c, .slice aq na ac] W := by
  unfold LawIs
  have HA := hide (alive_any W)
  unfold Ans at HA
  unfold RunNo at h
  have HK := hide h
  have g0 : (er != 0) = true := by simpa using her
  clear h her
  go_enter Try.func4, Try.ntmps4
  go_wp2_with fail
  refine (unhide HA).mono ?_
  rintro e w1 ⟨rfl, hb1⟩
  have S1 := hide hb1
  clear hb1
  go_wp2_with fail
  refine (unhide HK _ (unhide S1)).mono ?_
  rintro e w2 ⟨rfl, hb2⟩
  have S2 := hide (btrans (unhide S1) hb2)
  clear hb2
  go_wp2
  go_ret
  exact ⟨rfl, bal (bal (unhide S2))⟩

theorem add_off (b o j : Nat) : (⟨b, o, none⟩ : Addr).add j = ⟨b, o + j, none⟩ := by
  unfold Addr.add
  by_cases e : j = 0 <;> simp [e]
theorem stV_at (f : Nat → Sx) {n k o : Nat} (hk : k < n) (ho : o < 5) : (stV (lsG f n))[k * 5 + o]? = (stC (f k))[o]? := by
  refine stV_get (lsG f n) k (f k) ?_ o ho
  unfold lsG
  rw [List.getElem?_map, List.getElem?_range hk]
  rfl
theorem Sc.src {W : World} {q : Option Addr} {n c : Nat} {f : Nat → Sx} (h : Sc W q n f) (hq : q = none → n = 0 ∧ c = 0) : Src W 5 (.slice q n c) n (stV (lsG f n)) := by
  refine ⟨by rw [stV_len, lsG_len], ?_⟩
  cases q with
  | none =>
    obtain ⟨rfl, rfl⟩ := hq rfl
    exact .inl ⟨rfl, rfl⟩
  | some a =>
    refine .inr ⟨a, c, rfl, fun j u hj => ?_⟩
    rcases h with h | ⟨b, o, e, -, hc⟩
    · subst h
      simp [lsG, stV] at hj
    · cases e
      rw [add_off]
      have hjl : j < n * 5 := by
        rcases Nat.lt_or_ge j (n * 5) with d | d
        · exact d
        · rw [List.getElem?_eq_none (by rw [stV_len, lsG_len]; exact d)] at hj; cases hj
      have hk : j / 5 < n := by omega
      obtain ⟨c0, c1, c2, c3, c4⟩ := hc (j / 5) hk
      have hr : j % 5 < 5 := by omega
      have hjj : j = j / 5 * 5 + j % 5 := by omega
      have e2 := stV_at f hk hr
      rw [← hjj] at e2
      rw [e2] at hj
      rcases (show j % 5 = 0 ∨ j % 5 = 1 ∨ j % 5 = 2 ∨ j % 5 = 3 ∨ j % 5 = 4 by omega) with d | d | d | d | d
      · rw [d] at hj
        cases hj
        rw [show o + j = o + j / 5 * 5 by omega]; exact c0
      · rw [d] at hj
        cases hj
        rw [show o + j = o + j / 5 * 5 + 1 by omega]; exact c1
      · rw [d] at hj
        cases hj
        rw [show o + j = o + j / 5 * 5 + 2 by omega]; exact c2
      · rw [d] at hj
        cases hj
        rw [show o + j = o + j / 5 * 5 + 3 by omega]; exact c3
      · rw [d] at hj
        cases hj
        rw [show o + j = o + j / 5 * 5 + 4 by omega]; exact c4
/-- stitches in a row of one's own -/
def MR (W : World) (B : Nat) (q : Option Addr) (n c : Nat) (g : Nat → Sx) : Prop := W.ownsRow B 24 5 (.slice q n c) n (stV (lsG g n))
theorem MR.sc {W : World} {B : Nat} {q : Option Addr} {n c : Nat} {g : Nat → Sx} (h : MR W B q n c g) : Sc W q n g := by
  unfold MR at h
  have e : (lsG g n).length = n := lsG_len g n
  have h2 : W.ownsRow B 24 5 (.slice q (lsG g n).length c) (lsG g n).length (stV (lsG g n)) := by rw [e]; exact h
  have := own_sc h2
  rw [e] at this
  exact this.congr (fun j hj => lsG_get hj)
theorem MR.keep {W V : World} {B : Nat} {q : Option Addr} {n c : Nat} {g : Nat → Sx} (h : MR W B q n c g) (e : Below W.heap.size W V) : MR V B q n c g := own_keep h e
theorem MR.cap {W : World} {B : Nat} {q : Option Addr} {n c : Nat} {g : Nat → Sx} (h : MR W B q n c g) : n ≤ c := by
  rcases h.2 with ⟨e, h0⟩ | ⟨_, _, _, e, -, -, h1, -⟩
  · omega
  · simp only [Value.slice.injEq] at e
    omega
theorem MR.at {W : World} {B gm n c j : Nat} {g : Nat → Sx} (h : MR W B (some ⟨gm, 0, none⟩) n c g) (hj : j < n) : W.cell? ⟨gm, j * 5, none⟩ = some (.int .i64 (g j).dk) ∧ W.cell? ⟨gm, j * 5 + 1, none⟩ = some (.int .i64 (g j).bed) ∧ W.cell? ⟨gm, j * 5 + 2, none⟩ = some (.int .i64 (g j).ndl) ∧ W.cell? ⟨gm, j * 5 + 3, none⟩ = some (.int .i64 (g j).car) ∧ W.cell? ⟨gm, j * 5 + 4, none⟩ = some (.int .i64 (g j).tt) := by
  have e : ∀ o, o < 5 → W.cell? ⟨gm, j * 5 + o, none⟩ = (stC (g j))[o]? := fun o ho => by rw [World.ownsRow.cellAt h _ (by omega)]; exact stV_at g hj ho
  exact ⟨by have := e 0 (by omega); exact this, e 1 (by omega), e 2 (by omega), e 3 (by omega), e 4 (by omega)⟩
theorem MR.fr {W : World} {B gm n c : Nat} {g : Nat → Sx} (h : MR W B (some ⟨gm, 0, none⟩) n c g) (j : Nat) : W.frozen? ⟨gm, j, none⟩ = false := World.ownsRow.frozenAt h j
theorem stV_set (l : List Sx) : ∀ (i : Nat) (x : Sx), i < l.length → (((((stV l).set (i * 5) (.int .i64 x.dk)).set (i * 5 + 1) (.int .i64 x.bed)).set (i * 5 + 2) (.int .i64 x.ndl)).set (i * 5 + 3) (.int .i64 x.car)).set (i * 5 + 4) (.int .i64 x.tt) = stV (l.set i x) := by
  induction l with
  | nil => intro i x h; simp at h
  | cons y l ih =>
    intro i x h
    rw [show stV (y :: l) = stC y ++ stV l by simp [stV]]
    cases i with
    | zero => simp [stV]
    | succ i =>
      have := ih i x (by simpa using h)
      rw [show stV ((y :: l).set (i + 1) x) = stC y ++ stV (l.set i x) by simp [stV], ← this]
      simp only [show (i + 1) * 5 = 5 + i * 5 by omega, List.cons_append, List.nil_append, Nat.add_assoc]
      simp [List.set, Nat.add_comm 5]
/-- a stitch is put into a row -/
abbrev put5 (W : World) (gm i : Nat) (x : Sx) : World := ((((W.setCell ⟨gm, i * 5, none⟩ (.int .i64 x.dk)).setCell ⟨gm, i * 5 + 1, none⟩ (.int .i64 x.bed)).setCell ⟨gm, i * 5 + 2, none⟩ (.int .i64 x.ndl)).setCell ⟨gm, i * 5 + 3, none⟩ (.int .i64 x.car)).setCell ⟨gm, i * 5 + 4, none⟩ (.int .i64 x.tt)
theorem own_put5 {W : World} {B gm n c : Nat} {l : List Sx} (h : W.ownsRow B 24 5 (.slice (some ⟨gm, 0, none⟩) n c) n (stV l)) {i : Nat} (x : Sx) (hi : i < l.length) : (put5 W gm i x).ownsRow B 24 5 (.slice (some ⟨gm, 0, none⟩) n c) n (stV (l.set i x)) := by
  have h1 := (h.stored (i * 5) (.int .i64 x.dk)).1
  have h2 := (h1.stored (i * 5 + 1) (.int .i64 x.bed)).1
  have h3 := (h2.stored (i * 5 + 2) (.int .i64 x.ndl)).1
  have h4 := (h3.stored (i * 5 + 3) (.int .i64 x.car)).1
  have h5 := (h4.stored (i * 5 + 4) (.int .i64 x.tt)).1
  rw [stV_set l i x hi] at h5
  exact h5
theorem put5_kept (W : World) (gm i : Nat) (x : Sx) : Kept (fun k => k = gm) W (put5 W gm i x) :=
  (((((Kept.refl (fun k => k = gm) W).set (b := gm) _ _ (.inl rfl)).set (b := gm) _ _ (.inl rfl)).set (b := gm) _ _ (.inl rfl)).set (b := gm) _ _ (.inl rfl)).set (b := gm) _ _ (.inl rfl)
theorem ls_sw {g : Nat → Sx} {n i : Nat} (h : i + 1 < n) : ((lsG g n).set i (g (i + 1))).set (i + 1) (g i) = lsG (swF g i) n := by
  apply List.ext_getElem?
  intro j
  rw [List.getElem?_set, List.getElem?_set, List.length_set, lsG_len]
  rcases Nat.lt_or_ge j n with d | d
  · have e : (lsG (swF g i) n)[j]? = some (swF g i j) := by simp [lsG, d]
    rw [e]
    unfold swF
    by_cases c1 : i + 1 = j
    · rw [if_pos c1, if_pos (by omega), if_neg (by omega), if_pos c1.symm]
    · rw [if_neg c1]
      by_cases c2 : i = j
      · rw [if_pos c2, if_pos (by omega), if_pos c2.symm]
      · rw [if_neg c2, if_neg (fun q => c2 q.symm), if_neg (fun q => c1 q.symm)]
        simp [lsG, d]
  · rw [if_neg (by omega), if_neg (by omega), List.getElem?_eq_none (by rw [lsG_len]; exact d), List.getElem?_eq_none (by rw [lsG_len]; exact d)]
theorem MR.swap {W : World} {B gm n c i : Nat} {g : Nat → Sx} (h : MR W B (some ⟨gm, 0, none⟩) n c g) (hi : i + 1 < n) : MR (put5 (put5 W gm i (g (i + 1))) gm (i + 1) (g i)) B (some ⟨gm, 0, none⟩) n c (swF g i) := by
  have h1 := own_put5 h (i := i) (g (i + 1)) (by rw [lsG_len]; omega)
  have h2 := own_put5 h1 (i := i + 1) (g i) (by rw [List.length_set, lsG_len]; exact hi)
  rw [ls_sw hi] at h2
  exact h2
end Go.Proofs.Ytancniamgfppiaa
