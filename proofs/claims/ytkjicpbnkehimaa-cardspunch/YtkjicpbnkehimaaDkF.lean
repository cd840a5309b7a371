/-
  What Unpack of package cards answers.
-/
import Derived.Test.YtkjicpbnkehimaaDkE
namespace Go.Proofs.Ytkjicpbnkehimaa
open Go.RowKit

/-- a deck is read, or something is wrong with it -/
def UnpPost (W : World) (s : ByteArray) (e : Ending) (w' : World) : Prop := Below W.heap.size W w' ∧
  ((∃ x : Nat, unp s.data.toList = .inl x ∧ e = .returned (.tuple #[.agg #[.int .i64 0, .int .i64 0, .slice none 0 0], .agg #[.int .i64 2, .int .i64 x]])) ∨
   (∃ (w h : Nat) (g : Nat → Bool) (q : Option Addr) (cap : Nat), unp s.data.toList = .inr (w, h, g) ∧ e = .returned (.tuple #[tr w h q (w * h) cap, .agg #[.int .i64 0, .int .i64 0]]) ∧ Rt w' w h q (w * h) cap g))
/-- two results in their boxes, one behind the other -/
def Bx2 (W : World) (b : Nat) : Prop := b + 1 < W.heap.size ∧ W.cell? ⟨b, 0, none⟩ = some (.int .i64 0) ∧ W.cell? ⟨b, 1, none⟩ = some (.int .i64 0) ∧ W.cell? ⟨b, 2, none⟩ = some (.slice none 0 0) ∧ W.frozen? ⟨b, 0, none⟩ = false ∧ W.frozen? ⟨b, 1, none⟩ = false ∧ W.frozen? ⟨b, 2, none⟩ = false ∧ W.cell? ⟨b + 1, 0, none⟩ = some (.int .i64 0) ∧ W.cell? ⟨b + 1, 1, none⟩ = some (.int .i64 0) ∧ W.frozen? ⟨b + 1, 0, none⟩ = false ∧ W.frozen? ⟨b + 1, 1, none⟩ = false
theorem Bx2.grown {a c : World} {row : Option Nat} {b : Nat} (k : Bx2 a b) (hg : a.grownBy c row) (h1 : some b ≠ row) (h2 : some (b + 1) ≠ row) : Bx2 c b := by
  obtain ⟨k0, k1, k2, k3, k4, k5, k6, k7, k8, k9, k10⟩ := k
  have l1 : b < a.heap.size := by omega
  exact ⟨Nat.lt_of_lt_of_le k0 hg.size, gcell hg l1 h1 k1, gcell hg l1 h1 k2, gcell hg l1 h1 k3, gfroz hg l1 h1 k4, gfroz hg l1 h1 k5, gfroz hg l1 h1 k6, gcell hg k0 h2 k7, gcell hg k0 h2 k8, gfroz hg k0 h2 k9, gfroz hg k0 h2 k10⟩

set_option maxRecDepth 100000 in
set_option maxHeartbeats 2000000 in
theorem unpack_any (s : ByteArray) (hm : s.size ≤ maxLen) (W : World) : Calls Try.prog 8 #[.string s] W (UnpPost W s) := by
  have Hm := hide hm
  clear hm
  go_enter Try.func8, Try.ntmps8
  go_wp2_with fail
  have hb0 : Below W.heap.size W (((W.alloc (.cells #[.int .i64 0, .int .i64 0, .slice none 0 0] 24)).alloc (.cells #[.int .i64 0, .int .i64 0] 29)).alloc (.cells #[.string s, .int .i64 0] 55)) := bal (bal (bal (Below.refl _ _)))
  have HS0 := hide hb0
  have HK0 := hide (show Dk (((W.alloc (.cells #[.int .i64 0, .int .i64 0, .slice none 0 0] 24)).alloc (.cells #[.int .i64 0, .int .i64 0] 29)).alloc (.cells #[.string s, .int .i64 0] 55)) (W.heap.size + 1 + 1) s 0 from ⟨by simp, by simp [go_sem], by simp [go_sem], by simp [go_sem]⟩)
  have HX0 := hide (show Bx2 (((W.alloc (.cells #[.int .i64 0, .int .i64 0, .slice none 0 0] 24)).alloc (.cells #[.int .i64 0, .int .i64 0] 29)).alloc (.cells #[.string s, .int .i64 0] 55)) W.heap.size from ⟨by simp, by simp [go_sem], by simp [go_sem], by simp [go_sem], by simp [go_sem], by simp [go_sem], by simp [go_sem], by simp [go_sem], by simp [go_sem], by simp [go_sem], by simp [go_sem]⟩)
  clear hb0
  generalize ((W.alloc (.cells #[.int .i64 0, .int .i64 0, .slice none 0 0] 24)).alloc (.cells #[.int .i64 0, .int .i64 0] 29)).alloc (.cells #[.string s, .int .i64 0] 55) = w0 at *
  have nx1 : some W.heap.size ≠ some (W.heap.size + 1 + 1) := by intro e; have := Option.some.inj e; omega
  have nx2 : some (W.heap.size + 1) ≠ some (W.heap.size + 1 + 1) := by intro e; have := Option.some.inj e; omega
  have HC := hide (show ∀ a c : World, Below W.heap.size W a → a.grownBy c (some (W.heap.size + 1 + 1)) → Below W.heap.size W c from fun a c ha hg => ha.grown hg ha.size (fun k hk => by have := Option.some.inj hk; omega))
  have N1 := hide nx1
  have N2 := hide nx2
  clear nx1 nx2
  refine (head_any (unhide HK0) (unhide Hm)).mono ?_
  rintro e w1 ⟨hg1, hcase⟩
  have HX1 := hide ((unhide HX0).grown hg1 (unhide N1) (unhide N2))
  have HS1 := hide (unhide HC _ _ (unhide HS0) hg1)
  clear hg1 HX0 HS0 HK0
  rcases hcase with ⟨x, v1, v2, hhd, rfl, hk⟩ | ⟨hhd, rfl, hk, h5, b3, b4⟩
  · have HK1 := hide hk
    have HU := hide (show unp s.data.toList = .inl x by unfold unp; rw [hhd])
    clear hk hhd
    have HF := hide (fault_any (unhide HK1))
    go_wp2_with fail
    refine (unhide HF).mono ?_
    rintro e wf ⟨rfl, hbf⟩
    have HBx := hide ((unhide HX1).grown (gbelow none hbf) (by simp) (by simp))
    have HS := hide (btrans (unhide HS1) hbf)
    clear hbf HF
    obtain ⟨-, k1, k2, k3, k4, k5, k6, k7, k8, k9, k10⟩ := unhide HBx
    go_wp2
    exact bodyPost_ret (v := .tuple #[.agg #[.int .i64 0, .int .i64 0, .slice none 0 0], .agg #[.int .i64 2, .int .i64 x]]) (by simp [results, Try.results8, go_sem, k1, k2, k3, k7, k8]) rfl ⟨by
      repeat first | exact unhide HS | refine bset ?_ (by simp; try omega), .inl ⟨x, unhide HU, rfl⟩⟩
  · have HK1 := hide hk
    have HU := hide (show unp s.data.toList = tl s.data.toList (rdR s.data.toList (bya s.data.toList 3) (bya s.data.toList 4) 64 0 5 (fun _ => false)) by unfold unp; rw [hhd])
    have HF3 := hide (show ∀ a g x, fin s.data.toList a g = .inl x → rdR s.data.toList (bya s.data.toList 3) (bya s.data.toList 4) 64 0 5 (fun _ => false) = .inr (a, g) → unp s.data.toList = .inl x from fun a g x e1 e2 => by rw [unhide HU, e2]; exact e1)
    have HF4 := hide (show ∀ a g, fin s.data.toList a g = .inr (bya s.data.toList 3, bya s.data.toList 4, g) → rdR s.data.toList (bya s.data.toList 3) (bya s.data.toList 4) 64 0 5 (fun _ => false) = .inr (a, g) → unp s.data.toList = .inr (bya s.data.toList 3, bya s.data.toList 4, g) from fun a g e1 e2 => by rw [unhide HU, e2]; exact e1)
    have HRr := hide (drows_any hk h5 (unhide Hm) (bya s.data.toList 3) (bya s.data.toList 4) b3 b4)
    have HE := hide (show ∀ V a, Dk V (W.heap.size + 1 + 1) s a → a ≤ s.size → a ≤ 600 → Calls Try.prog 28 #[.pointer (some ⟨W.heap.size + 1 + 1, 0, none⟩)] V (EndPost V (W.heap.size + 1 + 1) s a) from fun V a h1 h2 h3 => end_any h1 h2 h3 (unhide Hm))
    unfold EndPost at HE
    clear hk hhd h5
    generalize bya s.data.toList 3 = ww at *
    generalize bya s.data.toList 4 = hh at *
    go_wp2_with fail
    refine (unhide HRr).mono ?_
    rintro e w2 ⟨hg2, hcase⟩
    have Hd1 := hide (unhide HK1).1
    have HX2 := hide ((unhide HX1).grown hg2 (unhide N1) (unhide N2))
    have HS2 := hide (unhide HC _ _ (unhide HS1) hg2)
    clear hg2 HX1 HS1 HK1 HRr
    rcases hcase with ⟨x, hrd, rfl, hk⟩ | ⟨a, g, q, cap, hrd, rfl, hq, hbs, hk, ha, ha6⟩
    · have HK2 := hide hk
      have HUx := hide (show unp s.data.toList = .inl x by rw [unhide HU, hrd]; rfl)
      clear hk hrd
      have HF := hide (fault_any (unhide HK2))
      go_wp2_with fail
      refine (unhide HF).mono ?_
      rintro e wf ⟨rfl, hbf⟩
      have HBx := hide ((unhide HX2).grown (gbelow none hbf) (by simp) (by simp))
      have HS := hide (btrans (unhide HS2) hbf)
      clear hbf HF
      obtain ⟨-, k1, k2, k3, k4, k5, k6, k7, k8, k9, k10⟩ := unhide HBx
      go_wp2
      exact bodyPost_ret (v := .tuple #[.agg #[.int .i64 0, .int .i64 0, .slice none 0 0], .agg #[.int .i64 2, .int .i64 x]]) (by simp [results, Try.results8, go_sem, k1, k2, k3, k7, k8]) rfl ⟨by
        repeat first | exact unhide HS | refine bset ?_ (by simp; try omega), .inl ⟨x, unhide HUx, rfl⟩⟩
    · have HE2 := hide (unhide HE w2 a hk ha ha6)
      have Hrd := hide hrd
      have Hbs := hide hbs
      have Hq := hide (show W.heap.size + 1 + 1 < q from by have h1 := unhide Hd1; omega)
      clear hk ha ha6 hrd hbs hq HE
      go_wp2_with fail
      refine (unhide HE2).mono ?_
      rintro e w3 ⟨hg3, x, b, rfl, hk, HFn⟩
      have HX3 := hide ((unhide HX2).grown hg3 (unhide N1) (unhide N2))
      have HS3 := hide (unhide HC _ _ (unhide HS2) hg3)
      have HK3 := hide hk
      have Hbs3 := hide ((unhide Hbs).grown hg3 (.inr (fun e he => by cases he; have := unhide Hq; show q ≠ _; omega)))
      clear hg3 hk HX2 HS2 HE2 Hbs
      cases b
      · have HUx := hide (show unp s.data.toList = .inl x from unhide HF3 a g x (by have := unhide HFn g; simpa using this) (unhide Hrd))
        clear HFn Hrd
        have HF := hide (fault_any (unhide HK3))
        go_wp2_with fail
        refine (unhide HF).mono ?_
        rintro e wf ⟨rfl, hbf⟩
        have HBx := hide ((unhide HX3).grown (gbelow none hbf) (by simp) (by simp))
        have HS := hide (btrans (unhide HS3) hbf)
        clear hbf HF
        obtain ⟨-, k1, k2, k3, k4, k5, k6, k7, k8, k9, k10⟩ := unhide HBx
        go_wp2
        exact bodyPost_ret (v := .tuple #[.agg #[.int .i64 0, .int .i64 0, .slice none 0 0], .agg #[.int .i64 2, .int .i64 x]]) (by simp [results, Try.results8, go_sem, k1, k2, k3, k7, k8]) rfl ⟨by
          repeat first | exact unhide HS | refine bset ?_ (by simp; try omega), .inl ⟨x, unhide HUx, rfl⟩⟩
      · have HUx := hide (unhide HF4 a g (by have := unhide HFn g; simpa using this) (unhide Hrd))
        clear HFn Hrd
        obtain ⟨-, k1, k2, k3, k4, k5, k6, k7, k8, k9, k10⟩ := unhide HX3
        go_wp2
        refine bodyPost_ret (v := .tuple #[tr ww hh (some ⟨q, 0, none⟩) (ww * hh) cap, .agg #[.int .i64 0, .int .i64 0]]) (by simp [results, Try.results8, go_sem, k1, k2, k3, k7, k8]) rfl ⟨?_, .inr ⟨ww, hh, g, _, cap, unhide HUx, rfl, b3, b4, rfl, ?_⟩⟩
        · repeat first | exact unhide HS3 | refine bset ?_ (by simp; try omega)
        · have n1 : Off (some ⟨q, 0, none⟩) (ww * hh) W.heap.size := .inr (fun e he => by cases he; have := unhide Hq; show q ≠ _; omega)
          have n2 : Off (some ⟨q, 0, none⟩) (ww * hh) (W.heap.size + 1) := .inr (fun e he => by cases he; have := unhide Hq; show q ≠ _; omega)
          refine Bs.grown ?_ (gset (gset (World.grownBy.refl _ _) _ _) _ _) n2
          exact (unhide Hbs3).grown (gset (gset (gset (World.grownBy.refl _ _) _ _) _ _) _ _) n1
end Go.Proofs.Ytkjicpbnkehimaa
