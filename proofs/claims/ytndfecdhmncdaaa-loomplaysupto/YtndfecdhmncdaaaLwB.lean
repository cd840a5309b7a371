/-
  LoomPlays: the law's walk, over what both looms answer.
-/
import Derived.Test.YtndfecdhmncdaaaPlC
import Derived.Test.YtndfecdhmncdaaaLvB
namespace Go.Proofs.Ytndfecdhmncdaaa
open Go.RowKit

theorem seen_at {B : Nat} {W : World} {q c m : Nat} {els : List (Sn × Value)} {i : Nat} (h : W.ownsRow B 34 6 (.slice (some ⟨q, 0, none⟩) m c) m (snsV els)) (hi : i < m) (hm : els.length = m) : ∃ e, els[i]? = some e ∧ e ∈ els ∧ W.cell? ⟨q, i * 6, none⟩ = some (.int .i64 e.1.1) ∧ W.cell? ⟨q, i * 6 + 1, none⟩ = some (.int .i64 e.1.2.1) ∧ W.cell? ⟨q, i * 6 + 2, none⟩ = some (.int .i64 (e.1.2.2.1 : Nat)) ∧ W.cell? ⟨q, i * 6 + 3, none⟩ = some e.2 ∧ W.cell? ⟨q, i * 6 + 4, none⟩ = some (.int .i64 e.1.2.2.2.2.1) ∧ W.cell? ⟨q, i * 6 + 5, none⟩ = some (.int .i64 e.1.2.2.2.2.2) := by
  have hl : i < els.length := by omega
  obtain ⟨e, he⟩ : ∃ e, els[i]? = some e := ⟨_, List.getElem?_eq_getElem hl⟩
  have g := snsV_get els i e he
  refine ⟨e, he, List.mem_of_getElem? he, ?_, ?_, ?_, ?_, ?_, ?_⟩
  · have := g 0 (by omega); rw [Nat.add_zero] at this; rw [h.cellAt (i * 6) (by omega), this]; rfl
  · rw [h.cellAt (i * 6 + 1) (by omega), g 1 (by omega)]; rfl
  · rw [h.cellAt (i * 6 + 2) (by omega), g 2 (by omega)]; rfl
  · rw [h.cellAt (i * 6 + 3) (by omega), g 3 (by omega)]; rfl
  · rw [h.cellAt (i * 6 + 4) (by omega), g 4 (by omega)]; rfl
  · rw [h.cellAt (i * 6 + 5) (by omega), g 5 (by omega)]; rfl
theorem bdr {B : Nat} {W V : World} (h : Below B W V) : Below B W V.drew := ⟨h.os, h.tape, h.output, h.size, h.block⟩
def boF (f : Nat → Bool) (w : Nat) : Option Nat → Nat → Bool
  | none, _ => false
  | some y, x => f (y * w + x)
def els_len (l : List (Sn × Value)) : Nat := l.length
theorem own_bits {B : Nat} {W : World} {f : Nat → Bool} {w : Nat} {o : Option Nat} {v : Value} (h : W.ownsRow B 4 1 v (lnO w o) (biO f w o)) : ∃ q c, v = .slice q (lnO w o) c ∧ Bs W q (lnO w o) c (boF f w o) := by
  obtain ⟨q, c, rfl⟩ := own_form h
  refine ⟨q, c, rfl, ?_⟩
  cases o with
  | none => exact ⟨Nat.zero_le _, .inl rfl⟩
  | some y => exact own_bs h

set_option maxRecDepth 100000 in
set_option maxHeartbeats 8000000 in
theorem plays_of {W : World} (w h : Int) (p : Option Addr) (n cap : Nat) (f : Nat → Bool) (ww : Nat) (hww : ww ≤ 4096) (wq : Option Addr) (nw wcp : Nat) (sq : Option Addr) (m sc : Nat) (hnw : nw ≤ 1048576) (hms : m ≤ 1048576) (L : List Sn) (g : Nat → Int)
    (H1 : ∀ V, Below W.heap.size W V → Calls Try.prog 5 #[tr w h p n cap, .slice wq nw wcp, .slice sq m sc] V fun e w' => ∃ q c dq dc, e = .returned (.tuple #[.slice q m c, .slice dq nw dc, .bool true]) ∧ SeenIs V.heap.size w' f ww m nw L g q c dq ∧ Below V.heap.size V w')
    (H2 : ∀ V, Below W.heap.size W V → Calls Try.prog 6 #[tr w h p n cap, .slice wq nw wcp, .slice sq m sc] V fun e w' => ∃ q c dq dc, e = .returned (.tuple #[.slice q m c, .slice dq nw dc]) ∧ SeenIs V.heap.size w' f ww m nw L g q c dq ∧ Below V.heap.size V w') :
    LawIs 3 #[tr w h p n cap, .slice wq nw wcp, .slice sq m sc] W := by
  unfold LawIs
  have HO := hide (OwnM.new W w h p n cap 24)
  have B0 := hide (bal (o := .cells #[.int .i64 w, .int .i64 h, .slice p n cap] 24) (Below.refl W.heap.size W))
  have HH1 := hide H1
  have HH2 := hide H2
  clear H1 H2
  go_enter Try.func3, Try.ntmps3
  go_upto_region 1 with fail
  generalize W.alloc (.cells #[.int .i64 w, .int .i64 h, .slice p n cap] 24) = w0 at *
  obtain ⟨-, m1, m2, m3⟩ := unhide HO
  go_wp2_with fail
  refine (unhide HH1 _ (unhide B0)).mono ?_
  rintro e w1 ⟨q1, c1, dq1, dc1, rfl, hS1, hb1⟩
  have HO1 := hide ((unhide HO).keep hb1)
  have B1 := hide (btrans (unhide B0) hb1)
  have HS1 := hide hS1
  clear hb1 hS1 m1 m2 m3
  obtain ⟨-, m1, m2, m3⟩ := unhide HO1
  go_wp2_with fail
  refine (unhide HH2 _ (unhide B1)).mono ?_
  rintro e w2 ⟨q2, c2, dq2, dc2, rfl, hS2, hb2⟩
  have B2 := hide (btrans (unhide B1) hb2)
  obtain ⟨el1, he1, ho1, hl1, hi1⟩ := unhide HS1
  obtain ⟨el2, he2, ho2, hl2, hi2⟩ := hS2
  have HI1 := hide (hi1.keep hb2)
  have HI2 := hide hi2
  have HO1' := hide (own_keep ho1 hb2)
  have HO2' := hide ho2
  have HL1 := hide (hl1.keep hb2)
  have HL2 := hide hl2
  have Hlen := hide (show els_len el1 = m ∧ els_len el2 = m from ⟨by have := ho1.1; rw [snsV_len] at this; unfold els_len; omega, by have := ho2.1; rw [snsV_len] at this; unfold els_len; omega⟩)
  have HE := hide (show el1.map Prod.fst = el2.map Prod.fst by rw [he1, he2])
  clear hb2 he1 he2 ho1 ho2 hl1 hl2 hi1 hi2 HS1 m1 m2 m3
  have cc1 : ((m : Int) != (m : Int)) = false := by simp
  have cc2 : ((nw : Int) != (nw : Int)) = false := by simp
  go_wp2
  go_loopw [49] (fun i wr => ∃ x : Nat, x ≤ nw ∧ i = .int .i64 x ∧ Below w2.heap.size w2 wr) (fun i _ => nw - (intOf i).toNat)
  case atStart => exact ⟨0, Nat.zero_le _, rfl, Below.refl _ _⟩
  case round =>
    obtain ⟨x, hx, rfl, hb⟩ := hrel
    have Hb := hide hb
    by_cases hlt : x < nw
    · have q0 : (x : Int) < (nw : Int) := by omega
      have q1' : (0 : Int) ≤ (x : Int) := by omega
      obtain ⟨b1, o1, hq1, -, e1⟩ := ((unhide HI1).keep hb).at hlt
      obtain ⟨b2, o2, hq2, -, e2⟩ := ((unhide HI2).keep hb).at hlt
      subst hq1
      subst hq2
      generalize g x = v at *
      clear hb
      have hv : (v != v) = false := by simp
      go_wp2_with fail
      go_quiet (fail)
      go_wp2
      go_roundw
      case rel => exact ⟨x + 1, by omega, by go_num, (unhide Hb).trans (Joins.below_draws _ _ _)⟩
      case measure => simp [intOf]; omega
    · obtain rfl : nw = x := by omega
      have cl : ¬ ((nw : Int) < (nw : Int)) := by omega
      have B3 := hide (btrans (unhide B2) hb)
      clear hb
      go_wp2
      go_loopw [64] (fun i wz => ∃ k : Nat, k ≤ m ∧ i = .int .i64 k ∧ Below w2.heap.size w2 wz) (fun i _ => m - (intOf i).toNat)
      case atStart => exact ⟨0, Nat.zero_le _, rfl, unhide Hb⟩
      case round =>
        clear cl
        obtain ⟨k, hk, rfl, hb⟩ := hrel
        have Hb2 := hide hb
        by_cases hlk : k < m
        · have q0 : (k : Int) < (m : Int) := by omega
          have q1' : (0 : Int) ≤ (k : Int) := by omega
          have hA := own_keep (unhide HO1') hb
          have hC := own_keep (unhide HO2') hb
          obtain ⟨g1, d1, hg1⟩ := own_slice hA (by omega)
          obtain ⟨g2, d2, hg2⟩ := own_slice hC (by omega)
          simp only [Value.slice.injEq] at hg1 hg2
          obtain ⟨rfl, -, rfl⟩ := hg1
          obtain ⟨rfl, -, rfl⟩ := hg2
          obtain ⟨z1, hz1, hm1, a0, a1, a2, a3, a4, a5⟩ := seen_at hA hlk (unhide Hlen).1
          obtain ⟨z2, hz2, hm2, b0, b1, b2, b3, b4, b5⟩ := seen_at hC hlk (unhide Hlen).2
          have hf : z1.1 = z2.1 := by
            have h1 : (el1.map Prod.fst)[k]? = some z1.1 := by rw [List.getElem?_map, hz1]; rfl
            have h2 : (el2.map Prod.fst)[k]? = some z2.1 := by rw [List.getElem?_map, hz2]; rfl
            rw [unhide HE, h2] at h1
            exact (Option.some.inj h1).symm
          have hr1 := (unhide HL1).keep hb z1 hm1
          have hr2 := (unhide HL2).keep hb z2 hm2
          obtain ⟨s1, v1⟩ := z1
          obtain ⟨s2, v2⟩ := z2
          dsimp only at hf a0 a1 a2 a3 a4 a5 b0 b1 b2 b3 b4 b5 hr1 hr2
          subst hf
          obtain ⟨e0, e1, e2, e3, e4, e5⟩ := s1
          dsimp only at a0 a1 a2 a3 a4 a5 b0 b1 b2 b3 b4 b5 hr1 hr2
          obtain ⟨p1, pc1, rfl, hB1⟩ := own_bits hr1
          obtain ⟨p2, pc2, rfl, hB2⟩ := own_bits hr2
          have HSm := hide (fun V (hV : Below wr.heap.size wr V) => same_bits (hB1.keep hV) (hB2.keep hV) (fun _ _ => rfl) (by cases e3 <;> simp [lnO]; omega))
          have l1 : g1 < wr.heap.size := (hA.lt g1 rfl).2
          have l2 : g2 < wr.heap.size := (hC.lt g2 rfl).2
          have l3 : g1 ≠ wr.heap.size := by omega
          have l4 : g2 ≠ wr.heap.size := by omega
          have l5 : g1 ≠ wr.heap.size + 1 := by omega
          have l6 : g2 ≠ wr.heap.size + 1 := by omega
          clear hA hC hz1 hz2 hm1 hm2 hr1 hr2 hB1 hB2 hb
          generalize lnO ww e3 = ln at *
          have f0 : (e0 != e0) = false := by simp
          have f1 : (e1 != e1) = false := by simp
          have f2 : ((e2 : Int) != (e2 : Int)) = false := by simp
          have f4 : (e4 != e4) = false := by simp
          have f5 : (e5 != e5) = false := by simp
          go_wp2_with fail
          go_region
          all_goals
            clear a0 a1 a2 a3 a4 a5 b0 b1 b2 b3 b4 b5
            go_wp2_with fail
            refine (unhide HSm _ (bdr (bal (bal (Below.refl _ _))))).mono ?_
            rintro e w6 ⟨rfl, hb6⟩
            have S6 := hide ((unhide Hb2).trans (((bdr (bal (bal (Below.refl _ _)))).trans (hb6.mono (by simp; omega))).mono (unhide Hb2).size))
            clear hb6
            go_wp2
            go_roundw
            case rel => exact ⟨k + 1, by omega, by go_num, unhide S6⟩
            case measure => simp [intOf]; omega
        · obtain rfl : k = m := by omega
          have cl : ¬ ((k : Int) < (k : Int)) := by omega
          go_wp2
          go_ret
          exact ⟨rfl, btrans (unhide B2) hb⟩
end Go.Proofs.Ytndfecdhmncdaaa
