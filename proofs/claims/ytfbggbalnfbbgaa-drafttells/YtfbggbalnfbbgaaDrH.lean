/-
  Fewest of right truths.
-/
import Derived.Test.YtfbggbalnfbbgaaDrG
namespace Go.Proofs.Ytfbggbalnfbbgaa
open Go.RowKit Go.Shelf

theorem alike_new {W : World} {w h : Nat} {p : Option Addr} {n cap : Nat} {f : Nat → Bool} (r : Rt W w h p n cap f) :
    Calls Try.prog 28 #[tr w h p n cap] W fun e V => ∃ q cp, e = .returned (.tuple #[.slice q h cp, .int .i64 0]) ∧ (Is V q h (fun k => ((nuN f w k : Nat) : Int)) ∧ ∀ j, j < W.heap.size → Off q h j) ∧ Below W.heap.size W V := by
  refine ((callsIn_wide (n := 9)).1 (alike_in w h p n cap f W r.1 r.2.1 r.2.2.1 r.2.2.2)).mono ?_
  rintro e V ⟨q, rfl, hq, hR, hb⟩
  exact ⟨_, _, rfl, ⟨hR.is.congr fun k hk => by rw [al_num f w h k hk], fun j hj => .inr fun a ea => by cases ea; dsimp only; omega⟩, hb⟩

/-- the row that came first, of each number -/
def unA (f : Nat → Bool) (w h k : Nat) : Nat := (unU f w h).getD k 0
theorem firsts_nu {W : World} {q : Option Addr} {h c : Nat} {f : Nat → Bool} {w : Nat} (hq : Is W q h (fun k => ((nuN f w k : Nat) : Int))) (hh : h ≤ 64) (hh1 : 0 < h) (m : Nat) (hm : m = (unU f w h).length) :
    Calls Try.prog 29 #[.slice q h c] W fun e V => ∃ q' cp, e = .returned (.slice q' m cp) ∧ ThO V W.heap.size q' m (unA f w h) h ∧ Below W.heap.size W V := by
  refine (firsts_any q h c (nuN f w) W hh hq m (by rw [fsL_un]; exact hm)).mono ?_
  rintro e V ⟨q', cp, rfl, ⟨hi, ho⟩, hb⟩
  refine ⟨q', cp, rfl, ⟨⟨by rw [hm]; exact un_pos f w h hh1, by rw [hm]; have := un_len f w h; omega, ?_, fun k hk => un_get f w h k (by omega)⟩, ho⟩, hb⟩
  rw [fsL_un] at hi
  exact hi
/-- the tie-up with the fewest shafts and treadles -/
def fwF (f : Nat → Bool) (w h k1 : Nat) : Nat → Bool := mdF (fun y x => f (unA f w h y * w + unA (tuF f w h) h w x)) k1

set_option maxRecDepth 100000 in
set_option maxHeartbeats 2000000 in
theorem few_ok {W : World} {w h : Nat} {p : Option Addr} {n cap : Nat} {f : Nat → Bool} (r : Rt W w h p n cap f) (hn : 0 < n) (k1 k2 m : Nat) (hk1 : k1 = (unU (tuF f w h) h w).length) (hk2 : k2 = (unU f w h).length) (hm : m = k1 * k2) :
    Calls Try.prog 11 #[tr w h p n cap] W fun e V => ∃ q1 c1 q cp q2 c2, e = .returned (.tuple #[dr q1 w c1 k1 k2 q m cp q2 h c2, .int .i64 0]) ∧
      ThO V W.heap.size q1 w (nuN (tuF f w h) h) k1 ∧ RtO V W.heap.size k1 k2 q m cp (fwF f w h k1) ∧ ThO V W.heap.size q2 h (nuN f w) k2 ∧ Below W.heap.size W V := by
  have hw := r.1
  have hh := r.2.1
  have hw0 : 0 < w := by rcases Nat.eq_zero_or_pos w with e | e; (· have := r.2.2.1; rw [e, Nat.zero_mul] at this; omega); exact e
  have hh0 : 0 < h := by rcases Nat.eq_zero_or_pos h with e | e; (· have := r.2.2.1; rw [e, Nat.mul_zero] at this; omega); exact e
  have hk64 : k1 ≤ 64 := by rw [hk1]; have := un_len (tuF f w h) h w; omega
  have hk64' : k2 ≤ 64 := by rw [hk2]; have := un_len f w h; omega
  have hn1 : ((n : Int) == 0) = false := by simp; omega
  obtain ⟨w0, E0, M, A, B0⟩ := fw_facts W w h p n cap
  have HT := hide (turned_new (r.keep B0))
  have HR := hide r
  have HE := hide E0
  have HA := hide A
  have HB := hide B0
  have Hm := hide M
  have Hk1 := hide hk1
  have Hk2 := hide hk2
  have Hmm := hide hm
  clear A B0 E0 M r hk1 hk2 hm
  go_enter Try.func11, Try.ntmps11
  go_wp2_with fail
  rw [unhide HE]
  clear HE
  refine (unhide HT).mono ?_
  rintro e w1 ⟨q, cp, rfl, hr, hb⟩
  have S := hide (bal (o := .cells #[.int .i64 h, .int .i64 w, .slice q n cp] 25) (btrans (unhide HB) hb))
  have bb := bal (o := .cells #[.int .i64 h, .int .i64 w, .slice q n cp] 25) (Below.refl w1.heap.size w1)
  have A1 := hide (((unhide HA).keep hb).keep bb)
  have M1 := hide (((unhide Hm).keep hb).keep bb)
  have C1 := hide (Tb.new hr.1)
  clear hb HB HA Hm bb hr HT
  go_upto_if 17 with fail
  generalize w1.alloc (.cells #[.int .i64 h, .int .i64 w, .slice q n cp] 25) = w2 at *
  generalize w1.heap.size = bc at *
  have HL := hide (alike_new (unhide C1).2)
  have m1 := (unhide M1).2
  have c1 := (unhide C1).1.2
  go_wp2_with fail
  clear m1 c1
  refine (unhide HL).mono ?_
  rintro e w3 ⟨qt, ct, rfl, ht, hb⟩
  have S3 := hide (btrans (unhide S) hb)
  have A3 := hide ((unhide A1).keep hb)
  have M3 := hide ((unhide M1).keep hb)
  have T3 := hide ht
  have hs3 := hb.size
  have hs2 : W.heap.size + 1 < w2.heap.size := (unhide A1).1.1
  have HL3 := hide (alike_new ((unhide HR).keep (unhide S3)))
  clear hb ht HL S A1 M1 C1
  have m1 := (unhide M3).2
  go_wp2_with fail
  clear m1
  refine (unhide HL3).mono ?_
  rintro e w4 ⟨qp, cq, rfl, ht, hb⟩
  have S4 := hide (btrans (unhide S3) hb)
  have A4 := hide ((unhide A3).keep hb)
  have M4 := hide ((unhide M3).keep hb)
  have T4 := hide ((unhide T3).1.keep hb)
  have T4o := hide (unhide T3).2
  have P4 := hide ht
  have hs4 := hb.size
  have HF4 := hide (firsts_nu (c := ct) (unhide T4) hw hw0 k1 (unhide Hk1))
  clear hb ht HL3 S3 A3 M3 T3
  go_wp2_with fail
  refine (unhide HF4).mono ?_
  rintro e w5 ⟨qe, ce, rfl, ht, hb⟩
  have S5 := hide (btrans (unhide S4) hb)
  have A5 := hide ((unhide A4).keep hb)
  have M5 := hide ((unhide M4).keep hb)
  have T5 := hide ((unhide T4).keep hb)
  have P5 := hide ((unhide P4).1.keep hb)
  have P5o := hide (unhide P4).2
  have E5 := hide ht
  have hs5 := hb.size
  have HF5 := hide (firsts_nu (c := cq) (unhide P5) hh hh0 k2 (unhide Hk2))
  clear hb ht HF4 S4 A4 M4 T4 P4
  go_wp2_with fail
  refine (unhide HF5).mono ?_
  rintro e w6 ⟨qf, cf, rfl, ht, hb⟩
  have bb := bal (o := .cells #[.slice qf k2 cf] 22) (bal (o := .cells #[.slice qe k1 ce] 22) (Below.refl w6.heap.size w6))
  have hb' := hb.trans (bb.mono hb.size)
  have S6 := hide (btrans (unhide S5) hb')
  have A6 := hide ((unhide A5).keep hb')
  have M6 := hide ((unhide M5).keep hb')
  have T6 := hide ((unhide T5).keep hb')
  have P6 := hide ((unhide P5).keep hb')
  have E6 := hide ((unhide E5).keep hb')
  have F6 := hide (ht.keep bb)
  have hs6 := hb.size
  have X6 := hide (show Sb ((w6.alloc (.cells #[.slice qe k1 ce] 22)).alloc (.cells #[.slice qf k2 cf] 22)) w6.heap.size qe k1 ce from ⟨by simp; omega, by simp [go_sem]⟩)
  have Y6 := hide (show Sb ((w6.alloc (.cells #[.slice qe k1 ce] 22)).alloc (.cells #[.slice qf k2 cf] 22)) (w6.heap.size + 1) qf k2 cf from ⟨by simp, by simp [go_sem]⟩)
  clear hb ht HF5 S5 A5 M5 T5 P5 E5 bb hb'
  go_wp2_with fail
  generalize (w6.alloc (.cells #[.slice qe k1 ce] 22)).alloc (.cells #[.slice qf k2 cf] 22) = w7 at *
  have HM := hide (made30 k1 k2 m W.heap.size (w6.heap.size + 1) w6.heap.size hk64 hk64' (unhide Hmm) (fun y x => f (unA f w h y * w + unA (tuF f w h) h w x)) w7 (fun y x V hy hx hV => fn30_any ⟨(unhide M6).keep hV, ((unhide HR).keep (unhide S6)).keep hV⟩ ((unhide Y6).keep hV) ((unhide X6).keep hV) ((unhide F6).1.keep hV) ((unhide E6).1.keep hV) y x hy hx))
  have hs7 : W.heap.size + 1 < w7.heap.size := (unhide A6).1.1
  refine (unhide HM).mono ?_
  rintro e w8 ⟨qg, cg, rfl, hr, hb⟩
  have bb := bal (o := .cells #[.int .i64 k1, .int .i64 k2, .slice qg m cg] 25) (Below.refl w8.heap.size w8)
  have hb' := hb.trans (bb.mono hb.size)
  have S8 := hide (btrans (unhide S6) hb')
  have A8 := hide ((unhide A6).keep hb')
  have T8 := hide ((unhide T6).keep hb')
  have P8 := hide ((unhide P6).keep hb')
  have R8 := hide (RtO.keep (show RtO w8 w7.heap.size k1 k2 qg m cg _ from hr) bb)
  have O8 := hide (OwnM.new w8 k1 k2 qg m cg 25)
  clear hb hb' bb hr HM S6 A6 T6 P6 M6 E6 F6 X6 Y6
  go_upto_region 14 with fail
  generalize w8.alloc (.cells #[.int .i64 k1, .int .i64 k2, .slice qg m cg] 25) = w9 at *
  obtain ⟨⟨hl, a0, a1, a2, a3, a4⟩, f0, f1, f2, f3, f4⟩ := unhide A8
  have o8 := (unhide O8).2
  go_wp2
  refine bodyPost_ret (v := .tuple #[dr qt w ct k1 k2 qg m cg qp h cq, .int .i64 0]) (by simp [results, Try.results11, go_sem, a0, a1, a2, a3, a4]) rfl ⟨qt, ct, qg, cg, qp, cq, rfl, ?_, ?_, ?_, bput5 (unhide S8) (by omega) _ _ _ _ _⟩
  · exact ⟨⟨hw0, hw, (unhide T8).grown (gput5 _ _ _ _ _ _) (unhide T4o _ (by omega)), fun k hk => by rw [unhide Hk1]; exact (nu_get _ _ _ k hk).1⟩, fun j hj => unhide T4o j (by omega)⟩
  · exact ((unhide R8).grown (gput5 _ _ _ _ _ _) (by omega)).mono (by omega)
  · exact ⟨⟨hh0, hh, (unhide P8).grown (gput5 _ _ _ _ _ _) (unhide P5o _ (by omega)), fun k hk => by rw [unhide Hk2]; exact (nu_get _ _ _ k hk).1⟩, fun j hj => unhide P5o j (by omega)⟩
end Go.Proofs.Ytfbggbalnfbbgaa
