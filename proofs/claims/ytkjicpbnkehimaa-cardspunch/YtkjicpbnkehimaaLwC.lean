/-
  CardsPunch: the law's walk.
-/
import Derived.Test.YtkjicpbnkehimaaRfG
import Derived.Test.YtkjicpbnkehimaaRfF
import Derived.Test.YtkjicpbnkehimaaRfH
namespace Go.Proofs.Ytkjicpbnkehimaa
open Go.RowKit

/-- the document's Unpack answers what is read -/
theorem runpack_any (s : ByteArray) (hm : s.size ≤ maxLen) (W : World) : Calls Try.prog 9 #[.string s] W (UnpPost W s) := by
  by_cases h1 : hd s.data.toList = none
  · by_cases h3 : bya s.data.toList 3 = 0 ∧ 0 < bya s.data.toList 4
    · exact runpack_flat s hm W h1 trivial h3
    · cases h2 : rdR s.data.toList (bya s.data.toList 3) (bya s.data.toList 4) 64 0 5 (fun _ => false) with
      | inl x => exact runpack_bad s hm W h1 ⟨x, h2⟩ h3
      | inr x => exact runpack_good s hm W h1 (fun y hy => by rw [h2] at hy; cases hy) h3
  · exact runpack_head s hm W h1
/-- both Packs answer the same -/
theorem pack_pair (w h : Int) (p : Option Addr) (n cap : Nat) (f : Nat → Bool) (W : World) (hc : Bs W p n cap f) : ∃ (s : ByteArray) (er : Int), ∀ V, Below W.heap.size W V → PackIs 6 w h p n cap V s er ∧ PackIs 7 w h p n cap V s er := by
  by_cases h0 : wE w h n = 0
  · obtain ⟨w', h', rfl, rfl, b1, b2, b3⟩ := wE_zero w h n h0
    exact ⟨_, 0, fun V hV => ⟨pack_ok ⟨b1, b2, b3, hc.keep hV⟩, rpack_ok ⟨b1, b2, b3, hc.keep hV⟩⟩⟩
  · have hr : (wE w h n != 0) = true := by simp [h0]
    exact ⟨_, _, fun V _ => ⟨pack_err w h p n cap V _ rfl hr, rpack_err w h p n cap V _ rfl hr⟩⟩
/-- what an Unpack answers, one way at a time -/
theorem unp_bad {W w' : World} {s : ByteArray} {x : Nat} {e : Ending} (hu : unp s.data.toList = .inl x) (h : UnpPost W s e w') : e = .returned (wrongV x) ∧ Below W.heap.size W w' := by
  rcases h.2 with ⟨y, hy, he⟩ | ⟨w, h', g, q, c, hy, -, -⟩
  · rw [hu] at hy; cases hy; exact ⟨he, h.1⟩
  · rw [hu] at hy; cases hy
theorem unp_good {W w' : World} {s : ByteArray} {w h : Nat} {g : Nat → Bool} {e : Ending} (hu : unp s.data.toList = .inr (w, h, g)) (k : UnpPost W s e w') : (∃ q c, e = .returned (.tuple #[tr w h q (w * h) c, .agg #[.int .i64 0, .int .i64 0]]) ∧ Rt w' w h q (w * h) c g) ∧ Below W.heap.size W w' := by
  rcases k.2 with ⟨y, hy, he⟩ | ⟨w1, h1, g1, q, c, hy, he, hr⟩
  · rw [hu] at hy; cases hy
  · rw [hu] at hy; cases hy; exact ⟨⟨q, c, he, hr⟩, k.1⟩
theorem same_zero (W : World) : Calls Try.prog 10 #[tr 0 0 none 0 0, tr 0 0 none 0 0] W fun e w' => e = .returned (.bool true) ∧ Below W.heap.size W w' :=
  same_any 0 0 none 0 0 (fun _ => false) none 0 (fun _ => false) W (by omega) ⟨Nat.le_refl _, .inl rfl⟩ ⟨Nat.le_refl _, .inl rfl⟩ (fun j hj => by omega)
/-- a fault in its box -/
def Fb (W : World) (b : Nat) (e a : Int) : Prop := b < W.heap.size ∧ W.cell? ⟨b, 0, none⟩ = some (.int .i64 e) ∧ W.cell? ⟨b, 1, none⟩ = some (.int .i64 a)
theorem Fb.keep {W V : World} {b : Nat} {e a : Int} (k : Fb W b e a) (hb : Below W.heap.size W V) : Fb V b e a := ⟨Nat.lt_of_lt_of_le k.1 hb.size, keepC hb k.1 k.2.1, keepC hb k.1 k.2.2⟩
theorem Fb.new (W : World) (e a : Int) : Fb (W.alloc (.cells #[.int .i64 e, .int .i64 a] 29)) W.heap.size e a := ⟨by simp, by simp [go_sem], by simp [go_sem]⟩

set_option maxRecDepth 100000 in
set_option maxHeartbeats 4000000 in
theorem punch_any (w h : Int) (p : Option Addr) (n cap : Nat) (f : Nat → Bool) (s : ByteArray) (W : World) (hc : Bs W p n cap f) (hm : s.size ≤ maxLen) : LawIs 3 #[tr w h p n cap, .string s] W := by
  unfold LawIs
  have B0 := hide (bal (o := .cells #[.int .i64 w, .int .i64 h, .slice p n cap] 24) (Below.refl W.heap.size W))
  obtain ⟨t, er, hpp⟩ := pack_pair w h p n cap f W hc
  have HP := hide (fun V (hV : Below W.heap.size W V) => hpp V hV)
  unfold PackIs at HP
  have HO := hide (OwnM.new W w h p n cap 24)
  have H8 := hide (fun V => unpack_any s hm V)
  have H9 := hide (fun V => runpack_any s hm V)
  clear hpp hc hm
  go_enter Try.func3, Try.ntmps3
  go_wp2_with fail
  generalize W.alloc (.cells #[.int .i64 w, .int .i64 h, .slice p n cap] 24) = w0 at *
  refine (unhide HP _ (unhide B0)).1.mono ?_
  rintro e w1 ⟨rfl, hb1⟩
  have S1 := hide (btrans (unhide B0) hb1)
  have HO1 := hide ((unhide HO).keep hb1)
  clear hb1 HO B0
  obtain ⟨k1, k2, k3, k4⟩ := unhide HO1
  go_wp2_with fail
  refine (unhide HP _ (unhide S1)).2.mono ?_
  rintro e w2 ⟨rfl, hb2⟩
  have S2 := hide (btrans (unhide S1) hb2)
  clear hb2 k1 k2 k3 k4 S1 HO1 HP
  have f1 : ((er : Int) != er) = false := by simp
  cases hU : unp s.data.toList with
  | inl x =>
    have HU1 := hide (fun V => (unhide H8 V).mono (fun e w' k => unp_bad hU k))
    have HU2 := hide (fun V => (unhide H9 V).mono (fun e w' k => unp_bad hU k))
    clear hU H8 H9
    go_wp2_with fail
    refine (unhide HU1 _).mono ?_
    rintro e w3 ⟨rfl, hb3⟩
    have S3 := hide (btrans (unhide S2) hb3)
    clear hb3 S2
    have S4 := hide (show Below W.heap.size W ((w3.alloc (.cells #[.int .i64 0, .int .i64 0, .slice none 0 0] 24)).alloc (.cells #[.int .i64 2, .int .i64 x] 29)) from bal (bal (unhide S3)))
    have HA := hide ((OwnM.new w3 0 0 none 0 0 24).alloc (.cells #[.int .i64 2, .int .i64 x] 29))
    have HB := hide (Fb.new (w3.alloc (.cells #[.int .i64 0, .int .i64 0, .slice none 0 0] 24)) 2 x)
    rw [World.size_alloc] at HB
    go_wp2_with fail
    generalize ((w3.alloc (.cells #[.int .i64 0, .int .i64 0, .slice none 0 0] 24)).alloc (.cells #[.int .i64 2, .int .i64 x] 29)) = w4 at *
    generalize w3.heap.size = b3 at *
    refine (unhide HU2 _).mono ?_
    rintro e w5 ⟨rfl, hb5⟩
    have S5 := hide (btrans (unhide S4) hb5)
    have HA5 := hide (((unhide HA).keep hb5).keep (w1 := ((w5.alloc (.cells #[.int .i64 0, .int .i64 0, .slice none 0 0] 24)).alloc (.cells #[.int .i64 2, .int .i64 x] 29))) (bal (bal (Below.refl _ _))))
    have HB5 := hide (((unhide HB).keep hb5).keep (V := ((w5.alloc (.cells #[.int .i64 0, .int .i64 0, .slice none 0 0] 24)).alloc (.cells #[.int .i64 2, .int .i64 x] 29))) (bal (bal (Below.refl _ _))))
    have HC5 := hide ((OwnM.new w5 0 0 none 0 0 24).alloc (.cells #[.int .i64 2, .int .i64 x] 29))
    have HD5 := hide (Fb.new (w5.alloc (.cells #[.int .i64 0, .int .i64 0, .slice none 0 0] 24)) 2 x)
    rw [World.size_alloc] at HD5
    have S6 := hide (show Below W.heap.size W ((w5.alloc (.cells #[.int .i64 0, .int .i64 0, .slice none 0 0] 24)).alloc (.cells #[.int .i64 2, .int .i64 x] 29)) from bal (bal (unhide S5)))
    have HSm := hide (same_zero ((w5.alloc (.cells #[.int .i64 0, .int .i64 0, .slice none 0 0] 24)).alloc (.cells #[.int .i64 2, .int .i64 x] 29)))
    clear hb5 S4 HA HB S5
    obtain ⟨m1, m2, m3, m4⟩ := unhide HA5
    obtain ⟨m5, m6, m7⟩ := unhide HB5
    go_wp2_with fail
    clear m1 m2 m3 m4 m5 m6 m7
    generalize ((w5.alloc (.cells #[.int .i64 0, .int .i64 0, .slice none 0 0] 24)).alloc (.cells #[.int .i64 2, .int .i64 x] 29)) = w6 at *
    generalize w5.heap.size = b5 at *
    refine (unhide HSm).mono ?_
    rintro e w7 ⟨rfl, hb7⟩
    have S7 := hide (btrans (unhide S6) hb7)
    obtain ⟨m5, m6, m7⟩ := (unhide HB5).keep hb7
    obtain ⟨n5, n6, n7⟩ := (unhide HD5).keep hb7
    clear hb7 HSm S6
    go_wp2
    go_ret
    exact ⟨by simp, unhide S7⟩
  | inr v =>
    obtain ⟨uw, uh, g⟩ := v
    have HU1 := hide (fun V => (unhide H8 V).mono (fun e w' k => unp_good hU k))
    have HU2 := hide (fun V => (unhide H9 V).mono (fun e w' k => unp_good hU k))
    clear hU H8 H9
    go_wp2_with fail
    refine (unhide HU1 _).mono ?_
    rintro e w3 ⟨⟨q1, c1, rfl, hr3⟩, hb3⟩
    have HR3 := hide hr3
    have S3 := hide (btrans (unhide S2) hb3)
    clear hb3 S2 hr3
    have S4 := hide (show Below W.heap.size W ((w3.alloc (.cells #[.int .i64 uw, .int .i64 uh, .slice q1 (uw * uh) c1] 24)).alloc (.cells #[.int .i64 0, .int .i64 0] 29)) from bal (bal (unhide S3)))
    have HA := hide ((OwnM.new w3 uw uh q1 (uw * uh) c1 24).alloc (.cells #[.int .i64 0, .int .i64 0] 29))
    have HB := hide (Fb.new (w3.alloc (.cells #[.int .i64 uw, .int .i64 uh, .slice q1 (uw * uh) c1] 24)) 0 0)
    rw [World.size_alloc] at HB
    have HR1 := hide ((unhide HR3).keep (V := ((w3.alloc (.cells #[.int .i64 uw, .int .i64 uh, .slice q1 (uw * uh) c1] 24)).alloc (.cells #[.int .i64 0, .int .i64 0] 29))) (bal (bal (Below.refl _ _))))
    clear HR3
    go_wp2_with fail
    generalize ((w3.alloc (.cells #[.int .i64 uw, .int .i64 uh, .slice q1 (uw * uh) c1] 24)).alloc (.cells #[.int .i64 0, .int .i64 0] 29)) = w4 at *
    generalize w3.heap.size = b3 at *
    refine (unhide HU2 _).mono ?_
    rintro e w5 ⟨⟨q2, c2, rfl, hr5⟩, hb5⟩
    have HR5 := hide hr5
    have HR15 := hide ((unhide HR1).keep hb5)
    clear hr5 HR1
    have S5 := hide (btrans (unhide S4) hb5)
    have HA5 := hide (((unhide HA).keep hb5).keep (w1 := ((w5.alloc (.cells #[.int .i64 uw, .int .i64 uh, .slice q2 (uw * uh) c2] 24)).alloc (.cells #[.int .i64 0, .int .i64 0] 29))) (bal (bal (Below.refl _ _))))
    have HB5 := hide (((unhide HB).keep hb5).keep (V := ((w5.alloc (.cells #[.int .i64 uw, .int .i64 uh, .slice q2 (uw * uh) c2] 24)).alloc (.cells #[.int .i64 0, .int .i64 0] 29))) (bal (bal (Below.refl _ _))))
    have HC5 := hide ((OwnM.new w5 uw uh q2 (uw * uh) c2 24).alloc (.cells #[.int .i64 0, .int .i64 0] 29))
    have HD5 := hide (Fb.new (w5.alloc (.cells #[.int .i64 uw, .int .i64 uh, .slice q2 (uw * uh) c2] 24)) 0 0)
    rw [World.size_alloc] at HD5
    have S6 := hide (show Below W.heap.size W ((w5.alloc (.cells #[.int .i64 uw, .int .i64 uh, .slice q2 (uw * uh) c2] 24)).alloc (.cells #[.int .i64 0, .int .i64 0] 29)) from bal (bal (unhide S5)))
    have HSm := hide (same_ok (f := g) (g := g) ((unhide HR15).keep (V := ((w5.alloc (.cells #[.int .i64 uw, .int .i64 uh, .slice q2 (uw * uh) c2] 24)).alloc (.cells #[.int .i64 0, .int .i64 0] 29))) (bal (bal (Below.refl _ _)))) ((unhide HR5).keep (bal (bal (Below.refl _ _)))) (fun _ _ => rfl))
    clear hb5 S4 HA HB S5
    obtain ⟨m1, m2, m3, m4⟩ := unhide HA5
    obtain ⟨m5, m6, m7⟩ := unhide HB5
    go_wp2_with fail
    clear m1 m2 m3 m4 m5 m6 m7
    generalize ((w5.alloc (.cells #[.int .i64 uw, .int .i64 uh, .slice q2 (uw * uh) c2] 24)).alloc (.cells #[.int .i64 0, .int .i64 0] 29)) = w6 at *
    generalize w5.heap.size = b5 at *
    refine (unhide HSm).mono ?_
    rintro e w7 ⟨rfl, hb7⟩
    have S7 := hide (btrans (unhide S6) hb7)
    obtain ⟨m5, m6, m7⟩ := (unhide HB5).keep hb7
    obtain ⟨n5, n6, n7⟩ := (unhide HD5).keep hb7
    clear hb7 HSm S6
    go_wp2
    go_ret
    exact ⟨by simp, unhide S7⟩
end Go.Proofs.Ytkjicpbnkehimaa
