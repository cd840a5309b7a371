/-
  CardsTurn: the law's walk.
-/
import Derived.Test.YtkjicpbnkehimaaLwA
namespace Go.Proofs.Ytkjicpbnkehimaa
open Go.RowKit

/-- what is read is right and punched as these bytes -/
theorem unp_right {W : World} {s : ByteArray} {w h : Nat} {g : Nat → Bool} {q : Option Addr} {cap : Nat} (e : unp s.data.toList = .inr (w, h, g)) (r : Rt W w h q (w * h) cap g) : PackIs 6 w h q (w * h) cap W s 0 := by
  have h1 := (unp_pk _ _ _ _ e).2.2
  have := pack_ok r
  rw [h1] at this
  have e2 : (⟨s.data.toList.toArray⟩ : ByteArray) = s := by cases s; simp
  rw [e2] at this
  exact this

set_option maxRecDepth 100000 in
set_option maxHeartbeats 4000000 in
theorem turn_ok {W : World} {w h : Nat} {p : Option Addr} {n cap : Nat} {f : Nat → Bool} (r : Rt W w h p n cap f) (s : ByteArray) (hm : s.size ≤ maxLen) : LawIs 4 #[tr w h p n cap, .string s] W := by
  unfold LawIs
  obtain rfl : n = w * h := r.2.2.1
  have hw := r.1
  have hh := r.2.1
  have HA := hide (fun V => alive_any V)
  have HT := hide (Tb.new r)
  have B0 := hide (bal (o := .cells #[.int .i64 w, .int .i64 h, .slice p (w * h) cap] 24) (Below.refl W.heap.size W))
  have hL6 : (pk f w h).length ≤ 582 := by have := body_len f w h hw hh; unfold pk; simp; omega
  obtain ⟨g, hg1, hg2⟩ := pk_unp f w h hw hh
  have HUn := hide hg1
  have Hgf := hide hg2
  have HU2 := hide (fun V => unpack_any s hm V)
  clear r hw hh hg1 hg2 hm
  go_enter Try.func4, Try.ntmps4
  go_wp2_with fail
  generalize W.alloc (.cells #[.int .i64 w, .int .i64 h, .slice p (w * h) cap] 24) = w0 at *
  refine (unhide HA _).mono ?_
  rintro e w1 ⟨rfl, hb1⟩
  have HT1 := hide ((unhide HT).keep hb1)
  have S1 := hide (btrans (unhide B0) hb1)
  have HP := hide (pack_ok (unhide HT1).2)
  unfold PackIs at HP
  obtain ⟨k1, k2, k3, k4⟩ := (unhide HT1).1
  clear hb1 HT B0
  generalize pk f w h = P at *
  go_wp2_with fail
  refine (unhide HP).mono ?_
  rintro e w2 ⟨rfl, hb2⟩
  have S2 := hide (btrans (unhide S1) hb2)
  have HT2 := hide ((unhide HT1).keep hb2)
  clear hb2 k1 k2 k3 k4 S1 HP HT1
  have HU := hide (unpack_any ⟨P.toArray⟩ (by
    have e : (⟨P.toArray⟩ : ByteArray).size = P.length := rfl
    rw [e]; unfold maxLen; omega) w2)
  go_wp2_with fail
  refine (unhide HU).mono ?_
  rintro e w3 ⟨hb3, hcase⟩
  rcases hcase with ⟨x2, hun, -⟩ | ⟨ww, hh, gg, q, cp, hun, rfl, hr⟩
  · have := unhide HUn
    rw [show (⟨P.toArray⟩ : ByteArray).data.toList = P from rfl, this] at hun; cases hun
  · have := unhide HUn
    rw [show (⟨P.toArray⟩ : ByteArray).data.toList = P from rfl, this] at hun
    obtain ⟨rfl, rfl, rfl⟩ : w = ww ∧ h = hh ∧ g = gg := by simpa using hun
    clear hun this
    have S3 := hide (btrans (unhide S2) hb3)
    have HT3 := hide ((unhide HT2).keep hb3)
    have HX3 := hide hr
    clear hb3 hr S2 HT2 HU
    obtain ⟨k1, k2, k3, k4⟩ := (unhide HT3).1
    have HSm := hide (same_ok (f := g) (g := f) ((unhide HX3).keep (bal (o := .cells #[.int .i64 0, .int .i64 0] 29) (bal (o := .cells #[.int .i64 w, .int .i64 h, .slice q (w * h) cp] 24) (Below.refl _ _)))) ((unhide HT3).2.keep (bal (o := .cells #[.int .i64 0, .int .i64 0] 29) (bal (o := .cells #[.int .i64 w, .int .i64 h, .slice q (w * h) cp] 24) (Below.refl _ _)))) (fun j hj => unhide Hgf j (by rw [Nat.mul_comm]; exact hj)))
    have S4 := hide (show Below W.heap.size W ((w3.alloc (.cells #[.int .i64 w, .int .i64 h, .slice q (w * h) cp] 24)).alloc (.cells #[.int .i64 0, .int .i64 0] 29)) from bal (bal (unhide S3)))
    go_wp2_with fail
    refine (unhide HSm).mono ?_
    rintro e w5 ⟨rfl, hb5⟩
    have S5 := hide (btrans (unhide S4) hb5)
    clear hb5 k1 k2 k3 k4 HSm S4

    go_wp2_with fail
    refine (unhide HU2 w5).mono ?_
    rintro e w6 ⟨hb6, hcase⟩
    have S6 := hide (btrans (unhide S5) hb6)
    clear hb6
    rcases hcase with ⟨x6, -, rfl⟩ | ⟨w6w, h6h, g6, q6, c6, hun, rfl, hr⟩
    · go_wp2
      go_ret
      exact ⟨rfl, by repeat first | exact unhide S6 | refine bal ?_ | refine bset ?_ (by have := (unhide S6).size; simp; try omega)⟩
    · have HP6 := hide (fun V hV => unp_right hun (hr.keep (V := V) hV))
      unfold PackIs at HP6
      have S7 := hide (show Below W.heap.size W ((w6.alloc (.cells #[.int .i64 w6w, .int .i64 h6h, .slice q6 (w6w * h6h) c6] 24)).alloc (.cells #[.int .i64 0, .int .i64 0] 29)) from bal (bal (unhide S6)))
      clear hun hr
      go_wp2_with fail
      refine (unhide HP6 _ (bal (bal (Below.refl _ _)))).mono ?_
      rintro e w7 ⟨rfl, hb7⟩
      have S8 := hide (btrans (unhide S7) hb7)
      clear hb7
      go_wp2
      go_ret
      exact ⟨by simp, unhide S8⟩

set_option maxRecDepth 100000 in
set_option maxHeartbeats 4000000 in
theorem turn_err (w h : Int) (p : Option Addr) (n cap : Nat) (s : ByteArray) (hm : s.size ≤ maxLen) (W : World) (h0 : wE w h n ≠ 0) : LawIs 4 #[tr w h p n cap, .string s] W := by
  unfold LawIs
  obtain ⟨er, he⟩ : ∃ er, wE w h n = er := ⟨_, rfl⟩
  rw [he] at h0
  have hr' : (er != 0) = true := by simp [h0]
  have hr2 : (er == 0) = false := by simp [h0]
  have HA := hide (fun V => alive_any V)
  have HP := hide (fun V => pack_err w h p n cap V er he hr')
  unfold PackIs at HP
  have HO := hide (OwnM.new W w h p n cap 24)
  have B0 := hide (bal (o := .cells #[.int .i64 w, .int .i64 h, .slice p n cap] 24) (Below.refl W.heap.size W))
  have HU2 := hide (fun V => unpack_any s hm V)
  clear he h0 hm
  go_enter Try.func4, Try.ntmps4
  go_wp2_with fail
  refine (unhide HA _).mono ?_
  rintro e w1 ⟨rfl, hb1⟩
  obtain ⟨k1, k2, k3, k4⟩ := (unhide HO).keep hb1
  have S1 := hide (btrans (unhide B0) hb1)
  clear hb1
  go_wp2_with fail
  refine (unhide HP _).mono ?_
  rintro e w2 ⟨rfl, hb2⟩
  have S2 := hide (btrans (unhide S1) hb2)
  clear hb2 k1 k2 k3 k4
  go_wp2_with fail
  refine (unhide HU2 w2).mono ?_
  rintro e w6 ⟨hb6, hcase⟩
  have S6 := hide (btrans (unhide S2) hb6)
  clear hb6
  rcases hcase with ⟨x6, -, rfl⟩ | ⟨w6w, h6h, g6, q6, c6, hun, rfl, hr⟩
  · go_wp2
    go_ret
    exact ⟨rfl, by repeat first | exact unhide S6 | refine bal ?_ | refine bset ?_ (by have := (unhide S6).size; simp; try omega)⟩
  · have HP6 := hide (fun V hV => unp_right hun (hr.keep (V := V) hV))
    unfold PackIs at HP6
    have S7 := hide (show Below W.heap.size W ((w6.alloc (.cells #[.int .i64 w6w, .int .i64 h6h, .slice q6 (w6w * h6h) c6] 24)).alloc (.cells #[.int .i64 0, .int .i64 0] 29)) from bal (bal (unhide S6)))
    clear hun hr
    go_wp2_with fail
    refine (unhide HP6 _ (bal (bal (Below.refl _ _)))).mono ?_
    rintro e w7 ⟨rfl, hb7⟩
    have S8 := hide (btrans (unhide S7) hb7)
    clear hb7
    go_wp2
    go_ret
    exact ⟨by simp, unhide S8⟩
theorem turns_any (w h : Int) (p : Option Addr) (n cap : Nat) (f : Nat → Bool) (s : ByteArray) (W : World) (hc : Bs W p n cap f) (hm : s.size ≤ maxLen) : LawIs 4 #[tr w h p n cap, .string s] W := by
  by_cases h0 : wE w h n = 0
  · obtain ⟨w', h', rfl, rfl, b1, b2, b3⟩ := wE_zero w h n h0
    exact turn_ok ⟨b1, b2, b3, hc⟩ s hm
  · exact turn_err w h p n cap s hm W h0
end Go.Proofs.Ytkjicpbnkehimaa
