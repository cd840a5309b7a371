/-
  ClothTells: the law's walk.
-/
import Derived.Test.YtbbilogkblmniaaRfD
import Derived.Test.YtbbilogkblmniaaClF
namespace Go.Proofs.Ytbbilogkblmniaa
open Go.RowKit

set_option maxHeartbeats 1000000 in
theorem samel_none (c1 c2 : Nat) (V : World) : SameLIs V none none 0 c1 c2 := by
  unfold SameLIs
  go_enter Try.func13, Try.ntmps13
  go_wp2
  go_loopw [13] (fun i wr => i = .int .i64 0 ∧ wr = V) (fun _ _ => 0)
  case atStart => exact ⟨rfl, rfl⟩
  case round =>
    obtain ⟨rfl, rfl⟩ := hrel
    go_wp2
    go_ret
    exact ⟨rfl, Below.refl _ _⟩

set_option maxRecDepth 100000 in
set_option maxHeartbeats 4000000 in
theorem tell_err (w h : Int) (p : Option Addr) (n cap : Nat) (W : World) (h0 : cE w h n ≠ 0) : LawIs 3 #[tr w h p n cap] W := by
  unfold LawIs
  obtain ⟨er, he⟩ : ∃ er, cE w h n = er := ⟨_, rfl⟩
  rw [he] at h0
  have HL := hide (fun V => lift_err w h p n cap V er he h0)
  have HR := hide (fun V => rlift_err w h p n cap V er he h0)
  have HH := hide (fun V => hangs_err w h p n cap V er he h0)
  have HY := hide (fun V => layers_err w h p n cap V er he h0)
  have HZ := hide (fun V => rlayers_err w h p n cap V er he h0)
  have HS := hide (fun V => same_any (V := V) (q1 := none) (q2 := none) (l := []) (.inl rfl) (.inl rfl) 0 0 0 rfl (by omega))
  have HO := hide (OwnM.new W w h p n cap 24)
  have B0 := hide (bal (o := .cells #[.int .i64 w, .int .i64 h, .slice p n cap] 24) (Below.refl W.heap.size W))
  have g1 : (er != er) = false := by simp
  have g2 : (er == 0) = false := by simp [h0]
  have g3 : (er == er) = true := by simp
  clear he h0
  go_enter Try.func3, Try.ntmps3
  go_wp2_with fail
  generalize W.alloc (.cells #[.int .i64 w, .int .i64 h, .slice p n cap] 24) = w0 at *
  refine (unhide HL _).mono ?_
  rintro e w1 ⟨rfl, hb1⟩
  have T1 := hide hb1
  obtain ⟨k1, k2, k3, k4⟩ := (unhide HO).keep hb1
  clear hb1
  go_wp2_with fail
  refine (unhide HR _).mono ?_
  rintro e w2 ⟨rfl, hb2⟩
  have T2 := hide (btrans (unhide T1) hb2)
  clear hb2 k1 k2 k3 k4
  go_wp2_with fail
  refine (unhide HS _).mono ?_
  rintro e w3 ⟨rfl, kd, hw3⟩
  have T3 := hide (show Below w0.heap.size w0 w3 by rw [hw3]; exact btrans (unhide T2) (Joins.below_draws _ _ _))
  clear hw3
  obtain ⟨k1, k2, k3, k4⟩ := (unhide HO).keep (unhide T3)
  go_wp2_with fail
  refine (unhide HH _).mono ?_
  rintro e w4 ⟨rfl, hb4⟩
  have T4 := hide (btrans (unhide T3) hb4)
  clear hb4 k1 k2 k3 k4
  obtain ⟨k1, k2, k3, k4⟩ := (unhide HO).keep (unhide T4)
  go_wp2_with fail
  refine (unhide HY _).mono ?_
  rintro e w5 ⟨rfl, hb5⟩
  have T5 := hide (btrans (unhide T4) hb5)
  clear hb5 k1 k2 k3 k4
  obtain ⟨k1, k2, k3, k4⟩ := (unhide HO).keep (unhide T5)
  go_wp2_with fail
  refine (unhide HZ _).mono ?_
  rintro e w6 ⟨rfl, hb6⟩
  have T6 := hide (btrans (unhide T5) hb6)
  clear hb6 k1 k2 k3 k4
  go_wp2_with fail
  refine (samel_none 0 0 _).mono ?_
  rintro e w7 ⟨rfl, hb7⟩
  have T7 := hide (btrans (unhide B0) (btrans (unhide T6) hb7))
  clear hb7
  go_wp2
  go_ret
  exact ⟨rfl, unhide T7⟩

theorem lfL_len (f : Nat → Bool) (w h : Nat) : (lfL f w h).length ≤ w + h := by
  cases e : lfO f w h with
  | none => rw [lfL_nil.2 e]; simp
  | some s =>
    have e2 : lfL f w h = ovL f w h s := by unfold lfL; rw [e]
    rw [e2]; exact ovL_len f w h s

set_option maxRecDepth 100000 in
set_option maxHeartbeats 4000000 in
theorem tell_ok {W : World} {w h : Nat} {p : Option Addr} {n cap : Nat} {f : Nat → Bool} (r : Rt W w h p n cap f) (h0 : 0 < n) : LawIs 3 #[tr w h p n cap] W := by
  unfold LawIs
  have hw := r.1
  have hh := r.2.1
  have B0 := hide (bal (o := .cells #[.int .i64 w, .int .i64 h, .slice p n cap] 24) (Below.refl W.heap.size W))
  have HT := hide (Tb.new r)
  have hlf := lfL_len f w h
  have hly : (lyL f w h).length ≤ 128 := by
    have h1 := fsL_len f w h
    have h2 := lyF_len f w h
    have h3 : (lyL f w h).length = (lyF f w h).length := by simp [lyL]
    omega
  have Hly := hide (show ∀ l, l ∈ lyL f w h → l.length ≤ 128 from fun l hl => by
    obtain ⟨s, _, rfl⟩ := List.mem_map.1 hl
    have := shL_len f w h s
    omega)
  clear r
  go_enter Try.func3, Try.ntmps3
  go_wp2_with fail
  generalize W.alloc (.cells #[.int .i64 w, .int .i64 h, .slice p n cap] 24) = w0 at *
  have HL := hide (show ∀ V, Below w0.heap.size w0 V → LiftOk 7 w h p n cap V (lfL f w h) from fun V hV => lift_ok ((unhide HT).2.keep hV) h0)
  have HR := hide (show ∀ V, Below w0.heap.size w0 V → LiftOk 8 w h p n cap V (lfL f w h) from fun V hV => rlift_ok ((unhide HT).2.keep hV) h0)
  have HH := hide (show ∀ V, Below w0.heap.size w0 V → HangsIs w h p n cap V ((lfL f w h).length == 0) 0 from fun V hV => hangs_ok ((unhide HT).2.keep hV) h0)
  have HY := hide (show ∀ V, Below w0.heap.size w0 V → LayersOk 11 w h p n cap V (lyL f w h) from fun V hV => layers_ok ((unhide HT).2.keep hV) h0)
  have HZ := hide (show ∀ V, Below w0.heap.size w0 V → LayersOk 12 w h p n cap V (lyL f w h) from fun V hV => rlayers_ok ((unhide HT).2.keep hV) h0)
  have HO := hide (unhide HT).1
  clear HT
  generalize lfL f w h = L at *
  generalize lyL f w h = LL at *
  refine (unhide HL _ (Below.refl _ _)).mono ?_
  rintro e w1 ⟨q1, c1, l1, rfl, hl1, hq1, hb1⟩
  have T1 := hide hb1
  have Hq1 := hide hq1
  have Hl1 := hide hl1
  obtain ⟨k1, k2, k3, k4⟩ := (unhide HO).keep hb1
  clear hb1 hq1 hl1
  go_wp2_with fail
  refine (unhide HR _ (unhide T1)).mono ?_
  rintro e w2 ⟨q2, c2, l2, rfl, hl2, hq2, hb2⟩
  have T2 := hide (btrans (unhide T1) hb2)
  obtain rfl : l1 = l2 := by have := unhide Hl1; omega
  have HS := hide (same_any ((unhide Hq1).keep hb2) hq2 l1 c1 c2 (unhide Hl1) (by have := unhide Hl1; omega))
  obtain ⟨ok, hok⟩ : ∃ ok, ((l1 : Int) == 0) = ok := ⟨_, rfl⟩
  have Hok := hide (show (L.length == 0) = ok by rw [← hok, ← unhide Hl1, Bool.eq_iff_iff]; simp)
  have gok : (ok != ok) = false := by simp
  clear hb2 k1 k2 k3 k4 hq2 hl2 Hq1
  go_wp2_with fail
  refine (unhide HS).mono ?_
  rintro e w3 ⟨rfl, kd, hw3⟩
  have T3 := hide (show Below w0.heap.size w0 w3 by rw [hw3]; exact btrans (unhide T2) (Joins.below_draws _ _ _))
  clear hw3 HS
  obtain ⟨k1, k2, k3, k4⟩ := (unhide HO).keep (unhide T3)
  have HH3 := hide (by have := unhide HH w3 (unhide T3); rw [unhide Hok] at this; exact this)
  go_wp2_with fail
  refine (unhide HH3).mono ?_
  rintro e w4 ⟨rfl, hb4⟩
  have T4 := hide (btrans (unhide T3) hb4)
  clear hb4 k1 k2 k3 k4 HH3
  obtain ⟨k1, k2, k3, k4⟩ := (unhide HO).keep (unhide T4)
  go_wp2_with fail
  refine (unhide HY _ (unhide T4)).mono ?_
  rintro e w5 ⟨q5, c5, l5, rfl, hl5, hq5, hb5⟩
  have T5 := hide (btrans (unhide T4) hb5)
  have Hq5 := hide hq5
  have Hl5 := hide hl5
  clear hb5 k1 k2 k3 k4 hq5 hl5
  obtain ⟨k1, k2, k3, k4⟩ := (unhide HO).keep (unhide T5)
  go_wp2_with fail
  refine (unhide HZ _ (unhide T5)).mono ?_
  rintro e w6 ⟨q6, c6, l6, rfl, hl6, hq6, hb6⟩
  have T6 := hide (btrans (unhide T5) hb6)
  obtain rfl : l5 = l6 := by have := unhide Hl5; omega
  have HS2 := hide (samel_any ((unhide Hq5).keep hb6) hq6 l5 c5 c6 (unhide Hl5) (unhide Hly) (by have := unhide Hl5; omega))
  clear hb6 k1 k2 k3 k4 hq6 hl6 Hq5
  go_wp2_with fail
  refine (unhide HS2).mono ?_
  rintro e w7 ⟨rfl, hb7⟩
  have T7 := hide (btrans (unhide B0) (btrans (unhide T6) hb7))
  clear hb7
  go_wp2
  go_ret
  exact ⟨rfl, unhide T7⟩

theorem tell_any (w h : Int) (p : Option Addr) (n cap : Nat) (f : Nat → Bool) (W : World) (hB : Bs W p n cap f) : LawIs 3 #[tr w h p n cap] W := by
  by_cases h0 : cE w h n = 0
  · obtain ⟨w', h', rfl, rfl, e1, e2, e3, e4⟩ := cE_zero h0
    exact tell_ok ⟨e1, e2, e3, hB⟩ e4
  · exact tell_err w h p n cap W h0
end Go.Proofs.Ytbbilogkblmniaa
