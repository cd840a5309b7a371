/-
  Looms: Do, event by event.
-/
import Derived.Test.YtndfecdhmncdaaaDoA
namespace Go.Proofs.Ytndfecdhmncdaaa
open Go.RowKit

theorem LB.ne_disk {W : World} {L w h : Nat} {p : Option Addr} {n cap D q nw cw : Nat} {st : Int} {wv : Nat} {sp dd : Bool} {lf : Int} (k : LB W L w h p n cap D st wv sp dd) (kd : DB W D q nw cw lf) : D ≠ L := kd.2.2.2.2.2.ne k.1.2 (by decide)
theorem LB.ne_words {W : World} {L w h : Nat} {p : Option Addr} {n cap D q nw : Nat} {st : Int} {wv : Nat} {sp dd : Bool} {g : Nat → Int} (k : LB W L w h p n cap D st wv sp dd) (kr : WR W q nw g) : q ≠ L := kr.1.2.ne k.1.2 (by decide)

set_option maxRecDepth 100000 in
set_option maxHeartbeats 2000000 in
theorem do_1 {W : World} {L w h : Nat} {p : Option Addr} {n cap D q nw cw : Nat} {wv : Nat} {sp : Bool} {g : Nat → Int} {lf : Int} (k : LB W L w h p n cap D 0 wv sp false) (kd : DB W D q nw cw lf) (kr : WR W q nw g) :
    Calls Try.prog 13 #[.pointer (some ⟨L, 0, none⟩), .int .i64 1] W fun e w' => DoPost W L w h p n cap D q nw cw 1 wv sp false g lf 1 0 e w' := by
  have K := hide k
  have HE := hide (fun V => event_any 1 V)
  rw [show evB 1 = true from rfl] at HE
  have HM := hide (fun V => may_any 1 0 V)
  rw [show may 1 0 = true from rfl] at HM
  have h1 := k.ne_disk kd
  have h2 := k.ne_words kr
  unfold DoPost
  obtain ⟨-, ⟨a0, a1, a2, a3, a4, a5, a6, a7⟩, b4, b5, b6, b7⟩ := k
  go_enter Try.func13, Try.ntmps13
  go_wp2_with fail
  go_step3
  go_wp2_with fail
  refine (unhide HE _).mono ?_
  rintro e w1 ⟨rfl, hw1⟩
  subst hw1
  go_wp2_with fail
  refine (unhide HM _).mono ?_
  rintro e w2 ⟨rfl, hw2⟩
  subst hw2
  go_wp2
  try rw [Exit.noGoto_ret]
  go_ret2
  exact ⟨rfl, (unhide K).state 1, kd.far h1 _ _, kr.far h2 _ _, (Kept.refl _ _).set _ _ (.inl (.inl rfl))⟩

set_option maxRecDepth 100000 in
set_option maxHeartbeats 2000000 in
theorem do_2 {W : World} {L w h : Nat} {p : Option Addr} {n cap D q nw cw : Nat} {wv : Nat} {sp : Bool} {g : Nat → Int} {lf : Int} (k : LB W L w h p n cap D 1 wv sp false) (kd : DB W D q nw cw lf) (kr : WR W q nw g) :
    Calls Try.prog 13 #[.pointer (some ⟨L, 0, none⟩), .int .i64 2] W fun e w' => DoPost W L w h p n cap D q nw cw 2 wv sp false g lf 2 0 e w' := by
  have K := hide k
  have HE := hide (fun V => event_any 2 V)
  rw [show evB 2 = true from rfl] at HE
  have HM := hide (fun V => may_any 2 1 V)
  rw [show may 2 1 = true from rfl] at HM
  have h1 := k.ne_disk kd
  have h2 := k.ne_words kr
  unfold DoPost
  obtain ⟨-, ⟨a0, a1, a2, a3, a4, a5, a6, a7⟩, b4, b5, b6, b7⟩ := k
  go_enter Try.func13, Try.ntmps13
  go_wp2_with fail
  go_step3
  go_wp2_with fail
  refine (unhide HE _).mono ?_
  rintro e w1 ⟨rfl, hw1⟩
  subst hw1
  go_wp2_with fail
  refine (unhide HM _).mono ?_
  rintro e w2 ⟨rfl, hw2⟩
  subst hw2
  go_wp2
  try rw [Exit.noGoto_ret]
  go_ret2
  exact ⟨rfl, (unhide K).state 2, kd.far h1 _ _, kr.far h2 _ _, (Kept.refl _ _).set _ _ (.inl (.inl rfl))⟩

set_option maxRecDepth 100000 in
set_option maxHeartbeats 2000000 in
theorem do_4 {W : World} {L w h : Nat} {p : Option Addr} {n cap D q nw cw : Nat} {wv : Nat} {sp : Bool} {g : Nat → Int} {lf : Int} (k : LB W L w h p n cap D 2 wv sp false) (kd : DB W D q nw cw lf) (kr : WR W q nw g) :
    Calls Try.prog 13 #[.pointer (some ⟨L, 0, none⟩), .int .i64 4] W fun e w' => DoPost W L w h p n cap D q nw cw 3 wv sp false g lf 4 0 e w' := by
  have K := hide k
  have HE := hide (fun V => event_any 4 V)
  rw [show evB 4 = true from rfl] at HE
  have HM := hide (fun V => may_any 4 2 V)
  rw [show may 4 2 = true from rfl] at HM
  have h1 := k.ne_disk kd
  have h2 := k.ne_words kr
  unfold DoPost
  obtain ⟨-, ⟨a0, a1, a2, a3, a4, a5, a6, a7⟩, b4, b5, b6, b7⟩ := k
  go_enter Try.func13, Try.ntmps13
  go_wp2_with fail
  go_step3
  go_wp2_with fail
  refine (unhide HE _).mono ?_
  rintro e w1 ⟨rfl, hw1⟩
  subst hw1
  go_wp2_with fail
  refine (unhide HM _).mono ?_
  rintro e w2 ⟨rfl, hw2⟩
  subst hw2
  go_wp2
  try rw [Exit.noGoto_ret]
  go_ret2
  exact ⟨rfl, (unhide K).state 3, kd.far h1 _ _, kr.far h2 _ _, (Kept.refl _ _).set _ _ (.inl (.inl rfl))⟩

set_option maxRecDepth 100000 in
set_option maxHeartbeats 2000000 in
theorem do_5 {W : World} {L w h : Nat} {p : Option Addr} {n cap D q nw cw : Nat} {wv : Nat} {sp : Bool} {g : Nat → Int} {lf : Int} (k : LB W L w h p n cap D 3 wv sp false) (kd : DB W D q nw cw lf) (kr : WR W q nw g) :
    Calls Try.prog 13 #[.pointer (some ⟨L, 0, none⟩), .int .i64 5] W fun e w' => DoPost W L w h p n cap D q nw cw 1 wv sp false g lf 1 0 e w' := by
  have K := hide k
  have HE := hide (fun V => event_any 5 V)
  rw [show evB 5 = true from rfl] at HE
  have HM := hide (fun V => may_any 5 3 V)
  rw [show may 5 3 = true from rfl] at HM
  have h1 := k.ne_disk kd
  have h2 := k.ne_words kr
  unfold DoPost
  obtain ⟨-, ⟨a0, a1, a2, a3, a4, a5, a6, a7⟩, b4, b5, b6, b7⟩ := k
  go_enter Try.func13, Try.ntmps13
  go_wp2_with fail
  go_step3
  go_wp2_with fail
  refine (unhide HE _).mono ?_
  rintro e w1 ⟨rfl, hw1⟩
  subst hw1
  go_wp2_with fail
  refine (unhide HM _).mono ?_
  rintro e w2 ⟨rfl, hw2⟩
  subst hw2
  go_wp2
  try rw [Exit.noGoto_ret]
  go_ret2
  exact ⟨rfl, (unhide K).state 1, kd.far h1 _ _, kr.far h2 _ _, (Kept.refl _ _).set _ _ (.inl (.inl rfl))⟩

set_option maxRecDepth 100000 in
set_option maxHeartbeats 2000000 in
theorem do_7 {W : World} {L w h : Nat} {p : Option Addr} {n cap D q nw cw : Nat} {st : Int} {wv : Nat} {sp : Bool} {g : Nat → Int} {lf : Int} (k : LB W L w h p n cap D st wv sp false) (kd : DB W D q nw cw lf) (kr : WR W q nw g) (hm : may 7 st = true) :
    Calls Try.prog 13 #[.pointer (some ⟨L, 0, none⟩), .int .i64 7] W fun e w' => DoPost W L w h p n cap D q nw cw st wv true false g lf 0 0 e w' := by
  have K := hide k
  have HE := hide (fun V => event_any 7 V)
  rw [show evB 7 = true from rfl] at HE
  have HM := hide (fun V => may_any 7 st V)
  rw [hm] at HM
  have h1 := k.ne_disk kd
  have h2 := k.ne_words kr
  unfold DoPost
  obtain ⟨-, ⟨a0, a1, a2, a3, a4, a5, a6, a7⟩, b4, b5, b6, b7⟩ := k
  clear hm
  go_enter Try.func13, Try.ntmps13
  go_wp2_with fail
  go_step3
  go_wp2_with fail
  refine (unhide HE _).mono ?_
  rintro e w1 ⟨rfl, hw1⟩
  subst hw1
  go_wp2_with fail
  refine (unhide HM _).mono ?_
  rintro e w2 ⟨rfl, hw2⟩
  subst hw2
  go_wp2
  try rw [Exit.noGoto_ret]
  go_ret2
  exact ⟨rfl, ((unhide K).stop true).state st, (kd.far h1 _ _).far h1 _ _, (kr.far h2 _ _).far h2 _ _, ((Kept.refl _ _).set _ _ (.inl (.inl rfl))).set _ _ (.inl (.inl rfl))⟩

set_option maxRecDepth 100000 in
set_option maxHeartbeats 2000000 in
theorem do_3_no {W : World} {L w h : Nat} {p : Option Addr} {n cap D q nw cw : Nat} {wv : Nat} {sp : Bool} {g : Nat → Int} {lf : Int} (k : LB W L w h p n cap D 2 wv sp false) (kd : DB W D q nw cw lf) (kr : WR W q nw g) (hn : 2 ≤ nw) (hw : wv ≤ 64) (hl : lf = 0) :
    Calls Try.prog 13 #[.pointer (some ⟨L, 0, none⟩), .int .i64 3] W fun e w' => DoPost W L w h p n cap D q nw cw 2 wv sp true g lf 0 11 e w' := by
  have HP := hide (fun V (hV : Below W.heap.size W V) => put_no (i := 1) ((wv : Int) + 1) (kd.keep hV) (by omega) (by omega) hl)
  have K := hide k
  have HE := hide (fun V => event_any 3 V)
  rw [show evB 3 = true from rfl] at HE
  have HM := hide (fun V => may_any 3 2 V)
  rw [show may 3 2 = true from rfl] at HM
  have h1 := k.ne_disk kd
  have h2 := k.ne_words kr
  unfold DoPost
  obtain ⟨-, ⟨a0, a1, a2, a3, a4, a5, a6, a7⟩, b4, b5, b6, b7⟩ := k
  clear hl
  have e3 : wrap64 ((wv : Int) + 1) = (wv : Int) + 1 := by unfold wrap64; omega
  have e4 : IntKind.i64.wrap ((wv : Int) + 1) = (wv : Int) + 1 := Go.IntWalk.i64_in _ (by omega)
  have m1 := meth_put
  have HKd := hide kd
  have HKr := hide kr
  clear kd kr
  go_enter Try.func13, Try.ntmps13
  go_wp2_with fail
  refine scope_ahead 1 rfl ?_
  · go_wp2_with fail
    refine (unhide HE _).mono ?_
    rintro e w1 ⟨rfl, hw1⟩
    subst hw1
    go_wp2_with fail
    refine (unhide HM _).mono ?_
    rintro e w2 ⟨rfl, hw2⟩
    subst hw2
    go_wp2_with fail
    go_region_with (go_at_call 52; refine (unhide HP _ (bdrew _)).mono ?_; rintro e w3 ⟨rfl, hw3⟩)
    all_goals
      subst hw3
      go_wp2
      go_step3
      refine ⟨rfl, ?_⟩
      go_wp2
      try rw [Exit.noGoto_ret]
      go_ret2
      exact ⟨rfl, ((unhide K).keep (bdrew _)).dead true, ((unhide HKd).keep (bdrew _)).far h1 _ _, ((unhide HKr).keep (bdrew _)).far h2 _ _, ((Kept.refl _ _).below (bdrew _)).set _ _ (.inl (.inl rfl))⟩

set_option maxRecDepth 100000 in
set_option maxHeartbeats 2000000 in
theorem do_3_yes {W : World} {L w h : Nat} {p : Option Addr} {n cap D q nw cw : Nat} {wv : Nat} {sp : Bool} {g : Nat → Int} {lf : Int} (k : LB W L w h p n cap D 2 wv sp false) (kd : DB W D q nw cw lf) (kr : WR W q nw g) (hn : 2 ≤ nw) (hw : wv ≤ 64) (hl : lf ≠ 0) (hm6 : lf ≤ 9223372036854775807) :
    Calls Try.prog 13 #[.pointer (some ⟨L, 0, none⟩), .int .i64 3] W fun e w' => DoPost W L w h p n cap D q nw cw 4 wv sp false (ptW g 1 ((wv : Int) + 1)) (lfN lf) 3 0 e w' := by
  have HP := hide (fun V (hV : Below W.heap.size W V) => put_yes (i := 1) ((wv : Int) + 1) (kd.keep hV) (kr.keep hV) (by omega) (by omega) hl hm6)
  have K := hide k
  have HE := hide (fun V => event_any 3 V)
  rw [show evB 3 = true from rfl] at HE
  have HM := hide (fun V => may_any 3 2 V)
  rw [show may 3 2 = true from rfl] at HM
  have h1 := k.ne_disk kd
  have h2 := k.ne_words kr
  unfold DoPost
  obtain ⟨-, ⟨a0, a1, a2, a3, a4, a5, a6, a7⟩, b4, b5, b6, b7⟩ := k
  clear hl hm6 kd kr
  have e3 : wrap64 ((wv : Int) + 1) = (wv : Int) + 1 := by unfold wrap64; omega
  have e4 : IntKind.i64.wrap ((wv : Int) + 1) = (wv : Int) + 1 := Go.IntWalk.i64_in _ (by omega)
  have m1 := meth_put
  go_enter Try.func13, Try.ntmps13
  go_wp2_with fail
  go_step3
  go_wp2_with fail
  refine (unhide HE _).mono ?_
  rintro e w1 ⟨rfl, hw1⟩
  subst hw1
  go_wp2_with fail
  refine (unhide HM _).mono ?_
  rintro e w2 ⟨rfl, hw2⟩
  subst hw2
  go_wp2_with fail
  go_region_with (go_at_call 52; refine (unhide HP _ (bdrew _)).mono ?_; rintro e w3 ⟨rfl, hD3, hR3, hk3⟩)
  all_goals
    have K3 := hide (((unhide K).keep (bdrew _)).kept hk3 (fun e => by rcases e with e | e; exact h1 e.symm; exact h2 e.symm))
    have KK3 := hide (((Kept.refl _ _).below (bdrew _)).trans (hk3.more (T := fun i => i = L ∨ i = D ∨ i = q) (fun i hi => .inl (.inr hi))))
    have HD3 := hide hD3
    have HR3 := hide hR3
    clear hD3 hR3 hk3 a0 a1 a2 a3 a4 a5 a6 a7 b4 b5 b6 b7
    obtain ⟨-, ⟨a0, a1, a2, a3, a4, a5, a6, a7⟩, b4, b5, b6, b7⟩ := unhide K3
    go_wp2
    try rw [Exit.noGoto_ret]
    go_ret2
    exact ⟨rfl, (unhide K3).state 4, (unhide HD3).far h1 _ _, (unhide HR3).far h2 _ _, (unhide KK3).set _ _ (.inl (.inl rfl))⟩

set_option maxRecDepth 100000 in
set_option maxHeartbeats 2000000 in
theorem do_6_no {W : World} {L w h : Nat} {p : Option Addr} {n cap D q nw cw : Nat} {wv : Nat} {sp : Bool} {g : Nat → Int} {lf : Int} (k : LB W L w h p n cap D 4 wv sp false) (kd : DB W D q nw cw lf) (kr : WR W q nw g) (hn : 2 ≤ nw) (hw : wv ≤ 64) (hl : lf = 0) :
    Calls Try.prog 13 #[.pointer (some ⟨L, 0, none⟩), .int .i64 6] W fun e w' => DoPost W L w h p n cap D q nw cw 4 wv sp true g lf 0 11 e w' := by
  have HP := hide (fun V (hV : Below W.heap.size W V) => put_no (i := 0) ((wv : Int) + 1) (kd.keep hV) (by omega) (by omega) hl)
  have K := hide k
  have HE := hide (fun V => event_any 6 V)
  rw [show evB 6 = true from rfl] at HE
  have HM := hide (fun V => may_any 6 4 V)
  rw [show may 6 4 = true from rfl] at HM
  have h1 := k.ne_disk kd
  have h2 := k.ne_words kr
  unfold DoPost
  obtain ⟨-, ⟨a0, a1, a2, a3, a4, a5, a6, a7⟩, b4, b5, b6, b7⟩ := k
  clear hl
  have e3 : wrap64 ((wv : Int) + 1) = (wv : Int) + 1 := by unfold wrap64; omega
  have e4 : IntKind.i64.wrap ((wv : Int) + 1) = (wv : Int) + 1 := Go.IntWalk.i64_in _ (by omega)
  have m1 := meth_put
  have HKd := hide kd
  have HKr := hide kr
  clear kd kr
  go_enter Try.func13, Try.ntmps13
  go_wp2_with fail
  refine scope_ahead 1 rfl ?_
  · go_wp2_with fail
    refine (unhide HE _).mono ?_
    rintro e w1 ⟨rfl, hw1⟩
    subst hw1
    go_wp2_with fail
    refine (unhide HM _).mono ?_
    rintro e w2 ⟨rfl, hw2⟩
    subst hw2
    go_wp2_with fail
    go_region_with (go_at_call 52; refine (unhide HP _ (bdrew _)).mono ?_; rintro e w3 ⟨rfl, hw3⟩)
    all_goals
      subst hw3
      go_wp2
      go_step3
      refine ⟨rfl, ?_⟩
      go_wp2
      try rw [Exit.noGoto_ret]
      go_ret2
      exact ⟨rfl, ((unhide K).keep (bdrew _)).dead true, ((unhide HKd).keep (bdrew _)).far h1 _ _, ((unhide HKr).keep (bdrew _)).far h2 _ _, ((Kept.refl _ _).below (bdrew _)).set _ _ (.inl (.inl rfl))⟩

set_option maxRecDepth 100000 in
set_option maxHeartbeats 2000000 in
theorem do_6_yes {W : World} {L w h : Nat} {p : Option Addr} {n cap D q nw cw : Nat} {wv : Nat} {sp : Bool} {g : Nat → Int} {lf : Int} (k : LB W L w h p n cap D 4 wv sp false) (kd : DB W D q nw cw lf) (kr : WR W q nw g) (hn : 2 ≤ nw) (hw : wv ≤ 64) (hl : lf ≠ 0) (hm6 : lf ≤ 9223372036854775807) :
    Calls Try.prog 13 #[.pointer (some ⟨L, 0, none⟩), .int .i64 6] W fun e w' => DoPost W L w h p n cap D q nw cw (nxS h wv sp 4) (wv + 1) false false (ptW g 0 ((wv : Int) + 1)) (lfN lf) (nxD h wv sp 4) 0 e w' := by
  have HP := hide (fun V (hV : Below W.heap.size W V) => put_yes (i := 0) ((wv : Int) + 1) (kd.keep hV) (kr.keep hV) (by omega) (by omega) hl hm6)
  have K := hide k
  have HE := hide (fun V => event_any 6 V)
  rw [show evB 6 = true from rfl] at HE
  have HM := hide (fun V => may_any 6 4 V)
  rw [show may 6 4 = true from rfl] at HM
  have h1 := k.ne_disk kd
  have h2 := k.ne_words kr
  unfold DoPost
  obtain ⟨-, ⟨a0, a1, a2, a3, a4, a5, a6, a7⟩, b4, b5, b6, b7⟩ := k
  clear hl hm6 kd kr
  have e3 : wrap64 ((wv : Int) + 1) = (wv : Int) + 1 := by unfold wrap64; omega
  have e4 : IntKind.i64.wrap ((wv : Int) + 1) = (wv : Int) + 1 := Go.IntWalk.i64_in _ (by omega)
  have m1 := meth_put
  have HEnd := hide (fun V (kV : LB V L w h p n cap D 4 wv sp false) => end_any kV hw)
  unfold EndIs at HEnd
  generalize nxS h wv sp 4 = nx at *
  generalize nxD h wv sp 4 = ds at *
  go_enter Try.func13, Try.ntmps13
  go_wp2_with fail
  go_step3
  go_wp2_with fail
  refine (unhide HE _).mono ?_
  rintro e w1 ⟨rfl, hw1⟩
  subst hw1
  go_wp2_with fail
  refine (unhide HM _).mono ?_
  rintro e w2 ⟨rfl, hw2⟩
  subst hw2
  go_wp2_with fail
  go_region_with (go_at_call 52; refine (unhide HP _ (bdrew _)).mono ?_; rintro e w3 ⟨rfl, hD3, hR3, hk3⟩)
  all_goals
    have K3 := hide (((unhide K).keep (bdrew _)).kept hk3 (fun e => by rcases e with e | e; exact h1 e.symm; exact h2 e.symm))
    have KK3 := hide (((Kept.refl _ _).below (bdrew _)).trans (hk3.more (T := fun i => i = L ∨ i = D ∨ i = q) (fun i hi => .inl (.inr hi))))
    have HD3 := hide hD3
    have HR3 := hide hR3
    have HEnd3 := hide (unhide HEnd _ (unhide K3))
    clear hD3 hR3 hk3 a0 a1 a2 a3 a4 a5 a6 a7 b4 b5 b6 b7
    go_wp2_with fail
    refine (unhide HEnd3).mono ?_
    rintro e w4 ⟨rfl, hL4, hk4⟩
    have K4 := hide hL4
    have KK4 := hide ((unhide KK3).trans (hk4.more (T := fun i => i = L ∨ i = D ∨ i = q) (fun i hi => .inl (.inl hi))))
    have HD4 := hide ((unhide HD3).kept hk4 h1)
    have HR4 := hide ((unhide HR3).kept hk4 h2)
    clear hL4 hk4
    obtain ⟨-, ⟨a0, a1, a2, a3, a4, a5, a6, a7⟩, b4, b5, b6, b7⟩ := unhide K4
    go_wp2
    try rw [Exit.noGoto_ret]
    go_ret2
    exact ⟨rfl, (unhide K4).state nx, (unhide HD4).far h1 _ _, (unhide HR4).far h2 _ _, (unhide KK4).set _ _ (.inl (.inl rfl))⟩

set_option maxRecDepth 100000 in
set_option maxHeartbeats 2000000 in
theorem do_8_no {W : World} {L w h : Nat} {p : Option Addr} {n cap D q nw cw : Nat} {wv : Nat} {sp : Bool} {g : Nat → Int} {lf : Int} (k : LB W L w h p n cap D 5 wv sp false) (kd : DB W D q nw cw lf) (kr : WR W q nw g) (hn : 2 ≤ nw) (hw : wv ≤ 64) (hl : lf = 0) :
    Calls Try.prog 13 #[.pointer (some ⟨L, 0, none⟩), .int .i64 8] W fun e w' => DoPost W L w h p n cap D q nw cw 5 wv sp true g lf 0 11 e w' := by
  have HP := hide (fun V (hV : Below W.heap.size W V) => put_no (i := 0) ((wv : Int) + 1) (kd.keep hV) (by omega) (by omega) hl)
  have K := hide k
  have HE := hide (fun V => event_any 8 V)
  rw [show evB 8 = true from rfl] at HE
  have HM := hide (fun V => may_any 8 5 V)
  rw [show may 8 5 = true from rfl] at HM
  have h1 := k.ne_disk kd
  have h2 := k.ne_words kr
  unfold DoPost
  obtain ⟨-, ⟨a0, a1, a2, a3, a4, a5, a6, a7⟩, b4, b5, b6, b7⟩ := k
  clear hl
  have e3 : wrap64 ((wv : Int) + 1) = (wv : Int) + 1 := by unfold wrap64; omega
  have e4 : IntKind.i64.wrap ((wv : Int) + 1) = (wv : Int) + 1 := Go.IntWalk.i64_in _ (by omega)
  have m1 := meth_put
  have HKd := hide kd
  have HKr := hide kr
  clear kd kr
  go_enter Try.func13, Try.ntmps13
  go_wp2_with fail
  refine scope_ahead 1 rfl ?_
  · go_wp2_with fail
    refine (unhide HE _).mono ?_
    rintro e w1 ⟨rfl, hw1⟩
    subst hw1
    go_wp2_with fail
    refine (unhide HM _).mono ?_
    rintro e w2 ⟨rfl, hw2⟩
    subst hw2
    go_wp2_with fail
    go_region_with (go_at_call 52; refine (unhide HP _ (bdrew _)).mono ?_; rintro e w3 ⟨rfl, hw3⟩)
    all_goals
      subst hw3
      go_wp2
      go_step3
      refine ⟨rfl, ?_⟩
      go_wp2
      try rw [Exit.noGoto_ret]
      go_ret2
      exact ⟨rfl, ((unhide K).keep (bdrew _)).dead true, ((unhide HKd).keep (bdrew _)).far h1 _ _, ((unhide HKr).keep (bdrew _)).far h2 _ _, ((Kept.refl _ _).below (bdrew _)).set _ _ (.inl (.inl rfl))⟩

set_option maxRecDepth 100000 in
set_option maxHeartbeats 2000000 in
theorem do_8_yes {W : World} {L w h : Nat} {p : Option Addr} {n cap D q nw cw : Nat} {wv : Nat} {sp : Bool} {g : Nat → Int} {lf : Int} (k : LB W L w h p n cap D 5 wv sp false) (kd : DB W D q nw cw lf) (kr : WR W q nw g) (hn : 2 ≤ nw) (hw : wv ≤ 64) (hl : lf ≠ 0) (hm6 : lf ≤ 9223372036854775807) :
    Calls Try.prog 13 #[.pointer (some ⟨L, 0, none⟩), .int .i64 8] W fun e w' => DoPost W L w h p n cap D q nw cw (nxS h wv sp 5) (wv + 1) false false (ptW g 0 ((wv : Int) + 1)) (lfN lf) (nxD h wv sp 5) 0 e w' := by
  have HP := hide (fun V (hV : Below W.heap.size W V) => put_yes (i := 0) ((wv : Int) + 1) (kd.keep hV) (kr.keep hV) (by omega) (by omega) hl hm6)
  have K := hide k
  have HE := hide (fun V => event_any 8 V)
  rw [show evB 8 = true from rfl] at HE
  have HM := hide (fun V => may_any 8 5 V)
  rw [show may 8 5 = true from rfl] at HM
  have h1 := k.ne_disk kd
  have h2 := k.ne_words kr
  unfold DoPost
  obtain ⟨-, ⟨a0, a1, a2, a3, a4, a5, a6, a7⟩, b4, b5, b6, b7⟩ := k
  clear hl hm6 kd kr
  have e3 : wrap64 ((wv : Int) + 1) = (wv : Int) + 1 := by unfold wrap64; omega
  have e4 : IntKind.i64.wrap ((wv : Int) + 1) = (wv : Int) + 1 := Go.IntWalk.i64_in _ (by omega)
  have m1 := meth_put
  have HEnd := hide (fun V (kV : LB V L w h p n cap D 5 wv sp false) => end_any kV hw)
  unfold EndIs at HEnd
  generalize nxS h wv sp 5 = nx at *
  generalize nxD h wv sp 5 = ds at *
  go_enter Try.func13, Try.ntmps13
  go_wp2_with fail
  go_step3
  go_wp2_with fail
  refine (unhide HE _).mono ?_
  rintro e w1 ⟨rfl, hw1⟩
  subst hw1
  go_wp2_with fail
  refine (unhide HM _).mono ?_
  rintro e w2 ⟨rfl, hw2⟩
  subst hw2
  go_wp2_with fail
  go_region_with (go_at_call 52; refine (unhide HP _ (bdrew _)).mono ?_; rintro e w3 ⟨rfl, hD3, hR3, hk3⟩)
  all_goals
    have K3 := hide (((unhide K).keep (bdrew _)).kept hk3 (fun e => by rcases e with e | e; exact h1 e.symm; exact h2 e.symm))
    have KK3 := hide (((Kept.refl _ _).below (bdrew _)).trans (hk3.more (T := fun i => i = L ∨ i = D ∨ i = q) (fun i hi => .inl (.inr hi))))
    have HD3 := hide hD3
    have HR3 := hide hR3
    have HEnd3 := hide (unhide HEnd _ (unhide K3))
    clear hD3 hR3 hk3 a0 a1 a2 a3 a4 a5 a6 a7 b4 b5 b6 b7
    go_wp2_with fail
    refine (unhide HEnd3).mono ?_
    rintro e w4 ⟨rfl, hL4, hk4⟩
    have K4 := hide hL4
    have KK4 := hide ((unhide KK3).trans (hk4.more (T := fun i => i = L ∨ i = D ∨ i = q) (fun i hi => .inl (.inl hi))))
    have HD4 := hide ((unhide HD3).kept hk4 h1)
    have HR4 := hide ((unhide HR3).kept hk4 h2)
    clear hL4 hk4
    obtain ⟨-, ⟨a0, a1, a2, a3, a4, a5, a6, a7⟩, b4, b5, b6, b7⟩ := unhide K4
    go_wp2
    try rw [Exit.noGoto_ret]
    go_ret2
    exact ⟨rfl, (unhide K4).state nx, (unhide HD4).far h1 _ _, (unhide HR4).far h2 _ _, (unhide KK4).set _ _ (.inl (.inl rfl))⟩

set_option maxRecDepth 100000 in
set_option maxHeartbeats 2000000 in
theorem do_9_no {W : World} {L w h : Nat} {p : Option Addr} {n cap D q nw cw : Nat} {wv : Nat} {sp : Bool} {g : Nat → Int} {lf : Int} (k : LB W L w h p n cap D 5 wv sp false) (kd : DB W D q nw cw lf) (kr : WR W q nw g) (hn : 2 ≤ nw) (hl : lf = 0) :
    Calls Try.prog 13 #[.pointer (some ⟨L, 0, none⟩), .int .i64 9] W fun e w' => DoPost W L w h p n cap D q nw cw 5 wv sp true g lf 0 11 e w' := by
  have HP := hide (fun V (hV : Below W.heap.size W V) => put_no (i := 1) 0 (kd.keep hV) (by omega) (by omega) hl)
  have K := hide k
  have HE := hide (fun V => event_any 9 V)
  rw [show evB 9 = true from rfl] at HE
  have HM := hide (fun V => may_any 9 5 V)
  rw [show may 9 5 = true from rfl] at HM
  have h1 := k.ne_disk kd
  have h2 := k.ne_words kr
  unfold DoPost
  obtain ⟨-, ⟨a0, a1, a2, a3, a4, a5, a6, a7⟩, b4, b5, b6, b7⟩ := k
  clear hl
  have m1 := meth_put
  have HKd := hide kd
  have HKr := hide kr
  clear kd kr
  go_enter Try.func13, Try.ntmps13
  go_wp2_with fail
  refine scope_ahead 1 rfl ?_
  · go_wp2_with fail
    refine (unhide HE _).mono ?_
    rintro e w1 ⟨rfl, hw1⟩
    subst hw1
    go_wp2_with fail
    refine (unhide HM _).mono ?_
    rintro e w2 ⟨rfl, hw2⟩
    subst hw2
    go_wp2_with fail
    refine (unhide HP _ (Below.refl _ _)).mono ?_
    rintro e w3 ⟨rfl, hw3⟩
    all_goals
      subst hw3
      go_wp2
      go_step3
      refine ⟨rfl, ?_⟩
      go_wp2
      try rw [Exit.noGoto_ret]
      go_ret2
      exact ⟨rfl, (unhide K).dead true, (unhide HKd).far h1 _ _, (unhide HKr).far h2 _ _, (Kept.refl _ _).set _ _ (.inl (.inl rfl))⟩

set_option maxRecDepth 100000 in
set_option maxHeartbeats 2000000 in
theorem do_9_yes {W : World} {L w h : Nat} {p : Option Addr} {n cap D q nw cw : Nat} {wv : Nat} {sp : Bool} {g : Nat → Int} {lf : Int} (k : LB W L w h p n cap D 5 wv sp false) (kd : DB W D q nw cw lf) (kr : WR W q nw g) (hn : 2 ≤ nw) (hl : lf ≠ 0) (hm6 : lf ≤ 9223372036854775807) :
    Calls Try.prog 13 #[.pointer (some ⟨L, 0, none⟩), .int .i64 9] W fun e w' => DoPost W L w h p n cap D q nw cw 0 wv sp false (ptW g 1 0) (lfN lf) 0 0 e w' := by
  have HP := hide (fun V (hV : Below W.heap.size W V) => put_yes (i := 1) 0 (kd.keep hV) (kr.keep hV) (by omega) (by omega) hl hm6)
  have K := hide k
  have HE := hide (fun V => event_any 9 V)
  rw [show evB 9 = true from rfl] at HE
  have HM := hide (fun V => may_any 9 5 V)
  rw [show may 9 5 = true from rfl] at HM
  have h1 := k.ne_disk kd
  have h2 := k.ne_words kr
  unfold DoPost
  obtain ⟨-, ⟨a0, a1, a2, a3, a4, a5, a6, a7⟩, b4, b5, b6, b7⟩ := k
  clear hl hm6 kd kr
  have m1 := meth_put
  go_enter Try.func13, Try.ntmps13
  go_wp2_with fail
  go_step3
  go_wp2_with fail
  refine (unhide HE _).mono ?_
  rintro e w1 ⟨rfl, hw1⟩
  subst hw1
  go_wp2_with fail
  refine (unhide HM _).mono ?_
  rintro e w2 ⟨rfl, hw2⟩
  subst hw2
  go_wp2_with fail
  refine (unhide HP _ (Below.refl _ _)).mono ?_
  rintro e w3 ⟨rfl, hD3, hR3, hk3⟩
  all_goals
    have K3 := hide ((unhide K).kept hk3 (fun e => by rcases e with e | e; exact h1 e.symm; exact h2 e.symm))
    have KK3 := hide (hk3.more (T := fun i => i = L ∨ i = D ∨ i = q) (fun i hi => .inl (.inr hi)))
    have HD3 := hide hD3
    have HR3 := hide hR3
    clear hD3 hR3 hk3 a0 a1 a2 a3 a4 a5 a6 a7 b4 b5 b6 b7
    obtain ⟨-, ⟨a0, a1, a2, a3, a4, a5, a6, a7⟩, b4, b5, b6, b7⟩ := unhide K3
    go_wp2
    try rw [Exit.noGoto_ret]
    go_ret2
    exact ⟨rfl, (unhide K3).state 0, (unhide HD3).far h1 _ _, (unhide HR3).far h2 _ _, (unhide KK3).set _ _ (.inl (.inl rfl))⟩
end Go.Proofs.Ytndfecdhmncdaaa
