/-
  The reference's Drawdown, and Same of drafts.
-/
import Derived.Test.YtfbggbalnfbbgaaRdC
import Derived.Test.YtfbggbalnfbbgaaLWeave
namespace Go.Proofs.Ytfbggbalnfbbgaa
open Go.RowKit Go.Shelf

theorem rweave_at (f : Nat → Bool) (w h n1 n2 : Nat) (t1 t2 : Nat → Nat) (h1 : ∀ k, k < n1 → t1 k < w) (h2 : ∀ k, k < n2 → t2 k < h) (y x : Nat) (hy : y < n2) (hx : x < n1) :
    prF (prF (mkF t2 h) f h w) (tuF (mkF t1 w) w n1) w n1 (y * n1 + x) = f (t2 y * w + t1 x) := by
  rw [prF_at _ _ _ _ _ _ hx]
  unfold prB
  rw [← any_pick' (t1 x) w (fun s => f (t2 y * w + s)) (h1 x hx)]
  refine anyR_congr fun s hs => ?_
  rw [prF_at _ _ _ _ _ _ hs, tu_at_row _ _ _ _ _ hx]
  unfold mkF
  rw [mdF_at _ _ _ _ hs, Bool.beq_comm]
  congr 1
  unfold prB
  rw [← any_pick (t2 y) h (fun k => f (k * w + s)) (h2 y hy)]
  refine anyR_congr fun k hk => ?_
  rw [mdF_at _ _ _ _ hk, Bool.beq_comm]
theorem rweave_all (f : Nat → Bool) (w h n1 n2 : Nat) (t1 t2 : Nat → Nat) (h1 : ∀ k, k < n1 → t1 k < w) (h2 : ∀ k, k < n2 → t2 k < h) (j : Nat) (hj : j < n1 * n2) :
    prF (prF (mkF t2 h) f h w) (tuF (mkF t1 w) w n1) w n1 j = ddF f w t1 t2 n1 j := by
  have hn : 0 < n1 := by rcases Nat.eq_zero_or_pos n1 with e | e; (· rw [e, Nat.zero_mul] at hj; omega); exact e
  have hx := Nat.mod_lt j hn
  have hy : j / n1 < n2 := Nat.div_lt_of_lt_mul hj
  have e : j = j / n1 * n1 + j % n1 := by rw [Nat.mul_comm]; exact (Nat.div_add_mod j n1).symm
  have := rweave_at f w h n1 n2 t1 t2 h1 h2 (j / n1) (j % n1) hy hx
  rw [← e] at this
  rw [this]; rfl
theorem Bs.congr {W : World} {p : Option Addr} {n cap : Nat} {f g : Nat → Bool} (h : Bs W p n cap f) (e : ∀ k, k < n → f k = g k) : Bs W p n cap g := by
  refine ⟨h.1, ?_⟩
  rcases h.2 with h0 | ⟨b, o, hp, hl, hc⟩
  · exact .inl h0
  · exact .inr ⟨b, o, hp, hl, fun k hk => by rw [← e k hk]; exact hc k hk⟩

set_option maxRecDepth 100000 in
set_option maxHeartbeats 2000000 in
theorem rdraw_err (q1 : Option Addr) (n1 c1 : Nat) (f1 : Nat → Int) (w h : Int) (p : Option Addr) (n cap : Nat) (q2 : Option Addr) (n2 c2 : Nat) (f2 : Nat → Int) (W : World) (h1 : Is W q1 n1 f1) (h2 : Is W q2 n2 f2) (er : Int) (her : dE n1 f1 w h n n2 f2 = er) (hp : 1 ≤ er) : DrawErr 9 q1 n1 c1 w h p n cap q2 n2 c2 W er := by
  have B0 := bal (o := .cells #[.int .i64 0, .int .i64 0, .slice none 0 0] 25) (bal (o := .cells #[.slice q1 n1 c1, .int .i64 w, .int .i64 h, .slice p n cap, .slice q2 n2 c2] 27) (Below.refl W.heap.size W))
  have HW := hide (rchain_err q1 n1 c1 f1 w h p n cap q2 n2 c2 f2 _ (h1.keep B0) (h2.keep B0) er her hp)
  have hp' : (er != 0) = true := by simp; omega
  have O := (OwnR.new W q1 n1 c1 w h p n cap q2 n2 c2).keep (bal (o := .cells #[.int .i64 0, .int .i64 0, .slice none 0 0] 25) (Below.refl _ _))
  have U := OwnY.new (W.alloc (.cells #[.slice q1 n1 c1, .int .i64 w, .int .i64 h, .slice p n cap, .slice q2 n2 c2] 27)) 0 0 none 0 0
  rw [World.size_alloc] at U
  have HU := hide U
  have HB := hide B0
  have O1 := O.2
  clear her h1 h2 U B0 O
  unfold DrawErr
  go_enter Try.func9, Try.ntmps9
  go_wp2_with fail
  clear O1
  refine (unhide HW).mono ?_
  rintro e w1 ⟨rfl, hb⟩
  have bb := bal (o := .cells #[.int .i64 0, .int .i64 0, .slice none 0 0] 25) (bal (o := .cells #[.int .i64 0, .int .i64 0, .slice none 0 0] 25) (bal (o := .cells #[.int .i64 0, .int .i64 0, .slice none 0 0] 25) (Below.refl w1.heap.size w1)))
  have hb' := hb.trans (bb.mono hb.size)
  have S := hide (btrans (unhide HB) hb')
  have U1 := hide ((unhide HU).keep hb')
  clear hb bb hb' HB HU
  go_upto_if 20 with fail
  generalize ((w1.alloc (.cells #[.int .i64 0, .int .i64 0, .slice none 0 0] 25)).alloc (.cells #[.int .i64 0, .int .i64 0, .slice none 0 0] 25)).alloc (.cells #[.int .i64 0, .int .i64 0, .slice none 0 0] 25) = w2 at *
  obtain ⟨⟨-, u0, u1, u2⟩, f0, f1, f2⟩ := unhide U1
  go_wp2
  exact bodyPost_ret (v := .tuple #[tr 0 0 none 0 0, .int .i64 er]) (by simp [results, Try.results9, go_sem, u0, u1, u2]) rfl ⟨rfl, bput (unhide S) (by omega) _ _ _⟩

set_option maxRecDepth 100000 in
set_option maxHeartbeats 2000000 in
theorem rdraw_ok {W : World} {q1 n1 c1 t1 p n cap f q2 n2 c2 t2} {w h : Nat} (r : Rd W q1 n1 t1 w h p n cap f q2 n2 t2) (m : Nat) (hm : m = n1 * n2) :
    Calls Try.prog 9 #[dr q1 n1 c1 w h p n cap q2 n2 c2] W fun e V => ∃ q cp, e = .returned (.tuple #[tr n1 n2 q m cp, .int .i64 0]) ∧ Bs V q m cp (ddF f w t1 t2 n1) ∧ Below W.heap.size W V := by
  obtain ⟨ma, hma⟩ : ∃ m, m = h * n2 := ⟨_, rfl⟩
  obtain ⟨mc, hmc⟩ : ∃ m, m = w * n1 := ⟨_, rfl⟩
  obtain ⟨mx, hmx⟩ : ∃ m, m = w * n2 := ⟨_, rfl⟩
  have B0 := bal (o := .cells #[.int .i64 0, .int .i64 0, .slice none 0 0] 25) (bal (o := .cells #[.slice q1 n1 c1, .int .i64 w, .int .i64 h, .slice p n cap, .slice q2 n2 c2] 27) (Below.refl W.heap.size W))
  have HW := hide (rchain_ok (c1 := c1) (c2 := c2) (r.keep B0) ma mc hma hmc)
  have O := (OwnR.new W q1 n1 c1 w h p n cap q2 n2 c2).keep (bal (o := .cells #[.int .i64 0, .int .i64 0, .slice none 0 0] 25) (Below.refl _ _))
  have U := OwnY.new (W.alloc (.cells #[.slice q1 n1 c1, .int .i64 w, .int .i64 h, .slice p n cap, .slice q2 n2 c2] 27)) 0 0 none 0 0
  rw [World.size_alloc] at U
  have HU := hide U
  have HB := hide B0
  have HR := hide r
  have Hm := hide hm
  have Hmx := hide hmx
  have O1 := O.2
  clear U B0 O r hm hma hmc hmx
  go_enter Try.func9, Try.ntmps9
  go_wp2_with fail
  clear O1
  refine (unhide HW).mono ?_
  rintro e w1 ⟨qa, ca, qc, cc, rfl, ra, rc, hb⟩
  have bb := bal (o := .cells #[.int .i64 n1, .int .i64 w, .slice qc mc cc] 25) (bal (o := .cells #[.int .i64 w, .int .i64 h, .slice p n cap] 25) (bal (o := .cells #[.int .i64 h, .int .i64 n2, .slice qa ma ca] 25) (Below.refl w1.heap.size w1)))
  have hb' := hb.trans (bb.mono hb.size)
  have S := hide (btrans (unhide HB) hb')
  have U1 := hide ((unhide HU).keep hb')
  have rb := (unhide HR).1.keep (btrans (unhide HB) hb)
  have A4 := hide (((Tb.new ra.1).keep (bal (o := .cells #[.int .i64 w, .int .i64 h, .slice p n cap] 25) (Below.refl _ _))).keep (bal (o := .cells #[.int .i64 n1, .int .i64 w, .slice qc mc cc] 25) (Below.refl _ _)))
  have B4 := (Tb.new (rb.keep (bal (o := .cells #[.int .i64 h, .int .i64 n2, .slice qa ma ca] 25) (Below.refl _ _)))).keep (bal (o := .cells #[.int .i64 n1, .int .i64 w, .slice qc mc cc] 25) (Below.refl _ _))
  have C4 := Tb.new ((rc.1.keep (bal (o := .cells #[.int .i64 h, .int .i64 n2, .slice qa ma ca] 25) (Below.refl _ _))).keep (bal (o := .cells #[.int .i64 w, .int .i64 h, .slice p n cap] 25) (Below.refl _ _)))
  simp only [World.size_alloc] at B4 C4
  have HB4 := hide B4
  have HC4 := hide C4
  clear hb bb hb' B4 C4 ra rb rc HB HU
  go_upto_if 20 with fail
  generalize ((w1.alloc (.cells #[.int .i64 h, .int .i64 n2, .slice qa ma ca] 25)).alloc (.cells #[.int .i64 w, .int .i64 h, .slice p n cap] 25)).alloc (.cells #[.int .i64 n1, .int .i64 w, .slice qc mc cc] 25) = w2 at *
  generalize w1.heap.size = ba at *
  have a1 := (unhide A4).1.2
  have b1 := (unhide HB4).1.2
  have HP := hide (rprod_ok (unhide A4).2 (unhide HB4).2 mx (unhide Hmx))
  go_wp2_with fail
  clear a1 b1
  refine (unhide HP).mono ?_
  rintro e w3 ⟨qx, cx, rfl, rx, hb⟩
  have bb := bal (o := .cells #[.int .i64 w, .int .i64 n2, .slice qx mx cx] 25) (Below.refl w3.heap.size w3)
  have hb' := hb.trans (bb.mono hb.size)
  have S3 := hide (btrans (unhide S) hb')
  have U3 := hide ((unhide U1).keep hb')
  have C3 := hide ((unhide HC4).keep hb')
  have X3 := hide (Tb.new rx)
  clear hb bb hb' rx HP S U1 A4 HB4 HC4
  have x1 := (unhide X3).1.2
  have c1' := (unhide C3).1.2
  have HP := hide (rprod_new (unhide X3).2 (unhide C3).2 m (unhide Hm))
  go_wp2_with fail
  clear x1 c1'
  refine (unhide HP).mono ?_
  rintro e w5 ⟨qy, cy, rfl, ry, hb⟩
  have bb := bal (o := .cells #[.int .i64 n1, .int .i64 n2, .slice qy m cy] 25) (Below.refl w5.heap.size w5)
  have hb' := hb.trans (bb.mono hb.size)
  have S5 := hide (btrans (unhide S3) hb')
  have U5 := hide ((unhide U3).keep hb')
  have Y5 := hide (Tb.new ry.1)
  have Y5o := hide ry.2
  have hs3 : W.heap.size + 1 < (w3.alloc (.cells #[.int .i64 w, .int .i64 n2, .slice qx mx cx] 25)).heap.size := (unhide U3).1.1
  clear hb bb hb' ry HP S3 U3 C3 X3
  go_upto_region 6 with fail
  generalize w5.alloc (.cells #[.int .i64 n1, .int .i64 n2, .slice qy m cy] 25) = w6 at *
  have y1 := (unhide Y5).1.2
  obtain ⟨⟨-, u0, u1, u2⟩, f0, f1, f2⟩ := unhide U5
  go_wp2
  refine bodyPost_ret (v := .tuple #[tr n1 n2 qy m cy, .int .i64 0]) (by simp [results, Try.results9, go_sem, u0, u1, u2]) rfl ⟨qy, cy, rfl, ?_, bput (unhide S5) (by omega) _ _ _⟩
  refine ((unhide Y5).2.2.2.2.grown (gput _ _ _ _) (unhide Y5o _ hs3)).congr fun j hj => ?_
  rw [unhide Hm] at hj
  exact rweave_all f w h n1 n2 t1 t2 (unhide HR).2.1.2.2.2 (unhide HR).2.2.2.2.2 j hj

set_option maxHeartbeats 2000000 in
theorem same_ints (q1 q2 : Option Addr) (n c1 c2 : Nat) (f : Nat → Int) (W : World) (hn : n ≤ 64) (h1 : Is W q1 n f) (h2 : Is W q2 n f) :
    Calls Try.prog 34 #[.slice q1 n c1, .slice q2 n c2] W fun e w' => e = .returned (.bool true) ∧ Below W.heap.size W w' := by
  have H1 := hide h1
  have H2 := hide h2
  have hnn : ((n : Int) != (n : Int)) = false := by simp
  clear h1 h2
  go_enter Try.func34, Try.ntmps34
  go_wp2
  go_loopw [13] (fun i wr => ∃ x : Nat, x ≤ n ∧ i = .int .i64 x ∧ Below W.heap.size W wr) (fun i _ => n - (intOf i).toNat)
  case atStart => exact ⟨0, Nat.zero_le _, rfl, Below.refl _ _⟩
  case round =>
    obtain ⟨x, hx, rfl, hb⟩ := hrel
    by_cases hlt : x < n
    · obtain ⟨b1, o1, rfl, l1, d1⟩ := ((unhide H1).keep hb).at hlt
      obtain ⟨b2, o2, rfl, l2, d2⟩ := ((unhide H2).keep hb).at hlt
      have q1 : (x : Int) < (n : Int) := by omega
      have q2 : (0 : Int) ≤ (x : Int) := by omega
      generalize f x = v at *
      have e1 : (v != v) = false := by simp
      go_wp2_with fail
      go_quiet (fail)
      go_wp2
      go_roundw
      case rel => exact ⟨x + 1, by omega, by go_num, btrans hb (Joins.below_draws _ _ _)⟩
      case measure => simp [intOf]; omega
    · obtain rfl : x = n := by omega
      have cl : ¬ ((x : Int) < (x : Int)) := by omega
      go_wp2
      go_ret
      exact ⟨rfl, hb⟩

set_option maxHeartbeats 2000000 in
theorem same_draft (q1 q1' : Option Addr) (n1 c1 c1' : Nat) (f1 : Nat → Int) (w h : Int) (p p' : Option Addr) (n cap cap' : Nat) (f : Nat → Bool) (q2 q2' : Option Addr) (n2 c2 c2' : Nat) (f2 : Nat → Int) (W : World) (hn1 : n1 ≤ 64) (hn : n ≤ 4096) (hn2 : n2 ≤ 64)
    (h1 : Is W q1 n1 f1) (h1' : Is W q1' n1 f1) (hf : Bs W p n cap f) (hf' : Bs W p' n cap' f) (h2 : Is W q2 n2 f2) (h2' : Is W q2' n2 f2) :
    Calls Try.prog 13 #[dr q1 n1 c1 w h p n cap q2 n2 c2, dr q1' n1 c1' w h p' n cap' q2' n2 c2'] W fun e w' => e = .returned (.bool true) ∧ Below W.heap.size W w' := by
  have bb := bal (o := .cells #[.slice q1' n1 c1', .int .i64 w, .int .i64 h, .slice p' n cap', .slice q2' n2 c2'] 27) (Below.refl _ (W.alloc (.cells #[.slice q1 n1 c1, .int .i64 w, .int .i64 h, .slice p n cap, .slice q2 n2 c2] 27)))
  have HB := hide (btrans (bal (o := .cells #[.slice q1 n1 c1, .int .i64 w, .int .i64 h, .slice p n cap, .slice q2 n2 c2] 27) (Below.refl W.heap.size W)) bb)
  have HA := hide ((OwnR.new W q1 n1 c1 w h p n cap q2 n2 c2).keep bb)
  have A' := OwnR.new (W.alloc (.cells #[.slice q1 n1 c1, .int .i64 w, .int .i64 h, .slice p n cap, .slice q2 n2 c2] 27)) q1' n1 c1' w h p' n cap' q2' n2 c2'
  simp only [World.size_alloc] at A'
  have HA' := hide A'
  have K1 := hide (fun V (hV : Below W.heap.size W V) => same_ints q1 q1' n1 c1 c1' f1 V hn1 (h1.keep hV) (h1'.keep hV))
  have K2 := hide (fun V (hV : Below W.heap.size W V) => same_ints q2 q2' n2 c2 c2' f2 V hn2 (h2.keep hV) (h2'.keep hV))
  have K3' := hide (fun V (hV : Below W.heap.size W V) => same_any w h p n cap f p' cap' f V hn (hf.keep hV) (hf'.keep hV) (fun _ _ => rfl))
  clear bb A' h1 h1' hf hf' h2 h2'
  go_enter Try.func13, Try.ntmps13
  have a1 := (unhide HA).2
  have a2 := (unhide HA').2
  go_wp2_with fail
  generalize (W.alloc (.cells #[.slice q1 n1 c1, .int .i64 w, .int .i64 h, .slice p n cap, .slice q2 n2 c2] 27)).alloc (.cells #[.slice q1' n1 c1', .int .i64 w, .int .i64 h, .slice p' n cap', .slice q2' n2 c2'] 27) = w0 at *
  clear a1 a2
  refine (unhide K1 _ (unhide HB)).mono ?_
  rintro e w1 ⟨rfl, hb⟩
  have S1 := hide (btrans (unhide HB) hb)
  have A1 := hide ((unhide HA).keep hb)
  have A1' := hide ((unhide HA').keep hb)
  have a1 := (unhide A1).2
  have a2 := (unhide A1').2
  clear hb HB HA HA'
  go_wp2_with fail
  clear a1 a2
  refine (unhide K2 _ (unhide S1)).mono ?_
  rintro e w2 ⟨rfl, hb⟩
  have S2 := hide (btrans (unhide S1) hb)
  have A2 := hide ((unhide A1).keep hb)
  have A2' := hide ((unhide A1').keep hb)
  have a1 := (unhide A2).2
  have a2 := (unhide A2').2
  clear hb S1 A1 A1'
  go_wp2_with fail
  clear a1 a2
  refine (unhide K3' _ (unhide S2)).mono ?_
  rintro e w3 ⟨rfl, hb⟩
  have S3 := hide (btrans (unhide S2) hb)
  clear hb
  go_wp2
  go_ret
  exact ⟨rfl, unhide S3⟩
end Go.Proofs.Ytfbggbalnfbbgaa
