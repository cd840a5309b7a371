/-
  The law's alive; PassesBest.
-/
import Derived.Test.YtpdknodnlamphaaH
namespace Go.Proofs.Ytpdknodnlamphaa
open Go.RowKit

theorem wE_of {z : Pz} {f : Nat → Int} (h : Rt z f) (hs : ¬ ShN z.n f) : wE z.n z.n f z.t z.sl = 0 := by
  have e1 : stB z.n z.t z.sl f = true := stB_iff.2 (h.s.2.congr (fun _ _ => rfl) (fun i hi => gt_tl f hi))
  have e2 : stB z.n z.t z.sl z.t = true := stB_iff.2 (h.e.2.congr (fun _ _ => rfl) (fun i hi => gt_tl z.t hi))
  have e3 : shB z.n f = false := shB_no (fun i h0 hi e => hs ⟨i, h0, hi, e⟩)
  have := h.n1
  have := h.n5
  have := h.sl
  unfold wE
  rw [if_neg (by omega), if_neg (by omega), e1, e2, e3]
  simp

/-! ### one loop that goes five needles on -/
abbrev zA : Pz := ⟨1, fun _ => 5, 1⟩
theorem okA {v : Int} (h : 0 ≤ v ∧ v ≤ 11) : OkS zA (tl 1 fun _ => v) := ⟨by simp, fun i hi => by
  have hi : i < 1 := hi
  obtain rfl : i = 0 := by omega
  exact ⟨by rw [gt_tl _ hi]; exact h, fun k => by omega⟩⟩
theorem bhA (v b : Int) : bh (tl 1 fun _ => v) (b, 1) = tl 1 fun _ => v + b := by
  refine list_ext (by simp) fun i hi => ?_
  have hi : i < 1 := by simpa using hi
  obtain rfl : i = 0 := by omega
  rw [bh_gt (by simp), gt_tl _ hi, gt_tl _ hi]
  simp
theorem rA {k : Nat} {v b : Int} (h : rc zA k (tl 1 fun _ => v)) (hb : -2 ≤ b ∧ b ≤ 2 ∧ b ≠ 0) (hv : 0 ≤ v + b ∧ v + b ≤ 11) : rc zA (k + 1) (tl 1 fun _ => v + b) := by
  have h2 := rc_next (p := (b, 1)) h ⟨hb, Nat.le_refl _, show 1 < 2 ^ 1 by decide⟩ (by rw [bhA]; exact okA hv)
  rw [bhA] at h2
  exact h2
theorem farA {k : Nat} {l : List Int} (h : rc zA k l) : 5 - gt l 0 ≤ 2 * (k : Int) := by
  induction k generalizing l with
  | zero =>
    rw [show l = zA.E from h, show zA.E = tl 1 (fun _ => 5) from rfl, gt_tl _ (by omega)]
    omega
  | succ k ih =>
    obtain ⟨m, p, hm, hp, rfl, hs⟩ := h
    have h1 := ih hm
    have hl : m.length = 1 := by have := hs.1; simpa using this
    rw [bh_gt (by omega)]
    have := hp.1
    split <;> omega
theorem dstA : dst zA 3 (tl 1 fun _ => 0) := by
  have h0 : rc zA 0 (tl 1 fun _ => 5) := rfl
  have h1 := rA (b := -2) h0 (by omega) (by omega)
  have h2 := rA (b := -2) h1 (by omega) (by omega)
  have h3 := rA (b := -1) h2 (by omega) (by omega)
  refine ⟨by simpa using h3, fun j hj hr => ?_⟩
  have := farA hr
  rw [gt_tl _ (by omega)] at this
  omega
theorem rtA : Rt zA (fun _ => 0) := ⟨by decide, by decide, by decide, okA (v := 5) (by decide), okA (v := 0) (by decide)⟩

set_option maxRecDepth 100000 in
set_option maxHeartbeats 1000000 in
theorem alive_any (W : World) : Calls Try.prog 13 #[] W fun e w' => e = .returned (.bool true) ∧ Below W.heap.size W w' := by
  have b1 := bnew W (.cells #[.int .i64 0] 3)
  have b2 := btrans b1 (bnew _ (.cells #[.int .i64 5] 3))
  have i1 : Is ((W.alloc (.cells #[.int .i64 0] 3)).alloc (.cells #[.int .i64 5] 3)) (some ⟨W.heap.size, 0, none⟩) 1 (fun _ => 0) := .inr ⟨_, 0, rfl, by simp; omega, fun k hk => by
    obtain rfl : k = 0 := by omega
    exact keepC (bnew _ _) (by simp) (by simp [go_sem])⟩
  have i2 : Is ((W.alloc (.cells #[.int .i64 0] 3)).alloc (.cells #[.int .i64 5] 3)) (some ⟨W.heap.size + 1, 0, none⟩) 1 (fun _ => 5) := .inr ⟨_, 0, rfl, by simp, fun k hk => by
    obtain rfl : k = 0 := by omega
    have := Boxed.new (W.alloc (.cells #[.int .i64 0] 3)) 3 (.int .i64 5)
    rw [World.size_alloc] at this
    exact this.cell⟩
  have HP := hide (plan_mid (some ⟨W.heap.size, 0, none⟩) (some ⟨W.heap.size + 1, 0, none⟩) 1 1 (fun _ => 0) zA _ i1 i2 (wE_of rtA (fun ⟨i, h0, hi, _⟩ => by have hi : i < 1 := hi; omega)))
  have HB := hide b2
  clear b1 b2 i1 i2
  go_enter Try.func13, Try.ntmps13
  go_wp2_with fail
  refine (unhide HP).mono ?_
  rintro e w3 ⟨hb3, ⟨rfl, hno⟩ | ⟨k, g, hd, rfl, -, -⟩⟩
  · exact absurd dstA.1 (hno 3)
  · obtain rfl : k = 3 := dst_unique hd dstA
    have HB3 := hide (btrans (unhide HB) hb3)
    clear hd hb3
    go_wp2
    go_ret
    exact ⟨rfl, unhide HB3⟩

/-- what Check tells of what was planned -/
theorem plan_checked {z : Pz} (hE : OkS z z.E) {k : Nat} {l : List Int} (hd : dst z k l) : chB z l (rawL k (plF (plan z k l))) = true := by
  have h := does_doesR (plan_does hE hd)
  rw [show (plan z k l).map (fun p => (p.1, ((p.2 : Nat) : Int))) = rawL k (plF (plan z k l)) from ?_] at h
  · exact chB_iff.2 h
  · refine List.ext_getElem (by simp [plan_len, rawL]) fun i h1 h2 => ?_
    have hi : i < (plan z k l).length := by simpa using h1
    simp [rawL, plF, List.getD, List.getElem?_eq_getElem hi]

set_option maxRecDepth 100000 in
set_option maxHeartbeats 4000000 in
theorem best_any (q p a : Option Addr) (n m c d k ck : Nat) (f t : Nat → Int) (sl : Int) (xs : Nat → Int × Int) (W : World) (hq : Is W q n f) (hp : Is W p m t) (ha : Sp W a k xs) (hk : k ≤ 9223372036854775806) :
    Calls Try.prog 4 #[.slice q n c, .slice p m d, .int .i64 sl, .slice a k ck] W fun e w' => e = .returned (.bool true) ∧ Below W.heap.size W w' := by
  have HA := hide (alive_any W)
  by_cases he : wE n m f t sl = 0
  · obtain ⟨hmn, hR, hsh⟩ := wE_ok he
    subst hmn
    obtain ⟨z, hz1, hz2, hz3⟩ : ∃ z : Pz, z.n = m ∧ z.t = t ∧ z.sl = sl := ⟨⟨m, t, sl⟩, rfl, rfl, rfl⟩
    subst hz1 hz2 hz3
    have hR : Rt z f := hR
    have HP := hide (fun V (hb : Below W.heap.size W V) => plan_mid q p c d f z V (hq.keep hb) (hp.keep hb) he)
    have HC := hide (fun V (hb : Below W.heap.size W V) => check_ok q p a c d k ck f z xs V (hq.keep hb) (hp.keep hb) (ha.keep hb) he hk)
    have HC2 := hide (fun V (hb : Below W.heap.size W V) (g j : Nat) (ys : Nat → Int × Int) (hs : Sp V (some ⟨g, 0, none⟩) j ys) (hj : j ≤ 9223372036854775806) => check_ok q p (some ⟨g, 0, none⟩) c d j j f z ys V (hq.keep hb) (hp.keep hb) hs he hj)
    have hle : ∀ j, dst z j (tl z.n f) → chB z (tl z.n f) (rawL k xs) = true → j ≤ k := fun j hd hc => by
      obtain ⟨ps, hl, hdo⟩ := doesR_does (chB_iff.1 hc)
      have := does_least hR.s hd hdo
      rw [hl, rawL_len] at this
      exact this
    have hno : (∀ j, ¬ rc z j (tl z.n f)) → chB z (tl z.n f) (rawL k xs) = false := fun h => chB_no (fun hc => by
      obtain ⟨ps, hl, hdo⟩ := doesR_does hc
      exact h _ (does_rc hR.s hdo))
    have hsm : ∀ j, dst z j (tl z.n f) → j ≤ 248832 := fun j hd => by have := dst_small hR.e (by have := hR.n5; omega) hd; omega
    have hpc : ∀ j, dst z j (tl z.n f) → chB z (tl z.n f) (rawL j (plF (plan z j (tl z.n f)))) = true := fun j hd => plan_checked hR.e hd
    generalize chB z (tl z.n f) (rawL k xs) = ok at *
    have Hle := hide hle
    have Hno := hide hno
    have Hsm := hide hsm
    have Hpc := hide hpc
    clear hle hno hsm hpc hq hp ha he hR hsh
    go_enter Try.func4, Try.ntmps4
    go_wp2_with fail
    refine (unhide HA).mono ?_
    rintro e w1 ⟨rfl, hb1⟩
    go_wp2_with fail
    refine (unhide HP w1 hb1).mono ?_
    rintro e w2 ⟨hb2, ⟨rfl, hnr⟩ | ⟨j, g, hd, rfl, hg, hr⟩⟩
    · obtain rfl : ok = false := unhide Hno hnr
      have B2 := btrans hb1 hb2
      clear hnr hb1 hb2
      go_wp2_with fail
      refine (unhide HC w2 B2).mono ?_
      rintro e w3 ⟨rfl, hb3⟩
      have HB := hide (btrans B2 hb3)
      clear B2 hb3
      go_wp2
      go_ret
      exact ⟨rfl, unhide HB⟩
    · have B2 := btrans hb1 hb2
      have hj := unhide Hsm j hd
      have hc := unhide Hpc j hd
      have hlj := unhide Hle j hd
      have Hs := hide hr.sp
      clear hb1 hb2 hr hd
      go_wp2_with fail
      refine (unhide HC w2 B2).mono ?_
      rintro e w3 ⟨rfl, hb3⟩
      have B3 := btrans B2 hb3
      have H2 := hide (unhide HC2 w3 B3 g j _ ((unhide Hs).keep hb3) (by omega))
      rw [hc] at H2
      clear hc hb3 B2
      go_wp2_with fail
      refine (unhide H2).mono ?_
      rintro e w4 ⟨rfl, hb4⟩
      have HB := hide (btrans B3 hb4)
      clear B3 hb4 H2
      cases ok with
      | false =>
        go_wp2
        go_ret
        exact ⟨rfl, unhide HB⟩
      | true =>
        have hjk : (j : Int) ≤ (k : Int) := by have := hlj rfl; omega
        have hjk' : j ≤ k := hlj rfl
        clear hlj
        go_wp2
        go_ret
        exact ⟨ret_bool (by simp), unhide HB⟩
  · have HP := hide (fun V (hb : Below W.heap.size W V) => plan_err q p n m c d f t sl V (hq.keep hb) (hp.keep hb) he)
    have HC := hide (fun V (hb : Below W.heap.size W V) => check_err q p a n m c d k ck f t sl V (hq.keep hb) (hp.keep hb) he)
    generalize wE n m f t sl = x at *
    have hx' : (x != 0) = true := by simpa using he
    clear he hq hp ha
    go_enter Try.func4, Try.ntmps4
    go_wp2_with fail
    refine (unhide HA).mono ?_
    rintro e w1 ⟨rfl, hb1⟩
    go_wp2_with fail
    refine (unhide HP w1 hb1).mono ?_
    rintro e w2 ⟨rfl, hb2⟩
    have B2 := btrans hb1 hb2
    clear hb1 hb2
    go_wp2_with fail
    refine (unhide HC w2 B2).mono ?_
    rintro e w3 ⟨rfl, hb3⟩
    have HB := hide (btrans B2 hb3)
    clear B2 hb3
    go_wp2
    go_ret
    exact ⟨ret_bool (by simp), unhide HB⟩
end Go.Proofs.Ytpdknodnlamphaa
