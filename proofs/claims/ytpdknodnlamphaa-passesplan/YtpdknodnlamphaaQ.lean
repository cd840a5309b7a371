/-
  The document's Check.
-/
import Derived.Test.YtpdknodnlamphaaO
import Derived.Test.YtpdknodnlamphaaN
namespace Go.Proofs.Ytpdknodnlamphaa
open Go.RowKit

theorem bh_nb {l : List Int} {n : Nat} (h : l.length = n) (b : Int) (w : Nat) : tl n (nb (gt l) b w) = bh l (b, w) := by subst h; rfl
theorem rbehind_at {z : Pz} (hz : z.n ≤ 5) (l : List Int) (hl : OkS z l) (q : Option Addr) (c : Nat) (b : Int) (w : Nat) (W : World) (hq : Is W q z.n (gt l)) (hb : -2 ≤ b ∧ b ≤ 2) (hw : w ≤ 31) :
    Calls Try.prog 23 #[.slice q z.n c, .int .i64 b, .int .i64 w] W fun e w' => ∃ q' c', e = .returned (.slice q' z.n c') ∧ Is w' q' z.n (gt (bh l (b, w))) ∧ IR w' W.heap.size (.slice q' z.n c') (bh l (b, w)) ∧ Below W.heap.size W w' := by
  refine (rbehind_any q z.n c (gt l) b w W hq (fun i _ => okS_bound hl i) hb hw hz).mono ?_
  rintro e w' ⟨v, rfl, hI, hB⟩
  rw [bh_nb hl.1] at hI
  obtain ⟨q', c', rfl, hi⟩ := hI.form
  have e : (bh l (b, w)).length = z.n := by simpa [bh] using hl.1
  rw [e] at hi hI ⊢
  exact ⟨q', c', rfl, hi, hI, hB⟩

set_option maxRecDepth 100000 in
set_option maxHeartbeats 4000000 in
theorem rcheck_err (q p a : Option Addr) (n m c d k ck : Nat) (f t : Nat → Int) (sl : Int) (W : World) (hq : Is W q n f) (hp : Is W p m t) (he : wE n m f t sl ≠ 0) :
    Calls Try.prog 12 #[.slice q n c, .slice p m d, .int .i64 sl, .slice a k ck] W fun e w' => e = .returned (.tuple #[.bool false, .int .i64 (wE n m f t sl)]) ∧ Below W.heap.size W w' := by
  have HW := hide (rwrong_any q p n m c d f t sl W hq hp)
  generalize hx : wE n m f t sl = x at *
  have hx' : (x != 0) = true := by simpa using he
  clear hx hq hp
  go_enter Try.func12, Try.ntmps12
  go_wp2_with fail
  refine (unhide HW).mono ?_
  rintro e w1 ⟨rfl, j, hj⟩
  have B1 : Below W.heap.size W w1 := by rw [hj]; exact Joins.below_draws _ W j
  have HB := hide B1
  clear hj B1 he
  go_wp2
  exact bodyPost_ret (v := .tuple #[.bool false, .int .i64 x]) (by simp [results, Try.results12, go_sem]) rfl ⟨rfl, unhide HB⟩

set_option maxRecDepth 100000 in
set_option maxHeartbeats 8000000 in
theorem rcheck_ok (q p a : Option Addr) (c d m ck : Nat) (f : Nat → Int) (z : Pz) (xs : Nat → Int × Int) (W : World) (hq : Is W q z.n f) (hp : Is W p z.n z.t) (ha : Sp W a m xs) (he : wE z.n z.n f z.t z.sl = 0) (hm : m ≤ 9223372036854775806) :
    Calls Try.prog 12 #[.slice q z.n c, .slice p z.n d, .int .i64 z.sl, .slice a m ck] W fun e w' => e = .returned (.tuple #[.bool (chB z (tl z.n f) (rawL m xs)), .int .i64 0]) ∧ Below W.heap.size W w' := by
  obtain ⟨-, hR, -⟩ := wE_ok he
  have hR : Rt z f := hR
  have hn5 := hR.n5
  have HW := hide (rwrong_any q p z.n z.n c d f z.t z.sl W hq hp)
  rw [he] at HW
  have HSt := hide (fun (x : List Int) q1 c1 V (hb : Below W.heap.size W V) (h : Is V q1 z.n (gt x)) => rstand_any q1 p z.n z.n c1 d (gt x) z.t z.sl V h (hp.keep hb) (Nat.le_refl _) hn5)
  have HSm := hide (fun (x : List Int) q1 c1 V (hb : Below W.heap.size W V) (h : Is V q1 z.n (gt x)) => rsame_any q1 p z.n c1 d (gt x) z.t V h (hp.keep hb) hn5)
  have Hsp := hide (fun V (hb : Below W.heap.size W V) => ha.keep hb)
  obtain ⟨N, hN⟩ : ∃ N : Nat, N = 2 ^ z.n := ⟨_, rfl⟩
  have HPw := hide (fun V => rpower_any z.n hn5 V)
  rw [← hN] at HPw
  have hN32 : N ≤ 32 := by rw [hN]; exact Nat.pow_le_pow_right (n := 2) (j := 5) (by omega) hn5
  obtain ⟨l, hl⟩ : ∃ l, l = tl z.n f := ⟨_, rfl⟩
  have hls : OkS z l := hl ▸ hR.s
  have HQ := hide (fun V (hb : Below W.heap.size W V) => (show Is V q z.n (gt l) from by
    rw [hl]
    rcases hq.keep hb with h | ⟨b, o, e, hb', hc⟩
    · exact .inl h
    · exact .inr ⟨b, o, e, hb', fun k hk => by rw [gt_tl f hk]; exact hc k hk⟩))
  rw [← hl]
  have Hl := hide hl
  have HN := hide hN
  clear hl ha hq hp hN
  go_enter Try.func12, Try.ntmps12
  go_wp2_with fail
  refine (unhide HW).mono ?_
  rintro e w1 ⟨rfl, j, hj⟩
  have B1 : Below W.heap.size W w1 := by rw [hj]; exact Joins.below_draws _ W j
  clear hj
  go_wp2
  go_loopw [11, 24] (fun v i wr => ∃ (x : Nat) (at0 : List Int) (q1 : Option Addr) (c1 : Nat), x ≤ m ∧ v = .slice q1 z.n c1 ∧ i = .int .i64 x ∧ OkS z at0 ∧ (DoesR z l (rawL m xs) ↔ DoesR z at0 ((rawL m xs).drop x)) ∧ Is wr q1 z.n (gt at0) ∧ Below W.heap.size W wr) (fun _ i _ => m - (intOf i).toNat)
  case atStart => exact ⟨0, l, q, c, Nat.zero_le _, rfl, rfl, hls, by simp, unhide HQ w1 B1, B1⟩
  case round =>
    clear B1
    obtain ⟨x, at0, q1, c1, hx, rfl, rfl, hok, hiff, hI, B⟩ := hrel
    have Hiff := hide hiff
    clear hiff
    by_cases hlt : x < m
    · obtain ⟨ba, oa, rfl, -, hc⟩ : ∃ b o, a = some ⟨b, o, none⟩ ∧ b < wr.heap.size ∧ ∀ k, k < m → wr.cell? ⟨b, o + k * 2, none⟩ = some (.int .i64 (xs k).1) ∧ wr.cell? ⟨b, o + k * 2 + 1, none⟩ = some (.int .i64 (xs k).2) := by
        rcases unhide Hsp wr B with h | h
        · omega
        · exact h
      obtain ⟨c0, c2⟩ := hc x hlt
      have hdr := rawL_drop (f := xs) hlt
      obtain ⟨vx, vy⟩ : ∃ vx : Int × Int, vx = xs x := ⟨_, rfl⟩
      rw [← vy] at c0 c2 hdr
      obtain ⟨px, py⟩ := vx
      dsimp only at c0 c2
      have Hdr := hide hdr
      clear hc hdr vy
      have p0 : (x : Int) < (m : Int) := by omega
      have b5 := bnew wr (.cells #[.int .i64 px, .int .i64 py] 44)
      have B5 := btrans B b5
      have I5 := hI.keep b5
      have P5 := PB.new wr px py 44
      obtain ⟨w5, hw5⟩ : ∃ w5, wr.alloc (.cells #[.int .i64 px, .int .i64 py] 44) = w5 := ⟨_, rfl⟩
      rw [hw5] at I5 B5 P5
      obtain ⟨hb5, d0, d1⟩ := id P5
      have HB5 := hide (show ∀ i, Below W.heap.size W (w5.drewN i) from fun i => btrans B5 (Joins.below_draws _ w5 i))
      have HI5 := hide (show ∀ i, Is (w5.drewN i) q1 z.n (gt at0) from fun i => I5.keep (Joins.below_draws _ w5 i))
      have HP5 := hide (show ∀ i, PB (w5.drewN i) wr.heap.size px py from fun i => P5.keep (Joins.below_draws _ w5 i))
      clear b5 B hI I5 B5 P5
      by_cases hpass : (-2 ≤ px ∧ px ≤ 2 ∧ px ≠ 0) ∧ 1 ≤ py ∧ py < (N : Int)
      · obtain ⟨w, hw⟩ : ∃ w : Nat, py = w := ⟨py.toNat, by omega⟩
        subst hw
        have hokp : okP z.n (px, w) := ⟨hpass.1, by dsimp only; omega, by dsimp only; rw [← unhide HN]; omega⟩
        obtain ⟨⟨p1, p2, p3⟩, p4, p5⟩ := hpass
        have p1' : ¬ px < -2 := by omega
        have p2' : ¬ 2 < px := by omega
        have p4' : ¬ (w : Int) < 1 := by omega
        have p5' : ¬ (N : Int) ≤ (w : Int) := by omega
        have p3' : (px == 0) = false := by simpa using p3
        have t1 : decide (px < -2) = false := by simpa using p1'
        have t2 : decide (2 < px) = false := by simpa using p2'
        have t4 : decide ((w : Int) < 1) = false := by simpa using p4'
        have t5 : decide ((N : Int) ≤ (w : Int)) = false := by simpa using p5'
        go_wp2_with fail
        go_quiet (first | (go_at_call 27; exact Calls.quiet_of_same (unhide HPw _)))
        clear hw5 c0 c2
        go_wp2_with fail
        refine (rbehind_at hn5 at0 hok q1 c1 px w _ (unhide HI5 _) ⟨p1, p2⟩ (by omega)).mono ?_
        rintro e w7 ⟨q2, c2, rfl, hi7, -, hb7⟩
        have B7 := btrans (unhide HB5 _) hb7
        have HS7 := hide (unhide HSt (bh at0 (px, w)) q2 c2 w7 B7 hi7)
        clear d0 d1 hb7 HB5 HI5 HP5
        go_wp2_with fail
        refine (unhide HS7).mono ?_
        rintro e w9 ⟨rfl, j9, hj9⟩
        have B79 : Below w7.heap.size w7 w9 := by rw [hj9]; exact Joins.below_draws _ w7 j9
        have HI9 := hide (hi7.keep B79)
        have HB9 := hide (btrans B7 B79)
        clear hj9 B79 B7 hi7 HS7
        cases hr : stB z.n z.t z.sl (gt (bh at0 (px, w))) with
        | true =>
          have ok2 : OkS z (bh at0 (px, w)) := (stB_ok hok.1).1 hr
          have HI2 := hide (show DoesR z l (rawL m xs) ↔ DoesR z (bh at0 (px, w)) ((rawL m xs).drop (x + 1)) from by
            rw [unhide Hiff, unhide Hdr]
            constructor
            · rintro ⟨p', _, e, _, h⟩
              have e1 : (px, w) = p' := Prod.ext (Prod.mk.inj e).1 (by have := (Prod.mk.inj e).2; omega)
              rw [e1]; exact h
            · exact fun h => ⟨(px, w), hokp, rfl, ok2, h⟩)
          clear hr
          go_wp2
          go_roundw
          case rel => exact ⟨x + 1, bh at0 (px, w), q2, c2, by omega, rfl, by go_num, ok2, unhide HI2, unhide HI9, unhide HB9⟩
          case measure => simp [intOf]; omega
        | false =>
          have HI2 := hide (show chB z l (rawL m xs) = false from chB_no (fun k => by
            rw [unhide Hiff, unhide Hdr] at k
            obtain ⟨p', _, e, h, _⟩ := k
            have e1 : (px, w) = p' := Prod.ext (Prod.mk.inj e).1 (by have := (Prod.mk.inj e).2; omega)
            rw [← e1] at h
            rw [(stB_ok hok.1).2 h] at hr
            cases hr))
          clear hr
          go_wp2
          exact bodyPost_ret (v := .tuple #[.bool false, .int .i64 0]) (by simp [results, Try.results12, go_sem]) rfl ⟨by rw [unhide HI2], unhide HB9⟩
      · have HI2 := hide (show chB z l (rawL m xs) = false from chB_no (fun k => by
          rw [unhide Hiff, unhide Hdr] at k
          obtain ⟨p', hp', e, _, _⟩ := k
          have e1 := (Prod.mk.inj e).1
          have e2 := (Prod.mk.inj e).2
          have e3 := hp'.2
          rw [← unhide HN] at e3
          exact hpass ⟨by rw [e1]; exact hp'.1, by omega⟩))
        by_cases p1 : px < -2
        · have t1 : decide (px < -2) = true := by simpa using p1
          clear hpass
          go_wp2_with fail
          go_quiet (first | (go_at_call 27; exact Calls.quiet_of_same (unhide HPw _)))
          go_wp2
          exact bodyPost_ret (v := .tuple #[.bool false, .int .i64 0]) (by simp [results, Try.results12, go_sem]) rfl ⟨by rw [unhide HI2], unhide HB5 _⟩
        · have t1 : decide (px < -2) = false := by simpa using p1
          by_cases p2 : 2 < px
          · have t2 : decide (2 < px) = true := by simpa using p2
            clear hpass
            go_wp2_with fail
            go_quiet (first | (go_at_call 27; exact Calls.quiet_of_same (unhide HPw _)))
            go_wp2
            exact bodyPost_ret (v := .tuple #[.bool false, .int .i64 0]) (by simp [results, Try.results12, go_sem]) rfl ⟨by rw [unhide HI2], unhide HB5 _⟩
          · have t2 : decide (2 < px) = false := by simpa using p2
            by_cases p3 : px = 0
            · subst p3
              clear hpass
              go_wp2_with fail
              go_quiet (first | (go_at_call 27; exact Calls.quiet_of_same (unhide HPw _)))
              go_wp2
              exact bodyPost_ret (v := .tuple #[.bool false, .int .i64 0]) (by simp [results, Try.results12, go_sem]) rfl ⟨by rw [unhide HI2], unhide HB5 _⟩
            · have t3 : (px == 0) = false := by simpa using p3
              by_cases p4 : py < 1
              · have t4 : decide (py < 1) = true := by simpa using p4
                clear hpass
                go_wp2_with fail
                go_quiet (first | (go_at_call 27; exact Calls.quiet_of_same (unhide HPw _)))
                go_wp2
                exact bodyPost_ret (v := .tuple #[.bool false, .int .i64 0]) (by simp [results, Try.results12, go_sem]) rfl ⟨by rw [unhide HI2], unhide HB5 _⟩
              · have t4 : decide (py < 1) = false := by simpa using p4
                have p5 : (N : Int) ≤ py := by omega
                have t5 : decide ((N : Int) ≤ py) = true := by simpa using p5
                clear hpass
                go_wp2_with fail
                go_quiet (first | (go_at_call 27; exact Calls.quiet_of_same (unhide HPw _)))
                go_wp2
                exact bodyPost_ret (v := .tuple #[.bool false, .int .i64 0]) (by simp [results, Try.results12, go_sem]) rfl ⟨by rw [unhide HI2], unhide HB5 _⟩
    · obtain rfl : x = m := by omega
      have cl : ¬ ((x : Int) < (x : Int)) := by omega
      have hr : chB z l (rawL x xs) = smB z.n (gt at0) z.t := by
        have hi := unhide Hiff
        rw [List.drop_of_length_le (by rw [rawL_len]; exact Nat.le_refl _)] at hi
        have e : tl z.n (gt at0) = at0 := by rw [← hok.1, tl_gt]
        by_cases e0 : at0 = z.E
        · rw [chB_iff.2 (hi.2 e0)]
          unfold smB
          rw [e, e0]
          exact (decide_eq_true rfl).symm
        · rw [chB_no (fun k => e0 (hi.1 k))]
          unfold smB
          rw [e]
          exact (decide_eq_false e0).symm
      have Hr := hide hr
      have HS9 := hide (unhide HSm at0 q1 c1 wr B hI)
      have HB := hide B
      clear hr hlt B hI Hiff
      go_wp2_with fail
      refine (unhide HS9).mono ?_
      rintro e w9 ⟨rfl, j9, hj9⟩
      have HB9 := hide (show Below W.heap.size W w9 from by rw [hj9]; exact btrans (unhide HB) (Joins.below_draws _ wr j9))
      clear hj9 HS9 HB
      go_wp2
      exact bodyPost_ret (v := .tuple #[.bool (smB z.n (gt at0) z.t), .int .i64 0]) (by simp [results, Try.results12, go_sem]) rfl ⟨by rw [unhide Hr], unhide HB9⟩
end Go.Proofs.Ytpdknodnlamphaa
