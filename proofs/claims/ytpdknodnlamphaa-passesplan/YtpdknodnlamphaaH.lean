/-
  Package passes: Check.
-/
import Derived.Test.YtpdknodnlamphaaG
import Derived.Deep.RegionHeld3
namespace Go.Proofs.Ytpdknodnlamphaa
open Go.RowKit

/-- numbers that are handed in as passes do it -/
def DoesR (z : Pz) : List Int → List (Int × Int) → Prop
  | l, [] => l = z.E
  | l, x :: r => ∃ p : Ps, okP z.n p ∧ x = (p.1, ((p.2 : Nat) : Int)) ∧ OkS z (bh l p) ∧ DoesR z (bh l p) r
theorem doesR_does {z : Pz} : ∀ {xs : List (Int × Int)} {l : List Int}, DoesR z l xs → ∃ ps : List Ps, ps.length = xs.length ∧ Does z l ps
  | [], _, h => ⟨[], rfl, h⟩
  | _ :: _, _, ⟨p, hp, _, hs, hr⟩ => by
    obtain ⟨ps, hl, hd⟩ := doesR_does hr
    exact ⟨p :: ps, by simp [hl], hp, hs, hd⟩
theorem does_doesR {z : Pz} : ∀ {ps : List Ps} {l : List Int}, Does z l ps → DoesR z l (ps.map fun p => (p.1, ((p.2 : Nat) : Int)))
  | [], _, h => h
  | p :: _, _, ⟨hp, hs, hr⟩ => ⟨p, hp, rfl, hs, does_doesR hr⟩
/-- numbers that are handed in -/
def rawL (m : Nat) (f : Nat → Int × Int) : List (Int × Int) := (List.range m).map f
theorem rawL_len (m : Nat) (f : Nat → Int × Int) : (rawL m f).length = m := by simp [rawL]
theorem rawL_drop {m x : Nat} {f : Nat → Int × Int} (h : x < m) : (rawL m f).drop x = f x :: (rawL m f).drop (x + 1) := by
  rw [List.drop_eq_getElem_cons (by rw [rawL_len]; exact h)]
  simp [rawL]
open Classical in
noncomputable def chB (z : Pz) (l : List Int) (xs : List (Int × Int)) : Bool := decide (DoesR z l xs)
theorem chB_iff {z : Pz} {l : List Int} {xs : List (Int × Int)} : chB z l xs = true ↔ DoesR z l xs := by unfold chB; simp
theorem chB_no {z : Pz} {l : List Int} {xs : List (Int × Int)} (h : ¬ DoesR z l xs) : chB z l xs = false := by unfold chB; simpa using h

set_option maxRecDepth 100000 in
set_option maxHeartbeats 4000000 in
theorem check_err (q p a : Option Addr) (n m c d k ck : Nat) (f t : Nat → Int) (sl : Int) (W : World) (hq : Is W q n f) (hp : Is W p m t) (he : wE n m f t sl ≠ 0) :
    Calls Try.prog 11 #[.slice q n c, .slice p m d, .int .i64 sl, .slice a k ck] W fun e w' => e = .returned (.tuple #[.bool false, .int .i64 (wE n m f t sl)]) ∧ Below W.heap.size W w' := by
  have HW := hide (wrong_any q p n m c d f t sl W hq hp)
  generalize hx : wE n m f t sl = x at *
  have hx' : (x != 0) = true := by simpa using he
  clear hx hq hp
  go_enter Try.func11, Try.ntmps11
  go_wp2_with fail
  refine (unhide HW).mono ?_
  rintro e w1 ⟨rfl, j, hj⟩
  have B1 : Below W.heap.size W w1 := by rw [hj]; exact Joins.below_draws _ W j
  have HB := hide B1
  clear hj B1 he
  go_wp2
  exact bodyPost_ret (v := .tuple #[.bool false, .int .i64 x]) (by simp [results, Try.results11, go_sem]) rfl ⟨rfl, unhide HB⟩

theorem g6_0 {a0 a1 a2 a3 a4 a5 : Oper} : (#[a0, a1, a2, a3, a4, a5] : Array Oper)[0]? = some a0 := rfl
theorem g6_1 {a0 a1 a2 a3 a4 a5 : Oper} : (#[a0, a1, a2, a3, a4, a5] : Array Oper)[1]? = some a1 := rfl
theorem g6_2 {a0 a1 a2 a3 a4 a5 : Oper} : (#[a0, a1, a2, a3, a4, a5] : Array Oper)[2]? = some a2 := rfl
theorem g6_3 {a0 a1 a2 a3 a4 a5 : Oper} : (#[a0, a1, a2, a3, a4, a5] : Array Oper)[3]? = some a3 := rfl
theorem g6_4 {a0 a1 a2 a3 a4 a5 : Oper} : (#[a0, a1, a2, a3, a4, a5] : Array Oper)[4]? = some a4 := rfl
theorem g6_5 {a0 a1 a2 a3 a4 a5 : Oper} : (#[a0, a1, a2, a3, a4, a5] : Array Oper)[5]? = some a5 := rfl

/-- a way to stand put into its box -/
theorem put_st {V : World} {b : Nat} {f0 : Nat → Int} (a : SR V b f0) (f1 : Nat → Int) :
    ∃ V', (((((V.setCell ⟨b, 0, none⟩ (.int .i64 (f1 0))).setCell ⟨b, 1, none⟩ (.int .i64 (f1 1))).setCell ⟨b, 2, none⟩ (.int .i64 (f1 2))).setCell ⟨b, 3, none⟩ (.int .i64 (f1 3))).setCell ⟨b, 4, none⟩ (.int .i64 (f1 4))) = V' ∧ SR V' b f1 ∧ Kept (fun j => j = b) V V' := by
  refine ⟨_, rfl, (((((a.set 0 (f1 0)).set 1 (f1 1)).set 2 (f1 2)).set 3 (f1 3)).set 4 (f1 4)).congr ?_, (((((Kept.refl (fun j => j = b) V).set (b := b) 0 _ (.inl rfl)).set (b := b) 1 _ (.inl rfl)).set (b := b) 2 _ (.inl rfl)).set (b := b) 3 _ (.inl rfl)).set (b := b) 4 _ (.inl rfl)⟩
  intro j hj
  rcases j with _ | _ | _ | _ | _ | j
  · rfl
  · rfl
  · rfl
  · rfl
  · rfl
  · omega
theorem KB.kept {S : Nat → Prop} {W V : World} {b : Nat} {q : Option Addr} {n c : Nat} {sl : Int} (h : KB W b q n c sl) (k : Kept S W V) (hS : ¬ S b) : KB V b q n c sl :=
  ⟨Nat.lt_of_lt_of_le h.1 k.size, k.cell h.1 hS h.2.1, k.cell h.1 hS h.2.2⟩

set_option maxRecDepth 100000 in
set_option maxHeartbeats 4000000 in
theorem check_ok (q p a : Option Addr) (c d m ck : Nat) (f : Nat → Int) (z : Pz) (xs : Nat → Int × Int) (W : World) (hq : Is W q z.n f) (hp : Is W p z.n z.t) (ha : Sp W a m xs) (he : wE z.n z.n f z.t z.sl = 0) (hm : m ≤ 9223372036854775806) :
    Calls Try.prog 11 #[.slice q z.n c, .slice p z.n d, .int .i64 z.sl, .slice a m ck] W fun e w' => e = .returned (.tuple #[.bool (chB z (tl z.n f) (rawL m xs)), .int .i64 0]) ∧ Below W.heap.size W w' := by
  obtain ⟨-, hR, -⟩ := wE_ok he
  have hR : Rt z f := hR
  have HW := hide (wrong_any q p z.n z.n c d f z.t z.sl W hq hp)
  rw [he] at HW
  have HS0 := hide (fun V (hb : Below W.heap.size W V) => standingOn_any q z.n c f V (hq.keep hb) hR.n1 hR.n5)
  have HS1 := hide (fun V (hb : Below W.heap.size W V) => standingOn_any p z.n d z.t V (hp.keep hb) hR.n1 hR.n5)
  have HMay := hide (fun (x : List Int) V (hb : Below W.heap.size W V) => may_any p z.n d z.t z.sl x V (hp.keep hb) hR.n1 hR.n5 hR.sl)
  have Hsp := hide (fun V (hb : Below W.heap.size W V) => ha.keep hb)
  obtain ⟨l, hl⟩ : ∃ l, l = tl z.n f := ⟨_, rfl⟩
  have hls : OkS z l := hl ▸ hR.s
  rw [← hl] at HS0 ⊢
  have Hl := hide hl
  clear hl ha
  go_enter Try.func11, Try.ntmps11
  go_wp2_with fail
  refine (unhide HW).mono ?_
  rintro e w1 ⟨rfl, j, hj⟩
  have B1 : Below W.heap.size W w1 := by rw [hj]; exact Joins.below_draws _ W j
  clear hj
  have b2 := btrans B1 (bnew w1 (.cells #[.slice p z.n d, .int .i64 z.sl] 36))
  have K2 := KB.new w1 p z.n d z.sl 36
  go_wp2_with fail
  obtain ⟨w2, hw2⟩ : ∃ w2, w1.alloc (.cells #[.slice p z.n d, .int .i64 z.sl] 36) = w2 := ⟨_, rfl⟩
  rw [hw2] at b2 K2
  rw [hw2]
  have hb9 : W.heap.size ≤ w1.heap.size := B1.size
  clear hw2
  generalize w1.heap.size = b9 at *
  refine (unhide HS0 w2 b2).mono ?_
  rintro e u ⟨rfl, hbu⟩
  have b4 := btrans hbu (bnew u (.cells #[.int .i64 (gt l 0), .int .i64 (gt l 1), .int .i64 (gt l 2), .int .i64 (gt l 3), .int .i64 (gt l 4)] 38))
  have A4 := SR.new u (gt l) 38
  have K4 := K2.keep b4
  have B4 := btrans b2 b4
  have hb10 : b9 < u.heap.size := Nat.lt_of_lt_of_le K2.1 hbu.size
  clear HW B1 b2 hbu K2 b4 hq hp HS0
  go_wp2
  generalize u.alloc (.cells #[.int .i64 (gt l 0), .int .i64 (gt l 1), .int .i64 (gt l 2), .int .i64 (gt l 3), .int .i64 (gt l 4)] 38) = w4 at *
  generalize u.heap.size = b10 at *
  go_loopw [29] (fun i wr => ∃ (x : Nat) (at0 : List Int), x ≤ m ∧ i = .int .i64 x ∧ OkS z at0 ∧ (DoesR z l (rawL m xs) ↔ DoesR z at0 ((rawL m xs).drop x)) ∧ KB wr b9 p z.n d z.sl ∧ SR wr b10 (gt at0) ∧ Below W.heap.size W wr) (fun i _ => m - (intOf i).toNat)
  case atStart => exact ⟨0, l, Nat.zero_le _, rfl, hls, by simp, K4, A4, B4⟩
  case round =>
    clear K4 A4 B4
    obtain ⟨x, at0, hx, rfl, hok, hiff, K, A, B⟩ := hrel
    have Hiff := hide hiff
    clear hiff
    by_cases hlt : x < m
    · obtain ⟨ba, oa, rfl, -, hc⟩ : ∃ b o, a = some ⟨b, o, none⟩ ∧ b < wr.heap.size ∧ ∀ k, k < m → wr.cell? ⟨b, o + k * 2, none⟩ = some (.int .i64 (xs k).1) ∧ wr.cell? ⟨b, o + k * 2 + 1, none⟩ = some (.int .i64 (xs k).2) := by
        rcases unhide Hsp wr B with h | h
        · omega
        · exact h
      obtain ⟨c0, c1⟩ := hc x hlt
      have hdr := rawL_drop (f := xs) hlt
      obtain ⟨vx, vy⟩ : ∃ vx : Int × Int, vx = xs x := ⟨_, rfl⟩
      rw [← vy] at c0 c1 hdr
      obtain ⟨px, py⟩ := vx
      dsimp only at c0 c1
      have Hdr := hide hdr
      clear hc hdr vy
      have p0 : (x : Int) < (m : Int) := by omega
      have b5 := bnew wr (.cells #[.int .i64 px, .int .i64 py] 44)
      have K5 := K.keep b5
      have A5 := A.keep b5
      have B5 := btrans B b5
      have P5 := PB.new wr px py 44
      obtain ⟨w5, hw5⟩ : ∃ w5, wr.alloc (.cells #[.int .i64 px, .int .i64 py] 44) = w5 := ⟨_, rfl⟩
      rw [hw5] at K5 A5 B5 P5
      obtain ⟨-, k0, k1⟩ := id K5
      obtain ⟨-, d0, d1⟩ := id P5
      have HIs := hide (isPass_any p z.n d z.sl px py w5 hR.n1 hR.n5)
      have hbw : b10 < wr.heap.size := A.1
      clear b5 K A B
      go_wp2_with fail
      clear hw5 c0 c1 k0 k1 d0 d1
      generalize wr.heap.size = b14 at *
      refine (unhide HIs).mono ?_
      rintro e w6 ⟨rfl, hb6⟩
      have K6 := K5.keep hb6
      have A6 := A5.keep hb6
      have B6 := btrans B5 hb6
      have P6 := P5.keep hb6
      clear HIs hb6 K5 A5 B5 P5
      by_cases hpass : (-2 ≤ px ∧ px ≤ 2 ∧ px ≠ 0) ∧ 1 ≤ py ∧ py < ((2 ^ z.n : Nat) : Int)
      · rw [decide_eq_true hpass]
        obtain ⟨w, hw⟩ : ∃ w : Nat, py = w := ⟨py.toNat, by omega⟩
        subst hw
        have hokp : okP z.n (px, w) := ⟨hpass.1, by dsimp only; omega, by dsimp only; omega⟩
        have HBe := hide (fun V => behind_any (z := z) (by have := hR.n5; omega) at0 hok (px, w) hokp V)
        have HK6 := hide K6
        have HB6 := hide B6
        have HA6 := hide A6
        have HP6 := hide P6
        obtain ⟨-, d0, d1⟩ := id P6
        have a0 := (A6.2 0 (by omega)).1
        have a1 := (A6.2 1 (by omega)).1
        have a2 := (A6.2 2 (by omega)).1
        have a3 := (A6.2 3 (by omega)).1
        have a4 := (A6.2 4 (by omega)).1
        clear K6 A6 B6 P6 hpass
        go_wp2_with fail
        refine (unhide HBe w6).mono ?_
        rintro e w7 ⟨rfl, hb7⟩
        clear d0 d1 a0 a1 a2 a3 a4
        have A7 := (unhide HA6).keep hb7
        obtain ⟨w8, hw8, A8, Kt8⟩ := put_st A7 (gt (bh at0 (px, w)))
        have K8 := ((unhide HK6).keep hb7).kept Kt8 (by omega)
        have B8 := Kt8.back (btrans (unhide HB6) hb7) (by have := (btrans (unhide HB6) hb7).size; omega) (fun i hi => by omega)
        obtain ⟨a0, y0⟩ := A7.2 0 (by omega)
        obtain ⟨a1, y1⟩ := A7.2 1 (by omega)
        obtain ⟨a2, y2⟩ := A7.2 2 (by omega)
        obtain ⟨a3, y3⟩ := A7.2 3 (by omega)
        obtain ⟨a4, y4⟩ := A7.2 4 (by omega)
        obtain ⟨-, k0, k1⟩ := id K8
        have c0 := (A8.2 0 (by omega)).1
        have c1 := (A8.2 1 (by omega)).1
        have c2 := (A8.2 2 (by omega)).1
        have c3 := (A8.2 3 (by omega)).1
        have c4 := (A8.2 4 (by omega)).1
        have HM8 := hide (unhide HMay (bh at0 (px, w)) w8 B8)
        have HK8 := hide K8
        have HA8 := hide A8
        have HB8 := hide B8
        clear K8 A8 B8 A7 Kt8 hb7 HK6 HB6 HA6 HP6 HBe
        go_wp2_with fail
        refine (unhide HM8).mono ?_
        rintro e w9 ⟨rfl, hb9'⟩
        have HK9 := hide ((unhide HK8).keep hb9')
        have HA9 := hide ((unhide HA8).keep hb9')
        have HB9 := hide (btrans (unhide HB8) hb9')
        clear a0 a1 a2 a3 a4 y0 y1 y2 y3 y4 k0 k1 c0 c1 c2 c3 c4 hw8 HK8 HA8 HB8 HM8 hb9'
        cases hr : stB z.n z.t z.sl (gt (bh at0 (px, w))) with
        | true =>
          have ok2 : OkS z (bh at0 (px, w)) := (stB_ok hok.1).1 hr
          have HI2 := hide (show DoesR z l (rawL m xs) ↔ DoesR z (bh at0 (px, w)) ((rawL m xs).drop (x + 1)) from by
            rw [unhide Hiff, unhide Hdr]
            constructor
            · rintro ⟨p', _, e, _, h⟩
              have e1 : (px, w) = p' := Prod.ext (Prod.mk.inj e).1 (by have := (Prod.mk.inj e).2; omega)
              rw [e1]; exact h
            · exact fun h => ⟨(px, w), hokp, rfl, ok2, h⟩)
          clear hr
          go_wp2
          go_roundw
          case rel => exact ⟨x + 1, bh at0 (px, w), by omega, by go_num, ok2, unhide HI2, unhide HK9, unhide HA9, unhide HB9⟩
          case measure => simp [intOf]; omega
        | false =>
          have HI2 := hide (show chB z l (rawL m xs) = false from chB_no (fun k => by
            rw [unhide Hiff, unhide Hdr] at k
            obtain ⟨p', _, e, h, _⟩ := k
            have e1 : (px, w) = p' := Prod.ext (Prod.mk.inj e).1 (by have := (Prod.mk.inj e).2; omega)
            rw [← e1] at h
            rw [(stB_ok hok.1).2 h] at hr
            cases hr))
          clear hr
          go_wp2
          exact bodyPost_ret (v := .tuple #[.bool false, .int .i64 0]) (by simp [results, Try.results11, go_sem]) rfl ⟨by rw [unhide HI2], unhide HB9⟩
      · rw [decide_eq_false hpass]
        have HI2 := hide (show chB z l (rawL m xs) = false from chB_no (fun k => by
          rw [unhide Hiff, unhide Hdr] at k
          obtain ⟨p', hp', e, _, _⟩ := k
          have e1 := (Prod.mk.inj e).1
          have e2 := (Prod.mk.inj e).2
          exact hpass ⟨by rw [e1]; exact hp'.1, by have := hp'.2; omega⟩))
        have HB6 := hide B6
        clear K6 A6 B6 P6 hpass
        go_wp2
        exact bodyPost_ret (v := .tuple #[.bool false, .int .i64 0]) (by simp [results, Try.results11, go_sem]) rfl ⟨by rw [unhide HI2], unhide HB6⟩
    · obtain rfl : x = m := by omega
      have cl : ¬ ((x : Int) < (x : Int)) := by omega
      obtain ⟨r, hr, q0⟩ : ∃ r : Bool, chB z l (rawL x xs) = r ∧ ∀ V, (Op.equalIn 10000 38 (stV at0) (stV (tl z.n z.t))).run Try.prog V = .ok r V := by
        have hi := unhide Hiff
        rw [List.drop_of_length_le (by rw [rawL_len]; exact Nat.le_refl _)] at hi
        by_cases e : at0 = z.E
        · refine ⟨true, chB_iff.2 (hi.2 e), fun V => ?_⟩
          rw [e]
          exact equal_yes (okS_bound hR.e) V
        · exact ⟨false, chB_no (fun k => e (hi.1 k)), fun V => equal_no (okS_bound hok) (okS_bound hR.e) (hok.1.trans hR.e.1.symm) (by have := hok.1; have := hR.n5; omega) e V⟩
      have HSt := hide (fun V (hb : Below wr.heap.size wr V) => unhide HS1 V (btrans B hb))
      have hA1 := A.1
      have a0 := (A.2 0 (by omega)).1
      have a1 := (A.2 1 (by omega)).1
      have a2 := (A.2 2 (by omega)).1
      have a3 := (A.2 3 (by omega)).1
      have a4 := (A.2 4 (by omega)).1
      have HB := hide B
      have Hr := hide hr
      clear K A B hlt Hiff hr HMay Hsp
      go_wp2_with fail
      refine wp_region_noPanic ?_
      refine wp_region_held_drew (S := fun V => Below wr.heap.size wr V) (by kernel_rfl) (bdrew wr) ?_
      intro _
      refine wpAnyH_take (i := 0) (oi := _) (v := stV at0) g6_0 (by kernel_rfl) (by kernel_rfl) (by kernel_rfl) (fun _ _ _ h => h) (Or.inl ⟨by rfl, ?_⟩) (by assumption) ?_
      · intro V hSw
        try dsimp only at hSw
        have e0 := keepC hSw hA1 a0
        have e1 := keepC hSw hA1 a1
        have e2 := keepC hSw hA1 a2
        have e3 := keepC hSw hA1 a3
        have e4 := keepC hSw hA1 a4
        go_simp
      simp only [Act.put, List.setIfInBounds_toArray, List.set_cons_zero, List.set_cons_succ]
      refine wpAnyH_take (i := 1) (oi := _) (v := .slice p z.n d) g6_1 (by kernel_rfl) (by kernel_rfl) (by kernel_rfl) (fun _ _ _ h => h) (Or.inl ⟨by rfl, ?_⟩) (by assumption) ?_
      · intro V hSw
        try dsimp only at hSw
        go_simp
      simp only [Act.put, List.setIfInBounds_toArray, List.set_cons_zero, List.set_cons_succ]
      refine wpAnyH_ready (rs := [2]) (by kernel_rfl) (by simp) ?_
      refine AllReadyH.cons (o := _) g6_2 (fun K hK => ?_) AllReadyH.nil
      go_simp
      refine (unhide HSt _ (bdrew wr)).mono ?_
      rintro e w3 ⟨rfl, hb3⟩
      have S3 := btrans (bdrew wr) hb3
      refine hK.out _ _ (S3) (fun _ => ?_)
      clear hK K hb3
      refine wpAnyH_take (i := 3) (oi := _) (v := .bool r) g6_3 (by kernel_rfl) (by kernel_rfl) (by kernel_rfl) (fun _ _ _ h => h) (Or.inl ⟨by rfl, ?_⟩) (by assumption) ?_
      · intro V hSw
        try dsimp only at hSw
        have q1 := q0 V
        go_simp
      simp only [Act.put, List.setIfInBounds_toArray, List.set_cons_zero, List.set_cons_succ]
      refine wpAnyH_take (i := 4) (oi := _) (v := .bool r) g6_4 (by kernel_rfl) (by kernel_rfl) (by kernel_rfl) (fun _ _ _ h => h) (Or.inl ⟨by rfl, ?_⟩) (by assumption) ?_
      · intro V hSw
        try dsimp only at hSw
        go_simp
      simp only [Act.put, List.setIfInBounds_toArray, List.set_cons_zero, List.set_cons_succ]
      refine wpAnyH_take (i := 5) (oi := _) (v := .int .i64 0) g6_5 (by kernel_rfl) (by kernel_rfl) (by kernel_rfl) (fun _ _ _ h => h) (Or.inl ⟨by rfl, ?_⟩) (by assumption) ?_
      · intro V hSw
        try dsimp only at hSw
        go_simp
      simp only [Act.put, List.setIfInBounds_toArray, List.set_cons_zero, List.set_cons_succ]
      refine wpAnyH_done (by kernel_rfl) ?_ _
      refine NoPanic.normal ?_
      go_wp2
      exact bodyPost_ret (v := .tuple #[.bool r, .int .i64 0]) (by simp [results, Try.results11, go_sem]) rfl ⟨by rw [unhide Hr], btrans (unhide HB) S3⟩
end Go.Proofs.Ytpdknodnlamphaa
