/-
  The reference's Lay, walked.
-/
import Derived.Test.YtkhmdgppkjafoaaRB
namespace Go.Proofs.Ytkhmdgppkjafoaa
open Go.RowKit

theorem info4 : (Try.prog.info? 4).map (fun i => (i.zero, i.size, i.bytes)) = some (some (.bool false), 1, 1) := by kernel_rfl
/-- truths that may be written -/
def BRw (W : World) (b n : Nat) (f : Nat → Bool) : Prop := b < W.heap.size ∧ ∀ j, j < n → W.cell? ⟨b, j, none⟩ = some (.bool (f j)) ∧ W.frozen? ⟨b, j, none⟩ = false
theorem BRw.kept {T : Nat → Prop} {w V : World} {b n : Nat} {f : Nat → Bool} (h : BRw w b n f) (k : Kept T w V) (hT : ¬ T b) : BRw V b n f :=
  ⟨Nat.lt_of_lt_of_le h.1 k.size, fun j hj => ⟨k.cell h.1 hT (h.2 j hj).1, k.froz h.1 hT (h.2 j hj).2⟩⟩
theorem BRw.keep {w V : World} {b n : Nat} {f : Nat → Bool} (h : BRw w b n f) (hb : Below w.heap.size w V) : BRw V b n f := h.kept (Kept.of (S := fun _ => False) hb) (fun q => q)
theorem BRw.put {W : World} {b n i : Nat} {f f' : Nat → Bool} {v : Bool} (h : BRw W b n f) (hx : f' i = v) (hr : ∀ j, j < n → j ≠ i → f j = f' j) : BRw (W.setCell ⟨b, i, none⟩ (.bool v)) b n f' := by
  refine ⟨by simpa using h.1, fun j hj => ⟨?_, fset (h.2 j hj).2⟩⟩
  by_cases e : j = i
  · subst e; rw [hx]; exact csame (h.2 j hj).1
  · rw [← hr j hj e]; exact cset (h.2 j hj).1 e
theorem brw_made {w : World} {B b k : Nat} (h : w.ownsRow B 4 1 (.slice (some ⟨b, 0, none⟩) k k) k (madeCells #[.bool false] k).toList) : BRw w b k (fun _ => false) :=
  ⟨(h.lt b rfl).2, fun j hj => ⟨by rw [h.cellAt j (by omega), toList_madeCells_one, List.getElem?_replicate, if_pos (by omega)], h.frozenAt j⟩⟩

set_option maxHeartbeats 1000000 in
theorem rlay_err (wide : Int) (q : Option Addr) (n cap : Nat) (a b : Nat → Int) (W : World) (hP : Ps W q n a b) (he : wE wide n a b ≠ 0) : Calls Try.prog 7 #[.int .i64 wide, .slice q n cap] W fun e V => e = .returned (.tuple #[.slice none 0 0, .int .i64 0, .int .i64 (wE wide n a b)]) ∧ Below W.heap.size W V := by
  have HC := hide (rwrong_any wide q n cap a b W hP)
  generalize wE wide n a b = er at *
  have h1 : (er != 0) = true := by simpa using he
  clear hP he
  go_enter Try.func7, Try.ntmps7
  go_wp2_with fail
  refine (unhide HC).mono ?_
  rintro e w1 ⟨rfl, hb1⟩
  go_wp2
  exact bodyPost_ret (v := .tuple #[.slice none 0 0, .int .i64 0, .int .i64 er]) (by simp [results, Try.results7, go_sem]) rfl ⟨rfl, hb1⟩

/-- what lies about while the document lays: the points, and what is done -/
def Lr (W0 : World) (pb db n wide : Nat) (w h g : Nat → Nat) (k : Nat) (V : World) : Prop := PRw V pb n (fun i => (aX wide w h g k i : Int)) (fun i => (aY wide w h g k i : Int)) ∧ BRw V db n (dn g k) ∧ Below W0.heap.size W0 V
theorem Lr.keep {W0 V V' : World} {pb db n wide : Nat} {w h g : Nat → Nat} {k : Nat} (H : Lr W0 pb db n wide w h g k V) (hb : Below V.heap.size V V') : Lr W0 pb db n wide w h g k V' := ⟨H.1.keep hb, H.2.1.keep hb, btrans H.2.2 hb⟩
/-- points, a height and an error are told, of an order that is known -/
def PQ (W : World) (n : Nat) (w h : Nat → Nat) (wide : Nat) (g : Nat → Nat) (e : Ending) (V : World) : Prop := ∃ b : Nat, e = .returned (.tuple #[.slice (some ⟨b, 0, none⟩) n n, .int .i64 ((shs wide w h g n).t : Int), .int .i64 0]) ∧ Ps V (some ⟨b, 0, none⟩) n (fun i => (aX wide w h g n i : Int)) (fun i => (aY wide w h g n i : Int)) ∧ Below W.heap.size W V
theorem PQ.mk {W V : World} {n wide t : Nat} {w h g : Nat → Nat} (b : Nat) (ht : t = (shs wide w h g n).t) (h2 : Ps V (some ⟨b, 0, none⟩) n (fun i => (aX wide w h g n i : Int)) (fun i => (aY wide w h g n i : Int))) (hb : Below W.heap.size W V) : PQ W n w h wide g (.returned (.tuple #[.slice (some ⟨b, 0, none⟩) n n, .int .i64 (t : Int), .int .i64 0])) V := ⟨b, by rw [ht], h2, hb⟩

set_option maxRecDepth 100000 in
set_option maxHeartbeats 8000000 in
theorem rlay_ok (wide : Nat) (q : Option Addr) (n cap : Nat) (w h g : Nat → Nat) (r : Rg wide n w h) (so : Srt n h g) (W : World) (hP : Ps W q n (fun k => (w k : Int)) (fun k => (h k : Int))) : Calls Try.prog 7 #[.int .i64 (wide : Int), .slice q n cap] W (PQ W n w h wide g) := by
  obtain ⟨i0, hi, hz0, hz1, hz2⟩ := info_parts info35
  obtain ⟨i4, hj, hy0, hy1, hy2⟩ := info_parts info4
  have hw := r.wide
  have hn := r.many
  have hby : i0.bytes * n ≤ 281474976710656 := by rw [hz2]; omega
  have hbz : i4.bytes * n ≤ 281474976710656 := by rw [hy2]; omega
  have hml : n ≤ maxLen := by unfold maxLen; omega
  have HC := hide (rwrong_any (wide : Int) q n cap _ _ W hP)
  rw [wE_rg r] at HC
  have HP := hide hP
  have Hr := hide r
  have Hs := hide so
  clear hP r so
  go_enter Try.func7, Try.ntmps7
  go_wp2_with fail
  refine (unhide HC).mono ?_
  rintro e w1 ⟨rfl, hb1⟩
  have Hb1 := hide hb1
  clear hb1 HC
  go_wp2_with (first | fail | refine wpList_make_full _ rfl _ _ 23 rfl w1.heap.size 35 i0 _ 2 Try.underlying23 hi hz0 hz1 .i64 .i64 (n : Int) (n : Int) n rfl rfl rfl rfl hby hml (Nat.le_refl _) ?_)
  intro wm hown hgrow
  have HR := hide (prw_made hown)
  have Hb2 := hide (btrans (unhide Hb1) ((Below.refl _ w1).grown hgrow (Nat.le_refl _) (fun k hk => by cases hk)))
  have hS0 : W.heap.size ≤ w1.heap.size := (unhide Hb1).size
  clear hown hgrow hi hz0 hz1 hz2 hby Hb1
  generalize w1.heap.size = pb at *
  go_wp2_with (first | fail | refine wpList_make_full _ rfl _ _ 44 rfl wm.heap.size 4 i4 _ 1 Try.underlying44 hj hy0 hy1 .i64 .i64 (n : Int) (n : Int) n rfl rfl rfl rfl hbz hml (Nat.le_refl _) ?_)
  intro wn hown hgrow
  have hS1 := (Below.refl _ wm).grown hgrow (Nat.le_refl _) (fun k hk => by cases hk)
  have hpd : pb < wm.heap.size := (unhide HR).1
  have HL := hide (show Lr W pb wm.heap.size n wide w h g 0 wn from ⟨by simpa [aX, aY] using (unhide HR).keep hS1, by have := brw_made (k := n) (by simpa using hown); simpa [dn] using this, btrans (unhide Hb2) hS1⟩)
  clear hown hgrow hj hy0 hy1 hy2 hbz hml hS1 HR Hb2
  generalize wm.heap.size = db at *
  go_wp2
  go_loopw [10, 11, 12, 30] (fun xv yv sv i wr => ∃ k x y s : Nat, k ≤ n ∧ i = .int .i64 (k : Int) ∧ xv = .int .i64 (x : Int) ∧ yv = .int .i64 (y : Int) ∧ sv = .int .i64 (s : Int) ∧ Hid (RS wide w h g k x y s) ∧ Lr W pb db n wide w h g k wr) (fun _ _ _ i _ => n - (intOf i).toNat)
  case atStart => exact ⟨0, 0, 0, 0, Nat.zero_le _, rfl, rfl, rfl, rfl, hide (.inl ⟨rfl, rfl, rfl, rfl⟩), unhide HL⟩
  case round =>
    clear HL
    obtain ⟨k, x, y, s, hk, rfl, rfl, rfl, rfl, HRS, hL⟩ := hrel
    have HL := hide hL
    clear hL
    by_cases hlt : k < n
    · have q0 : (k : Int) < (n : Int) := by omega
      go_wp2
      go_loopw [13, 34] (fun bv i wr => ∃ (z : Nat) (b : Int), z ≤ n ∧ i = .int .i64 (z : Int) ∧ bv = .int .i64 b ∧ Hid (IsB g h k z b) ∧ Lr W pb db n wide w h g k wr) (fun _ i _ => n - (intOf i).toNat)
      case atStart => exact ⟨0, -1, Nat.zero_le _, rfl, rfl, hide (IsB.start g h k), unhide HL⟩
      case round =>
        clear HL
        obtain ⟨z, b, hz, rfl, rfl, HI, hL⟩ := hrel
        by_cases hlz : z < n
        · have q1 : (z : Int) < (n : Int) := by omega
          have q2 : (0 : Int) ≤ (z : Int) := by omega
          obtain ⟨ad, oo, rfl, k0, k1⟩ := ((unhide HP).keep hL.2.2).at hlz
          have HB := hide (B2.new wr (w z : Int) (h z : Int) 33)
          have HL := hide (hL.keep (bnew wr (.cells #[.int .i64 (w z : Int), .int .i64 (h z : Int)] 33)))
          clear hL
          go_upto_region 13 with fail
          generalize wr.alloc (.cells #[.int .i64 (w z : Int), .int .i64 (h z : Int)] 33) = w3 at *
          generalize wr.heap.size = n15 at *
          clear k0 k1
          have i0 := (unhide HB).2.1
          have i1 := (unhide HB).2.2
          have dc := ((unhide HL).2.1.2 z hlz).1
          cases hd : dn g k z with
          | true =>
            rw [hd] at dc
            have Hn := hide ((unhide HI).done hd)
            clear hd HI
            go_wp2_with fail
            go_quiet (fail)
            have HL9 := hide ((unhide HL).keep (Joins.below_draws w3.heap.size w3 nq))
            generalize w3.drewN nq = w9 at *
            go_wp2
            go_roundw
            case rel => exact ⟨z + 1, b, by omega, by go_num, rfl, hide (unhide Hn), unhide HL9⟩
            case measure => simp [intOf]; omega
          | false =>
            rw [hd] at dc
            rcases (unhide HI).kind with hb | ⟨m, hb, hm⟩
            · subst hb
              have Hn := hide ((unhide HI).first hd)
              clear hd HI
              have d1 : decide ((-1 : Int) < 0) = true := by decide
              go_wp2_with fail
              go_quiet (fail)
              have HL9 := hide ((unhide HL).keep (Joins.below_draws w3.heap.size w3 nq))
              generalize w3.drewN nq = w9 at *
              go_wp2
              go_roundw
              case rel => exact ⟨z + 1, z, by omega, by go_num, rfl, hide (unhide Hn), unhide HL9⟩
              case measure => simp [intOf]; omega
            · subst hb
              obtain ⟨ad2, oo2, hq2, -, l1⟩ := ((unhide HP).keep (unhide HL).2.2).at (show m < n by omega)
              cases hq2
              have d1 : ¬ (m : Int) < 0 := by omega
              have d1' : decide ((m : Int) < 0) = false := decide_eq_false d1
              have d2 : (m : Int) < (n : Int) := by omega
              have d3 : (0 : Int) ≤ (m : Int) := by omega
              obtain ⟨hm1, ehm⟩ : ∃ hm1, h m = hm1 := ⟨_, rfl⟩
              obtain ⟨hz1, ehz⟩ : ∃ hz1, h z = hz1 := ⟨_, rfl⟩
              rw [ehm] at l1
              rw [ehz] at i1
              by_cases c : hm1 < hz1
              · have c' : (hm1 : Int) < (hz1 : Int) := by omega
                have c2 : decide ((hm1 : Int) < (hz1 : Int)) = true := decide_eq_true c'
                have Hn := hide ((unhide HI).more hd (by rw [ehm, ehz]; exact c))
                clear hd HI ehm ehz
                go_wp2_with fail
                go_quiet (fail)
                have HL9 := hide ((unhide HL).keep (Joins.below_draws w3.heap.size w3 nq))
                generalize w3.drewN nq = w9 at *
                go_wp2
                go_roundw
                case rel => exact ⟨z + 1, z, by omega, by go_num, rfl, hide (unhide Hn), unhide HL9⟩
                case measure => simp [intOf]; omega
              · have c' : ¬ (hm1 : Int) < (hz1 : Int) := by omega
                have c2 : decide ((hm1 : Int) < (hz1 : Int)) = false := decide_eq_false c'
                have Hn := hide ((unhide HI).less (by rw [ehm, ehz]; exact c))
                clear hd HI ehm ehz
                go_wp2_with fail
                go_quiet (fail)
                have HL9 := hide ((unhide HL).keep (Joins.below_draws w3.heap.size w3 nq))
                generalize w3.drewN nq = w9 at *
                go_wp2
                go_roundw
                case rel => exact ⟨z + 1, m, by omega, by go_num, rfl, hide (unhide Hn), unhide HL9⟩
                case measure => simp [intOf]; omega
        · obtain rfl : n = z := by omega
          have cl : ¬ ((n : Int) < (n : Int)) := by omega
          have hbk := (unhide HI).next (unhide Hs) hlt
          subst hbk
          have hgk : g k < n := (unhide Hs).lt k hlt
          have Hbd := hide ((unhide HRS).bound (unhide Hr) (unhide Hs) hk)
          have Hea := hide ((unhide Hr).each (g k) hgk)
          have HA := hide (fun (c : wide < x + w (g k)) => (unhide HRS).begin (unhide Hr) (unhide Hs) hlt c)
          have HB0 := hide (fun (e : s = 0) => RS.one (unhide Hr) (unhide Hs) hlt (by have := unhide HRS; rw [e] at this; exact this))
          have HB1 := hide (fun (e : s ≠ 0) (c : ¬ wide < x + w (g k)) => (unhide HRS).room e c)
          have HaX := hide (show ∀ j, aX wide w h g (k + 1) j = if j = g k then (shs wide w h g (k + 1)).x - w (g k) else aX wide w h g k j from fun _ => rfl)
          have HaY := hide (show ∀ j, aY wide w h g (k + 1) j = if j = g k then (shs wide w h g (k + 1)).f else aY wide w h g k j from fun _ => rfl)
          have Hdn := hide (show ∀ j, dn g (k + 1) j = if j = g k then true else dn g k j from fun _ => rfl)
          obtain ⟨gi, hgi⟩ : ∃ gi, g k = gi := ⟨_, rfl⟩
          rw [hgi] at hgk Hea HA HB0 HB1 HaX HaY Hdn
          rw [hgi]
          clear hgi HI HRS
          have c0 : (gi : Int) < (n : Int) := by omega
          have c1 : (0 : Int) ≤ (gi : Int) := by omega
          obtain ⟨dc, df⟩ := hL.2.1.2 gi hgk
          generalize dn g k gi = old at dc
          have HK := hide (show (BRw (wr.setCell ⟨db, gi, none⟩ (.bool true)) db n (dn g (k + 1)) ∧ PRw (wr.setCell ⟨db, gi, none⟩ (.bool true)) pb n (fun i => (aX wide w h g k i : Int)) (fun i => (aY wide w h g k i : Int)) ∧ Below W.heap.size W (wr.setCell ⟨db, gi, none⟩ (.bool true))) from ⟨hL.2.1.put (by rw [unhide Hdn, if_pos rfl]) (fun j _ hj => by rw [unhide Hdn, if_neg hj]), hL.1.kept (kset wr db gi (.bool true)) (show ¬ pb = db by omega), bset hL.2.2 (show W.heap.size ≤ db by omega)⟩)
          clear hL
          go_upto_region 17 with fail
          generalize wr.setCell ⟨db, gi, none⟩ (.bool true) = w5 at *
          clear dc df
          obtain ⟨ad, oo, rfl, k0, k1⟩ := ((unhide HP).keep (unhide HK).2.2).at hgk
          obtain ⟨⟨m0, m1⟩, m2, m3⟩ := (unhide HK).2.1.2 gi hgk
          generalize ((aX wide w h g k gi : Nat) : Int) = m0v at m0
          generalize ((aY wide w h g k gi : Nat) : Int) = m1v at m1
          have Hput := hide (show ∀ X1 Y1 : Nat, X1 = (shs wide w h g (k + 1)).x - w gi → Y1 = (shs wide w h g (k + 1)).f → Lr W pb db n wide w h g (k + 1) ((w5.setCell ⟨pb, gi * 2, none⟩ (.int .i64 (X1 : Int))).setCell ⟨pb, gi * 2 + 1, none⟩ (.int .i64 (Y1 : Int))) from fun X1 Y1 e1 e2 => by
            have K2 := ((Kept.refl (fun i => i = pb) w5).set (b := pb) (gi * 2) (.int .i64 (X1 : Int)) (.inl rfl)).set (b := pb) (gi * 2 + 1) (.int .i64 (Y1 : Int)) (.inl rfl)
            exact ⟨(unhide HK).2.1.put ⟨by rw [unhide HaX, if_pos rfl, e1], by rw [unhide HaY, if_pos rfl, e2]⟩ (fun j _ hj => ⟨by rw [unhide HaX, if_neg hj], by rw [unhide HaY, if_neg hj]⟩), (unhide HK).1.kept K2 (show ¬ db = pb by omega), Kept.back (unhide HK).2.2 K2 (unhide HK).2.2.size (fun q e => by subst e; omega)⟩)
          obtain ⟨ua, hua⟩ : ∃ ua, w gi = ua := ⟨_, rfl⟩
          obtain ⟨ub, hub⟩ : ∃ ub, h gi = ub := ⟨_, rfl⟩
          rw [hua] at k0 HA HB0 HB1 Hput
          rw [hub] at k1 HA HB0
          rw [hua, hub] at Hea
          have Hua := hide hua
          clear hua hub HaX HaY Hdn
          obtain ⟨xa, hxa⟩ : ∃ xa, xa = x + ua := ⟨_, rfl⟩
          obtain ⟨ys, hys⟩ : ∃ ys, ys = y + s := ⟨_, rfl⟩
          have hbd := unhide Hbd
          have hea := unhide Hea
          have e1 : (x : Int) + (ua : Int) = (xa : Int) := by omega
          have e2 : (y : Int) + (s : Int) = (ys : Int) := by omega
          have b1 : (xa : Int) ≤ 2097152 := by omega
          have b2 : (ys : Int) ≤ 268435456 := by omega
          by_cases c : wide < xa
          · have c' : (wide : Int) < (xa : Int) := by omega
            have Hn := hide (unhide HA (by rw [← hxa]; exact c))
            rw [← hys] at Hn
            have Hp := hide (unhide Hput 0 ys (unhide Hn).2.1 (unhide Hn).2.2)
            have hc0 : ((0 : Nat) : Int) = 0 := rfl
            rw [hc0] at Hp
            clear HA HB0 HB1 Hput hxa hys hbd hea hc0
            go_upto_region 22 with fail
            generalize (w5.setCell ⟨pb, gi * 2, none⟩ (.int .i64 0)).setCell ⟨pb, gi * 2 + 1, none⟩ (.int .i64 (ys : Int)) = w6 at *
            clear k0 k1 m0 m1 m2 m3
            obtain ⟨ad9, oo9, hq9, j0, -⟩ := ((unhide HP).keep (unhide Hp).2.2).at hgk
            cases hq9
            rw [unhide Hua] at j0
            go_wp2
            clear e1 e2
            go_roundw
            case rel => exact ⟨k + 1, ua, ys, ub, by omega, by go_num, rfl, rfl, rfl, hide (unhide Hn).1, unhide Hp⟩
            case measure => simp [intOf]; omega
          · have c' : ¬ (wide : Int) < (xa : Int) := by omega
            by_cases c2 : s = 0
            · have Hn := hide (unhide HB0 c2)
              rw [← hxa] at Hn
              have Hp := hide (unhide Hput x y (unhide Hn).2.1 (unhide Hn).2.2)
              clear HA HB0 HB1 Hput hxa hys hbd hea e2 b2
              subst c2
              go_upto_region 22 with fail
              generalize (w5.setCell ⟨pb, gi * 2, none⟩ (.int .i64 (x : Int))).setCell ⟨pb, gi * 2 + 1, none⟩ (.int .i64 (y : Int)) = w6 at *
              clear k0 k1 m0 m1 m2 m3
              obtain ⟨ad9, oo9, hq9, j0, -⟩ := ((unhide HP).keep (unhide Hp).2.2).at hgk
              cases hq9
              rw [unhide Hua] at j0
              go_wp2
              clear e1
              go_roundw
              case rel => exact ⟨k + 1, xa, y, ub, by omega, by go_num, rfl, rfl, rfl, hide (unhide Hn).1, unhide Hp⟩
              case measure => simp [intOf]; omega
            · have c3 : ((s : Int) == 0) = false := by simp; omega
              have Hn := hide (unhide HB1 c2 (by rw [← hxa]; exact c))
              rw [← hxa] at Hn
              have Hp := hide (unhide Hput x y (unhide Hn).2.1 (unhide Hn).2.2)
              clear HA HB0 HB1 Hput hxa hys hbd hea e2 b2
              go_upto_region 22 with fail
              generalize (w5.setCell ⟨pb, gi * 2, none⟩ (.int .i64 (x : Int))).setCell ⟨pb, gi * 2 + 1, none⟩ (.int .i64 (y : Int)) = w6 at *
              clear k0 k1 m0 m1 m2 m3
              obtain ⟨ad9, oo9, hq9, j0, -⟩ := ((unhide HP).keep (unhide Hp).2.2).at hgk
              cases hq9
              rw [unhide Hua] at j0
              go_wp2
              clear e1
              go_roundw
              case rel => exact ⟨k + 1, xa, y, s, by omega, by go_num, rfl, rfl, rfl, hide (unhide Hn).1, unhide Hp⟩
              case measure => simp [intOf]; omega
    · obtain rfl : n = k := by omega
      have cl : ¬ ((n : Int) < (n : Int)) := by omega
      obtain ⟨tt, htt⟩ : ∃ tt, tt = y + s := ⟨_, rfl⟩
      have Htt := hide (show tt = (shs wide w h g n).t by rw [htt]; exact (unhide HRS).top)
      have hbd := (unhide HRS).bound (unhide Hr) (unhide Hs) (Nat.le_refl _)
      have e1 : (y : Int) + (s : Int) = (tt : Int) := by omega
      have b1 : (tt : Int) ≤ 268435456 := by omega
      clear htt hbd HRS
      go_wp2
      exact bodyPost_ret (v := .tuple #[.slice (some ⟨pb, 0, none⟩) n n, .int .i64 (tt : Int), .int .i64 0]) (by simp [results, Try.results7, go_sem]) rfl (PQ.mk pb (unhide Htt) (unhide HL).1.ps (unhide HL).2.2)
end Go.Proofs.Ytkhmdgppkjafoaa
