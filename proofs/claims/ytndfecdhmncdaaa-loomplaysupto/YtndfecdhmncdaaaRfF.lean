/-
  Play: the document's own loom, led step by step, where it can be opened.
-/
import Derived.Test.YtndfecdhmncdaaaRfB
import Derived.Test.YtndfecdhmncdaaaRfE
import Derived.Deep.CutBlock
namespace Go.Proofs.Ytndfecdhmncdaaa
open Go.RowKit

theorem all_may (ev st : Int) (he : evB ev = true) : (alL ev).any (· == st) = may ev st := by
  rw [Bool.eq_iff_iff]
  rcases evB_cases he with rfl | rfl | rfl | rfl | rfl | rfl | rfl | rfl | rfl
  all_goals simp [alL, may, amid]
  all_goals omega
theorem alL_len (ev : Int) : (alL ev).length ≤ 4 := by
  unfold alL
  repeat' split
  all_goals simp
theorem tdAt_or (ev : Int) : tdAt ev = 0 ∨ tdAt ev = 1 ∨ tdAt ev = -1 := by
  unfold tdAt
  by_cases c : ev = 6 ∨ ev = 8
  · rw [if_pos c]; exact .inl rfl
  · rw [if_neg c]
    by_cases c2 : ev = 3 ∨ ev = 9
    · rw [if_pos c2]; exact .inr (.inl rfl)
    · rw [if_neg c2]; exact .inr (.inr rfl)
theorem any_more (l : List Int) (st : Int) (j : Nat) (hj : j < l.length) : (l.take (j + 1)).any (· == st) = ((l.take j).any (· == st) || (l.getD j 0 == st)) := by
  rw [List.take_add_one, List.getElem?_eq_getElem hj, List.any_append, List.getD_eq_getElem?_getD, List.getElem?_eq_getElem hj]
  simp
theorem Kept.grown {S : Nat → Prop} {w0 W V : World} {row : Option Nat} (h : Kept S w0 W) (hg : W.grownBy V row) (hr : ∀ r, row = some r → w0.heap.size ≤ r ∨ S r) : Kept S w0 V :=
  ⟨hg.os.trans h.1, hg.tape.trans h.2.1, hg.output.trans h.2.2.1, Nat.le_trans h.size hg.size, fun k hk hS => (hg.block k (Nat.lt_of_lt_of_le hk h.size) (fun e => by
    rcases hr k e.symm with h1 | h1
    · omega
    · exact hS h1)).trans (h.2.2.2.2 k hk hS)⟩
theorem g11_0 {a0 a1 a2 a3 a4 a5 a6 a7 a8 a9 a10 : Oper} : (#[a0, a1, a2, a3, a4, a5, a6, a7, a8, a9, a10] : Array Oper)[0]? = some a0 := rfl
theorem g11_1 {a0 a1 a2 a3 a4 a5 a6 a7 a8 a9 a10 : Oper} : (#[a0, a1, a2, a3, a4, a5, a6, a7, a8, a9, a10] : Array Oper)[1]? = some a1 := rfl
theorem g11_2 {a0 a1 a2 a3 a4 a5 a6 a7 a8 a9 a10 : Oper} : (#[a0, a1, a2, a3, a4, a5, a6, a7, a8, a9, a10] : Array Oper)[2]? = some a2 := rfl
theorem g11_3 {a0 a1 a2 a3 a4 a5 a6 a7 a8 a9 a10 : Oper} : (#[a0, a1, a2, a3, a4, a5, a6, a7, a8, a9, a10] : Array Oper)[3]? = some a3 := rfl
theorem g11_4 {a0 a1 a2 a3 a4 a5 a6 a7 a8 a9 a10 : Oper} : (#[a0, a1, a2, a3, a4, a5, a6, a7, a8, a9, a10] : Array Oper)[4]? = some a4 := rfl
theorem g11_5 {a0 a1 a2 a3 a4 a5 a6 a7 a8 a9 a10 : Oper} : (#[a0, a1, a2, a3, a4, a5, a6, a7, a8, a9, a10] : Array Oper)[5]? = some a5 := rfl
theorem g11_6 {a0 a1 a2 a3 a4 a5 a6 a7 a8 a9 a10 : Oper} : (#[a0, a1, a2, a3, a4, a5, a6, a7, a8, a9, a10] : Array Oper)[6]? = some a6 := rfl
theorem g11_7 {a0 a1 a2 a3 a4 a5 a6 a7 a8 a9 a10 : Oper} : (#[a0, a1, a2, a3, a4, a5, a6, a7, a8, a9, a10] : Array Oper)[7]? = some a7 := rfl
theorem g11_8 {a0 a1 a2 a3 a4 a5 a6 a7 a8 a9 a10 : Oper} : (#[a0, a1, a2, a3, a4, a5, a6, a7, a8, a9, a10] : Array Oper)[8]? = some a8 := rfl
theorem g11_9 {a0 a1 a2 a3 a4 a5 a6 a7 a8 a9 a10 : Oper} : (#[a0, a1, a2, a3, a4, a5, a6, a7, a8, a9, a10] : Array Oper)[9]? = some a9 := rfl
theorem g11_10 {a0 a1 a2 a3 a4 a5 a6 a7 a8 a9 a10 : Oper} : (#[a0, a1, a2, a3, a4, a5, a6, a7, a8, a9, a10] : Array Oper)[10]? = some a10 := rfl
/-- the document's loom and its words in memory -/
def RM (W : World) (bs qw nw : Nat) (s : LS) : Prop := ZB W bs (s.2.1 : Int) s.1 s.2.2.1 s.2.2.2.1 ∧ WR W qw nw s.2.2.2.2.1
theorem RM.keep {W V : World} {bs qw nw : Nat} {s : LS} (k : RM W bs qw nw s) (e : Below W.heap.size W V) : RM V bs qw nw s := ⟨k.1.keep e, k.2.keep e⟩
theorem RM.kept {Z : Nat → Prop} {W V : World} {bs qw nw : Nat} {s : LS} (k : RM W bs qw nw s) (e : Kept Z W V) (h1 : ¬ Z bs) (h2 : ¬ Z qw) : RM V bs qw nw s := ⟨k.1.kept e h1, k.2.kept e h2⟩
theorem RM.tags {W : World} {bs qw nw : Nat} {s : LS} (k : RM W bs qw nw s) : Tg W bs 61 ∧ Tg W qw 2 := ⟨k.1.1.2, k.2.1.2⟩

set_option maxRecDepth 100000 in
set_option maxHeartbeats 16000000 in
theorem play_ok {W : World} {w h : Nat} {p : Option Addr} {n cap : Nat} {f : Nat → Bool} (hm : Rt W w h p n cap f) (hn0 : 0 < n) {wq : Option Addr} {nw wcp : Nat} {g : Nat → Int} (hwd : Is W wq nw g) (hn2 : 2 ≤ nw) (hnw : nw ≤ 1048576) {sq : Option Addr} {m sc : Nat} {P : Nat → Int} {O : Nat → Bool} {E : Nat → Int} (hsc : Sc W sq m P O E) (hms : m ≤ 1048576) :
    Calls Try.prog 6 #[tr w h p n cap, .slice wq nw wcp, .slice sq m sc] W fun e w' => ∃ q c dq dc, e = .returned (.tuple #[.slice q m c, .slice dq nw dc]) ∧ SeenIs W.heap.size w' f w m nw (plT h P O E (openS h g (-1)) m) (plR h P O E (openS h g (-1)) m).2.2.2.2.1 q c dq ∧ Below W.heap.size W w' := by
  obtain ⟨hw6, hh6, hnn, hBs⟩ := hm
  have hw0 : 0 < w := by rcases Nat.eq_zero_or_pos w with e | e; subst e; rw [Nat.zero_mul] at hnn; omega; exact e
  obtain ⟨i2, hi2, hz0, hz1, hz2⟩ := info_parts info2
  obtain ⟨i34, hi34, hy0, hy1, hy2⟩ := info_parts info34
  obtain ⟨i4, hi4, hx0, hx1, hx2⟩ := info_parts info4
  obtain ⟨wb, wo, hwq, -, -⟩ := hwd.at (show 0 < nw by omega)
  subst hwq
  have hop : opE w h n nw = 0 := by
    unfold opE
    have hz : wE w h n = 0 := by
      unfold wE
      rw [(sd_iff w).2 (by omega), (sd_iff h).2 (by omega)]
      simp [hnn]
    rw [hz, if_neg (by simp), if_neg (by omega), if_neg (by omega)]
  have HWr := hide (fun V => rwrong_of (W := V) w h p n cap nw)
  rw [hop] at HWr
  have Hnn := hide hnn
  have HRt0 := hide (show Rt W w h p n cap f from ⟨hw6, hh6, hnn, hBs⟩)
  have HSc0 := hide hsc
  have B1 := bal (o := .cells #[.int .i64 w, .int .i64 h, .slice p n cap] 24) (Below.refl W.heap.size W)
  have HO1 := hide (OwnM.new W w h p n cap 24)
  have B2 := bal (o := .cells #[] 2) B1
  have hnw2 := is_news (T2 := g) (hwd.keep B2) (fun _ _ => rfl)
  have hO0 := World.ownsRow_made (base := W.heap.size + 1) (e := 2) (size := 1) (W.alloc (.cells #[.int .i64 w, .int .i64 h, .slice p n cap] 24)) #[] 0 (by simp) (by unfold maxLen; omega) (by simp)
  have HB1 := hide B1
  clear hnn hBs hsc B1 B2 hwd hop
  simp only [World.size_alloc] at hO0
  go_enter Try.func6, Try.ntmps6
  go_wp2_with (at_builtin; refine wpList_append_own _ rfl _ _ 25 rfl (W.heap.size + 1) 2 i2 (.int .i64 0) 1 8 Try.underlying25 hi2 hz0 hz1 hz2 rfl (by decide) _ _ _ rfl hO0 ⟨wb, wo, none⟩ nw wcp (intsV g nw) rfl (intsV_len _ _) hnw2 intsV_one (by unfold maxLen; omega) (by omega) (by simp) ?_)
  intro v1 w1 hown1 hgrow1 _
  have B1 := (bal (o := .cells #[] 2) (unhide HB1)).grown hgrow1 (by simp only [World.size_alloc]; omega) (fun k hk => by have := (hO0.lt k hk).1; omega)
  have HO1' := (((unhide HO1).keep (bal (o := .cells #[] 2) (Below.refl _ _))).grown hgrow1 (fun e => by have := (hO0.lt _ e.symm).1; omega))
  replace hown1 : w1.ownsRow (W.heap.size + 1) 2 1 v1 nw (intsV g nw) := by simpa using hown1
  obtain ⟨qw, cw, rfl⟩ := own_slice hown1 (by omega)
  have hqw := (hown1.lt qw rfl).1
  have HW2 := hide (own_wr hown1)
  obtain ⟨bm, hbm⟩ : ∃ b, b = W.heap.size := ⟨_, rfl⟩
  have HO2 := hide HO1'
  have B2 := hide B1
  have Hlt := hide (show bm = W.heap.size ∧ bm < qw ∧ bm < w1.heap.size from ⟨hbm, by omega, by have := B1.size; have := (hown1.lt qw rfl).2; omega⟩)
  rw [← hbm] at HO2
  clear B1 HO1' hown1 hgrow1 hqw hO0 hnw2 HO1 HB1
  go_upto_region 2 with fail
  rw [← hbm]
  clear hbm
  obtain ⟨-, m1, m2, m3⟩ := unhide HO2
  go_wp2_with fail
  refine (unhide HWr _).mono ?_
  rintro e w2 ⟨rfl, hb2⟩
  have e3 := bal (o := .cells #[.int .i64 0, .int .i64 0, .bool false, .bool false] 61) (Below.refl w2.heap.size w2)
  have HZ3 := hide (ZB.new w2 0 0 false false)
  have HW3 := hide (((unhide HW2).keep hb2).keep e3)
  have HO3 := hide (((unhide HO2).keep hb2).keep e3)
  have B3 := hide (btrans (btrans (unhide B2) hb2) e3)
  have Hl2 := hide (show bm < w2.heap.size from Nat.lt_of_lt_of_le (unhide Hlt).2.2 hb2.size)
  clear hb2 e3 m1 m2 m3 HW2 HO2 B2 HWr
  go_upto_if 32 with fail
  generalize w2.alloc (.cells #[.int .i64 0, .int .i64 0, .bool false, .bool false] 61) = w3 at *
  obtain ⟨bs, hbs⟩ : ∃ b, b = w2.heap.size := ⟨_, rfl⟩
  rw [← hbs] at HZ3 Hl2
  rw [← hbs]
  clear hbs
  obtain ⟨-, m1, m2, m3⟩ := unhide HO3
  have HBg := hide (begin_any (w := w) (h := h) (p := p) (n := n) (cap := cap) (cw := cw) hh6 (unhide HW3) hn2)
  go_wp2_with fail
  refine (unhide HBg).mono ?_
  rintro e w4 ⟨rfl, hb4⟩
  have hZ4 := (unhide HZ3).keep hb4
  obtain ⟨wv0, hwv0⟩ : ∃ x : Nat, x = woN (g 0) h := ⟨_, rfl⟩
  obtain ⟨st0, hst0⟩ : ∃ x, x = fsS (g 1) (woN (g 0) h) h := ⟨_, rfl⟩
  rw [← hst0, ← hwv0]
  obtain ⟨x5, hx5, hZ5, hk5⟩ := hZ4.put (wv0 : Int) st0 false false
  obtain ⟨s0, hs0⟩ : ∃ s, s = openS h g (-1) := ⟨_, rfl⟩
  have hW4 := (unhide HW3).keep hb4
  have hqb : qw ≠ bs := hW4.1.2.ne hZ4.1.2 (by decide)
  have HM5 := hide (show RM x5 bs qw nw s0 from by rw [hs0]; unfold openS; rw [← hst0, ← hwv0]; exact ⟨hZ5, hW4.kept hk5 hqb⟩)
  have HO5 := hide (((unhide HO3).keep hb4).kept hk5 (fun e => by have := unhide Hl2; omega))
  have B5 := hide (Kept.back (btrans (unhide B3) hb4) hk5 (btrans (unhide B3) hb4).size (fun i e => by have := unhide Hl2; have := unhide Hlt; omega))
  have HPi := hide (show Pi h s0 from by rw [hs0]; exact pi_open (by decide))
  have Hs0 := hide hs0
  obtain ⟨-, ⟨r0, r1, r2, r3⟩, u0, u1, u2, u3⟩ := hZ4
  have hsz5 : bm + 1 ≤ x5.heap.size := by have := (unhide HO5).1; omega
  have Hlf := hide (show s0.2.2.2.2.2 = -1 from by rw [hs0]; rfl)
  clear m1 m2 m3 hb4 hW4 hk5 hZ5 HZ3 HW3 HO3 B3 HBg hs0 hst0 hwv0
  go_wp2
  clear r0 r1 r2 r3 u0 u1 u2 u3 hx5
  go_loopw [11, 12, 38] (fun l out i wr => ∃ (k : Nat) (q : Option Addr) (c : Nat) (els : List (Sn × Value)), k ≤ m ∧ i = .int .i64 k ∧ l = .int .i64 (plR h P O E s0 k).2.2.2.2.2 ∧ out = .slice q k c ∧ RM wr bs qw nw (plR h P O E s0 k) ∧ wr.ownsRow (bm + 1) 34 6 (.slice q k c) k (snsV els) ∧ OL (bm + 1) wr f w els ∧ els.map Prod.fst = plT h P O E s0 k ∧ OwnM wr bm w h p n cap ∧ bm + 1 ≤ wr.heap.size ∧ Below W.heap.size W wr) (fun _ _ i _ => m - (intOf i).toNat)
  case atStart => exact ⟨0, none, 0, [], Nat.zero_le _, rfl, by rw [plR, unhide Hlf], rfl, unhide HM5, World.ownsRow_nil _ _ _ _, (fun e he => by cases he), rfl, unhide HO5, hsz5, unhide B5⟩
  case round =>
    clear HM5 HO5 B5 hsz5 Hlf
    obtain ⟨k, q, c, els, hk, rfl, rfl, rfl, hM, hOw, hOL, hEl, hOm, hsz, hB⟩ := hrel
    by_cases hlt : k < m
    · obtain ⟨sb, so, hsq, s1, s2, s3⟩ := ((unhide HSc0).keep hB).at hlt
      subst hsq
      have Hnx := hide (show plR h P O E s0 (k + 1) = (stR h (P k) (O k) (E k) (plR h P O E s0 k)).2.2 ∧ plT h P O E s0 (k + 1) = plT h P O E s0 k ++ [lkS (stR h (P k) (O k) (E k) (plR h P O E s0 k))] from ⟨rfl, rfl⟩)
      have hPk : Pi h (plR h P O E s0 k) := pi_rl (pi_pl P O E (unhide HPi) k) (alike_pl h P O E s0 k).1
      generalize plR h P O E s0 k = s at *
      generalize plT h P O E s0 k = ll at *
      generalize P k = Pk at *
      generalize O k = Ok at *
      generalize E k = Ek at *
      obtain ⟨st, wv, sp, dd, gg, lf⟩ := s
      have q0 : (k : Int) < (m : Int) := by omega
      have q1 : (0 : Int) ≤ (k : Int) := by omega
      have HX := hide (XB.new wr Pk Ok Ek)
      have e1 := bal (o := .cells #[.int .i64 Pk, .bool Ok, .int .i64 Ek] 53) (Below.refl wr.heap.size wr)
      have HM1 := hide (hM.keep e1)
      have HOw1 := hide (own_keep hOw e1)
      have HOL1 := hide (hOL.keep e1)
      have HOm1 := hide (hOm.keep e1)
      have B1 := hide (btrans hB e1)
      have HEl := hide hEl
      have HPk := hide hPk
      have hsz1 : bm + 1 ≤ (wr.alloc (.cells #[.int .i64 Pk, .bool Ok, .int .i64 Ek] 53)).heap.size := Nat.le_trans hsz e1.size
      clear hM hOw hOL hOm hB hEl e1 hPk
      go_upto_if 44 with fail
      generalize wr.alloc (.cells #[.int .i64 Pk, .bool Ok, .int .i64 Ek] 53) = w4' at *
      obtain ⟨bx, hbx⟩ : ∃ b, b = wr.heap.size := ⟨_, rfl⟩
      rw [← hbx] at HX
      rw [← hbx]
      clear hbx s1 s2 s3
      obtain ⟨-, ⟨x0, x1, x2⟩, -⟩ := unhide HX
      go_cut [11] (fun l wd => l = .int .i64 (if Pk = 0 then lf else wrap64 (Pk - 1)) ∧ wd = w4')
      case first =>
        by_cases hp : Pk = 0
        · have hp' : (Pk != 0) = false := by simp [hp]
          have Hs := hide (show (if Pk = 0 then lf else wrap64 (Pk - 1)) = lf from if_pos hp)
          clear hp
          go_wp2
          go_meet
          case rel => exact ⟨by rw [unhide Hs], rfl⟩
        · have hp' : (Pk != 0) = true := by simp [hp]
          have Hs := hide (show (if Pk = 0 then lf else wrap64 (Pk - 1)) = wrap64 (Pk - 1) from if_neg hp)
          clear hp
          go_wp2
          go_meet
          case rel => exact ⟨by rw [unhide Hs], rfl⟩
      case rest =>
      obtain ⟨rfl, hwc⟩ := hcut
      subst hwc
      obtain ⟨wA, rfl⟩ : ∃ x : World, x = wc := ⟨_, rfl⟩
      clear x0 x1 x2
      obtain ⟨lf1, hlf1⟩ : ∃ x, x = (if Pk = 0 then lf else wrap64 (Pk - 1)) := ⟨_, rfl⟩
      rw [← hlf1]
      have HP5 := hide (show Pi h (st, wv, sp, dd, gg, lf1) from by rw [hlf1]; exact pi_pw Pk (unhide HPk))
      have Hpw := hide (show pwS Pk (st, wv, sp, dd, gg, lf) = (st, wv, sp, dd, gg, lf1) from by rw [hlf1]; rfl)
      clear hlf1
      obtain ⟨-, ⟨x0, x1, x2⟩, -⟩ := unhide HX
      go_upto_region 13 with fail
      go_cut [53] (fun v wd => v = .bool Ok ∧ wd = wA)
      case first =>
        cases Ok
        all_goals
          go_wp2
          go_meet
          case rel => exact ⟨rfl, rfl⟩
      case rest =>
      obtain ⟨rfl, hwc2⟩ := hcut
      subst hwc2
      obtain ⟨wA, rfl⟩ : ∃ x : World, x = wc := ⟨_, rfl⟩
      go_upto_if 53 with fail
      go_cut [] (fun wd => RM wd bs qw nw (opS h Ok (st, wv, sp, dd, gg, lf1)) ∧ Kept (fun i => i = bs) wA wd)
      case first =>
        cases Ok with
        | false =>
          go_wp2
          go_meet
          case rel => exact ⟨unhide HM1, Kept.refl _ _⟩
        | true =>
          have HBg := hide (begin_any (w := w) (h := h) (p := p) (n := n) (cap := cap) (cw := cw) hh6 (unhide HM1).2 hn2)
          obtain ⟨-, m1, m2, m3⟩ := unhide HOm1
          go_wp2_with fail
          refine (unhide HBg).mono ?_
          rintro e w6 ⟨rfl, hb6⟩
          dsimp only
          have hZ6 := (unhide HM1).1.keep hb6
          obtain ⟨wv0, hwv0⟩ : ∃ x : Nat, x = woN (gg 0) h := ⟨_, rfl⟩
          obtain ⟨st0, hst0⟩ : ∃ x, x = fsS (gg 1) (woN (gg 0) h) h := ⟨_, rfl⟩
          rw [← hst0, ← hwv0]
          obtain ⟨x7, hx7, hZ7, hk7⟩ := hZ6.put (wv0 : Int) st0 false false
          have HM7 := hide (show RM x7 bs qw nw (openS h gg lf1) from by unfold openS; rw [← hst0, ← hwv0]; exact ⟨hZ7, ((unhide HM1).2.keep hb6).kept hk7 hqb⟩)
          have HK7 := hide ((Kept.of (S := fun i => i = bs) hb6).trans hk7)
          obtain ⟨-, ⟨r0, r1, r2, r3⟩, u0, u1, u2, u3⟩ := hZ6
          clear hst0 hwv0 hZ7 hk7 hb6 m1 m2 m3 x0 x1 x2
          go_wp2
          go_meet
          case rel => exact ⟨unhide HM7, unhide HK7⟩
      case rest =>
      clear x0 x1 x2
      obtain ⟨hM5, hK5⟩ := hcut
      obtain ⟨wB, rfl⟩ : ∃ x : World, x = wc := ⟨_, rfl⟩
      have htg := (unhide HM1).tags
      have HX6 := hide ((unhide HX).kept hK5 (fun e => (unhide HX).1.2.ne htg.1 (by decide) e))
      have HOw6 := hide (own_kept (unhide HOw1) hK5 (fun i e t => tg_not (show Tg wA i 61 from e ▸ htg.1) (by decide) t))
      have HOL6 := hide ((unhide HOL1).kept hK5 (fun i e t => tg_not (show Tg wA i 61 from e ▸ htg.1) (by decide) t))
      have HOm6 := hide ((unhide HOm1).kept hK5 (fun e => by have := unhide Hl2; omega))
      have B6 := hide (Kept.back (unhide B1) hK5 (unhide B1).size (fun i e => by have := unhide Hl2; have := unhide Hlt; omega))
      have HP6 := hide (pi_op Ok (unhide HP5))
      have hsz6 := Nat.le_trans hsz1 hK5.size
      have Hlf6 := hide (show (opS h Ok (st, wv, sp, dd, gg, lf1)).2.2.2.2.2 = lf1 from by cases Ok <;> rfl)
      obtain ⟨s6, hs6⟩ : ∃ x, x = opS h Ok (st, wv, sp, dd, gg, lf1) := ⟨_, rfl⟩
      rw [← hs6] at hM5 HP6 Hlf6
      have Hs6 := hide (show opS h Ok (pwS Pk (st, wv, sp, dd, gg, lf)) = s6 by rw [unhide Hpw, hs6])
      clear hs6
      obtain ⟨st6, wv6, sp6, dd6, gg6, lf6⟩ := s6
      have hlf := unhide Hlf6
      dsimp only at hlf
      subst hlf
      have e7 := bal (o := .cells #[.int .i64 0, .int .i64 0, .int .i64 0, .slice none 0 0, .int .i64 0, .int .i64 0] 34) (Below.refl wB.heap.size wB)
      have HY7 := hide (YB.new wB 0 0 0 none 0 0 0 0)
      have HM7 := hide (hM5.keep e7)
      have HX7 := hide ((unhide HX6).keep e7)
      have HOw7 := hide (own_keep (unhide HOw6) e7)
      have HOL7 := hide ((unhide HOL6).keep e7)
      have HOm7 := hide ((unhide HOm6).keep e7)
      have B7 := hide (btrans (unhide B6) e7)
      have hsz7 := Nat.le_trans hsz6 e7.size
      have HfO := hide (fun g (hg : (Value.slice q k c).ownBlock = some g) => ((unhide HOw6).lt g hg).2)
      clear hM5 hK5 htg e7 HX6 HOw6 HOL6 HOm6 B6 HOw1 HOL1 HOm1 B1 HM1 HX hsz1
      obtain ⟨-, ⟨x0, x1, x2⟩, -⟩ := unhide HX7
      go_upto_if 67 with fail
      generalize wB.alloc (.cells #[.int .i64 0, .int .i64 0, .int .i64 0, .slice none 0 0, .int .i64 0, .int .i64 0] 34) = w7 at *
      obtain ⟨by7, hby⟩ : ∃ b, b = wB.heap.size := ⟨_, rfl⟩
      rw [← hby] at HY7 HfO
      rw [← hby]
      have Hby := hide (show bm + 1 ≤ by7 by omega)
      clear hby hsz6
      go_cut [11, 16, 18, 19, 20, 21, 22] (fun l _ _ _ _ _ _ wd => l = .int .i64 (evR h Ek (st6, wv6, sp6, dd6, gg6, lf6)).2.2.2.2.2.2.2 ∧ YB wd by7 (evR h Ek (st6, wv6, sp6, dd6, gg6, lf6)).1 0 0 none 0 0 0 (evR h Ek (st6, wv6, sp6, dd6, gg6, lf6)).2.1 ∧ RM wd bs qw nw (evR h Ek (st6, wv6, sp6, dd6, gg6, lf6)).2.2 ∧ Kept (fun i => i = by7 ∨ i = bs ∨ i = qw) w7 wd)
      case first =>
        as_aux_lemma =>
          by_cases he : Ek = 0
          · have he' : (Ek != 0) = false := by simp [he]
            have Hs := hide (show evR h Ek (st6, wv6, sp6, dd6, gg6, lf6) = (0, 0, (st6, wv6, sp6, dd6, gg6, lf6)) from by rw [evR, if_pos he])
            clear he
            go_wp2
            go_meet
            case rel => rw [unhide Hs]; exact ⟨rfl, unhide HY7, unhide HM7, Kept.refl _ _⟩
          · have he' : (Ek != 0) = true := by simp [he]
            have hyt := (unhide HY7).1.2
            have htg := (unhide HM7).tags
            have n1 : bs ≠ by7 := htg.1.ne hyt (by decide)
            have n2 : qw ≠ by7 := htg.2.ne hyt (by decide)
            have hk8 : Kept (fun i => i = by7) w7 ((w7.setCell ⟨by7, 0, none⟩ (.int .i64 0)).setCell ⟨by7, 5, none⟩ (.int .i64 9)) := ((Kept.refl (fun i => i = by7) w7).set (b := by7) 0 (.int .i64 0) (.inl rfl)).set (b := by7) 5 (.int .i64 9) (.inl rfl)
            have HY8 := hide (((unhide HY7).do 0).err 9)
            have HM8 := hide ((unhide HM7).kept hk8 n1 n2)
            have HX8 := hide ((unhide HX7).kept hk8 (fun e => (unhide HX7).1.2.ne hyt (by decide) e))
            have HOm8 := hide ((unhide HOm7).kept hk8 (fun e => by have := unhide Hby; omega))
            have HK8 := hide (hk8.more (T := fun i => i = by7 ∨ i = bs ∨ i = qw) (fun i hi => .inl (.inl hi)))
            obtain ⟨-, ⟨y0, y1, y2, y3, y4, y5⟩, z0, z1, z2, z3, z4, z5⟩ := unhide HY7
            have Hn := hide (show bs ≠ by7 ∧ qw ≠ by7 from ⟨n1, n2⟩)
            have He := hide he
            clear hk8 hyt htg he n1 n2
            go_upto_region 20 with fail
            generalize (w7.setCell ⟨by7, 0, none⟩ (.int .i64 0)).setCell ⟨by7, 5, none⟩ (.int .i64 9) = w8 at *
            clear x0 x1 x2 y0 y1 y2 y3 y4 y5 z0 z1 z2 z3 z4 z5
            obtain ⟨-, ⟨x0, x1, x2⟩, -⟩ := unhide HX8
            obtain ⟨-, ⟨y0, y1, y2, y3, y4, y5⟩, z0, z1, z2, z3, z4, z5⟩ := unhide HY8
            cases hev : evB Ek with
            | false =>
              have Hs := hide (show evR h Ek (st6, wv6, sp6, dd6, gg6, lf6) = (0, 1, (st6, wv6, sp6, dd6, gg6, lf6)) from by rw [evR, if_neg (unhide He), if_pos hev])
              have hk9 := hide (kset w8 by7 5 (.int .i64 1))
              have HY9 := hide ((unhide HY8).err 1)
              have HM9 := hide ((unhide HM8).kept (unhide hk9) (unhide Hn).1 (unhide Hn).2)
              have HK9 := hide ((unhide HK8).trans ((unhide hk9).more (T := fun i => i = by7 ∨ i = bs ∨ i = qw) (fun i hi => .inl (.inl hi))))
              rcases Classical.em (Ek < 1) with c1 | c1
              · clear hev
                go_wp2
                go_meet
                case rel => rw [unhide Hs]; exact ⟨rfl, unhide HY9, unhide HM9, unhide HK9⟩
              · have c2 : 9 < Ek := by
                  simp [evB] at hev
                  have := hev (by omega)
                  omega
                have c3 : decide (Ek < 1) = false := by simpa using c1
                clear hev
                go_wp2
                go_meet
                case rel => rw [unhide Hs]; exact ⟨rfl, unhide HY9, unhide HM9, unhide HK9⟩
            | true =>
              have Hev := hide hev
              have c0 : 1 ≤ Ek ∧ Ek ≤ 9 := by simpa [evB] using hev
              have c1 : ¬ (Ek < 1) := by omega
              have c3 : decide (Ek < 1) = false := by simpa using c1
              have c4 : ¬ (9 < Ek) := by omega
              have c5 : decide (9 < Ek) = false := by simpa using c4
              clear hev c0
              obtain ⟨-, ⟨s0', s1, s2, s3⟩, t0, t1, t2, t3⟩ := (unhide HM8).1
              dsimp only at s0' s1 s2 s3
              cases hdd : dd6 with
              | true =>
                subst hdd
                have Hs := hide (show evR h Ek (st6, wv6, sp6, true, gg6, lf6) = (0, 9, (st6, wv6, sp6, true, gg6, lf6)) from by rw [evR, if_neg (unhide He), if_neg (by rw [unhide Hev]; decide), if_pos (by simp)])
                go_wp2
                go_meet
                case rel => rw [unhide Hs]; exact ⟨rfl, unhide HY8, unhide HM8, unhide HK8⟩
              | false =>
                subst hdd
                have HAl := hide (all_any w8 Ek (unhide Hev))
                unfold AllIs at HAl
                have Hmy := hide (all_may Ek st6 (unhide Hev))
                obtain ⟨al, hal⟩ : ∃ l, l = alL Ek := ⟨_, rfl⟩
                rw [← hal] at HAl Hmy
                have Hln := hide (show al.length ≤ 4 from by rw [hal]; exact alL_len Ek)
                clear hal
                go_wp2_with fail
                refine (unhide HAl).mono ?_
                rintro e w9 ⟨lq, lc, rfl, hI9, hb9⟩
                have HY9 := hide ((unhide HY8).keep hb9)
                have HM9 := hide ((unhide HM8).keep hb9)
                have HX9 := hide ((unhide HX8).keep hb9)
                have HOm9 := hide ((unhide HOm8).keep hb9)
                have HK9 := hide ((unhide HK8).below hb9)
                have HI9 := hide hI9
                clear hI9 hb9 x0 x1 x2 y0 y1 y2 y3 y4 y5 z0 z1 z2 z3 z4 z5 s0' s1 s2 s3 t0 t1 t2 t3
                obtain ⟨-, ⟨s0', s1, s2, s3⟩, t0, t1, t2, t3⟩ := (unhide HM9).1
                dsimp only at s0' s1 s2 s3
                have hln := unhide Hln
                go_wp2
                go_loopw [16, 86] (fun mv i wr => ∃ j : Nat, j ≤ al.length ∧ i = .int .i64 j ∧ mv = .bool ((al.take j).any (· == st6)) ∧ wr = w9) (fun _ i _ => al.length - (intOf i).toNat)
                case atStart => exact ⟨0, Nat.zero_le _, rfl, rfl, rfl⟩
                case round =>
                  obtain ⟨j, hj, rfl, rfl, hwr⟩ := hrel
                  subst hwr
                  by_cases hjl : j < al.length
                  · have q2 : (j : Int) < (al.length : Int) := by omega
                    have q3 : (0 : Int) ≤ (j : Int) := by omega
                    obtain ⟨ab, ao, hab, -, hac⟩ := (unhide HI9).at hjl
                    cases hab
                    simp only [Nat.zero_add] at hac
                    have Hsn := hide (any_more al st6 j hjl)
                    generalize al.getD j 0 = av at *
                    generalize (al.take j).any (· == st6) = mb at *
                    cases mb
                    all_goals
                      go_wp2
                      go_roundw
                      case rel => exact ⟨j + 1, by omega, by go_num, by rw [unhide Hsn]; simp, trivial⟩
                      case measure => simp [intOf]; omega
                  · obtain rfl : j = al.length := by omega
                    have cl : ¬ ((al.length : Int) < (al.length : Int)) := by omega
                    have hmy := unhide Hmy
                    rw [List.take_length, hmy]
                    cases hmay : may Ek st6 with
                    | false =>
                      have Hs := hide (show evR h Ek (st6, wv6, sp6, false, gg6, lf6) = (0, 9, (st6, wv6, sp6, false, gg6, lf6)) from by rw [evR, if_neg (unhide He), if_neg (by rw [unhide Hev]; decide), if_pos (by simp [hmay])])
                      clear hmy hmay
                      go_wp2
                      go_meet
                      case rel => rw [unhide Hs]; exact ⟨rfl, unhide HY9, unhide HM9, unhide HK9⟩
                    | true =>
                      as_aux_lemma =>
                        clear hmy
                        have hc2 : ¬ (false || !may Ek st6) = true := by simp [hmay]
                        have HTd := hide (fun V => told_any (W := V) (w := w) (h := h) (p := p) (n := n) (cap := cap) (wv := wv6) (st := st6) (sp := sp6) (dd := false) Ek (unhide Hev) (by have := (unhide HP6).1; omega))
                        unfold ToldIs at HTd
                        have Hs := hide (show evR h Ek (st6, wv6, sp6, false, gg6, lf6) = (if 0 ≤ tdAt Ek ∧ lf6 = 0 then (0, 11, (st6, wv6, sp6, true, gg6, lf6)) else (tdDo h wv6 st6 sp6 Ek, 0, (tdSt h wv6 st6 sp6 Ek, tdWv wv6 Ek, tdSp h wv6 st6 sp6 Ek, false, if 0 ≤ tdAt Ek then ptW gg6 (tdAt Ek).toNat (tdW wv6 Ek) else gg6, if 0 ≤ tdAt Ek then lfN lf6 else lf6))) from by rw [evR, if_neg (unhide He), if_neg (by rw [unhide Hev]; decide), if_neg hc2])
                        have Hat := hide (show tdAt Ek = 0 ∨ tdAt Ek = 1 ∨ tdAt Ek = -1 from tdAt_or Ek)
                        have hlf6 : lf6 ≤ 9223372036854775807 := (unhide HP6).2.2.1
                        clear hc2 hmay
                        obtain ⟨ta, hta⟩ : ∃ x, x = tdAt Ek := ⟨_, rfl⟩
                        obtain ⟨tw, htw⟩ : ∃ x, x = tdW wv6 Ek := ⟨_, rfl⟩
                        obtain ⟨td, htd⟩ : ∃ x, x = tdDo h wv6 st6 sp6 Ek := ⟨_, rfl⟩
                        obtain ⟨ts, hts⟩ : ∃ x, x = tdSt h wv6 st6 sp6 Ek := ⟨_, rfl⟩
                        obtain ⟨tv, htv⟩ : ∃ x, x = tdWv wv6 Ek := ⟨_, rfl⟩
                        obtain ⟨tp, htp⟩ : ∃ x, x = tdSp h wv6 st6 sp6 Ek := ⟨_, rfl⟩
                        rw [← hta, ← htw, ← htd, ← hts, ← htv, ← htp] at HTd Hs
                        rw [← hta] at Hat
                        clear hta htw htd hts htv htp
                        obtain ⟨-, ⟨x0, x1, x2⟩, -⟩ := unhide HX9
                        obtain ⟨-, m1, m2, m3⟩ := unhide HOm9
                        go_wp2_with fail
                        refine (unhide HTd _).mono ?_
                        rintro e w10 ⟨rfl, hb10⟩
                        have e11 := bal (o := .cells #[.int .i64 (tv : Int), .int .i64 ts, .bool tp, .bool false] 61) (Below.refl w10.heap.size w10)
                        have HN11 := hide (ZB.new w10 (tv : Int) ts tp false)
                        have e1011 := btrans hb10 e11
                        have HY11 := hide ((unhide HY9).keep e1011)
                        have HM11 := hide ((unhide HM9).keep e1011)
                        have HK11 := hide ((unhide HK9).below e1011)
                        have Hfr := hide (show by7 ≠ w10.heap.size ∧ bs ≠ w10.heap.size ∧ qw ≠ w10.heap.size from ⟨by have := ((unhide HY9).keep hb10).1.1; omega, by have := ((unhide HM9).keep hb10).1.1.1; omega, by have := ((unhide HM9).keep hb10).2.1.1; omega⟩)
                        clear hb10 e11 e1011 x0 x1 x2 m1 m2 m3 s0' s1 s2 s3 t0 t1 t2 t3
                        go_upto_region 31 with fail
                        generalize w10.alloc (.cells #[.int .i64 (tv : Int), .int .i64 ts, .bool tp, .bool false] 61) = w11 at *
                        obtain ⟨bn, hbn⟩ : ∃ b, b = w10.heap.size := ⟨_, rfl⟩
                        rw [← hbn] at HN11 Hfr
                        rw [← hbn]
                        clear hbn
                        obtain ⟨-, ⟨y0, y1, y2, y3, y4, y5⟩, z0, z1, z2, z3, z4, z5⟩ := unhide HY11
                        obtain ⟨-, ⟨s0', s1, s2, s3⟩, t0, t1, t2, t3⟩ := (unhide HM11).1
                        dsimp only at s0' s1 s2 s3
                        obtain ⟨-, ⟨k0, k1, k2, k3⟩, -⟩ := unhide HN11
                        rcases unhide Hat with rfl | rfl | rfl
                        · by_cases hl : lf6 = 0
                          · subst hl
                            have hk12 : Kept (fun i => i = bs ∨ i = by7) w11 ((w11.setCell ⟨bs, 3, none⟩ (.bool true)).setCell ⟨by7, 5, none⟩ (.int .i64 11)) := ((Kept.refl (fun i => i = bs ∨ i = by7) w11).set (b := bs) 3 (.bool true) (.inl (.inl rfl))).set (b := by7) 5 (.int .i64 11) (.inl (.inr rfl))
                            have HM12 := hide (show RM ((w11.setCell ⟨bs, 3, none⟩ (.bool true)).setCell ⟨by7, 5, none⟩ (.int .i64 11)) bs qw nw (st6, wv6, sp6, true, gg6, 0) from ⟨((unhide HM11).1.dead true).far (unhide Hn).1 _ _, (unhide HM11).2.kept hk12 (fun e => by rcases e with e | e; exact hqb e; exact (unhide Hn).2 e)⟩)
                            have HY12 := hide (((unhide HY11).far (fun e => (unhide Hn).1 e.symm) 3 (.bool true)).err 11)
                            have HK12 := hide ((unhide HK11).trans (hk12.more (T := fun i => i = by7 ∨ i = bs ∨ i = qw) (fun i hi => .inl (by rcases hi with e | e; exact .inr (.inl e); exact .inl e))))
                            clear hk12
                            go_wp2
                            go_meet
                            case rel =>
                              rw [unhide Hs, if_pos ⟨by decide, trivial⟩]
                              exact ⟨rfl, unhide HY12, unhide HM12, unhide HK12⟩
                          · have hl' : (lf6 == 0) = false := by simpa using hl
                            have j0 : (0 : Int) < (nw : Int) := by omega
                            obtain ⟨d0, d1⟩ := (unhide HM11).2.2 0 (by omega)
                            dsimp only at d0
                            have hk12 : Kept (fun i => i = qw) w11 (w11.setCell ⟨qw, 0, none⟩ (.int .i64 tw)) := kset _ _ _ _
                            have HMx := hide (show RM (w11.setCell ⟨qw, 0, none⟩ (.int .i64 tw)) bs qw nw (st6, wv6, sp6, false, ptW gg6 0 tw, lfN lf6) from ⟨(unhide HM11).1.kept hk12 (fun e => hqb e.symm), (unhide HM11).2.put 0 tw⟩)
                            have HYx := hide ((unhide HY11).kept hk12 (fun e => (unhide Hn).2 e.symm))
                            have HNx := hide ((unhide HN11).kept hk12 (fun e => (unhide Hfr).2.2 e.symm))
                            have HKx := hide ((unhide HK11).trans (hk12.more (T := fun i => i = by7 ∨ i = bs ∨ i = qw) (fun i hi => .inl (.inr (.inr hi)))))
                            clear hk12
                            rcases Classical.em (0 < lf6) with hp | hp
                            · have hlN := hide (show lfN lf6 = lf6 - 1 from by unfold lfN; rw [if_pos hp])
                              have ew : wrap64 (lf6 - 1) = lf6 - 1 := by unfold wrap64; omega
                              go_upto_region 37 with fail
                              generalize w11.setCell ⟨qw, 0, none⟩ (.int .i64 tw) = w12 at *
                              clear d0 d1
                              obtain ⟨x13, hx13, hZ13, hk13⟩ := (unhide HMx).1.put (tv : Int) ts tp false
                              have HMy := hide (show RM x13 bs qw nw (ts, tv, tp, false, ptW gg6 0 tw, lfN lf6) from ⟨hZ13, (unhide HMx).2.kept hk13 hqb⟩)
                              have HYy := hide ((unhide HYx).kept hk13 (fun e => (unhide Hn).1 e.symm))
                              have hk14 : Kept (fun i => i = by7) x13 ((x13.setCell ⟨by7, 0, none⟩ (.int .i64 td)).setCell ⟨by7, 5, none⟩ (.int .i64 0)) := ((Kept.refl (fun i => i = by7) x13).set (b := by7) 0 (.int .i64 td) (.inl rfl)).set (b := by7) 5 (.int .i64 0) (.inl rfl)
                              have HMz := hide ((unhide HMy).kept hk14 (unhide Hn).1 (unhide Hn).2)
                              have HYz := hide (((unhide HYy).do td).err 0)
                              have HKz := hide (((unhide HKx).trans (hk13.more (T := fun i => i = by7 ∨ i = bs ∨ i = qw) (fun i hi => .inl (.inr (.inl hi))))).trans (hk14.more (T := fun i => i = by7 ∨ i = bs ∨ i = qw) (fun i hi => .inl (.inl hi))))
                              clear y0 y1 y2 y3 y4 y5 z0 z1 z2 z3 z4 z5 s0' s1 s2 s3 t0 t1 t2 t3 k0 k1 k2 k3
                              obtain ⟨-, ⟨s0', s1, s2, s3⟩, t0, t1, t2, t3⟩ := (unhide HMx).1
                              dsimp only at s0' s1 s2 s3
                              obtain ⟨-, ⟨k0, k1, k2, k3⟩, -⟩ := unhide HNx
                              obtain ⟨-, ⟨y0, y1, y2, y3, y4, y5⟩, z0, z1, z2, z3, z4, z5⟩ := unhide HYy
                              clear hZ13 hk13 hk14
                              go_wp2
                              go_meet
                              case rel =>
                                rw [unhide Hs, if_neg (by omega)]
                                exact ⟨by simp [unhide hlN], unhide HYz, by simpa using unhide HMz, unhide HKz⟩
                            · have hp' : decide (0 < lf6) = false := by simpa using hp
                              have hlN := hide (show lfN lf6 = lf6 from by unfold lfN; rw [if_neg hp])
                              go_upto_region 37 with fail
                              generalize w11.setCell ⟨qw, 0, none⟩ (.int .i64 tw) = w12 at *
                              clear d0 d1
                              obtain ⟨x13, hx13, hZ13, hk13⟩ := (unhide HMx).1.put (tv : Int) ts tp false
                              have HMy := hide (show RM x13 bs qw nw (ts, tv, tp, false, ptW gg6 0 tw, lfN lf6) from ⟨hZ13, (unhide HMx).2.kept hk13 hqb⟩)
                              have HYy := hide ((unhide HYx).kept hk13 (fun e => (unhide Hn).1 e.symm))
                              have hk14 : Kept (fun i => i = by7) x13 ((x13.setCell ⟨by7, 0, none⟩ (.int .i64 td)).setCell ⟨by7, 5, none⟩ (.int .i64 0)) := ((Kept.refl (fun i => i = by7) x13).set (b := by7) 0 (.int .i64 td) (.inl rfl)).set (b := by7) 5 (.int .i64 0) (.inl rfl)
                              have HMz := hide ((unhide HMy).kept hk14 (unhide Hn).1 (unhide Hn).2)
                              have HYz := hide (((unhide HYy).do td).err 0)
                              have HKz := hide (((unhide HKx).trans (hk13.more (T := fun i => i = by7 ∨ i = bs ∨ i = qw) (fun i hi => .inl (.inr (.inl hi))))).trans (hk14.more (T := fun i => i = by7 ∨ i = bs ∨ i = qw) (fun i hi => .inl (.inl hi))))
                              clear y0 y1 y2 y3 y4 y5 z0 z1 z2 z3 z4 z5 s0' s1 s2 s3 t0 t1 t2 t3 k0 k1 k2 k3
                              obtain ⟨-, ⟨s0', s1, s2, s3⟩, t0, t1, t2, t3⟩ := (unhide HMx).1
                              dsimp only at s0' s1 s2 s3
                              obtain ⟨-, ⟨k0, k1, k2, k3⟩, -⟩ := unhide HNx
                              obtain ⟨-, ⟨y0, y1, y2, y3, y4, y5⟩, z0, z1, z2, z3, z4, z5⟩ := unhide HYy
                              clear hZ13 hk13 hk14
                              go_wp2
                              go_meet
                              case rel =>
                                rw [unhide Hs, if_neg (by omega)]
                                exact ⟨by simp [unhide hlN], unhide HYz, by simpa using unhide HMz, unhide HKz⟩
                        · by_cases hl : lf6 = 0
                          · subst hl
                            have hk12 : Kept (fun i => i = bs ∨ i = by7) w11 ((w11.setCell ⟨bs, 3, none⟩ (.bool true)).setCell ⟨by7, 5, none⟩ (.int .i64 11)) := ((Kept.refl (fun i => i = bs ∨ i = by7) w11).set (b := bs) 3 (.bool true) (.inl (.inl rfl))).set (b := by7) 5 (.int .i64 11) (.inl (.inr rfl))
                            have HM12 := hide (show RM ((w11.setCell ⟨bs, 3, none⟩ (.bool true)).setCell ⟨by7, 5, none⟩ (.int .i64 11)) bs qw nw (st6, wv6, sp6, true, gg6, 0) from ⟨((unhide HM11).1.dead true).far (unhide Hn).1 _ _, (unhide HM11).2.kept hk12 (fun e => by rcases e with e | e; exact hqb e; exact (unhide Hn).2 e)⟩)
                            have HY12 := hide (((unhide HY11).far (fun e => (unhide Hn).1 e.symm) 3 (.bool true)).err 11)
                            have HK12 := hide ((unhide HK11).trans (hk12.more (T := fun i => i = by7 ∨ i = bs ∨ i = qw) (fun i hi => .inl (by rcases hi with e | e; exact .inr (.inl e); exact .inl e))))
                            clear hk12
                            go_wp2
                            go_meet
                            case rel =>
                              rw [unhide Hs, if_pos ⟨by decide, trivial⟩]
                              exact ⟨rfl, unhide HY12, unhide HM12, unhide HK12⟩
                          · have hl' : (lf6 == 0) = false := by simpa using hl
                            have j0 : (1 : Int) < (nw : Int) := by omega
                            obtain ⟨d0, d1⟩ := (unhide HM11).2.2 1 (by omega)
                            dsimp only at d0
                            have hk12 : Kept (fun i => i = qw) w11 (w11.setCell ⟨qw, 1, none⟩ (.int .i64 tw)) := kset _ _ _ _
                            have HMx := hide (show RM (w11.setCell ⟨qw, 1, none⟩ (.int .i64 tw)) bs qw nw (st6, wv6, sp6, false, ptW gg6 1 tw, lfN lf6) from ⟨(unhide HM11).1.kept hk12 (fun e => hqb e.symm), (unhide HM11).2.put 1 tw⟩)
                            have HYx := hide ((unhide HY11).kept hk12 (fun e => (unhide Hn).2 e.symm))
                            have HNx := hide ((unhide HN11).kept hk12 (fun e => (unhide Hfr).2.2 e.symm))
                            have HKx := hide ((unhide HK11).trans (hk12.more (T := fun i => i = by7 ∨ i = bs ∨ i = qw) (fun i hi => .inl (.inr (.inr hi)))))
                            clear hk12
                            rcases Classical.em (0 < lf6) with hp | hp
                            · have hlN := hide (show lfN lf6 = lf6 - 1 from by unfold lfN; rw [if_pos hp])
                              have ew : wrap64 (lf6 - 1) = lf6 - 1 := by unfold wrap64; omega
                              go_upto_region 37 with fail
                              generalize w11.setCell ⟨qw, 1, none⟩ (.int .i64 tw) = w12 at *
                              clear d0 d1
                              obtain ⟨x13, hx13, hZ13, hk13⟩ := (unhide HMx).1.put (tv : Int) ts tp false
                              have HMy := hide (show RM x13 bs qw nw (ts, tv, tp, false, ptW gg6 1 tw, lfN lf6) from ⟨hZ13, (unhide HMx).2.kept hk13 hqb⟩)
                              have HYy := hide ((unhide HYx).kept hk13 (fun e => (unhide Hn).1 e.symm))
                              have hk14 : Kept (fun i => i = by7) x13 ((x13.setCell ⟨by7, 0, none⟩ (.int .i64 td)).setCell ⟨by7, 5, none⟩ (.int .i64 0)) := ((Kept.refl (fun i => i = by7) x13).set (b := by7) 0 (.int .i64 td) (.inl rfl)).set (b := by7) 5 (.int .i64 0) (.inl rfl)
                              have HMz := hide ((unhide HMy).kept hk14 (unhide Hn).1 (unhide Hn).2)
                              have HYz := hide (((unhide HYy).do td).err 0)
                              have HKz := hide (((unhide HKx).trans (hk13.more (T := fun i => i = by7 ∨ i = bs ∨ i = qw) (fun i hi => .inl (.inr (.inl hi))))).trans (hk14.more (T := fun i => i = by7 ∨ i = bs ∨ i = qw) (fun i hi => .inl (.inl hi))))
                              clear y0 y1 y2 y3 y4 y5 z0 z1 z2 z3 z4 z5 s0' s1 s2 s3 t0 t1 t2 t3 k0 k1 k2 k3
                              obtain ⟨-, ⟨s0', s1, s2, s3⟩, t0, t1, t2, t3⟩ := (unhide HMx).1
                              dsimp only at s0' s1 s2 s3
                              obtain ⟨-, ⟨k0, k1, k2, k3⟩, -⟩ := unhide HNx
                              obtain ⟨-, ⟨y0, y1, y2, y3, y4, y5⟩, z0, z1, z2, z3, z4, z5⟩ := unhide HYy
                              clear hZ13 hk13 hk14
                              go_wp2
                              go_meet
                              case rel =>
                                rw [unhide Hs, if_neg (by omega)]
                                exact ⟨by simp [unhide hlN], unhide HYz, by simpa using unhide HMz, unhide HKz⟩
                            · have hp' : decide (0 < lf6) = false := by simpa using hp
                              have hlN := hide (show lfN lf6 = lf6 from by unfold lfN; rw [if_neg hp])
                              go_upto_region 37 with fail
                              generalize w11.setCell ⟨qw, 1, none⟩ (.int .i64 tw) = w12 at *
                              clear d0 d1
                              obtain ⟨x13, hx13, hZ13, hk13⟩ := (unhide HMx).1.put (tv : Int) ts tp false
                              have HMy := hide (show RM x13 bs qw nw (ts, tv, tp, false, ptW gg6 1 tw, lfN lf6) from ⟨hZ13, (unhide HMx).2.kept hk13 hqb⟩)
                              have HYy := hide ((unhide HYx).kept hk13 (fun e => (unhide Hn).1 e.symm))
                              have hk14 : Kept (fun i => i = by7) x13 ((x13.setCell ⟨by7, 0, none⟩ (.int .i64 td)).setCell ⟨by7, 5, none⟩ (.int .i64 0)) := ((Kept.refl (fun i => i = by7) x13).set (b := by7) 0 (.int .i64 td) (.inl rfl)).set (b := by7) 5 (.int .i64 0) (.inl rfl)
                              have HMz := hide ((unhide HMy).kept hk14 (unhide Hn).1 (unhide Hn).2)
                              have HYz := hide (((unhide HYy).do td).err 0)
                              have HKz := hide (((unhide HKx).trans (hk13.more (T := fun i => i = by7 ∨ i = bs ∨ i = qw) (fun i hi => .inl (.inr (.inl hi))))).trans (hk14.more (T := fun i => i = by7 ∨ i = bs ∨ i = qw) (fun i hi => .inl (.inl hi))))
                              clear y0 y1 y2 y3 y4 y5 z0 z1 z2 z3 z4 z5 s0' s1 s2 s3 t0 t1 t2 t3 k0 k1 k2 k3
                              obtain ⟨-, ⟨s0', s1, s2, s3⟩, t0, t1, t2, t3⟩ := (unhide HMx).1
                              dsimp only at s0' s1 s2 s3
                              obtain ⟨-, ⟨k0, k1, k2, k3⟩, -⟩ := unhide HNx
                              obtain ⟨-, ⟨y0, y1, y2, y3, y4, y5⟩, z0, z1, z2, z3, z4, z5⟩ := unhide HYy
                              clear hZ13 hk13 hk14
                              go_wp2
                              go_meet
                              case rel =>
                                rw [unhide Hs, if_neg (by omega)]
                                exact ⟨by simp [unhide hlN], unhide HYz, by simpa using unhide HMz, unhide HKz⟩
                        · have HMx := HM11
                          have HYx := HY11
                          have HNx := HN11
                          have HKx := HK11
                          go_upto_region 37 with fail
                          obtain ⟨x13, hx13, hZ13, hk13⟩ := (unhide HMx).1.put (tv : Int) ts tp false
                          have HMy := hide (show RM x13 bs qw nw (ts, tv, tp, false, gg6, lf6) from ⟨hZ13, (unhide HMx).2.kept hk13 hqb⟩)
                          have HYy := hide ((unhide HYx).kept hk13 (fun e => (unhide Hn).1 e.symm))
                          have hk14 : Kept (fun i => i = by7) x13 ((x13.setCell ⟨by7, 0, none⟩ (.int .i64 td)).setCell ⟨by7, 5, none⟩ (.int .i64 0)) := ((Kept.refl (fun i => i = by7) x13).set (b := by7) 0 (.int .i64 td) (.inl rfl)).set (b := by7) 5 (.int .i64 0) (.inl rfl)
                          have HMz := hide ((unhide HMy).kept hk14 (unhide Hn).1 (unhide Hn).2)
                          have HYz := hide (((unhide HYy).do td).err 0)
                          have HKz := hide (((unhide HKx).trans (hk13.more (T := fun i => i = by7 ∨ i = bs ∨ i = qw) (fun i hi => .inl (.inr (.inl hi))))).trans (hk14.more (T := fun i => i = by7 ∨ i = bs ∨ i = qw) (fun i hi => .inl (.inl hi))))
                          clear y0 y1 y2 y3 y4 y5 z0 z1 z2 z3 z4 z5 s0' s1 s2 s3 t0 t1 t2 t3 k0 k1 k2 k3
                          obtain ⟨-, ⟨s0', s1, s2, s3⟩, t0, t1, t2, t3⟩ := (unhide HMx).1
                          dsimp only at s0' s1 s2 s3
                          obtain ⟨-, ⟨k0, k1, k2, k3⟩, -⟩ := unhide HNx
                          obtain ⟨-, ⟨y0, y1, y2, y3, y4, y5⟩, z0, z1, z2, z3, z4, z5⟩ := unhide HYy
                          clear hZ13 hk13 hk14
                          go_wp2
                          go_meet
                          case rel =>
                            rw [unhide Hs, if_neg (by omega)]
                            exact ⟨by simp, unhide HYz, by simpa using unhide HMz, unhide HKz⟩
      case rest =>
      clear x0 x1 x2
      obtain ⟨rfl, hY8, hM8, hK8⟩ := hcut
      obtain ⟨r, hr⟩ : ∃ r, r = evR h Ek (st6, wv6, sp6, dd6, gg6, lf6) := ⟨_, rfl⟩
      rw [← hr] at hY8 hM8
      rw [← hr]
      have HP8 := hide (show Pi h r.2.2 from by
        have a := alike_ev h Ek (rl_refl (st6, wv6, sp6, dd6, gg6, lf6))
        rw [← hr] at a
        exact pi_rl (pi_ev Ek (unhide HP6)) a.2.2)
      have Hr := hide (show stR h Pk Ok Ek (st, wv, sp, dd, gg, lf) = r by unfold stR; rw [unhide Hs6, hr])
      clear hr
      obtain ⟨ds, er, st8, wv8, sp8, dd8, gg8, lf8⟩ := r
      dsimp only at hY8 hM8 HP8
      dsimp only
      have htg := (unhide HM7).tags
      have hyt := (unhide HY7).1.2
      have n4 : ∀ i, (i = by7 ∨ i = bs ∨ i = qw) → ¬ Tg w7 i 4 := by
        rintro i (rfl | rfl | rfl)
        · exact tg_not hyt (by decide)
        · exact tg_not htg.1 (by decide)
        · exact tg_not htg.2 (by decide)
      have HOL8 := hide ((unhide HOL7).kept hK8 n4)
      have nO : ∀ gb, (Value.slice q k c).ownBlock = some gb → ¬ (gb = by7 ∨ gb = bs ∨ gb = qw) := by
        intro gb hg e
        have ht := own_tg (unhide HOw7) hg
        rcases e with rfl | rfl | rfl
        · have := unhide HfO _ hg; omega
        · exact tg_not ht (by decide) htg.1
        · exact tg_not ht (by decide) htg.2
      have HOw8 := hide (own_keptO (unhide HOw7) hK8 nO)
      have HfO8 := hide (fun g (hg : (Value.slice q k c).ownBlock = some g) => (fun e => nO g hg (.inl e) : g ≠ by7))
      have HOm8 := hide ((unhide HOm7).kept hK8 (fun e => by have := unhide Hlt; have := unhide Hl2; have := unhide Hby; omega))
      have B8 := hide (Kept.back (unhide B7) hK8 (unhide B7).size (fun i e => by have := unhide Hlt; have := unhide Hl2; have := unhide Hby; omega))
      have hsz8 := Nat.le_trans hsz7 hK8.size
      obtain ⟨wD, rfl⟩ : ∃ x : World, x = wc := ⟨_, rfl⟩
      have n1 : bs ≠ by7 := hM8.tags.1.ne hY8.1.2 (by decide)
      have n2 : qw ≠ by7 := hM8.tags.2.ne hY8.1.2 (by decide)
      have hkE : Kept (fun i => i = by7) wD ((wD.setCell ⟨by7, 1, none⟩ (.int .i64 st8)).setCell ⟨by7, 2, none⟩ (.int .i64 (wv8 : Int))).drew := (((Kept.refl (fun i => i = by7) wD).set (b := by7) 1 (.int .i64 st8) (.inl rfl)).set (b := by7) 2 (.int .i64 (wv8 : Int)) (.inl rfl)).below (bdrew _)
      have t8 : ∀ i, i = by7 → ¬ Tg wD i 4 := fun i e t => tg_not (show Tg wD i 34 from e ▸ hY8.1.2) (by decide) t
      have HYE := hide (((hY8.state st8).woven (wv8 : Int)).keep (bdrew _))
      have HME := hide (hM8.kept hkE n1 n2)
      have HOLE := hide ((unhide HOL8).kept hkE t8)
      have HOwE := hide (own_keptO (unhide HOw8) hkE (unhide HfO8))
      have HOmE := hide ((unhide HOm8).kept hkE (fun e => by have := unhide Hby; omega))
      have BE := hide (Kept.back (unhide B8) hkE (unhide B8).size (fun i e => by have := unhide Hlt; have := unhide Hby; omega))
      have hszE := Nat.le_trans hsz8 hkE.size
      obtain ⟨-, ⟨y0, y1, y2, y3, y4, y5⟩, z0, z1, z2, z3, z4, z5⟩ := hY8
      obtain ⟨-, ⟨s0', s1, s2, s3⟩, -⟩ := hM8.1
      dsimp only at s0' s1 s2 s3
      clear hM8 hK8 htg hyt n4 nO hkE t8 HOL7 HOw7 HOm7 B7 HY7 HM7 HX7 HOL8 HOw8 HOm8 B8 hsz7 hsz8 HfO
      go_upto_region 38 with fail
      go_cut [] (fun wd => wd = ((wD.setCell ⟨by7, 1, none⟩ (.int .i64 st8)).setCell ⟨by7, 2, none⟩ (.int .i64 (wv8 : Int))).drew)
      case first =>
        go_region
        all_goals
          go_wp2
          go_meet
          case rel => rfl
      case rest =>
      subst hcut
      clear y0 y1 y2 y3 y4 y5 z0 z1 z2 z3 z4 z5 s0' s1 s2 s3
      generalize ((wD.setCell ⟨by7, 1, none⟩ (.int .i64 st8)).setCell ⟨by7, 2, none⟩ (.int .i64 (wv8 : Int))).drew = w9 at *
      obtain ⟨-, ⟨s0', s1, s2, s3⟩, -⟩ := (unhide HME).1
      dsimp only at s0' s1 s2 s3
      go_upto_region 39 with fail
      go_cut [144] (fun v wd => v = .bool (amid st8) ∧ wd = w9)
      case first =>
        by_cases ha : 1 ≤ st8
        · have Ha := hide (show amid st8 = decide (st8 ≤ 4) from by simp [amid, ha])
          go_wp2
          go_meet
          case rel => exact ⟨by rw [unhide Ha], rfl⟩
        · have ha' : decide (1 ≤ st8) = false := by simpa using ha
          have Ha := hide (show amid st8 = false from by rw [amid, ha']; rfl)
          go_wp2
          go_meet
          case rel => exact ⟨by rw [unhide Ha], rfl⟩
      case rest =>
      obtain ⟨rfl, hwc⟩ := hcut
      subst hwc
      obtain ⟨w9, rfl⟩ : ∃ x : World, x = wc := ⟨_, rfl⟩
      go_upto_if 144 with fail
      have htD := (unhide HYE).1.2
      have Hnb := hide (show bs ≠ by7 ∧ qw ≠ by7 from ⟨n1, n2⟩)
      obtain ⟨ro, hro⟩ : ∃ x, x = roS (st8, wv8, sp8, dd8, gg8, lf8) := ⟨_, rfl⟩
      have Hro := hide hro
      clear n1 n2 htD
      go_cut [23] (fun _ wd => ∃ rq rn rc, YB wd by7 ds st8 (wv8 : Int) rq rn rc 0 er ∧ wd.ownsRow (bm + 1) 4 1 (.slice rq rn rc) (lnO w ro) (biO f w ro) ∧ Kept (fun i => i = by7) w9 wd)
      case first =>
        as_aux_lemma =>
          cases ha : amid st8 with
          | false =>
            have Hn0 := hide (show ro = none from by rw [hro]; simp [roS, ha])
            clear ha hro
            go_wp2
            go_meet
            case rel => exact ⟨none, 0, 0, unhide HYE, by rw [unhide Hn0]; exact World.ownsRow_nil _ _ _ _, Kept.refl _ _⟩
          | true =>
            have Hn0 := hide (show ro = some wv8 from by rw [hro]; simp [roS, ha])
            have hwh : wv8 < h := (unhide HP8).2.1 (by have := (amid_iff st8).1 ha; omega)
            have HBit := hide (fun V (hV : Kept (fun i => i = by7) w9 V) x (hx : x < w) => bit_any (y := wv8) (x := x) ((unhide HRt0).keep (Kept.back (unhide BE) hV (unhide BE).size (fun i e => by have := unhide Hby; have := unhide Hlt; omega))) hwh hx)
            obtain ⟨GG, hGG⟩ : ∃ G : Nat → Bool, G = fun x => f (wv8 * w + x) := ⟨_, rfl⟩
            have Hld := hide (fun V (hV : Kept (fun i => i = by7) w9 V) => (⟨((unhide HOmE).kept hV (fun e => by have := unhide Hby; omega)).2, ((unhide HME).1.kept hV (unhide Hnb).1).2.1.1⟩ : (V.cell? ⟨bm, 0, none⟩ = some (.int .i64 w) ∧ V.cell? ⟨bm, 1, none⟩ = some (.int .i64 h) ∧ V.cell? ⟨bm, 2, none⟩ = some (.slice p n cap)) ∧ V.cell? ⟨bs, 0, none⟩ = some (.int .i64 (wv8 : Int))))
            have Hb9 := hide (unhide HYE).1.1
            have HG := hide hGG
            have m1 := (unhide HOmE).2.1
            clear ha hro hwh hGG s0' s1 s2 s3
            go_wp2
            clear m1
            go_loopw [23] (fun kv wr => ∃ (x : Nat) (rq : Option Addr) (rc : Nat), x ≤ w ∧ kv = .int .i64 x ∧ YB wr by7 ds st8 (wv8 : Int) rq x rc 0 er ∧ wr.ownsRow w9.heap.size 4 1 (.slice rq x rc) x (bitsV GG x) ∧ Kept (fun i => i = by7) w9 wr) (fun kv _ => w - (intOf kv).toNat)
            case atStart => exact ⟨0, none, 0, Nat.zero_le _, rfl, unhide HYE, World.ownsRow_nil _ _ _ _, Kept.refl _ _⟩
            case round =>
              obtain ⟨x, rq, rc, hx, rfl, DC0, hown0, hkt⟩ := hrel
              have m1 := (unhide Hld _ hkt).1.1
              by_cases hlx : x < w
              · have qx : (x : Int) < (w : Int) := by omega
                have HBx := hide (fun V (hV : Kept (fun i => i = by7) w9 V) => unhide HBit V hV x hlx)
                have Hsu := hide (bitsV_succ GG x)
                have hgx : GG x = f (wv8 * w + x) := by rw [unhide HG]
                rw [← hgx] at HBx
                generalize GG x = bv at *
                have HBit := HBx
                clear hgx
                have DC := DC0.keep (bdrew _)
                have hown := own_keep hown0 (bdrew _)
                have hSd := hkt.below (bdrew _)
                clear DC0 hown0 hkt
                go_wp2_with fail
                clear m1
                refine wp_region_noPanic ?_
                refine wp_region_held_drew (S := fun V => Kept (fun i => i = by7) w9 V) (by kernel_rfl) hSd ?_
                intro _
                refine wpAnyH_take (i := 0) (oi := _) (v := .pointer (some ⟨by7, 3, none⟩)) g11_0 (by kernel_rfl) (by kernel_rfl) (by kernel_rfl) (fun _ _ _ h => h) (Or.inl ⟨by rfl, ?_⟩) (by assumption) ?_
                · intro V hSw
                  try dsimp only at hSw
                  go_simp
                simp only [Act.put, List.setIfInBounds_toArray, List.set_cons_zero, List.set_cons_succ]
                refine wpAnyH_take (i := 2) (oi := _) (v := .agg #[.int .i64 (w : Int), .int .i64 (h : Int), .slice p n cap]) g11_2 (by kernel_rfl) (by kernel_rfl) (by kernel_rfl) (fun _ _ _ h => h) (Or.inl ⟨by rfl, ?_⟩) (by assumption) ?_
                · intro V hSw
                  try dsimp only at hSw
                  have hl := unhide Hld V hSw
                  go_simp
                simp only [Act.put, List.setIfInBounds_toArray, List.set_cons_zero, List.set_cons_succ]
                refine wpAnyH_take (i := 3) (oi := _) (v := .pointer (some ⟨bs, 0, none⟩)) g11_3 (by kernel_rfl) (by kernel_rfl) (by kernel_rfl) (fun _ _ _ h => h) (Or.inl ⟨by rfl, ?_⟩) (by assumption) ?_
                · intro V hSw
                  try dsimp only at hSw
                  go_simp
                simp only [Act.put, List.setIfInBounds_toArray, List.set_cons_zero, List.set_cons_succ]
                refine wpAnyH_take (i := 4) (oi := _) (v := .int .i64 (wv8 : Int)) g11_4 (by kernel_rfl) (by kernel_rfl) (by kernel_rfl) (fun _ _ _ h => h) (Or.inl ⟨by rfl, ?_⟩) (by assumption) ?_
                · intro V hSw
                  try dsimp only at hSw
                  have hl := unhide Hld V hSw
                  go_simp
                simp only [Act.put, List.setIfInBounds_toArray, List.set_cons_zero, List.set_cons_succ]
                refine wpAnyH_take (i := 5) (oi := _) (v := .int .i64 (x : Int)) g11_5 (by kernel_rfl) (by kernel_rfl) (by kernel_rfl) (fun _ _ _ h => h) (Or.inl ⟨by rfl, ?_⟩) (by assumption) ?_
                · intro V hSw
                  try dsimp only at hSw
                  go_simp
                simp only [Act.put, List.setIfInBounds_toArray, List.set_cons_zero, List.set_cons_succ]
                refine wpAnyH_ready (rs := [1, 6]) (by kernel_rfl) (by simp) ?_
                refine AllReadyH.cons (o := _) g11_1 (fun K hK => ?_) (AllReadyH.cons (o := _) g11_6 (fun K hK => ?_) AllReadyH.nil)
                · have d3 := DC.2.1.2.2.2.1
                  go_simp
                  refine hK.out _ _ hSd (fun _ => ?_)
                  clear hK K d3
                  refine wpAnyH_ready (rs := [6]) (by kernel_rfl) (by simp) ?_
                  refine AllReadyH.cons (o := _) g11_6 (fun K hK => ?_) AllReadyH.nil
                  go_simp
                  refine (unhide HBit _ hSd).mono ?_
                  rintro e w5 ⟨rfl, hb5⟩
                  have hS5 := hSd.below hb5
                  refine hK.out _ _ hS5 (fun _ => ?_)
                  have DC5 := DC.keep hb5
                  have hown5 := own_keep hown hb5
                  clear hK K hSd DC hown hb5
                  have hSd := hS5
                  have DC := DC5
                  have hown := hown5
                  clear hS5 DC5 hown5
                  refine wpAnyH_ready (rs := [7]) (by kernel_rfl) (by simp) ?_
                  refine AllReadyH.cons (o := _) g11_7 (fun K hK => ?_) AllReadyH.nil
                  go_simp
                  refine hK.out _ _ (hSd.al _) (fun _ => ?_)
                  clear hK K
                  refine wpAnyH_ready (rs := [8]) (by kernel_rfl) (by simp) ?_
                  refine AllReadyH.cons (o := _) g11_8 (fun K hK => ?_) AllReadyH.nil
                  refine wp_append_own _ _ _ 22 rfl w9.heap.size 4 i4 (.bool false) 1 1 Try.underlying22 hi4 hx0 hx1 hx2 rfl (by decide) (.slice rq x rc) x (bitsV GG x) rfl (hown.alloc _) ⟨w5.heap.size, 0, none⟩ 1 1 [.bool bv] rfl ?c1 ?c2 ?c3 ?c4 ?c5 ?c6 ?_
                  case c1 => rfl
                  case c2 =>
                    intro j u hj
                    match j, hj with
                    | 0, hj => simp at hj; subst hj; simp [Addr.add]
                  case c3 => intro u hu; simp at hu; subst hu; rfl
                  case c4 => unfold maxLen; omega
                  case c5 => omega
                  case c6 => have := (hSd.al (.cells #[.bool bv] 4)).size; exact this
                  intro v' w6 hown' hgrow _
                  have hge : ∀ r, (Value.slice rq x rc).ownBlock = some r → w9.heap.size ≤ r := fun r e => (hown.lt r e).1
                  have D6a := DC.keep (bal (o := .cells #[.bool bv] 4) (Below.refl _ _))
                  have D6 := D6a.kept (grown_kept (S := fun i => w9.heap.size ≤ i) hgrow (fun r e => .inl (hge r e))) (fun e => by have := unhide Hb9; omega)
                  have S6 := (hSd.al (.cells #[.bool bv] 4)).grown hgrow (fun r e => .inl (hge r e))
                  obtain ⟨q', cap', rfl⟩ := own_form hown'
                  refine hK.out _ _ S6 (fun _ => ?_)
                  clear hK K hown hgrow hge D6a DC hSd
                  have hSd := S6
                  refine wpAnyH_take (i := 9) (oi := _) (v := .pointer (some ⟨by7, 3, none⟩)) g11_9 (by kernel_rfl) (by kernel_rfl) (by kernel_rfl) (fun _ _ _ h => h) (Or.inl ⟨by rfl, ?_⟩) (by assumption) ?_
                  · intro V hSw
                    try dsimp only at hSw
                    go_simp
                  simp only [Act.put, List.setIfInBounds_toArray, List.set_cons_zero, List.set_cons_succ]
                  refine wpAnyH_ready (rs := [10]) (by kernel_rfl) (by simp) ?_
                  refine AllReadyH.cons (o := _) g11_10 (fun K hK => ?_) AllReadyH.nil
                  have d3 := D6.2.1.2.2.2.1
                  have f3 := D6.2.2.2.2.2.1
                  go_simp
                  have S7 := S6.set (b := by7) 3 (.slice q' (x + 1) cap') (.inl rfl)
                  have D7 := D6.row q' (x + 1) cap'
                  have own7 := own_kept hown' (kset w6 by7 3 (.slice q' (x + 1) cap')) (fun i e t => tg_not (show Tg w6 i 34 from e ▸ D6.1.2) (by decide) t)
                  refine hK.out _ _ S7 (fun _ => ?_)
                  refine wpAnyH_done (by kernel_rfl) ?_ _
                  refine NoPanic.normal ?_
                  clear hK K d3 f3
                  have HS7 := hide S7
                  have HD7 := hide D7
                  have HO7 := hide own7
                  clear S7 D7 own7 S6 D6 hown' hSd
                  go_wp2
                  go_roundw
                  case rel => exact ⟨x + 1, q', cap', by omega, by go_num, unhide HD7, by rw [unhide Hsu]; exact unhide HO7, unhide HS7⟩
                  case measure => simp [intOf]; omega
                · go_simp
                  refine (unhide HBit _ hSd).mono ?_
                  rintro e w5 ⟨rfl, hb5⟩
                  have hS5 := hSd.below hb5
                  refine hK.out _ _ hS5 (fun _ => ?_)
                  have DC5 := DC.keep hb5
                  have hown5 := own_keep hown hb5
                  clear hK K hSd DC hown hb5
                  have hSd := hS5
                  have DC := DC5
                  have hown := hown5
                  clear hS5 DC5 hown5
                  refine wpAnyH_ready (rs := [1, 7]) (by kernel_rfl) (by simp) ?_
                  refine AllReadyH.cons (o := _) g11_1 (fun K hK => ?_) (AllReadyH.cons (o := _) g11_7 (fun K hK => ?_) AllReadyH.nil)
                  · have d3 := DC.2.1.2.2.2.1
                    go_simp
                    refine hK.out _ _ hSd (fun _ => ?_)
                    clear hK K d3
                    refine wpAnyH_ready (rs := [7]) (by kernel_rfl) (by simp) ?_
                    refine AllReadyH.cons (o := _) g11_7 (fun K hK => ?_) AllReadyH.nil
                    go_simp
                    refine hK.out _ _ (hSd.al _) (fun _ => ?_)
                    clear hK K
                    refine wpAnyH_ready (rs := [8]) (by kernel_rfl) (by simp) ?_
                    refine AllReadyH.cons (o := _) g11_8 (fun K hK => ?_) AllReadyH.nil
                    refine wp_append_own _ _ _ 22 rfl w9.heap.size 4 i4 (.bool false) 1 1 Try.underlying22 hi4 hx0 hx1 hx2 rfl (by decide) (.slice rq x rc) x (bitsV GG x) rfl (hown.alloc _) ⟨w5.heap.size, 0, none⟩ 1 1 [.bool bv] rfl ?c1 ?c2 ?c3 ?c4 ?c5 ?c6 ?_
                    case c1 => rfl
                    case c2 =>
                      intro j u hj
                      match j, hj with
                      | 0, hj => simp at hj; subst hj; simp [Addr.add]
                    case c3 => intro u hu; simp at hu; subst hu; rfl
                    case c4 => unfold maxLen; omega
                    case c5 => omega
                    case c6 => have := (hSd.al (.cells #[.bool bv] 4)).size; exact this
                    intro v' w6 hown' hgrow _
                    have hge : ∀ r, (Value.slice rq x rc).ownBlock = some r → w9.heap.size ≤ r := fun r e => (hown.lt r e).1
                    have D6a := DC.keep (bal (o := .cells #[.bool bv] 4) (Below.refl _ _))
                    have D6 := D6a.kept (grown_kept (S := fun i => w9.heap.size ≤ i) hgrow (fun r e => .inl (hge r e))) (fun e => by have := unhide Hb9; omega)
                    have S6 := (hSd.al (.cells #[.bool bv] 4)).grown hgrow (fun r e => .inl (hge r e))
                    obtain ⟨q', cap', rfl⟩ := own_form hown'
                    refine hK.out _ _ S6 (fun _ => ?_)
                    clear hK K hown hgrow hge D6a DC hSd
                    have hSd := S6
                    refine wpAnyH_take (i := 9) (oi := _) (v := .pointer (some ⟨by7, 3, none⟩)) g11_9 (by kernel_rfl) (by kernel_rfl) (by kernel_rfl) (fun _ _ _ h => h) (Or.inl ⟨by rfl, ?_⟩) (by assumption) ?_
                    · intro V hSw
                      try dsimp only at hSw
                      go_simp
                    simp only [Act.put, List.setIfInBounds_toArray, List.set_cons_zero, List.set_cons_succ]
                    refine wpAnyH_ready (rs := [10]) (by kernel_rfl) (by simp) ?_
                    refine AllReadyH.cons (o := _) g11_10 (fun K hK => ?_) AllReadyH.nil
                    have d3 := D6.2.1.2.2.2.1
                    have f3 := D6.2.2.2.2.2.1
                    go_simp
                    have S7 := S6.set (b := by7) 3 (.slice q' (x + 1) cap') (.inl rfl)
                    have D7 := D6.row q' (x + 1) cap'
                    have own7 := own_kept hown' (kset w6 by7 3 (.slice q' (x + 1) cap')) (fun i e t => tg_not (show Tg w6 i 34 from e ▸ D6.1.2) (by decide) t)
                    refine hK.out _ _ S7 (fun _ => ?_)
                    refine wpAnyH_done (by kernel_rfl) ?_ _
                    refine NoPanic.normal ?_
                    clear hK K d3 f3
                    have HS7 := hide S7
                    have HD7 := hide D7
                    have HO7 := hide own7
                    clear S7 D7 own7 S6 D6 hown' hSd
                    go_wp2
                    go_roundw
                    case rel => exact ⟨x + 1, q', cap', by omega, by go_num, unhide HD7, by rw [unhide Hsu]; exact unhide HO7, unhide HS7⟩
                    case measure => simp [intOf]; omega
                  · go_simp
                    refine hK.out _ _ (hSd.al _) (fun _ => ?_)
                    clear hK K
                    refine wpAnyH_ready (rs := [1]) (by kernel_rfl) (by simp) ?_
                    refine AllReadyH.cons (o := _) g11_1 (fun K hK => ?_) AllReadyH.nil
                    have d3 := (DC.keep (bal (o := .cells #[.bool bv] 4) (Below.refl _ _))).2.1.2.2.2.1
                    go_simp
                    refine hK.out _ _ (hSd.al _) (fun _ => ?_)
                    clear hK K d3
                    refine wpAnyH_ready (rs := [8]) (by kernel_rfl) (by simp) ?_
                    refine AllReadyH.cons (o := _) g11_8 (fun K hK => ?_) AllReadyH.nil
                    refine wp_append_own _ _ _ 22 rfl w9.heap.size 4 i4 (.bool false) 1 1 Try.underlying22 hi4 hx0 hx1 hx2 rfl (by decide) (.slice rq x rc) x (bitsV GG x) rfl (hown.alloc _) ⟨w5.heap.size, 0, none⟩ 1 1 [.bool bv] rfl ?c1 ?c2 ?c3 ?c4 ?c5 ?c6 ?_
                    case c1 => rfl
                    case c2 =>
                      intro j u hj
                      match j, hj with
                      | 0, hj => simp at hj; subst hj; simp [Addr.add]
                    case c3 => intro u hu; simp at hu; subst hu; rfl
                    case c4 => unfold maxLen; omega
                    case c5 => omega
                    case c6 => have := (hSd.al (.cells #[.bool bv] 4)).size; exact this
                    intro v' w6 hown' hgrow _
                    have hge : ∀ r, (Value.slice rq x rc).ownBlock = some r → w9.heap.size ≤ r := fun r e => (hown.lt r e).1
                    have D6a := DC.keep (bal (o := .cells #[.bool bv] 4) (Below.refl _ _))
                    have D6 := D6a.kept (grown_kept (S := fun i => w9.heap.size ≤ i) hgrow (fun r e => .inl (hge r e))) (fun e => by have := unhide Hb9; omega)
                    have S6 := (hSd.al (.cells #[.bool bv] 4)).grown hgrow (fun r e => .inl (hge r e))
                    obtain ⟨q', cap', rfl⟩ := own_form hown'
                    refine hK.out _ _ S6 (fun _ => ?_)
                    clear hK K hown hgrow hge D6a DC hSd
                    have hSd := S6
                    refine wpAnyH_take (i := 9) (oi := _) (v := .pointer (some ⟨by7, 3, none⟩)) g11_9 (by kernel_rfl) (by kernel_rfl) (by kernel_rfl) (fun _ _ _ h => h) (Or.inl ⟨by rfl, ?_⟩) (by assumption) ?_
                    · intro V hSw
                      try dsimp only at hSw
                      go_simp
                    simp only [Act.put, List.setIfInBounds_toArray, List.set_cons_zero, List.set_cons_succ]
                    refine wpAnyH_ready (rs := [10]) (by kernel_rfl) (by simp) ?_
                    refine AllReadyH.cons (o := _) g11_10 (fun K hK => ?_) AllReadyH.nil
                    have d3 := D6.2.1.2.2.2.1
                    have f3 := D6.2.2.2.2.2.1
                    go_simp
                    have S7 := S6.set (b := by7) 3 (.slice q' (x + 1) cap') (.inl rfl)
                    have D7 := D6.row q' (x + 1) cap'
                    have own7 := own_kept hown' (kset w6 by7 3 (.slice q' (x + 1) cap')) (fun i e t => tg_not (show Tg w6 i 34 from e ▸ D6.1.2) (by decide) t)
                    refine hK.out _ _ S7 (fun _ => ?_)
                    refine wpAnyH_done (by kernel_rfl) ?_ _
                    refine NoPanic.normal ?_
                    clear hK K d3 f3
                    have HS7 := hide S7
                    have HD7 := hide D7
                    have HO7 := hide own7
                    clear S7 D7 own7 S6 D6 hown' hSd
                    go_wp2
                    go_roundw
                    case rel => exact ⟨x + 1, q', cap', by omega, by go_num, unhide HD7, by rw [unhide Hsu]; exact unhide HO7, unhide HS7⟩
                    case measure => simp [intOf]; omega
              · obtain rfl : x = w := by omega
                have cl : ¬ ((x : Int) < (x : Int)) := by omega
                have HD := hide DC0
                have HOn := hide hown0
                have HKt := hide hkt
                clear DC0 hown0 hkt
                go_wp2
                go_meet
                case rel => exact ⟨rq, x, rc, unhide HD, by rw [unhide Hn0]; have := own_le (unhide HOn) hszE; rw [unhide HG] at this; exact this, unhide HKt⟩
      case rest =>
      clear s0' s1 s2 s3 hro
      obtain ⟨rq, rn, rc, hYF, hRF, hKF⟩ := hcut
      obtain ⟨w11, rfl⟩ : ∃ x : World, x = wc := ⟨_, rfl⟩
      have tF : ∀ i, i = by7 → ¬ Tg w9 i 4 := fun i e t => tg_not (show Tg w9 i 34 from e ▸ (unhide HYE).1.2) (by decide) t
      have HM11 := hide ((unhide HME).kept hKF (unhide Hnb).1 (unhide Hnb).2)
      have HOL11 := hide ((unhide HOLE).kept hKF tF)
      have HRo11 := hide hRF
      have hOw11 := own_keptO (unhide HOwE) hKF (unhide HfO8)
      have HOm11 := hide ((unhide HOmE).kept hKF (fun e => by have := unhide Hby; omega))
      have B11 := hide (Kept.back (unhide BE) hKF (unhide BE).size (fun i e => by have := unhide Hlt; have := unhide Hby; omega))
      have hsz11 := Nat.le_trans hszE hKF.size
      obtain ⟨-, ⟨y0, y1, y2, y3, y4, y5⟩, -⟩ := hYF
      clear hRF hKF tF HME HOLE HOwE HOmE BE hszE HYE
      have c6 := cell_six_new w11 ((ds, st8, wv8, ro, 0, er), .slice rq rn rc) 34
      have hlen := hOw11.1
      go_wp2_with (at_builtin; refine wpList_append_own _ rfl _ _ 27 rfl (bm + 1) 34 i34 (.agg #[.int .i64 0, .int .i64 0, .int .i64 0, .slice none 0 0, .int .i64 0, .int .i64 0]) 6 64 Try.underlying27 hi34 hy0 hy1 hy2 rfl (by decide) _ _ _ rfl (hOw11.alloc _) ⟨w11.heap.size, 0, none⟩ 1 1 (snC ((ds, st8, wv8, ro, 0, er), .slice rq rn rc)) rfl rfl c6 (by intro u hu; simp [snC] at hu; rcases hu with rfl | rfl | rfl | rfl | rfl | rfl <;> rfl) (by unfold maxLen; omega) (by omega) (by simp; omega) ?_)
      intro v12 w12 hown12 hgrow12 _
      obtain ⟨q12, c12, rfl⟩ := own_form hown12
      have e12 := bal (o := .cells #[.int .i64 ds, .int .i64 st8, .int .i64 (wv8 : Int), .slice rq rn rc, .int .i64 0, .int .i64 er] 34) (Below.refl w11.heap.size w11)
      have hk12 : Kept (fun i => bm + 1 ≤ i ∧ Tg w11 i 34) w11 w12 := (Kept.of e12).trans (grown_kept hgrow12 (fun r e => .inl ⟨(hOw11.lt r e).1, own_tg hOw11 e⟩))
      have t12 : ∀ i, (bm + 1 ≤ i ∧ Tg w11 i 34) → ¬ Tg w11 i 4 := fun i e t => tg_not e.2 (by decide) t
      have htg := (unhide HM11).tags
      have HM12 := hide ((unhide HM11).kept hk12 (fun e => tg_not htg.1 (by decide) e.2) (fun e => tg_not htg.2 (by decide) e.2))
      have HOL12 := hide (((unhide HOL11).kept hk12 t12).snoc (e := ((ds, st8, wv8, ro, 0, er), .slice rq rn rc)) (own_kept (unhide HRo11) hk12 t12))
      have HOw12 := hide (show w12.ownsRow (bm + 1) 34 6 (.slice q12 (k + 1) c12) (k + 1) (snsV (els ++ [((ds, st8, wv8, ro, 0, er), .slice rq rn rc)])) from by rw [snsV_snoc]; exact hown12)
      have HOm12 := hide ((unhide HOm11).kept hk12 (fun e => by have := e.1; omega))
      have B12 := hide (Kept.back (unhide B11) hk12 (unhide B11).size (fun i e => by have := e.1; have := unhide Hlt; omega))
      have hsz12 := Nat.le_trans hsz11 hk12.size
      clear hown12 hgrow12 e12 hk12 t12 htg hOw11 c6 y0 y1 y2 y3 y4 y5 HM11 HOL11 HOm11 B11 hlen
      go_wp2
      go_roundw
      case rel =>
        refine ⟨k + 1, q12, c12, els ++ [((ds, st8, wv8, ro, 0, er), .slice rq rn rc)], by omega, by go_num, ?_, rfl, ?_, unhide HOw12, unhide HOL12, ?_, unhide HOm12, hsz12, unhide B12⟩
        · rw [(unhide Hnx).1, unhide Hr]
        · rw [(unhide Hnx).1, unhide Hr]; exact unhide HM12
        · rw [(unhide Hnx).2, unhide Hr, List.map_append, unhide HEl, unhide Hro]; rfl
      case measure => simp [intOf]; omega
    · obtain rfl : k = m := by omega
      have cl : ¬ ((k : Int) < (k : Int)) := by omega
      have HM' := hide hM
      have HOw' := hide hOw
      have HOL' := hide hOL
      have HEl' := hide hEl
      have HB' := hide hB
      clear hM hOw hOL hEl hOm hB
      go_wp2
      go_ret2
      have hs := unhide Hs0
      subst hs
      have hS : SeenIs W.heap.size wr f w k nw (plT h P O E (openS h g (-1)) k) (plR h P O E (openS h g (-1)) k).2.2.2.2.1 q c (some ⟨qw, 0, none⟩) :=
        ⟨els, unhide HEl', own_le (unhide HOw') (by have := unhide Hlt; omega), fun e he => own_le (unhide HOL' e he) (by have := unhide Hlt; omega), (unhide HM').2.is⟩
      refine ⟨q, c, some ⟨qw, 0, none⟩, ?_⟩
      first | exact ⟨cw, rfl, hS, unhide HB'⟩ | exact ⟨⟨cw, rfl⟩, hS, unhide HB'⟩
end Go.Proofs.Ytndfecdhmncdaaa
