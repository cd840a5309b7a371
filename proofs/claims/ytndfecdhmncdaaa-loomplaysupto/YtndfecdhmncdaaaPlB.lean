/-
  Loom: a loom that is led step by step, where it can be opened.
-/
import Derived.Test.YtndfecdhmncdaaaPlA
import Derived.Test.YtndfecdhmncdaaaLwA
namespace Go.Proofs.Ytndfecdhmncdaaa
open Go.RowKit

/-- what Loom and the document's own one answer: what is seen, and the words -/
def SeenIs (B : Nat) (w' : World) (f : Nat → Bool) (w m nw : Nat) (l : List Sn) (g : Nat → Int) (q : Option Addr) (c : Nat) (dq : Option Addr) : Prop :=
  ∃ els, els.map Prod.fst = l ∧ w'.ownsRow B 34 6 (.slice q m c) m (snsV els) ∧ OL B w' f w els ∧ Is w' dq nw g
theorem own_wr {W : World} {B m cap qw : Nat} {T : Nat → Int} (h : W.ownsRow B 2 1 (.slice (some ⟨qw, 0, none⟩) m cap) m (intsV T m)) : WR W qw m T :=
  ⟨⟨(h.lt qw rfl).2, own_tg h rfl⟩, fun k hk => ⟨by rw [h.cellAt k (by omega)]; simp [intsV, hk], h.frozenAt k⟩⟩
theorem WR.is {W : World} {q n : Nat} {g : Nat → Int} (k : WR W q n g) : Is W (some ⟨q, 0, none⟩) n g := .inr ⟨q, 0, rfl, k.1.1, fun j hj => by rw [Nat.zero_add]; exact (k.2 j hj).1⟩
theorem LM.ne3 {W : World} {L w h : Nat} {p : Option Addr} {n cap D q nw cw : Nat} {s : LS} (k : LM W L w h p n cap D q nw cw s) : L ≠ D ∧ q ≠ D ∧ L ≠ q :=
  ⟨k.1.1.2.ne k.2.1.2.2.2.2.2 (by decide), k.2.2.1.2.ne k.2.1.2.2.2.2.2 (by decide), k.1.1.2.ne k.2.2.1.2 (by decide)⟩
theorem LM.power {W : World} {L w h : Nat} {p : Option Addr} {n cap D q nw cw : Nat} {st : Int} {wv : Nat} {sp dd : Bool} {g : Nat → Int} {lf : Int} (k : LM W L w h p n cap D q nw cw (st, wv, sp, dd, g, lf)) (b : Int) : LM (W.setCell ⟨D, 1, none⟩ (.int .i64 b)) L w h p n cap D q nw cw (st, wv, sp, dd, g, b) :=
  ⟨k.1.kept (kset W D 1 _) k.ne3.1, k.2.1.put b, k.2.2.far k.ne3.2.1 _ _⟩
theorem LM.tags {W : World} {L w h : Nat} {p : Option Addr} {n cap D q nw cw : Nat} {s : LS} (k : LM W L w h p n cap D q nw cw s) : Tg W L 76 ∧ Tg W D 48 ∧ Tg W q 2 := ⟨k.1.1.2, k.2.1.2.2.2.2.2, k.2.2.1.2⟩

theorem own_keptO {S : Nat → Prop} {W V : World} {B : Nat} {e : TypeId} {z : Nat} {v : Value} {n : Nat} {xs : List Value} (h : W.ownsRow B e z v n xs) (k : Kept S W V) (hS : ∀ g, v.ownBlock = some g → ¬ S g) : V.ownsRow B e z v n xs := by
  refine ⟨h.1, ?_⟩
  rcases h.2 with h0 | ⟨g, cap, cur, e1, e2, e3, e4⟩
  · exact .inl h0
  · refine .inr ⟨g, cap, cur, e1, e2, ?_, e4⟩
    have hg : v.ownBlock = some g := by rw [e1]; rfl
    rw [k.2.2.2.2 g (h.lt g hg).2 (hS g hg)]
    exact e3
set_option maxRecDepth 100000 in
set_option maxHeartbeats 8000000 in
theorem loom_ok {W : World} {w h : Nat} {p : Option Addr} {n cap : Nat} {f : Nat → Bool} (hm : Rt W w h p n cap f) (hn0 : 0 < n) {wq : Option Addr} {nw wcp : Nat} {g : Nat → Int} (hwd : Is W wq nw g) (hn2 : 2 ≤ nw) (hnw : nw ≤ 1048576) {sq : Option Addr} {m sc : Nat} {P : Nat → Int} {O : Nat → Bool} {E : Nat → Int} (hsc : Sc W sq m P O E) (hms : m ≤ 1048576) :
    Calls Try.prog 5 #[tr w h p n cap, .slice wq nw wcp, .slice sq m sc] W fun e w' => ∃ q c dq dc, e = .returned (.tuple #[.slice q m c, .slice dq nw dc, .bool true]) ∧ SeenIs W.heap.size w' f w m nw (plL h P O E (openS h g (-1)) m) (plS h P O E (openS h g (-1)) m).2.2.2.2.1 q c dq ∧ Below W.heap.size W w' := by
  obtain ⟨hw6, hh6, hnn, hBs⟩ := hm
  have hw0 : 0 < w := by rcases Nat.eq_zero_or_pos w with e | e; subst e; rw [Nat.zero_mul] at hnn; omega; exact e
  obtain ⟨i2, hi2, hz0, hz1, hz2⟩ := info_parts info2
  obtain ⟨i34, hi34, hy0, hy1, hy2⟩ := info_parts info34
  obtain ⟨wb, wo, hwq, -, -⟩ := hwd.at (show 0 < nw by omega)
  subst hwq
  have Hnn := hide hnn
  have HRt0 := hide (show Rt W w h p n cap f from ⟨hw6, hh6, hnn, hBs⟩)
  have HSc0 := hide hsc
  have B1 := bal (o := .cells #[.int .i64 w, .int .i64 h, .slice p n cap] 24) (Below.refl W.heap.size W)
  have HO1 := hide (OwnM.new W w h p n cap 24)
  have B2 := bal (o := .cells #[] 2) B1
  have hnw2 := is_news (T2 := g) (hwd.keep B2) (fun _ _ => rfl)
  have hO0 := World.ownsRow_made (base := W.heap.size + 1) (e := 2) (size := 1) (W.alloc (.cells #[.int .i64 w, .int .i64 h, .slice p n cap] 24)) #[] 0 (by simp) (by unfold maxLen; omega) (by simp)
  have HB1 := hide B1
  have Hsz := hide (show (W.alloc (.cells #[.int .i64 w, .int .i64 h, .slice p n cap] 24)).heap.size = W.heap.size + 1 by simp)
  clear hnn hBs hsc B1 B2 hwd
  simp only [World.size_alloc] at hO0
  go_enter Try.func5, Try.ntmps5
  go_wp2_with (at_builtin; refine wpList_append_own _ rfl _ _ 25 rfl (W.heap.size + 1) 2 i2 (.int .i64 0) 1 8 Try.underlying25 hi2 hz0 hz1 hz2 rfl (by decide) _ _ _ rfl hO0 ⟨wb, wo, none⟩ nw wcp (intsV g nw) rfl (intsV_len _ _) hnw2 intsV_one (by unfold maxLen; omega) (by omega) (by simp) ?_)
  intro v1 w1 hown1 hgrow1 _
  have B1 := (bal (o := .cells #[] 2) (unhide HB1)).grown hgrow1 (by simp only [World.size_alloc]; omega) (fun k hk => by have := (hO0.lt k hk).1; omega)
  have HO1' := (((unhide HO1).keep (bal (o := .cells #[] 2) (Below.refl _ _))).grown hgrow1 (fun e => by have := (hO0.lt _ e.symm).1; omega))
  replace hown1 : w1.ownsRow (W.heap.size + 1) 2 1 v1 nw (intsV g nw) := by simpa using hown1
  obtain ⟨qw, cw, rfl⟩ := own_slice hown1 (by omega)
  have hqw := (hown1.lt qw rfl).1
  have hW1 := own_wr hown1
  obtain ⟨bm, hbm⟩ : ∃ b, b = W.heap.size := ⟨_, rfl⟩
  have e2 := bal (o := .cells #[.slice (some ⟨qw, 0, none⟩) nw cw, .int .i64 (-1), .bool false] 48) (Below.refl w1.heap.size w1)
  have HD2 := hide (DB.new w1 qw nw cw (-1))
  have HW2 := hide (hW1.keep e2)
  have HO2 := hide (HO1'.keep e2)
  have B2 := hide (btrans B1 e2)
  have Hlt := hide (show bm = W.heap.size ∧ bm < qw ∧ bm < w1.heap.size from ⟨hbm, by omega, by have := B1.size; have := (hown1.lt qw rfl).2; omega⟩)
  rw [← hbm] at HO2
  clear B1 HO1' hown1 hgrow1 hW1 hqw e2 hO0 hnw2 HO1 HB1 Hsz
  go_upto_region 2 with fail
  rw [← hbm]
  generalize w1.alloc (.cells #[.slice (some ⟨qw, 0, none⟩) nw cw, .int .i64 (-1), .bool false] 48) = w2 at *
  obtain ⟨D, hD⟩ : ∃ b, b = w1.heap.size := ⟨_, rfl⟩
  rw [← hD] at HD2 Hlt
  rw [← hD]
  clear hD hbm
  have HOp := hide (open_ok (unhide HD2) (unhide HW2) ((unhide HRt0).keep (unhide B2)) hn2 hn0)
  unfold OpenOk at HOp
  obtain ⟨-, m1, m2, m3⟩ := unhide HO2
  go_wp2_with fail
  refine (unhide HOp).mono ?_
  clear m1 m2 m3
  rintro e w3 ⟨L, p1, c1, rfl, hl3, ho3, hL3, hb3⟩
  obtain ⟨s0, hs0⟩ : ∃ s, s = openS h g (-1) := ⟨_, rfl⟩
  have HM3 := hide (show LM w3 L w h p1 n c1 D qw nw cw s0 from by rw [hs0]; exact ⟨hl3, (unhide HD2).keep hb3, (unhide HW2).keep hb3⟩)
  have hsz2 : bm + 1 ≤ w2.heap.size := by have := (unhide HD2).1; have := unhide Hlt; omega
  have HBt3 := hide (own_le ho3 hsz2)
  have HO3 := hide ((unhide HO2).keep hb3)
  have B3 := hide (btrans (unhide B2) hb3)
  have hLb : bm < L := by omega
  have HPi := hide (show Pi h s0 from by rw [hs0]; exact pi_open (by decide))
  have Hs0 := hide hs0
  have hsz3 : bm + 1 ≤ w3.heap.size := Nat.le_trans hsz2 hb3.size
  clear hl3 ho3 hL3 hb3 HOp HD2 HW2 HO2 B2 hs0 hsz2
  go_wp2
  go_loopw [10, 11, 12, 30] (fun l er out i wr => ∃ (k L : Nat) (p1 : Option Addr) (c1 : Nat) (q : Option Addr) (c : Nat) (els : List (Sn × Value)), k ≤ m ∧ i = .int .i64 k ∧ l = .pointer (some ⟨L, 0, none⟩) ∧ er = .int .i64 0 ∧ out = .slice q k c ∧ LM wr L w h p1 n c1 D qw nw cw (plS h P O E s0 k) ∧ wr.ownsRow (bm + 1) 4 1 (.slice p1 n c1) n (bitsV f n) ∧ bm < L ∧ wr.ownsRow (bm + 1) 34 6 (.slice q k c) k (snsV els) ∧ OL (bm + 1) wr f w els ∧ els.map Prod.fst = plL h P O E s0 k ∧ OwnM wr bm w h p n cap ∧ bm + 1 ≤ wr.heap.size ∧ Below W.heap.size W wr) (fun _ _ _ i _ => m - (intOf i).toNat)
  case atStart => exact ⟨0, L, p1, c1, none, 0, [], Nat.zero_le _, rfl, rfl, rfl, rfl, unhide HM3, unhide HBt3, hLb, World.ownsRow_nil _ _ _ _, (fun e he => by cases he), rfl, unhide HO3, hsz3, unhide B3⟩
  case round =>
    clear HM3 HBt3 HO3 B3 hLb hsz3
    obtain ⟨k, L, p1, c1, q, c, els, hk, rfl, rfl, rfl, rfl, hM, hBt, hL, hOw, hOL, hEl, hOm, hsz, hB⟩ := hrel
    by_cases hlt : k < m
    · obtain ⟨sb, so, hsq, s1, s2, s3⟩ := ((unhide HSc0).keep hB).at hlt
      subst hsq
      have Hnx := hide (show plS h P O E s0 (k + 1) = (stS h (P k) (O k) (E k) (plS h P O E s0 k)).2.2 ∧ plL h P O E s0 (k + 1) = plL h P O E s0 k ++ [lkS (stS h (P k) (O k) (E k) (plS h P O E s0 k))] from ⟨rfl, rfl⟩)
      have hPk := pi_pl P O E (unhide HPi) k
      generalize plS h P O E s0 k = s at *
      generalize plL h P O E s0 k = ll at *
      generalize P k = Pk at *
      generalize O k = Ok at *
      generalize E k = Ek at *
      have q0 : (k : Int) < (m : Int) := by omega
      have q1 : (0 : Int) ≤ (k : Int) := by omega
      have HX := hide (XB.new wr Pk Ok Ek)
      have e1 := bal (o := .cells #[.int .i64 Pk, .bool Ok, .int .i64 Ek] 53) (Below.refl wr.heap.size wr)
      have HM1 := hide (hM.keep e1)
      have HB1 := hide (own_keep hBt e1)
      have HOw1 := hide (own_keep hOw e1)
      have HOL1 := hide (hOL.keep e1)
      have HOm1 := hide (hOm.keep e1)
      have B1 := hide (btrans hB e1)
      have HEl := hide hEl
      have HPk := hide hPk
      have hsz1 : bm + 1 ≤ (wr.alloc (.cells #[.int .i64 Pk, .bool Ok, .int .i64 Ek] 53)).heap.size := Nat.le_trans hsz e1.size
      clear hM hBt hOw hOL hOm hB hEl e1 hPk
      go_upto_if 36 with fail
      generalize wr.alloc (.cells #[.int .i64 Pk, .bool Ok, .int .i64 Ek] 53) = w4 at *
      obtain ⟨bx, hbx⟩ : ∃ b, b = wr.heap.size := ⟨_, rfl⟩
      rw [← hbx] at HX
      rw [← hbx]
      have Hbx := hide (show bm < bx by omega)
      clear hbx s1 s2 s3
      go_cut [] (fun wd => LM wd L w h p1 n c1 D qw nw cw (pwS Pk s) ∧ Kept (fun i => i = D) w4 wd)
      case first =>
        obtain ⟨st, wv, sp, dd, gg, lf⟩ := s
        by_cases hp : Pk = 0
        · have hp' : (Pk != 0) = false := by simp [hp]
          have Hs := hide (show pwS Pk (st, wv, sp, dd, gg, lf) = (st, wv, sp, dd, gg, lf) from by simp [pwS, hp])
          clear hp
          go_wp2
          go_meet
          case rel => exact ⟨by rw [unhide Hs]; exact unhide HM1, Kept.refl _ _⟩
        · have hp' : (Pk != 0) = true := by simp [hp]
          have Hs := hide (show pwS Pk (st, wv, sp, dd, gg, lf) = (st, wv, sp, dd, gg, wrap64 (Pk - 1)) from by simp [pwS, hp])
          have P2 := hide ((unhide HM1).power (wrap64 (Pk - 1)))
          obtain ⟨-, ⟨x0, x1, x2⟩, -⟩ := unhide HX
          obtain ⟨-, d0, d1, d2, d3, -⟩ := (unhide HM1).2.1
          clear hp
          go_wp2
          go_meet
          case rel => exact ⟨by rw [unhide Hs]; exact unhide P2, kset _ _ _ _⟩
      case rest =>
      obtain ⟨hM5, hK5⟩ := hcut
      have htg := (unhide HM1).tags
      have HX5 := hide ((unhide HX).kept hK5 (fun e => (unhide HX).1.2.ne htg.2.1 (by decide) e))
      have HB5 := hide (own_kept (unhide HB1) hK5 (fun i e t => tg_not (show Tg w4 i 48 from e ▸ htg.2.1) (by decide) t))
      have HOw5 := hide (own_kept (unhide HOw1) hK5 (fun i e t => tg_not (show Tg w4 i 48 from e ▸ htg.2.1) (by decide) t))
      have HOL5 := hide ((unhide HOL1).kept hK5 (fun i e t => tg_not (show Tg w4 i 48 from e ▸ htg.2.1) (by decide) t))
      have HOm5 := hide ((unhide HOm1).kept hK5 (fun e => by have := unhide Hlt; omega))
      have B5 := hide (Kept.back (unhide B1) hK5 (unhide B1).size (fun i e => by have := unhide Hlt; omega))
      have HP5 := hide (pi_pw Pk (unhide HPk))
      have hsz5 := Nat.le_trans hsz1 hK5.size
      have HM5 := hide hM5
      clear hM5 hK5 htg HX HB1 HOw1 HOL1 HOm1 B1 hsz1 HM1
      obtain ⟨wc5, rfl⟩ : ∃ x : World, x = wc := ⟨_, rfl⟩
      obtain ⟨s5, hs5⟩ : ∃ x, x = pwS Pk s := ⟨_, rfl⟩
      rw [← hs5] at HM5 HP5
      have Hs5 := hide hs5
      clear hs5
      obtain ⟨-, ⟨x0, x1, x2⟩, -⟩ := unhide HX5
      go_upto_if 44 with fail
      go_cut [10, 11] (fun l er wd => ∃ (L2 : Nat) (p2 : Option Addr) (c2 : Nat), l = .pointer (some ⟨L2, 0, none⟩) ∧ er = .int .i64 0 ∧ LM wd L2 w h p2 n c2 D qw nw cw (opS h Ok s5) ∧ wd.ownsRow (bm + 1) 4 1 (.slice p2 n c2) n (bitsV f n) ∧ bm < L2 ∧ Below wc5.heap.size wc5 wd)
      case first =>
        obtain ⟨st, wv, sp, dd, gg, lf⟩ := s5
        cases Ok with
        | false =>
          go_wp2
          go_meet
          case rel => exact ⟨L, p1, c1, rfl, rfl, unhide HM5, unhide HB5, hL, Below.refl _ _⟩
        | true =>
          have HOp := hide (open_ok (unhide HM5).2.1 (unhide HM5).2.2 ((unhide HRt0).keep (unhide B5)) hn2 hn0)
          unfold OpenOk at HOp
          obtain ⟨-, m1, m2, m3⟩ := unhide HOm5
          go_wp2_with fail
          refine (unhide HOp).mono ?_
          rintro e w6 ⟨L2, p2, c2, rfl, hl6, ho6, hL6, hb6⟩
          have HM6 := hide (show LM w6 L2 w h p2 n c2 D qw nw cw (openS h gg lf) from ⟨hl6, (unhide HM5).2.1.keep hb6, (unhide HM5).2.2.keep hb6⟩)
          have HB6 := hide (own_le ho6 hsz5)
          have H6 := hide hb6
          clear hl6 ho6 hb6 m1 m2 m3 x0 x1 x2
          go_wp2
          go_meet
          case rel => exact ⟨L2, p2, c2, rfl, rfl, unhide HM6, unhide HB6, by omega, unhide H6⟩
      case rest =>
      clear x0 x1 x2
      obtain ⟨L2, p2, c2, rfl, rfl, hM6, hB6, hL2, hb6⟩ := hcut
      have HX6 := hide ((unhide HX5).keep hb6)
      have HOw6 := hide (own_keep (unhide HOw5) hb6)
      have HOL6 := hide ((unhide HOL5).keep hb6)
      have HOm6 := hide ((unhide HOm5).keep hb6)
      have B6 := hide (btrans (unhide B5) hb6)
      have HP6 := hide (pi_op Ok (unhide HP5))
      have hsz6 := Nat.le_trans hsz5 hb6.size
      obtain ⟨wc6, rfl⟩ : ∃ x : World, x = wc := ⟨_, rfl⟩
      obtain ⟨s6, hs6⟩ : ∃ x, x = opS h Ok s5 := ⟨_, rfl⟩
      rw [← hs6] at hM6 HP6
      have Hs6 := hide hs6
      -- what is seen, its box
      have e7 := bal (o := .cells #[.int .i64 0, .int .i64 0, .int .i64 0, .slice none 0 0, .int .i64 0, .int .i64 0] 34) (Below.refl wc6.heap.size wc6)
      have HY7 := hide (YB.new wc6 0 0 0 none 0 0 0 0)
      have HM7 := hide (hM6.keep e7)
      have HB7 := hide (own_keep hB6 e7)
      have HX7 := hide ((unhide HX6).keep e7)
      have HOw7 := hide (own_keep (unhide HOw6) e7)
      have HOL7 := hide ((unhide HOL6).keep e7)
      have HOm7 := hide ((unhide HOm6).keep e7)
      have B7 := hide (btrans (unhide B6) e7)
      have hsz7 := Nat.le_trans hsz6 e7.size
      have Hfr := hide (fun i (hi : i < wc6.heap.size) (e : i = wc6.heap.size) => (by omega : False))
      have HfO := hide (fun g (hg : (Value.slice q k c).ownBlock = some g) => ((unhide HOw6).lt g hg).2)
      clear hs6 hM6 hB6 hb6 e7 HX6 HOw6 HOL6 HOm6 B6 HX5 HOw5 HOL5 HOm5 B5 HB5 HM5 hsz5
      obtain ⟨-, ⟨x0, x1, x2⟩, -⟩ := unhide HX7
      go_upto_if 58 with fail
      generalize wc6.alloc (.cells #[.int .i64 0, .int .i64 0, .int .i64 0, .slice none 0 0, .int .i64 0, .int .i64 0] 34) = w7 at *
      obtain ⟨by7, hby⟩ : ∃ b, b = wc6.heap.size := ⟨_, rfl⟩
      rw [← hby] at HY7 HfO
      rw [← hby]
      have Hby := hide (show bm + 1 ≤ by7 by omega)
      clear hby hsz6
      go_cut [] (fun wd => ∃ er, YB wd by7 (evS h Ek s6).1 0 0 none 0 0 0 er ∧ er = (evS h Ek s6).2.1 ∧ LM wd L2 w h p2 n c2 D qw nw cw (evS h Ek s6).2.2 ∧ Kept (fun i => i = by7 ∨ i = L2 ∨ i = D ∨ i = qw) w7 wd)
      case first =>
        by_cases he : Ek = 0
        · have he' : (Ek != 0) = false := by simp [he]
          have Hs := hide (show evS h Ek s6 = (0, 0, s6) from by simp [evS, he])
          clear he
          go_wp2
          go_meet
          case rel => exact ⟨0, by rw [unhide Hs]; exact unhide HY7, by rw [unhide Hs], by rw [unhide Hs]; exact unhide HM7, Kept.refl _ _⟩
        · have he' : (Ek != 0) = true := by simp [he]
          have Hs := hide (show evS h Ek s6 = doS h Ek s6 from by simp [evS, he])
          have hpi := unhide HP6
          have hdo := do_any Ek (unhide HM7) hn2 (by obtain ⟨st, wv, sp, dd, gg, lf⟩ := s6; have := hpi.1; dsimp only; omega) (by obtain ⟨st, wv, sp, dd, gg, lf⟩ := s6; exact hpi.2.2.1)
          unfold DoIs at hdo
          have HDo := hide hdo
          clear he hpi hdo
          generalize doS h Ek s6 = r at *
          obtain ⟨ds, er, s8⟩ := r
          dsimp only at HDo
          go_wp2_with fail
          refine (unhide HDo).mono ?_
          rintro e w8 ⟨rfl, hM8, hK8⟩
          have hyt := (unhide HY7).1.2
          have htg := (unhide HM7).tags
          have HY8 := hide ((unhide HY7).kept hK8 (fun e => by rcases e with e | e | e; exact hyt.ne htg.1 (by decide) e; exact hyt.ne htg.2.1 (by decide) e; exact hyt.ne htg.2.2 (by decide) e))
          have htg8 := hM8.tags
          have hyt8 := (unhide HY8).1.2
          have n1 : L2 ≠ by7 := htg8.1.ne hyt8 (by decide)
          have n2 : D ≠ by7 := htg8.2.1.ne hyt8 (by decide)
          have n3 : qw ≠ by7 := htg8.2.2.ne hyt8 (by decide)
          have HY10 := hide (((unhide HY8).do ds).err er)
          have HM10 := hide ((hM8.far n1 n2 n3 0 (.int .i64 ds)).far n1 n2 n3 5 (.int .i64 er))
          have HK10 := hide (((hK8.more (T := fun i => i = by7 ∨ i = L2 ∨ i = D ∨ i = qw) (fun i hi => .inl (.inr hi))).set (b := by7) 0 (.int .i64 ds) (.inl (.inl rfl))).set (b := by7) 5 (.int .i64 er) (.inl (.inl rfl)))
          obtain ⟨-, ⟨y0, y1, y2, y3, y4, y5⟩, z0, z1, z2, z3, z4, z5⟩ := unhide HY8
          clear hM8 hK8 hyt htg htg8 hyt8 n1 n2 n3 x0 x1 x2
          go_wp2
          go_meet
          case rel => exact ⟨er, by rw [unhide Hs]; exact unhide HY10, by rw [unhide Hs], by rw [unhide Hs]; exact unhide HM10, unhide HK10⟩
      case rest =>
      clear x0 x1 x2
      obtain ⟨er, hY8, her, hM8, hK8⟩ := hcut
      have htg := (unhide HM7).tags
      have hyt := (unhide HY7).1.2
      have n4 : ∀ i, (i = by7 ∨ i = L2 ∨ i = D ∨ i = qw) → ¬ Tg w7 i 4 := by
        rintro i (rfl | rfl | rfl | rfl)
        · exact tg_not hyt (by decide)
        · exact tg_not htg.1 (by decide)
        · exact tg_not htg.2.1 (by decide)
        · exact tg_not htg.2.2 (by decide)
      have HB8 := hide (own_kept (unhide HB7) hK8 n4)
      have HOL8 := hide ((unhide HOL7).kept hK8 n4)
      have nO : ∀ gb, (Value.slice q k c).ownBlock = some gb → ¬ (gb = by7 ∨ gb = L2 ∨ gb = D ∨ gb = qw) := by
        intro gb hg e
        have ht := own_tg (unhide HOw7) hg
        rcases e with rfl | rfl | rfl | rfl
        · have := unhide HfO _ hg; omega
        · exact tg_not ht (by decide) htg.1
        · exact tg_not ht (by decide) htg.2.1
        · exact tg_not ht (by decide) htg.2.2
      have HOw8 := hide (own_keptO (unhide HOw7) hK8 nO)
      have HOm8 := hide ((unhide HOm7).kept hK8 (fun e => by have := unhide Hlt; have := unhide Hby; omega))
      have B8 := hide (Kept.back (unhide B7) hK8 (unhide B7).size (fun i e => by have := unhide Hlt; have := unhide Hby; omega))
      have HP8 := hide (pi_ev Ek (unhide HP6))
      have hsz8 := Nat.le_trans hsz7 hK8.size
      have HfO8 := hide (fun g (hg : (Value.slice q k c).ownBlock = some g) => (fun e => nO g hg (.inl e) : g ≠ by7))
      obtain ⟨r, hr⟩ : ∃ r, r = evS h Ek s6 := ⟨_, rfl⟩
      rw [← hr] at hY8 her hM8 HP8
      have Hr := hide (show stS h Pk Ok Ek s = r by rw [hr, unhide Hs6, unhide Hs5]; rfl)
      clear hr
      obtain ⟨ds, er', st, wv, sp, dd, gg, lf⟩ := r
      dsimp only at hY8 her hM8 HP8
      subst her
      obtain ⟨wc8, rfl⟩ : ∃ x : World, x = wc := ⟨_, rfl⟩
      have HSt := hide (state_any hM8.1)
      have HWo := hide (woven_any hM8.1)
      have n1 : L2 ≠ by7 := hM8.tags.1.ne hY8.1.2 (by decide)
      have n2 : D ≠ by7 := hM8.tags.2.1.ne hY8.1.2 (by decide)
      have n3 : qw ≠ by7 := hM8.tags.2.2.ne hY8.1.2 (by decide)
      have HM9 := hide ((hM8.far n1 n2 n3 1 (.int .i64 st)).far n1 n2 n3 2 (.int .i64 (wv : Int)))
      have HY9 := hide ((hY8.state st).woven (wv : Int))
      have hk9 : Kept (fun i => i = by7) wc8 ((wc8.setCell ⟨by7, 1, none⟩ (.int .i64 st)).setCell ⟨by7, 2, none⟩ (.int .i64 (wv : Int))) := ((Kept.refl (fun i => i = by7) wc8).set (b := by7) 1 (.int .i64 st) (.inl rfl)).set (b := by7) 2 (.int .i64 (wv : Int)) (.inl rfl)
      have t8 : ∀ i, i = by7 → ¬ Tg wc8 i 4 := fun i e t => tg_not (show Tg wc8 i 34 from e ▸ hY8.1.2) (by decide) t
      have HB9 := hide (own_kept (unhide HB8) hk9 t8)
      have HOL9 := hide ((unhide HOL8).kept hk9 t8)
      have HOw9 := hide (own_keptO (unhide HOw8) hk9 (unhide HfO8))
      have HOm9 := hide ((unhide HOm8).kept hk9 (fun e => by have := unhide Hby; omega))
      have B9 := hide (Kept.back (unhide B8) hk9 (unhide B8).size (fun i e => by have := unhide Hlt; have := unhide Hby; omega))
      have hsz9 := Nat.le_trans hsz8 hk9.size
      obtain ⟨-, ⟨y0, y1, y2, y3, y4, y5⟩, z0, z1, z2, z3, z4, z5⟩ := hY8
      clear hM8 hK8 htg hyt n4 nO n1 n2 n3 hk9 t8 HB7 HOL7 HOw7 HOm7 B7 HY7 HM7 HX7 HB8 HOL8 HOw8 HOm8 B8 hsz7 hsz8 HfO
      go_wp2_with fail
      refine (unhide HSt).mono ?_
      rintro e wx ⟨rfl, hwx⟩
      subst hwx
      go_wp2_with fail
      refine (unhide HWo).mono ?_
      rintro e wx ⟨rfl, hwx⟩
      subst hwx
      go_upto_region 16 with fail
      clear y0 y1 y2 y3 y4 y5 z0 z1 z2 z3 z4 z5 HSt HWo
      generalize (wx.setCell ⟨by7, 1, none⟩ (.int .i64 st)).setCell ⟨by7, 2, none⟩ (.int .i64 (wv : Int)) = w9 at *
      have HRo := hide (row_of gg lf (unhide HM9).1 (own_bs (unhide HB9)) (unhide Hnn) hw6 hh6 hw0 (unhide HP8))
      go_wp2_with fail
      refine (unhide HRo).mono ?_
      rintro e w10 ⟨rq, rn, rc, rer, rfl, hro, hb10⟩
      obtain ⟨ro, hrO⟩ : ∃ x, x = roS (st, wv, sp, dd, gg, lf) := ⟨_, rfl⟩
      rw [← hrO] at hro
      have HrO := hide hrO
      have hM10 := (unhide HM9).keep hb10
      have hY10 := (unhide HY9).keep hb10
      have n1 : L2 ≠ by7 := hM10.tags.1.ne hY10.1.2 (by decide)
      have n2 : D ≠ by7 := hM10.tags.2.1.ne hY10.1.2 (by decide)
      have n3 : qw ≠ by7 := hM10.tags.2.2.ne hY10.1.2 (by decide)
      have HM11 := hide (hM10.far n1 n2 n3 3 (.slice rq rn rc))
      have HY11 := hide (hY10.row rq rn rc)
      have hk11 : Kept (fun i => i = by7) w10 (w10.setCell ⟨by7, 3, none⟩ (.slice rq rn rc)) := kset w10 by7 3 _
      have t10 : ∀ i, i = by7 → ¬ Tg w10 i 4 := fun i e t => tg_not (show Tg w10 i 34 from e ▸ hY10.1.2) (by decide) t
      have HB11 := hide (own_kept (own_keep (unhide HB9) hb10) hk11 t10)
      have HOL11 := hide (((unhide HOL9).keep hb10).kept hk11 t10)
      have HRo11 := hide (own_kept (own_le hro hsz9) hk11 t10)
      have hOw11 := own_keptO (own_keep (unhide HOw9) hb10) hk11 (unhide HfO8)
      have HOm11 := hide (((unhide HOm9).keep hb10).kept hk11 (fun e => by have := unhide Hby; omega))
      have B11 := hide (Kept.back (btrans (unhide B9) hb10) hk11 (btrans (unhide B9) hb10).size (fun i e => by have := unhide Hlt; have := unhide Hby; omega))
      have hsz11 := Nat.le_trans (Nat.le_trans hsz9 hb10.size) hk11.size
      obtain ⟨-, ⟨y0, y1, y2, y3, y4, y5⟩, z0, z1, z2, z3, z4, z5⟩ := hY10
      clear hro hM10 n1 n2 n3 t10 hk11 HM9 HY9 HB9 HOL9 HOw9 HOm9 B9 hsz9 HRo hrO hb10
      go_upto_region 17 with fail
      generalize w10.setCell ⟨by7, 3, none⟩ (.slice rq rn rc) = w11 at *
      clear y0 y1 y2 y3 y4 y5 z0 z1 z2 z3 z4 z5
      obtain ⟨-, ⟨y0, y1, y2, y3, y4, y5⟩, -⟩ := unhide HY11
      have c6 := cell_six_new w11 ((ds, st, wv, ro, 0, er), .slice rq rn rc) 34
      have hlen := hOw11.1
      go_wp2_with (at_builtin; refine wpList_append_own _ rfl _ _ 27 rfl (bm + 1) 34 i34 (.agg #[.int .i64 0, .int .i64 0, .int .i64 0, .slice none 0 0, .int .i64 0, .int .i64 0]) 6 64 Try.underlying27 hi34 hy0 hy1 hy2 rfl (by decide) _ _ _ rfl (hOw11.alloc _) ⟨w11.heap.size, 0, none⟩ 1 1 (snC ((ds, st, wv, ro, 0, er), .slice rq rn rc)) rfl rfl c6 (by intro u hu; simp [snC] at hu; rcases hu with rfl | rfl | rfl | rfl | rfl | rfl <;> rfl) (by unfold maxLen; omega) (by omega) (by simp; omega) ?_)
      intro v12 w12 hown12 hgrow12 _
      obtain ⟨q12, c12, rfl⟩ := own_form hown12
      have e12 := bal (o := .cells #[.int .i64 ds, .int .i64 st, .int .i64 (wv : Int), .slice rq rn rc, .int .i64 0, .int .i64 er] 34) (Below.refl w11.heap.size w11)
      have hk12 : Kept (fun i => bm + 1 ≤ i ∧ Tg w11 i 34) w11 w12 := (Kept.of e12).trans (grown_kept hgrow12 (fun r e => .inl ⟨(hOw11.lt r e).1, own_tg hOw11 e⟩))
      have t12 : ∀ i, (bm + 1 ≤ i ∧ Tg w11 i 34) → ¬ Tg w11 i 4 := fun i e t => tg_not e.2 (by decide) t
      have htg := (unhide HM11).tags
      have HM12 := hide ((unhide HM11).kept hk12 (fun e => tg_not htg.1 (by decide) e.2) (fun e => tg_not htg.2.1 (by decide) e.2) (fun e => tg_not htg.2.2 (by decide) e.2))
      have HB12 := hide (own_kept (unhide HB11) hk12 t12)
      have HOL12 := hide (((unhide HOL11).kept hk12 t12).snoc (e := ((ds, st, wv, ro, 0, er), .slice rq rn rc)) (own_kept (unhide HRo11) hk12 t12))
      have HOw12 := hide (show w12.ownsRow (bm + 1) 34 6 (.slice q12 (k + 1) c12) (k + 1) (snsV (els ++ [((ds, st, wv, ro, 0, er), .slice rq rn rc)])) from by rw [snsV_snoc]; exact hown12)
      have HOm12 := hide ((unhide HOm11).kept hk12 (fun e => by have := e.1; omega))
      have B12 := hide (Kept.back (unhide B11) hk12 (unhide B11).size (fun i e => by have := e.1; have := unhide Hlt; omega))
      have hsz12 := Nat.le_trans hsz11 hk12.size
      clear hown12 hgrow12 e12 hk12 t12 htg hOw11 c6 y0 y1 y2 y3 y4 y5 HM11 HB11 HOL11 HOm11 B11 hlen
      go_wp2
      go_roundw
      case rel =>
        refine ⟨k + 1, L2, p2, c2, q12, c12, els ++ [((ds, st, wv, ro, 0, er), .slice rq rn rc)], by omega, by go_num, rfl, rfl, rfl, ?_, unhide HB12, hL2, unhide HOw12, unhide HOL12, ?_, unhide HOm12, hsz12, unhide B12⟩
        · rw [(unhide Hnx).1, unhide Hr]; exact unhide HM12
        · rw [(unhide Hnx).2, unhide Hr, List.map_append, unhide HEl, unhide HrO]; rfl
      case measure => simp [intOf]; omega
    · obtain rfl : k = m := by omega
      have cl : ¬ ((k : Int) < (k : Int)) := by omega
      have HM' := hide hM
      have HOw' := hide hOw
      have HOL' := hide hOL
      have HEl' := hide hEl
      have HB' := hide hB
      obtain ⟨-, d0, d1, d2, d3, -⟩ := hM.2.1
      clear hM hBt hOw hOL hEl hOm hB
      go_wp2_with fail
      go_quiet (fail)
      go_wp2
      refine bodyPost_ret (results_tmp3 rfl _ _ _) rfl ?_
      have hs := unhide Hs0
      subst hs
      have hd := Joins.below_draws wr.heap.size wr
      refine ⟨q, c, some ⟨qw, 0, none⟩, cw, rfl, ⟨els, unhide HEl', own_le (own_keep (unhide HOw') (hd _)) (by have := unhide Hlt; omega), ?_, ((unhide HM').2.2.keep (hd _)).is⟩, (unhide HB').trans (Joins.below_draws _ _ _)⟩
      exact fun e he => own_le (own_keep (unhide HOL' e he) (hd _)) (by have := unhide Hlt; omega)
end Go.Proofs.Ytndfecdhmncdaaa
