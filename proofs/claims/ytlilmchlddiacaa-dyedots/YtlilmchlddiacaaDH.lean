/-
  The reference: Dots, dot by dot, each asking who gives to it.
-/
import Derived.Test.YtlilmchlddiacaaDG
import Derived.Deep.DeepCutAuto
import Derived.Test.YtlilmchlddiacaaDD
namespace Go.Proofs.Ytlilmchlddiacaa
open Go.RowKit

/-- whole numbers as a row has them -/
def ivL (f : Nat → Int) (n : Nat) : List Value := (List.range n).map fun j : Nat => Value.int .i64 (f j)
theorem ivL_len (f : Nat → Int) (n : Nat) : (ivL f n).length = n := by simp [ivL]
theorem ivL_snoc (f : Nat → Int) (n : Nat) : ivL f (n + 1) = ivL f n ++ [Value.int .i64 (f n)] := by simp [ivL, List.range_succ]
theorem lit_int (x : Int) : ∀ u ∈ [Value.int .i64 x], u.oneCell' = true := by intro u hu; obtain rfl := List.mem_singleton.1 hu; rfl
theorem li_new (W : World) (x : Int) : (W.alloc (.cells #[.int .i64 x] 3)).ownsRow 0 3 1 (.slice (some ⟨W.heap.size, 0, none⟩) 1 1) 1 [.int .i64 x] :=
  own_lit (e := 3) (z := 1) (k := 1) W #[.int .i64 x] (Nat.zero_le _) (by unfold maxLen; omega) rfl
/-- two rows of one's own, apart from each other -/
structure RD (B : Nat) (D L : Nat → Int) (W : World) (a b : Nat) (vo vl : Value) : Prop where
  o : W.ownsRow B 3 1 vo a (ivL D a)
  l : W.ownsRow B 3 1 vl b (ivL L b)
  ne : ∀ i, vo.ownBlock = some i → vl.ownBlock ≠ some i
theorem RD.keep {B : Nat} {D L : Nat → Int} {W V : World} {a b : Nat} {vo vl : Value} (h : RD B D L W a b vo vl) (hb : Below W.heap.size W V) : RD B D L V a b vo vl := ⟨own_keep h.o hb, own_keep h.l hb, h.ne⟩
theorem RD.left {B : Nat} {D L : Nat → Int} {W : World} {a b cl j : Nat} {vo : Value} {ql : Option Addr} (h : RD B D L W a b vo (.slice ql b cl)) (hj : j < b) : ∃ gl, ql = some ⟨gl, 0, none⟩ ∧ W.cell? ⟨gl, j, none⟩ = some (.int .i64 (L j)) := by
  obtain ⟨gl, cap, e⟩ := own_slice h.l (by omega)
  cases e
  refine ⟨gl, rfl, ?_⟩
  rw [World.ownsRow.cellAt h.l j (by omega)]
  simp [ivL, hj]
theorem RD.outA {B : Nat} {D L : Nat → Int} {W V : World} {a b : Nat} {vo vl v' : Value} (h : RD B D L W a b vo vl) (ho : V.ownsRow B 3 1 v' (a + 1) (ivL D a ++ [.int .i64 (D a)])) (hg : W.grownBy V vo.ownBlock) (hv : v'.ownBlock = vo.ownBlock ∨ v'.ownBlock = some W.heap.size) : RD B D L V (a + 1) b v' vl := by
  refine ⟨by rw [ivL_snoc]; exact ho, own_but h.l (grown_kept (S := fun i => vo.ownBlock = some i) hg (fun r e => .inl e)) (fun i hi q => h.ne i q hi), fun i hi q => ?_⟩
  rcases hv with e | e
  · exact h.ne i (by rw [← e]; exact hi) q
  · rw [e] at hi
    cases hi
    have := (h.l.lt _ q).2
    omega
theorem RD.leftA {B : Nat} {D L : Nat → Int} {W V : World} {a b : Nat} {vo vl v' : Value} (h : RD B D L W a b vo vl) (ho : V.ownsRow B 3 1 v' (b + 1) (ivL L b ++ [.int .i64 (L b)])) (hg : W.grownBy V vl.ownBlock) (hv : v'.ownBlock = vl.ownBlock ∨ v'.ownBlock = some W.heap.size) : RD B D L V a (b + 1) vo v' := by
  refine ⟨own_but h.o (grown_kept (S := fun i => vl.ownBlock = some i) hg (fun r e => .inl e)) (fun i hi q => h.ne i hi q), by rw [ivL_snoc]; exact ho, fun i hi q => ?_⟩
  rcases hv with e | e
  · exact h.ne i hi (by rw [← e]; exact q)
  · rw [e] at q
    cases q
    have := (h.o.lt _ hi).2
    omega
theorem RD.is {B : Nat} {D L : Nat → Int} {W : World} {a b co : Nat} {vl : Value} {qo : Option Addr} (h : RD B D L W a b (.slice qo a co) vl) : Is W qo a D := by
  by_cases ha : a = 0
  · exact .inl ha
  · obtain ⟨g, cap, e⟩ := own_slice h.o (by omega)
    cases e
    refine .inr ⟨g, 0, rfl, (h.o.lt g rfl).2, fun k hk => ?_⟩
    rw [Nat.zero_add, World.ownsRow.cellAt h.o k (by omega)]
    simp [ivL, hk]

/-- the numbers of a round -/
structure Rn (w n k X Y H : Nat) (gx V1 V Dk Lk l0 l1 l2 l3 l4 : Int) (L : Nat → Int) : Prop where
  hX : X = k % w
  hY : Y = k / w
  v1 : V1 = 16 * gx + (if 0 < X then sx 7 (L (k - 1)) else 0)
  v2 : V = V1 + (if 0 < Y then sx 5 (L (k - w)) + (if X + 1 < w then sx 3 (L (k - w + 1)) else 0) + (if 0 < X then sr (L (k - w - 1)) else 0) else 0)
  dk : Dk = dt V
  lk : Lk = V - 16 * Dk
  z0 : l1 = l0 + (if X + 1 = w then sx 7 Lk else 0)
  z1 : l2 = l1 + (if X = 0 ∨ Y + 1 = H then sx 3 Lk else 0)
  z2 : l3 = l2 + (if Y + 1 = H then sx 5 Lk else 0)
  z3 : l4 = l3 + (if X + 1 = w ∨ Y + 1 = H then sr Lk else 0)
theorem rn_at (w n : Nat) (g : Nat → Int) (hw : 0 < w) (hd : n % w = 0) (k : Nat) (hk : k < n) : ∃ V1 V l1 l2 l3, Rn w n k (k % w) (k / w) (n / w) (g k) V1 V (dtF w n g k) (lf w n g k) (ruS w n g k).lost l1 l2 l3 (ruS w n g (k + 1)).lost (lf w n g) := by
  have h1 := light_at w n g hw k hk
  have h2 := lost_at w n g hw hd k hk
  unfold s0 up s1 s2 s3 at h1
  unfold Go.Proofs.Ytlilmchlddiacaa.z0 Go.Proofs.Ytlilmchlddiacaa.z1 Go.Proofs.Ytlilmchlddiacaa.z2 Go.Proofs.Ytlilmchlddiacaa.z3 at h2
  exact ⟨_, _, _, _, _, rfl, rfl, rfl, rfl, by rw [← h1]; rfl, by rw [← h1]; rfl, rfl, rfl, rfl, h2⟩

set_option maxRecDepth 100000 in
set_option maxHeartbeats 8000000 in
theorem rdots_ok (w n cap : Nat) (q : Option Addr) (g : Nat → Int) (hw : 0 < w) (hw2 : w ≤ 4096) (hn : n ≤ 65536) (hd : n % w = 0) (hg : ∀ j, j < n → grB (g j)) (W : World) (hI : Is W q n g) : AnsD 13 #[.int .i64 w, .slice q n cap] W n (dtF w n g) (ruS w n g n).lost 0 := by
  unfold AnsD
  have c1 : ¬ ((w : Int) < 1) := by omega
  have c1' : decide ((w : Int) < 1) = false := decide_eq_false c1
  have c2 : ¬ (4096 < (w : Int)) := by omega
  have c2' : decide (4096 < (w : Int)) = false := decide_eq_false c2
  have c3 : ¬ (65536 < (n : Int)) := by omega
  have c3' : decide (65536 < (n : Int)) = false := decide_eq_false c3
  have c4 : (n : Int) % (w : Int) = 0 := by omega
  have c5 : ((w : Int) == 0) = false := by simp; omega
  have HI := hide hI
  have HG := hide hg
  have HR := hide (fun k hk => rn_at w n g hw hd k hk)
  have HLb := hide (fun k hk => lf_bd hw hn hg k hk)
  have HLo := hide (fun k hk => lost_bd hw hn hg k hk)
  have Hl0 := hide (show (ruS w n g 0).lost = 0 from rfl)
  obtain ⟨H, hH⟩ : ∃ H, n / w = H := ⟨_, rfl⟩
  have c6 : (n : Int) / (w : Int) = (H : Int) := by rw [← hH]; simp
  have c7 : (H : Int) ≤ 65536 := by have := Nat.div_le_self n w; omega
  have c8 : (0 : Int) ≤ (n : Int) := by omega
  rw [hH] at HR
  generalize dtF w n g = D at *
  generalize lf w n g = L at *
  obtain ⟨Lo, hLo⟩ : ∃ Lo : Nat → Int, Lo = fun k => (ruS w n g k).lost := ⟨_, rfl⟩
  have eLo : ∀ k, (ruS w n g k).lost = Lo k := fun k => by rw [hLo]
  rw [eLo] at Hl0 ⊢
  simp only [eLo] at HR HLo
  clear hI hg hH hLo eLo hd
  go_enter Try.func13, Try.ntmps13
  go_wp2
  clear c4
  go_loopw [39] (fun i wr => ∃ x : Nat, x ≤ n ∧ i = .int .i64 x ∧ wr = W) (fun i _ => n - (intOf i).toNat)
  case atStart => exact ⟨0, Nat.zero_le _, rfl, rfl⟩
  case round =>
    obtain ⟨x, hx, rfl, rfl⟩ := hrel
    by_cases hlt : x < n
    · obtain ⟨ad0, oo, rfl, hl, hk⟩ := (unhide HI).at (x := x) (by omega)
      have kx := hk x (by omega)
      obtain ⟨g1, g2⟩ := unhide HG x (by omega)
      generalize g x = gx at *
      have q0 : (x : Int) < (n : Int) := by omega
      have q1 : (0 : Int) ≤ (x : Int) := by omega
      have r1 : ¬ (gx < 0) := by omega
      have r1' : decide (gx < 0) = false := decide_eq_false r1
      have r2 : ¬ (255 < gx) := by omega
      have r2' : decide (255 < gx) = false := decide_eq_false r2
      clear hk
      go_wp2
      go_roundw
      case rel => exact ⟨x + 1, by omega, by go_num, trivial⟩
      case measure => simp [intOf]; omega
    · obtain rfl : n = x := by omega
      have cl : ¬ ((n : Int) < (n : Int)) := by omega
      obtain ⟨W0, rfl⟩ : ∃ x : World, x = wr := ⟨_, rfl⟩
      go_wp2
      clear c6
      go_loopw [9, 10, 11, 56] (fun o l lo i wr2 => ∃ (x : Nat) (qo : Option Addr) (co : Nat) (ql : Option Addr) (cl : Nat), x ≤ n ∧ i = .int .i64 x ∧ o = .slice qo x co ∧ l = .slice ql x cl ∧ lo = .int .i64 (Lo x) ∧ RD W0.heap.size D L wr2 x x (.slice qo x co) (.slice ql x cl) ∧ Below W0.heap.size W0 wr2) (fun _ _ _ i _ => n - (intOf i).toNat)
      case atStart => exact ⟨0, none, 0, none, 0, Nat.zero_le _, rfl, rfl, rfl, by rw [unhide Hl0], ⟨World.ownsRow_nil _ _ _ _, World.ownsRow_nil _ _ _ _, fun i hi => by cases hi⟩, Below.refl _ _⟩
      case round =>
        obtain ⟨k, qo, co, ql, cl, hk, rfl, rfl, rfl, rfl, hRD, hb⟩ := hrel
        by_cases hlt : k < n
        · skip
          obtain ⟨ad0, oo, rfl, -, hk0⟩ := ((unhide HI).keep hb).at (x := k) hlt
          have kx := hk0 k hlt
          obtain ⟨g1, g2⟩ := unhide HG k hlt
          obtain ⟨V1, V, l1, l2, l3, hR⟩ := unhide HR k hlt
          have bl := unhide HLb k hlt
          have bo := unhide HLo k (by omega)
          have bo2 := unhide HLo (k + 1) (by omega)
          obtain ⟨X, hX⟩ : ∃ X, k % w = X := ⟨_, rfl⟩
          obtain ⟨Y, hY⟩ : ∃ Y, k / w = Y := ⟨_, rfl⟩
          have eX : Int.tmod (k : Int) (w : Int) = (X : Int) := by rw [Int.tmod_eq_emod_of_nonneg (by omega), ← hX]; simp
          have eY : Int.tdiv (k : Int) (w : Int) = (Y : Int) := by rw [Int.tdiv_eq_ediv_of_nonneg (by omega), ← hY]; simp
          have bX : X < w := by rw [← hX]; exact Nat.mod_lt _ hw
          have bY : (Y : Int) ≤ 65536 := by have := Nat.div_le_self k w; omega
          have eY2 : IntKind.i64.wrap (Y : Int) = (Y : Int) := Go.IntWalk.i64_in _ (by omega)
          have Hyk := hide (show (0 < Y ↔ w ≤ k) ∧ (0 < X → 0 < k) from ⟨by rw [← hY]; exact div_pos hw, fun h => by rcases Nat.eq_zero_or_pos k with h0 | h0; subst h0; simp at hX; omega; exact h0⟩)
          rw [hX, hY] at hR
          generalize g k = gx at *
          have q0 : (k : Int) < (n : Int) := by omega
          have q1 : (0 : Int) ≤ (k : Int) := by omega
          have HRn := hide hR
          have Hbo := hide (And.intro bl (And.intro bo bo2))
          have HD := hide (hRD.keep (bdrew wr))
          have HB := hide (btrans hb (bdrew wr))
          have Hlk := hide (show ∀ j, j < k → -1000000000 ≤ L j ∧ L j ≤ 1000000000 from fun j hj => unhide HLb j (by omega))
          clear hk0 hX hY hR bl bo bo2 hRD hb
          go_wp2_with fail
          go_region
          generalize wr.drew = w8 at *
          clear eX eY kx
          go_upto_if 70 with fail
          go_cut [17] (fun v wd => v = .int .i64 V1 ∧ Below w8.heap.size w8 wd)
          case first => as_aux_lemma =>
            by_cases h0 : 0 < X
            · have d0 : (0 : Int) < (X : Int) := by omega
              have d0' : decide ((0 : Int) < (X : Int)) = true := decide_eq_true d0
              have hk1 := (unhide Hyk).2 h0
              obtain ⟨j, hj⟩ : ∃ j, k - 1 = j := ⟨_, rfl⟩
              have e1 : (k : Int) - 1 = (j : Int) := by omega
              have e2 : (j : Int) < (k : Int) := by omega
              have e3 : (0 : Int) ≤ (j : Int) := by omega
              obtain ⟨gl, rfl, kc⟩ := (unhide HD).left (j := j) (by omega)
              have hv := (unhide HRn).v1
              rw [if_pos h0, hj] at hv
              have bj := unhide Hlk j (by omega)
              have bs := (sx_bd bj).1
              have HS := hide (fun U => share29_0 (L j) bj U)
              generalize sx 7 (L j) = sj at *
              generalize L j = lj at *
              obtain ⟨bs1, bs2⟩ := bs
              have hv' : 16 * gx + sj = V1 := hv.symm
              clear hv hj hk1 h0 bj
              go_wp2_with fail
              refine (unhide HS _).mono ?_
              rintro e w9 ⟨rfl, hb9⟩
              have Hb9 := hide hb9
              clear hb9
              go_wp2
              go_meet
              case rel => exact ⟨rfl, unhide Hb9⟩
            · have d0 : ¬ (0 : Int) < (X : Int) := by omega
              have d0' : decide ((0 : Int) < (X : Int)) = false := decide_eq_false d0
              have hv := (unhide HRn).v1
              rw [if_neg h0, Int.add_zero] at hv
              have Hv := hide hv
              clear hv h0
              go_wp2
              go_meet
              case rel => exact ⟨by rw [unhide Hv], Below.refl _ _⟩
          case rest => as_aux_lemma =>
          obtain ⟨rfl, hbc⟩ := hcut
          have HD1 := hide ((unhide HD).keep hbc)
          have HB1 := hide (btrans (unhide HB) hbc)
          have Hv1 := hide (show -1000100000 ≤ V1 ∧ V1 ≤ 1000100000 by
            have hv := (unhide HRn).v1
            by_cases h0 : 0 < X
            · have := (sx_bd (unhide Hlk (k - 1) (by have := (unhide Hyk).2 h0; omega))).1
              rw [if_pos h0] at hv; omega
            · rw [if_neg h0] at hv; omega)
          clear hbc HD HB
          obtain ⟨wA, rfl⟩ : ∃ x : World, x = wc := ⟨_, rfl⟩
          go_upto_if 80 with fail
          go_cut [17] (fun v wd => v = .int .i64 V ∧ Below wA.heap.size wA wd)
          case first => as_aux_lemma =>
            obtain ⟨v11, v12⟩ := unhide Hv1
            by_cases h0 : 0 < Y
            · have d0 : (0 : Int) < (Y : Int) := by omega
              have d0' : decide ((0 : Int) < (Y : Int)) = true := decide_eq_true d0
              have hwk := (unhide Hyk).1.1 h0
              obtain ⟨j, hj⟩ : ∃ j, k - w = j := ⟨_, rfl⟩
              have hjk : j < k := by omega
              have hv0 := (unhide HRn).v2
              by_cases h1 : X + 1 < w
              · have d1 : (X : Int) + 1 < (w : Int) := by omega
                have d1' : decide ((X : Int) + 1 < (w : Int)) = true := decide_eq_true d1
                by_cases h2 : 0 < X
                · have d2 : (0 : Int) < (X : Int) := by omega
                  have d2' : decide ((0 : Int) < (X : Int)) = true := decide_eq_true d2
                  have hkw1 : w + 1 ≤ k := by
                    have hx := (unhide HRn).hX
                    rcases Nat.lt_or_ge w k with h | h
                    · omega
                    · exfalso; have e : k = w := by omega
                      rw [e, Nat.mod_self] at hx; omega
                  have hv := hv0
                  rw [if_pos h0, hj] at hv
                  rw [if_pos h1, if_pos h2] at hv
                  have e1 : (k : Int) - (w : Int) = (j : Int) := by omega
                  have e2 : (j : Int) < (k : Int) := by omega
                  have e3 : (0 : Int) ≤ (j : Int) := by omega
                  obtain ⟨gl, rfl, kc⟩ := (unhide HD1).left (j := j) (by omega)
                  have bj := unhide Hlk j (by omega)
                  have bs := (sx_bd bj).2.2.1
                  have HS := hide (fun U => share29_2 (L j) bj U)
                  obtain ⟨m, hm⟩ : ∃ m, j + 1 = m := ⟨_, rfl⟩
                  have e4 : (j : Int) + 1 = (m : Int) := by omega
                  have e5 : (m : Int) < (k : Int) := by omega
                  have e6 : (0 : Int) ≤ (m : Int) := by omega
                  have bm := unhide Hlk m (by omega)
                  have bt := (sx_bd bm).2.1
                  have HT := hide (fun U => share29_1 (L m) bm U)
                  rw [hm] at hv
                  obtain ⟨p, hp⟩ : ∃ p, j - 1 = p := ⟨_, rfl⟩
                  have hj1 : 1 ≤ j := by omega
                  have e7 : (j : Int) - 1 = (p : Int) := by omega
                  have e8 : (p : Int) < (k : Int) := by omega
                  have e9 : (0 : Int) ≤ (p : Int) := by omega
                  have bp := unhide Hlk p (by omega)
                  have bu := (sx_bd bp).2.2.2
                  have HU := hide (fun U => share29_3 (L p) bp U)
                  rw [hp] at hv
                  obtain ⟨sj, hsj⟩ : ∃ y, sx 5 (L j) = y := ⟨_, rfl⟩
                  rw [hsj] at hv bs HS
                  obtain ⟨bs1, bs2⟩ := bs
                  obtain ⟨sm, hsm⟩ : ∃ y, sx 3 (L m) = y := ⟨_, rfl⟩
                  rw [hsm] at hv bt HT
                  obtain ⟨bt1, bt2⟩ := bt
                  obtain ⟨sp, hsp⟩ : ∃ y, sr (L p) = y := ⟨_, rfl⟩
                  rw [hsp] at hv bu HU
                  obtain ⟨bu1, bu2⟩ := bu
                  have Hv := hide (show V1 + sj + sm + sp = V by omega)
                  clear hv hv0 hsj h0 h1 h2 hj hwk hjk hkw1 hsm hm hsp hp hj1
                  have HD2 := HD1
                  go_wp2_with fail
                  refine (unhide HS _).mono ?_
                  rintro e w9 ⟨rfl, hb9⟩
                  have Hb9 := hide hb9
                  have HD9 := hide ((unhide HD1).keep hb9)
                  clear hb9 kc HD2
                  obtain ⟨gl2, hgl2, kc⟩ := (unhide HD9).left (j := m) (by omega)
                  cases hgl2
                  go_wp2_with fail
                  refine (unhide HT _).mono ?_
                  rintro e w10 ⟨rfl, hb10⟩
                  have Hb10 := hide (btrans (unhide Hb9) hb10)
                  have HD10 := hide ((unhide HD9).keep hb10)
                  clear hb10 kc
                  obtain ⟨gl3, hgl3, kc⟩ := (unhide HD10).left (j := p) (by omega)
                  cases hgl3
                  go_wp2_with fail
                  refine (unhide HU _).mono ?_
                  rintro e w11 ⟨rfl, hb11⟩
                  have Hb11 := hide (btrans (unhide Hb10) hb11)
                  clear hb11 kc
                  go_wp2
                  go_meet
                  case rel => exact ⟨by rw [unhide Hv], unhide Hb11⟩
                · have d2 : ¬ (0 : Int) < (X : Int) := by omega
                  have d2' : decide ((0 : Int) < (X : Int)) = false := decide_eq_false d2
                  have hv := hv0
                  rw [if_pos h0, hj] at hv
                  rw [if_pos h1, if_neg h2] at hv
                  have e1 : (k : Int) - (w : Int) = (j : Int) := by omega
                  have e2 : (j : Int) < (k : Int) := by omega
                  have e3 : (0 : Int) ≤ (j : Int) := by omega
                  obtain ⟨gl, rfl, kc⟩ := (unhide HD1).left (j := j) (by omega)
                  have bj := unhide Hlk j (by omega)
                  have bs := (sx_bd bj).2.2.1
                  have HS := hide (fun U => share29_2 (L j) bj U)
                  obtain ⟨m, hm⟩ : ∃ m, j + 1 = m := ⟨_, rfl⟩
                  have e4 : (j : Int) + 1 = (m : Int) := by omega
                  have e5 : (m : Int) < (k : Int) := by omega
                  have e6 : (0 : Int) ≤ (m : Int) := by omega
                  have bm := unhide Hlk m (by omega)
                  have bt := (sx_bd bm).2.1
                  have HT := hide (fun U => share29_1 (L m) bm U)
                  rw [hm] at hv
                  obtain ⟨sj, hsj⟩ : ∃ y, sx 5 (L j) = y := ⟨_, rfl⟩
                  rw [hsj] at hv bs HS
                  obtain ⟨bs1, bs2⟩ := bs
                  obtain ⟨sm, hsm⟩ : ∃ y, sx 3 (L m) = y := ⟨_, rfl⟩
                  rw [hsm] at hv bt HT
                  obtain ⟨bt1, bt2⟩ := bt
                  have Hv := hide (show V1 + sj + sm = V by omega)
                  clear hv hv0 hsj h0 h1 h2 hj hwk hjk hsm hm
                  have HD2 := HD1
                  go_wp2_with fail
                  refine (unhide HS _).mono ?_
                  rintro e w9 ⟨rfl, hb9⟩
                  have Hb9 := hide hb9
                  have HD9 := hide ((unhide HD1).keep hb9)
                  clear hb9 kc HD2
                  obtain ⟨gl2, hgl2, kc⟩ := (unhide HD9).left (j := m) (by omega)
                  cases hgl2
                  go_wp2_with fail
                  refine (unhide HT _).mono ?_
                  rintro e w10 ⟨rfl, hb10⟩
                  have Hb10 := hide (btrans (unhide Hb9) hb10)
                  have HD10 := hide ((unhide HD9).keep hb10)
                  clear hb10 kc
                  go_wp2
                  go_meet
                  case rel => exact ⟨by rw [unhide Hv], unhide Hb10⟩
              · have d1 : ¬ (X : Int) + 1 < (w : Int) := by omega
                have d1' : decide ((X : Int) + 1 < (w : Int)) = false := decide_eq_false d1
                by_cases h2 : 0 < X
                · have d2 : (0 : Int) < (X : Int) := by omega
                  have d2' : decide ((0 : Int) < (X : Int)) = true := decide_eq_true d2
                  have hkw1 : w + 1 ≤ k := by
                    have hx := (unhide HRn).hX
                    rcases Nat.lt_or_ge w k with h | h
                    · omega
                    · exfalso; have e : k = w := by omega
                      rw [e, Nat.mod_self] at hx; omega
                  have hv := hv0
                  rw [if_pos h0, hj] at hv
                  rw [if_neg h1, if_pos h2] at hv
                  have e1 : (k : Int) - (w : Int) = (j : Int) := by omega
                  have e2 : (j : Int) < (k : Int) := by omega
                  have e3 : (0 : Int) ≤ (j : Int) := by omega
                  obtain ⟨gl, rfl, kc⟩ := (unhide HD1).left (j := j) (by omega)
                  have bj := unhide Hlk j (by omega)
                  have bs := (sx_bd bj).2.2.1
                  have HS := hide (fun U => share29_2 (L j) bj U)
                  obtain ⟨p, hp⟩ : ∃ p, j - 1 = p := ⟨_, rfl⟩
                  have hj1 : 1 ≤ j := by omega
                  have e7 : (j : Int) - 1 = (p : Int) := by omega
                  have e8 : (p : Int) < (k : Int) := by omega
                  have e9 : (0 : Int) ≤ (p : Int) := by omega
                  have bp := unhide Hlk p (by omega)
                  have bu := (sx_bd bp).2.2.2
                  have HU := hide (fun U => share29_3 (L p) bp U)
                  rw [hp] at hv
                  obtain ⟨sj, hsj⟩ : ∃ y, sx 5 (L j) = y := ⟨_, rfl⟩
                  rw [hsj] at hv bs HS
                  obtain ⟨bs1, bs2⟩ := bs
                  obtain ⟨sp, hsp⟩ : ∃ y, sr (L p) = y := ⟨_, rfl⟩
                  rw [hsp] at hv bu HU
                  obtain ⟨bu1, bu2⟩ := bu
                  have Hv := hide (show V1 + sj + sp = V by omega)
                  clear hv hv0 hsj h0 h1 h2 hj hwk hjk hkw1 hsp hp hj1
                  have HD2 := HD1
                  go_wp2_with fail
                  refine (unhide HS _).mono ?_
                  rintro e w9 ⟨rfl, hb9⟩
                  have Hb9 := hide hb9
                  have HD9 := hide ((unhide HD1).keep hb9)
                  clear hb9 kc HD2
                  obtain ⟨gl3, hgl3, kc⟩ := (unhide HD9).left (j := p) (by omega)
                  cases hgl3
                  go_wp2_with fail
                  refine (unhide HU _).mono ?_
                  rintro e w11 ⟨rfl, hb11⟩
                  have Hb11 := hide (btrans (unhide Hb9) hb11)
                  clear hb11 kc
                  go_wp2
                  go_meet
                  case rel => exact ⟨by rw [unhide Hv], unhide Hb11⟩
                · have d2 : ¬ (0 : Int) < (X : Int) := by omega
                  have d2' : decide ((0 : Int) < (X : Int)) = false := decide_eq_false d2
                  have hv := hv0
                  rw [if_pos h0, hj] at hv
                  rw [if_neg h1, if_neg h2] at hv
                  have e1 : (k : Int) - (w : Int) = (j : Int) := by omega
                  have e2 : (j : Int) < (k : Int) := by omega
                  have e3 : (0 : Int) ≤ (j : Int) := by omega
                  obtain ⟨gl, rfl, kc⟩ := (unhide HD1).left (j := j) (by omega)
                  have bj := unhide Hlk j (by omega)
                  have bs := (sx_bd bj).2.2.1
                  have HS := hide (fun U => share29_2 (L j) bj U)
                  obtain ⟨sj, hsj⟩ : ∃ y, sx 5 (L j) = y := ⟨_, rfl⟩
                  rw [hsj] at hv bs HS
                  obtain ⟨bs1, bs2⟩ := bs
                  have Hv := hide (show V1 + sj = V by omega)
                  clear hv hv0 hsj h0 h1 h2 hj hwk hjk
                  have HD2 := HD1
                  go_wp2_with fail
                  refine (unhide HS _).mono ?_
                  rintro e w9 ⟨rfl, hb9⟩
                  have Hb9 := hide hb9
                  have HD9 := hide ((unhide HD1).keep hb9)
                  clear hb9 kc HD2
                  go_wp2
                  go_meet
                  case rel => exact ⟨by rw [unhide Hv], unhide Hb9⟩
            · have d0 : ¬ (0 : Int) < (Y : Int) := by omega
              have d0' : decide ((0 : Int) < (Y : Int)) = false := decide_eq_false d0
              have hv := (unhide HRn).v2
              rw [if_neg h0, Int.add_zero] at hv
              have Hv := hide hv
              clear hv h0
              go_wp2
              go_meet
              case rel => exact ⟨by rw [unhide Hv], Below.refl _ _⟩
          case rest => as_aux_lemma =>
          obtain ⟨rfl, hbc⟩ := hcut
          have HD3 := hide ((unhide HD1).keep hbc)
          have HB3 := hide (btrans (unhide HB1) hbc)
          have Hv2 := hide (show -2000000000 ≤ V ∧ V ≤ 2000000000 by
            have h1 := (unhide HRn).lk
            have h2 := (unhide HRn).dk
            have h3 := dt_two V
            have h4 := (unhide Hbo).1
            omega)
          have Hd2 := hide (show (0 : Int) ≤ D k ∧ D k ≤ 255 by have h2 := (unhide HRn).dk; have h3 := dt_two V; omega)
          clear hbc HD1 HB1 Hv1
          obtain ⟨wB, rfl⟩ : ∃ x : World, x = wc := ⟨_, rfl⟩
          obtain ⟨v21, v22⟩ := unhide Hv2
          go_upto_if 118 with fail
          go_cut [18] (fun v wd => v = .int .i64 (D k) ∧ wd = wB)
          case first => as_aux_lemma =>
            by_cases h0 : 4080 ≤ 2 * V
            · have Hd := hide (show D k = 255 by rw [(unhide HRn).dk]; unfold dt; rw [if_pos h0])
              go_wp2
              go_meet
              case rel => exact ⟨by rw [unhide Hd], rfl⟩
            · have Hd := hide (show D k = 0 by rw [(unhide HRn).dk]; unfold dt; rw [if_neg h0])
              go_wp2
              go_meet
              case rel => exact ⟨by rw [unhide Hd], rfl⟩
          case rest => as_aux_lemma =>
          obtain ⟨rfl, hwc⟩ := hcut
          subst hwc
          obtain ⟨wC, rfl⟩ : ∃ x : World, x = wc := ⟨_, rfl⟩
          obtain ⟨d21, d22⟩ := unhide Hd2
          have hlk := (unhide HRn).lk
          have HDc := hide ((unhide HD3).keep (bnew wC (.cells #[.int .i64 (D k)] 3)))
          have HBc := hide (btrans (unhide HB3) (bnew wC (.cells #[.int .i64 (D k)] 3)))
          have Hli := hide (li_new wC (D k))
          have hszc := (unhide HBc).size
          have Hlk2 := hide hlk.symm
          clear hlk HD3 HB3
          go_wp2_with (at_builtin; refine wl_app rfl rfl Try.underlying34 info3 rfl (by decide) (B := W0.heap.size) (C := 0) (n := k) (m := 1) rfl rfl (unhide HDc).o (unhide Hli) (lit_int _) (by unfold maxLen; omega) (by omega) hszc ?_)
          intro v5 w5 hown5 hgrow5 hv5
          have HB5 := hide ((unhide HBc).grown hgrow5 hszc (fun i hi => ((unhide HDc).o.lt i hi).1))
          have HD5 := hide ((unhide HDc).outA hown5 hgrow5 (hv5.imp id fun h => h.trans (by simp)))
          obtain ⟨qo2, co2, rfl⟩ := own_form hown5
          clear hown5 hgrow5 hv5 hszc HDc HBc Hli
          go_upto_region 29 with fail
          have HDd := hide ((unhide HD5).keep (bnew w5 (.cells #[.int .i64 (L k)] 3)))
          have HBd := hide (btrans (unhide HB5) (bnew w5 (.cells #[.int .i64 (L k)] 3)))
          have Hlj := hide (li_new w5 (L k))
          have hszd := (unhide HBd).size
          have hlk2 := unhide Hlk2
          clear HD5 HB5
          go_wp2_with (at_builtin; refine wl_app rfl rfl Try.underlying34 info3 rfl (by decide) (B := W0.heap.size) (C := 0) (n := k) (m := 1) rfl rfl (unhide HDd).l (unhide Hlj) (lit_int _) (by unfold maxLen; omega) (by omega) hszd ?_)
          intro v6 w6 hown6 hgrow6 hv6
          have HB6 := hide ((unhide HBd).grown hgrow6 hszd (fun i hi => ((unhide HDd).l.lt i hi).1))
          have HD6 := hide ((unhide HDd).leftA hown6 hgrow6 (hv6.imp id fun h => h.trans (by simp)))
          obtain ⟨ql2, cl2, rfl⟩ := own_form hown6
          clear hown6 hgrow6 hv6 hszd HDd HBd Hlj hlk2
          have Hbs := hide (sx_bd (unhide Hbo).1)
          have Hbl := hide (show (-1000000000 ≤ Lo k ∧ Lo k ≤ 1000000000) ∧ (-2000000000 ≤ l1 ∧ l1 ≤ 2000000000) ∧ (-3000000000 ≤ l2 ∧ l2 ≤ 3000000000) ∧ (-4000000000 ≤ l3 ∧ l3 ≤ 4000000000) by
            have h0 := (unhide Hbo).2.1
            have hz0 := (unhide HRn).z0
            have hz1 := (unhide HRn).z1
            have hz2 := (unhide HRn).z2
            have hb := unhide Hbs
            refine ⟨h0, ?_, ?_, ?_⟩ <;> (split at hz0 <;> split at hz1 <;> split at hz2 <;> omega))
          have bl := (unhide Hbo).1
          have HS0 := hide (fun U => share29_0 (L k) bl U)
          have HS1 := hide (fun U => share29_1 (L k) bl U)
          have HS2 := hide (fun U => share29_2 (L k) bl U)
          have HS3 := hide (fun U => share29_3 (L k) bl U)
          have q2 : (k : Int) < ((k + 1 : Nat) : Int) := by omega
          clear bl
          go_upto_if 133 with fail
          go_cut [11] (fun v wd => v = .int .i64 l1 ∧ Below w6.heap.size w6 wd)
          case first => as_aux_lemma =>
            by_cases h0 : X + 1 = w
            · skip
              have d0 : (((X : Int) + 1) == ((w : Int))) = true := by simp; omega
              have hz := (unhide HRn).z0
              rw [if_pos (h0)] at hz
              have bs := (unhide Hbs).1
              have bl := (unhide Hbl).1
              have HS := HS0
              obtain ⟨sj, hsj⟩ : ∃ y, sx 7 (L k) = y := ⟨_, rfl⟩
              rw [hsj] at hz bs HS
              obtain ⟨bs1, bs2⟩ := bs
              obtain ⟨bl1, bl2⟩ := bl
              have hz' : Lo k + sj = l1 := hz.symm
              obtain ⟨gl, rfl, kc⟩ := (unhide HD6).left (j := k) (by omega)
              clear hz hsj HS0 HS1 HS2 HS3
              go_wp2_with fail
              refine (unhide HS _).mono ?_
              rintro e w9 ⟨rfl, hb9⟩
              have Hb9 := hide hb9
              have HD9 := hide ((unhide HD6).keep hb9)
              have HB9 := hide (btrans (unhide HB6) hb9)
              clear hb9 kc
              go_wp2
              go_meet
              case rel => exact ⟨rfl, unhide Hb9⟩
            · skip
              have d0 : (((X : Int) + 1) == ((w : Int))) = false := by simp; omega
              have d0' : ¬ ((X : Int) + 1 = (w : Int)) := by omega
              have hz := (unhide HRn).z0
              rw [if_neg (h0), Int.add_zero] at hz
              have Hz := hide hz
              clear hz
              go_wp2
              go_meet
              case rel => exact ⟨by rw [unhide Hz], Below.refl _ _⟩
          case rest => as_aux_lemma =>
          obtain ⟨rfl, hbc⟩ := hcut
          have HDt0 := hide ((unhide HD6).keep hbc)
          have HBt0 := hide (btrans (unhide HB6) hbc)
          clear hbc HD6 HB6
          obtain ⟨wt0, rfl⟩ : ∃ x : World, x = wc := ⟨_, rfl⟩
          obtain ⟨b, hbb⟩ : ∃ b : Bool, decide (X = 0 ∨ Y + 1 = H) = b := ⟨_, rfl⟩
          have Hbb := hide hbb
          clear hbb
          go_upto_region 32 with fail
          go_cut [148] (fun v wd => v = .bool b ∧ wd = wt0)
          case first => as_aux_lemma =>
            by_cases h0 : X = 0
            · skip
              have d0 : (((X : Int)) == (0)) = true := by simp; omega
              have e := hide ((unhide Hbb).symm.trans (decide_eq_true (.inl h0)))
              go_wp2
              go_meet
              case rel => exact ⟨by rw [unhide e], rfl⟩
            · skip
              have d0 : (((X : Int)) == (0)) = false := by simp; omega
              have d0' : ¬ ((X : Int) = 0) := by omega
              by_cases h1 : Y + 1 = H
              · skip
                have d1 : (((Y : Int) + 1) == ((H : Int))) = true := by simp; omega
                have e := hide ((unhide Hbb).symm.trans (decide_eq_true (.inr h1)))
                go_wp2
                go_meet
                case rel => exact ⟨by rw [unhide e], rfl⟩
              · skip
                have d1 : (((Y : Int) + 1) == ((H : Int))) = false := by simp; omega
                have d1' : ¬ ((Y : Int) + 1 = (H : Int)) := by omega
                have e := hide ((unhide Hbb).symm.trans (decide_eq_false (fun h => h.elim h0 h1)))
                go_wp2
                go_meet
                case rel => exact ⟨by rw [unhide e], rfl⟩
          case rest => as_aux_lemma =>
          obtain ⟨rfl, hwc⟩ := hcut
          subst hwc
          obtain ⟨wt0, rfl⟩ : ∃ x : World, x = wc := ⟨_, rfl⟩
          go_upto_if 148 with fail
          go_cut [11] (fun v wd => v = .int .i64 l2 ∧ Below wt0.heap.size wt0 wd)
          case first => as_aux_lemma =>
            cases b
            · skip
              have h0 := of_decide_eq_false (unhide Hbb)
              clear Hbb
              have hz := (unhide HRn).z1
              rw [if_neg (h0), Int.add_zero] at hz
              have Hz := hide hz
              clear hz
              go_wp2
              go_meet
              case rel => exact ⟨by rw [unhide Hz], Below.refl _ _⟩
            · skip
              have h0 := of_decide_eq_true (unhide Hbb)
              clear Hbb
              have hz := (unhide HRn).z1
              rw [if_pos (h0)] at hz
              have bs := (unhide Hbs).2.1
              have bl := (unhide Hbl).2.1
              have HS := HS1
              obtain ⟨sj, hsj⟩ : ∃ y, sx 3 (L k) = y := ⟨_, rfl⟩
              rw [hsj] at hz bs HS
              obtain ⟨bs1, bs2⟩ := bs
              obtain ⟨bl1, bl2⟩ := bl
              have hz' : l1 + sj = l2 := hz.symm
              obtain ⟨gl, rfl, kc⟩ := (unhide HDt0).left (j := k) (by omega)
              clear hz hsj HS0 HS1 HS2 HS3
              go_wp2_with fail
              refine (unhide HS _).mono ?_
              rintro e w9 ⟨rfl, hb9⟩
              have Hb9 := hide hb9
              have HD9 := hide ((unhide HDt0).keep hb9)
              have HB9 := hide (btrans (unhide HBt0) hb9)
              clear hb9 kc
              go_wp2
              go_meet
              case rel => exact ⟨rfl, unhide Hb9⟩
          case rest => as_aux_lemma =>
          obtain ⟨rfl, hbc⟩ := hcut
          have HDt1 := hide ((unhide HDt0).keep hbc)
          have HBt1 := hide (btrans (unhide HBt0) hbc)
          clear hbc HDt0 HBt0
          obtain ⟨wt1, rfl⟩ : ∃ x : World, x = wc := ⟨_, rfl⟩
          go_upto_if 159 with fail
          go_cut [11] (fun v wd => v = .int .i64 l3 ∧ Below wt1.heap.size wt1 wd)
          case first => as_aux_lemma =>
            by_cases h0 : Y + 1 = H
            · skip
              have d0 : (((Y : Int) + 1) == ((H : Int))) = true := by simp; omega
              have hz := (unhide HRn).z2
              rw [if_pos (h0)] at hz
              have bs := (unhide Hbs).2.2.1
              have bl := (unhide Hbl).2.2.1
              have HS := HS2
              obtain ⟨sj, hsj⟩ : ∃ y, sx 5 (L k) = y := ⟨_, rfl⟩
              rw [hsj] at hz bs HS
              obtain ⟨bs1, bs2⟩ := bs
              obtain ⟨bl1, bl2⟩ := bl
              have hz' : l2 + sj = l3 := hz.symm
              obtain ⟨gl, rfl, kc⟩ := (unhide HDt1).left (j := k) (by omega)
              clear hz hsj HS0 HS1 HS2 HS3
              go_wp2_with fail
              refine (unhide HS _).mono ?_
              rintro e w9 ⟨rfl, hb9⟩
              have Hb9 := hide hb9
              have HD9 := hide ((unhide HDt1).keep hb9)
              have HB9 := hide (btrans (unhide HBt1) hb9)
              clear hb9 kc
              go_wp2
              go_meet
              case rel => exact ⟨rfl, unhide Hb9⟩
            · skip
              have d0 : (((Y : Int) + 1) == ((H : Int))) = false := by simp; omega
              have d0' : ¬ ((Y : Int) + 1 = (H : Int)) := by omega
              have hz := (unhide HRn).z2
              rw [if_neg (h0), Int.add_zero] at hz
              have Hz := hide hz
              clear hz
              go_wp2
              go_meet
              case rel => exact ⟨by rw [unhide Hz], Below.refl _ _⟩
          case rest => as_aux_lemma =>
          obtain ⟨rfl, hbc⟩ := hcut
          have HDt2 := hide ((unhide HDt1).keep hbc)
          have HBt2 := hide (btrans (unhide HBt1) hbc)
          clear hbc HDt1 HBt1
          obtain ⟨wt2, rfl⟩ : ∃ x : World, x = wc := ⟨_, rfl⟩
          go_upto_region 36 with fail
          by_cases h0 : X + 1 = w
          · skip
            have d0 : (((X : Int) + 1) == ((w : Int))) = true := by simp; omega
            have hz := (unhide HRn).z3
            rw [if_pos (.inl h0)] at hz
            have bs := (unhide Hbs).2.2.2
            have bl := (unhide Hbl).2.2.2
            have HS := HS3
            obtain ⟨sj, hsj⟩ : ∃ y, sr (L k) = y := ⟨_, rfl⟩
            rw [hsj] at hz bs HS
            obtain ⟨bs1, bs2⟩ := bs
            obtain ⟨bl1, bl2⟩ := bl
            have hz' : l3 + sj = Lo (k + 1) := hz.symm
            obtain ⟨gl, rfl, kc⟩ := (unhide HDt2).left (j := k) (by omega)
            clear hz hsj HS0 HS1 HS2 HS3
            go_wp2_with fail
            refine (unhide HS _).mono ?_
            rintro e w9 ⟨rfl, hb9⟩
            have Hb9 := hide hb9
            have HD9 := hide ((unhide HDt2).keep hb9)
            have HB9 := hide (btrans (unhide HBt2) hb9)
            clear hb9 kc
            go_wp2
            go_roundw
            case rel => exact ⟨k + 1, _, _, _, _, by omega, by go_num, rfl, rfl, rfl, unhide HD9, unhide HB9⟩
            case measure => simp [intOf]; omega
          · skip
            have d0 : (((X : Int) + 1) == ((w : Int))) = false := by simp; omega
            have d0' : ¬ ((X : Int) + 1 = (w : Int)) := by omega
            by_cases h1 : Y + 1 = H
            · skip
              have d1 : (((Y : Int) + 1) == ((H : Int))) = true := by simp; omega
              have hz := (unhide HRn).z3
              rw [if_pos (.inr h1)] at hz
              have bs := (unhide Hbs).2.2.2
              have bl := (unhide Hbl).2.2.2
              have HS := HS3
              obtain ⟨sj, hsj⟩ : ∃ y, sr (L k) = y := ⟨_, rfl⟩
              rw [hsj] at hz bs HS
              obtain ⟨bs1, bs2⟩ := bs
              obtain ⟨bl1, bl2⟩ := bl
              have hz' : l3 + sj = Lo (k + 1) := hz.symm
              obtain ⟨gl, rfl, kc⟩ := (unhide HDt2).left (j := k) (by omega)
              clear hz hsj HS0 HS1 HS2 HS3
              go_wp2_with fail
              refine (unhide HS _).mono ?_
              rintro e w9 ⟨rfl, hb9⟩
              have Hb9 := hide hb9
              have HD9 := hide ((unhide HDt2).keep hb9)
              have HB9 := hide (btrans (unhide HBt2) hb9)
              clear hb9 kc
              go_wp2
              go_roundw
              case rel => exact ⟨k + 1, _, _, _, _, by omega, by go_num, rfl, rfl, rfl, unhide HD9, unhide HB9⟩
              case measure => simp [intOf]; omega
            · skip
              have d1 : (((Y : Int) + 1) == ((H : Int))) = false := by simp; omega
              have d1' : ¬ ((Y : Int) + 1 = (H : Int)) := by omega
              have hz := (unhide HRn).z3
              rw [if_neg (fun h => by omega), Int.add_zero] at hz
              have Hz := hide hz
              clear hz
              go_wp2
              go_roundw
              case rel => exact ⟨k + 1, _, _, _, _, by omega, by go_num, rfl, rfl, by rw [unhide Hz], unhide HDt2, unhide HBt2⟩
              case measure => simp [intOf]; omega
        · obtain rfl : n = k := by omega
          have cl' : ¬ ((n : Int) < (n : Int)) := by omega
          have HD := hide hRD
          have HB := hide hb
          generalize Lo n = lo at *
          clear hRD hb HI HG HR HLb HLo
          go_wp2
          exact bodyPost_ret (v := .tuple #[.slice qo n co, .int .i64 lo, .int .i64 0]) (by simp [results, Try.results13, go_sem]) rfl (PD.mk _ _ (unhide HD).is (unhide HB))
end Go.Proofs.Ytlilmchlddiacaa
