/-
  The document's Layers.
-/
import Derived.Test.YtpdknodnlamphaaT
namespace Go.Proofs.Ytpdknodnlamphaa
open Go.RowKit

/-- all that passes ahead of this one lead to is known -/
def Fa (z : Pz) (G : Gd) (m : List Int) (b : Int) (w : Nat) : Prop := ∀ q, okP z.n q → lx q (b, w) → OkS z (bh m q) → Kn G (bh m q)
theorem Fa.next {z : Pz} {G : Gd} {m : List Int} {b : Int} {w : Nat} (h : Fa z G m b w) (hk : OkS z (bh m (b, w)) → Kn G (bh m (b, w))) : Fa z G m b (w + 1) := by
  intro q hq hlt hs
  rcases hlt with h1 | ⟨h1, h2⟩
  · exact h q hq (.inl h1) hs
  · dsimp only at h1 h2
    by_cases e : q.2 = w
    · obtain rfl : q = (b, w) := Prod.ext h1 e
      exact hk hs
    · exact h q hq (.inr ⟨h1, by dsimp only; omega⟩) hs
theorem Fa.row {z : Pz} {G : Gd} {m : List Int} {b : Int} (h : Fa z G m b (2 ^ z.n)) : Fa z G m (b + 1) 1 := by
  intro q hq hlt hs
  have h0 := hq.2
  rcases hlt with h1 | ⟨h1, h2⟩
  · dsimp only at h1
    by_cases e : q.1 = b
    · exact h q hq (.inr ⟨e, h0.2⟩) hs
    · exact h q hq (.inl (by dsimp only; omega)) hs
  · dsimp only at h2; omega
theorem Fa.first (z : Pz) (G : Gd) (m : List Int) : Fa z G m (-2) 1 := by
  intro q hq hlt _
  have := hq.1
  have := hq.2
  rcases hlt with h1 | ⟨h1, h2⟩
  · dsimp only at h1; omega
  · dsimp only at h2; omega
theorem Fa.done {z : Pz} {G : Gd} {m : List Int} (h : Fa z G m 3 1) : ∀ q, okP z.n q → OkS z (bh m q) → Kn G (bh m q) := fun q hq hs => h q hq (.inl (by have := hq.1; dsimp only; omega)) hs
theorem Fa.app {z : Pz} {G H : Gd} {m : List Int} {b : Int} {w : Nat} (h : Fa z G m b w) : Fa z (G ++ H) m b w := fun q hq hl hs => (h q hq hl hs).app
theorem bh_zero (m : List Int) (w : Nat) : bh m (0, w) = m := list_ext (by simp [bh]) (fun i hi => by
  have hi : i < m.length := by simpa [bh] using hi
  rw [bh_gt hi]
  simp)
theorem nG_app (n : Nat) (G H : Gd) : nG n (G ++ H) = nG n G ++ nG n H := by simp [nG]
theorem nm_missed {z : Pz} (hE : OkS z z.E) {G : Gd} {i : Nat} (h : Bf z G i) {x : List Int} (hx : OkS z x) (hk : ¬ Kn G x) : ∀ p ∈ nG z.n G, p.1 ≠ nmV z.n x := fun p hp e => by
  obtain ⟨g, hg, rfl⟩ := List.mem_map.1 hp
  exact hk ⟨g.2, by rw [← nm_ne (rc_ok hE (h.ok g hg).1) hx e]; exact hg⟩
theorem fst_len (X : Gd) : (X.map (·.1)).length = X.length := by simp
theorem Rs.one {W V : World} {n d : Nat} {q : Option Addr} {l : List Int} (h : Ix W V q n l) (hW : W.heap.size ≤ V.heap.size) : Rs W (V.alloc (.cells #[.slice q n d] 22)) n (.slice (some ⟨V.heap.size, 0, none⟩) 1 1) [l] :=
  ⟨[.slice q n d], own_lit (e := 22) (z := 1) (k := 1) V #[.slice q n d] hW (by unfold maxLen; omega) rfl, rfl, fun j l' hj => by
    have := (List.getElem?_eq_some_iff.1 hj).1
    simp at this
    subst this
    simp at hj
    subst hj
    exact ⟨q, d, rfl, h.keep (bnew _ _)⟩⟩

set_option maxRecDepth 100000 in
set_option maxHeartbeats 16000000 in
theorem rlayers_any (z : Pz) (h1 : 1 ≤ z.n) (hn5 : z.n ≤ 5) (hE : OkS z z.E) (p : Option Addr) (d : Nat) (W : World) (hp : Is W p z.n z.t) :
    Calls Try.prog 20 #[.slice p z.n d, .int .i64 z.sl] W fun e w' => ∃ bm G, e = .returned (.map (some bm)) ∧ MpI w' 9 bm (nG z.n G) ∧ (∀ g ∈ G, dst z g.2 g.1) ∧ (∀ j x, rc z j x → Kn G x) ∧ Below W.heap.size W w' := by
  obtain ⟨N, hN⟩ : ∃ N : Nat, N = 2 ^ z.n := ⟨_, rfl⟩
  have HPw := hide (fun V => rpower_any z.n hn5 V)
  rw [← hN] at HPw
  have hN1 : 1 ≤ N := by rw [hN]; exact Nat.one_le_two_pow
  have hN32 : N ≤ 32 := by rw [hN]; exact Nat.pow_le_pow_right (n := 2) (j := 5) (by omega) hn5
  have HN := hide hN
  have HSt := hide (fun (x : List Int) q1 c1 V (hb : Below W.heap.size W V) (h : Is V q1 z.n (gt x)) => rstand_any q1 p z.n z.n c1 d (gt x) z.t z.sl V h (hp.keep hb) (Nat.le_refl _) hn5)
  have hpE : ∀ i, i < z.n → z.t i = gt z.E i := fun i hi => (gt_tl z.t hi).symm
  have hIx : Ix W W p z.n z.E := by
    rcases hp with h | ⟨b, o, e, hb, hc⟩
    · omega
    · exact ⟨b, o, e, hb, .inl hb, fun k hk => by rw [hc k hk, hpE k hk]⟩
  have b1 := bnew W (.map #[] 0)
  have M1 := MpI.new W 9
  have HNm := hide (rname_any p z.n d z.t (W.alloc (.map #[] 0)) (hp.keep b1) (fun i hi => by rw [hpE i hi]; exact okS_bound hE i) hn5)
  rw [nmS_congr hpE] at HNm
  have I1 := hIx.keep b1
  have hmm := @run_makeMap Try.prog
  obtain ⟨u1, hu1⟩ : ∃ u1, W.alloc (.map #[] 0) = u1 := ⟨_, rfl⟩
  have hs1 : u1.heap.size = W.heap.size + 1 := by rw [← hu1]; simp
  rw [hu1] at M1 b1 HNm I1
  obtain ⟨kl, hkl⟩ := key_nm hn5 (okS_bound hE)
  obtain ⟨u2, hput, M2, g2, hs2⟩ := M1.put keyed9 Try.underlying47 hkl (fun p hp => by cases hp) 0
  have S2 : Sl W u1 z.n W.heap.size [] (.slice none 0 0) (.slice none 0 0) [] [] := ⟨M1, Nat.le_refl _, Rs.nil _ _ _, Rs.nil _ _ _, (fun i e => nomatch e), b1⟩
  obtain ⟨S3, kp⟩ := S2.put M2 g2
  have I2 := kp _ _ I1
  have S4 : Sl W (u2.alloc (.cells #[.slice p z.n d] 22)) z.n W.heap.size (nG z.n [(z.E, 0)]) (.slice (some ⟨u2.heap.size, 0, none⟩) 1 1) (.slice none 0 0) [z.E] [] := by
    have := S3.keep (bnew u2 (.cells #[.slice p z.n d] 22))
    exact ⟨this.mp, this.bm, Rs.one I2 S3.b.size, Rs.nil _ _ _, (fun i e k => nomatch k), this.b⟩
  replace hput : (Instr.mapUpdate 47 (.map (some W.heap.size)) (.string (nmS (gt z.E) z.n)) (.int .i64 0)).run Try.prog u1 = .ok () u2 := hput
  clear M1 M2 S2 S3 kp I1 I2 g2 hkl b1 hIx hpE hN
  go_enter Try.func20, Try.ntmps20
  go_wp2_with fail
  refine (unhide HNm).mono ?_
  rintro e u9 ⟨rfl, rfl⟩
  go_wp2
  obtain ⟨u4, hu4⟩ : ∃ u4, u2.alloc (.cells #[.slice p z.n d] 22) = u4 := ⟨_, rfl⟩
  rw [hu4] at S4
  rw [hu4]
  obtain ⟨bm, hbm⟩ : ∃ b, b = W.heap.size := ⟨_, rfl⟩
  rw [← hbm]
  rw [← hbm] at S4
  rw [hs2, hs1, ← hbm] at S4
  clear hu4 hput hs2 HNm hs1 hmm
  generalize bm + 1 = g0 at *
  have HS4 := hide S4
  clear S4 hbm
  go_loopw [6, 7] (fun lv nv wr => ∃ (A L : Gd) (nn : Nat) (vl : Value), vl = lv ∧ nv = .int .i64 nn ∧ Hid (Bf z (A ++ L) A.length) ∧ (∀ g ∈ L, g.2 + 1 = nn) ∧ nn ≤ A.length + 1 ∧ 1 ≤ nn ∧ Sl W wr z.n bm (nG z.n (A ++ L)) vl (.slice none 0 0) (L.map (·.1)) []) (fun _ nv _ => 300000 - (intOf nv).toNat)
  case atStart => exact ⟨[], [(z.E, 0)], 1, _, rfl, rfl, hide (Bf.first z), (fun g hg => by rw [List.mem_singleton.1 hg]), by simp, Nat.le_refl _, unhide HS4⟩
  case round =>
    clear HS4
    obtain ⟨A, L, nn, vl, rfl, rfl, hBf, hdL, hnA, hn1, hS⟩ := hrel
    obtain ⟨ql, cl, rfl⟩ := hS.l.form
    rw [fst_len]
    have hfew := (unhide hBf).few hE (by omega)
    simp only [List.length_append] at hfew
    by_cases hL : L.length = 0
    · obtain rfl : L = [] := List.eq_nil_of_length_eq_zero hL
      have HF := hide (show (∀ g ∈ A, dst z g.2 g.1) ∧ (∀ j x, rc z j x → Kn A x) ∧ MpI wr 9 bm (nG z.n A) ∧ Below W.heap.size W wr from by
        have h2 := unhide hBf
        have h3 := hS.mp
        simp only [List.append_nil] at h2 h3
        exact ⟨h2.ok, fun j x hx => h2.whole (Nat.le_refl _) hx, h3, hS.b⟩)
      clear hBf hdL hS hfew
      go_wp2
      go_ret
      exact ⟨bm, A, rfl, (unhide HF).2.2.1, (unhide HF).1, (unhide HF).2.1, (unhide HF).2.2.2⟩
    · have hL0 : 0 < L.length := by omega
      have g0' : (0 : Int) < (L.length : Int) := by omega
      have HdL := hide hdL
      have HS0 := hide hS
      clear hdL hS
      go_wp2
      go_loopw [8, 29] (fun nv iv wr => ∃ (X : Gd) (ix : Nat) (vn : Value), vn = nv ∧ ix ≤ L.length ∧ iv = .int .i64 ix ∧ Hid (Bf z (A ++ L ++ X) (A.length + ix)) ∧ (∀ g ∈ X, g.2 = nn) ∧ Sl W wr z.n bm (nG z.n (A ++ L ++ X)) (.slice ql L.length cl) vn (L.map (·.1)) (X.map (·.1))) (fun _ iv _ => L.length - (intOf iv).toNat)
      case atStart => exact ⟨[], 0, _, rfl, Nat.zero_le _, rfl, hide (by simpa using unhide hBf), (fun g hg => by cases hg), by have := unhide HS0; rw [fst_len] at this; simpa using this⟩
      case round =>
        clear HS0
        obtain ⟨X, ix, vn, rfl, hix, rfl, hBf2, hX, hS⟩ := hrel
        by_cases hlt : ix < L.length
        · obtain ⟨⟨m, k⟩, hmk⟩ : ∃ g, L[ix]? = some g := ⟨_, List.getElem?_eq_getElem hlt⟩
          have hk : k + 1 = nn := unhide HdL _ (List.mem_of_getElem? hmk)
          have hm1 : (L.map (·.1))[ix]? = some m := by rw [List.getElem?_map, hmk]; rfl
          obtain ⟨g, cap, qm, cm, e, hcm, hIm⟩ := hS.l.at hm1
          rw [fst_len] at e
          cases e
          have hGm : ∀ Y : Gd, (A ++ L ++ Y)[A.length + ix]? = some (m, k) := fun Y => by
            rw [List.append_assoc, List.getElem?_append_right (by omega), Nat.add_sub_cancel_left, List.getElem?_append_left hlt]
            exact hmk
          have hmo : OkS z m := (unhide hBf2).sts hE _ (List.mem_of_getElem? (hGm X))
          have hmK : ∀ Y : Gd, Kn (A ++ L ++ Y) m := fun Y => ⟨k, List.mem_of_getElem? (hGm Y)⟩
          have HGm := hide hGm
          have HmK := hide hmK
          have HS1 := hide hS
          have HI1 := hide hIm
          have gi : (ix : Int) < (L.length : Int) := by omega
          clear hS hIm hGm hmK hmk hm1
          go_wp2
          go_loopw [8, 11] (fun nv bv wr => ∃ (X : Gd) (y : Nat) (vn : Value), vn = nv ∧ y ≤ 5 ∧ bv = .int .i64 ((y : Int) - 2) ∧ Hid (Bf z (A ++ L ++ X) (A.length + ix)) ∧ Hid (Fa z (A ++ L ++ X) m ((y : Int) - 2) 1) ∧ (∀ g ∈ X, g.2 = nn) ∧ Sl W wr z.n bm (nG z.n (A ++ L ++ X)) (.slice (some ⟨g, 0, none⟩) L.length cl) vn (L.map (·.1)) (X.map (·.1)) ∧ Ix W wr qm z.n m) (fun _ bv _ => (3 - intOf bv).toNat)
          case atStart => exact ⟨X, 0, vn, rfl, by omega, by simp, hBf2, hide (Fa.first _ _ _), hX, unhide HS1, unhide HI1⟩
          case round =>
            clear hBf2 hX HS1 HI1 hcm
            obtain ⟨X, y, vn, rfl, hy, rfl, hBf2, hFa, hX, hS, hI⟩ := hrel
            have HS1 := hide hS
            have HI1 := hide hI
            clear hS hI
            obtain ⟨by0, hby⟩ : ∃ b : Int, b = (y : Int) - 2 := ⟨_, rfl⟩
            rw [← hby]
            rw [← hby] at hFa
            have Hby := hide hby
            clear hby
            by_cases hyl : y < 5
            · have gb : by0 ≤ 2 := by have := unhide Hby; omega
              have gb2 : -2 ≤ by0 := by have := unhide Hby; omega
              go_wp2
              go_loopw [8, 12] (fun nv wv wr => ∃ (X : Gd) (w : Nat) (vn : Value), vn = nv ∧ 1 ≤ w ∧ w ≤ N ∧ wv = .int .i64 w ∧ Hid (Bf z (A ++ L ++ X) (A.length + ix)) ∧ Hid (Fa z (A ++ L ++ X) m by0 w) ∧ (∀ g ∈ X, g.2 = nn) ∧ Sl W wr z.n bm (nG z.n (A ++ L ++ X)) (.slice (some ⟨g, 0, none⟩) L.length cl) vn (L.map (·.1)) (X.map (·.1)) ∧ Ix W wr qm z.n m) (fun _ wv _ => N - (intOf wv).toNat)
              case atStart => exact ⟨X, 1, vn, rfl, Nat.le_refl _, hN1, rfl, hBf2, hFa, hX, unhide HS1, unhide HI1⟩
              case round =>
                clear hBf2 hFa hX HS1 HI1
                obtain ⟨X, w, vn, rfl, hw1, hwN, rfl, hBf2, hFa, hX, hS, hI⟩ := hrel
                have HS1 := hide hS
                have HI1 := hide hI
                clear hS hI
                go_wp2_with fail
                refine (unhide HPw _).mono ?_
                rintro e w1 ⟨rfl, rfl⟩
                by_cases hlw : w < N
                · have gw : (w : Int) < (N : Int) := by omega
                  go_wp2_with fail
                  refine (rbehind_at hn5 m hmo qm cm by0 w _ (unhide HI1).is ⟨gb2, gb⟩ (by omega)).mono ?_
                  rintro e w2 ⟨q2, c2, rfl, hi2, hr2, hb2⟩
                  have S2 := (unhide HS1).keep hb2
                  have I2 := (unhide HI1).keep hb2
                  have hl2 : (bh m (by0, w)).length = z.n := by simpa [bh] using hmo.1
                  have J2 : Ix W w2 q2 z.n (bh m (by0, w)) := hr2.ix hl2 h1
                  have HT2 := hide (unhide HSt (bh m (by0, w)) q2 c2 w2 S2.b hi2)
                  clear hb2 hr2
                  go_wp2_with fail
                  refine (unhide HT2).mono ?_
                  rintro e w3 ⟨rfl, j3, hj3⟩
                  have b3 : Below w2.heap.size w2 w3 := by rw [hj3]; exact Joins.below_draws _ w2 j3
                  have HS3 := hide (S2.keep b3)
                  have HI3 := hide (I2.keep b3)
                  have HJ3 := hide (J2.keep b3)
                  clear hj3 b3 S2 I2 J2 hi2 HT2 HS1 HI1
                  cases hr : stB z.n z.t z.sl (gt (bh m (by0, w))) with
                  | false =>
                    have HFa := hide (Fa.next (unhide hFa) (fun h => by rw [(stB_ok hmo.1).2 h] at hr; cases hr))
                    clear hr
                    go_wp2
                    go_roundw
                    case rel => exact ⟨X, w + 1, vn, rfl, by omega, by omega, by go_num, hBf2, HFa, hX, unhide HS3, unhide HI3⟩
                    case measure => simp [intOf]; omega
                  | true =>
                    have ok2 : OkS z (bh m (by0, w)) := (stB_ok hmo.1).1 hr
                    have HNm := hide (rname_any q2 z.n c2 (gt (bh m (by0, w))) w3 (unhide HJ3).is (fun i _ => okS_bound ok2 i) hn5)
                    clear hr
                    by_cases hkn : Kn (A ++ L ++ X) (bh m (by0, w))
                    · have HFa := hide (Fa.next (unhide hFa) (fun _ => hkn))
                      obtain ⟨j, hj⟩ := hkn
                      have L1 := (unhide HS3).mp.found keyed9 Try.underlying47 (x := nmV z.n (bh m (by0, w))) (v := j) (List.mem_map.2 ⟨_, hj, rfl⟩) true
                      simp only [if_true, nmV] at L1
                      clear hj
                      generalize nmS (gt (bh m (by0, w))) z.n = nm at *
                      go_wp2_with fail
                      refine (unhide HNm).mono ?_
                      rintro e w4 ⟨rfl, rfl⟩
                      go_wp2
                      go_roundw
                      case rel => exact ⟨X, w + 1, vn, rfl, by omega, by omega, by go_num, hBf2, HFa, hX, unhide HS3, unhide HI3⟩
                      case measure => simp [intOf]; omega
                    · have hb0 : by0 ≠ 0 := fun e => hkn (by rw [e, bh_zero]; exact unhide HmK X)
                      have hokp : okP z.n (by0, w) := ⟨⟨gb2, gb, hb0⟩, hw1, by rw [← unhide HN]; exact hlw⟩
                      have HBn := hide (show Bf z (A ++ L ++ (X ++ [(bh m (by0, w), nn)])) (A.length + ix) from by
                        have := (unhide hBf2).add (unhide HGm X) hokp ok2 hkn
                        rw [hk] at this
                        rw [← List.append_assoc]
                        exact this)
                      have HFa := hide (show Fa z (A ++ L ++ (X ++ [(bh m (by0, w), nn)])) m by0 (w + 1) from by
                        rw [← List.append_assoc]
                        exact Fa.next (unhide hFa).app (fun _ => ⟨nn, by simp⟩))
                      have hX2 : ∀ g ∈ X ++ [(bh m (by0, w), nn)], g.2 = nn := fun g hg => by
                        rcases List.mem_append.1 hg with h | h
                        · exact hX g h
                        · obtain rfl := List.mem_singleton.1 h; rfl
                      have hfX : X.length + 1 ≤ 248832 := by
                        have := (unhide HBn).few hE (by omega)
                        simp only [List.length_append, List.length_singleton] at this
                        omega
                      obtain ⟨kl, hkl⟩ := key_nm hn5 (okS_bound ok2)
                      have hms := nm_missed hE (unhide hBf2) ok2 hkn
                      have L1 := (unhide HS3).mp.missed keyed9 Try.underlying47 hkl hms true
                      simp only [if_true, nmV] at L1
                      obtain ⟨u5, hput, M5, g5, -⟩ := (unhide HS3).mp.put keyed9 Try.underlying47 hkl hms nn
                      obtain ⟨S5, kp5⟩ := (unhide HS3).put M5 g5
                      have S6 := S5.keep (bnew u5 (.cells #[.slice q2 z.n c2] 22))
                      have I6 := (kp5 _ _ (unhide HI3)).keep (bnew u5 (.cells #[.slice q2 z.n c2] 22))
                      have J6 := (kp5 _ _ (unhide HJ3)).keep (bnew u5 (.cells #[.slice q2 z.n c2] 22))
                      have Lt := own_lit (B := W.heap.size) (e := 22) (z := 1) (k := 1) u5 #[.slice q2 z.n c2] S5.b.size (by unfold maxLen; omega) rfl
                      obtain ⟨us, hus⟩ := id S6.x
                      rw [show nG z.n (A ++ L ++ X) ++ [(nmV z.n (bh m (by0, w)), nn)] = nG z.n (A ++ L ++ (X ++ [(bh m (by0, w), nn)])) from by rw [← List.append_assoc, nG_app z.n (A ++ L ++ X)]; rfl] at S6
                      have hone : ∀ u ∈ [Value.slice q2 z.n c2], u.oneCell' = true := by simp [Value.oneCell']
                      have HS6 := hide S6
                      have HI6 := hide I6
                      have HJ6 := hide J6
                      have HLt := hide Lt
                      have Hus := hide hus
                      have Hus1 := hide (show (u5.alloc (.cells #[.slice q2 z.n c2] 22)).ownsRow W.heap.size 22 1 vn X.length us from by have := hus.1; rwa [fst_len] at this)
                      have Hone := hide hone
                      have HL1 := hide L1
                      simp only [nmV] at hput
                      clear S5 kp5 S6 I6 J6 Lt hus M5 g5 hms hkl hkn HS3 HI3 HJ3 hone hX
                      generalize nmS (gt (bh m (by0, w))) z.n = nm at *
                      have L1 := unhide HL1
                      go_wp2_with fail
                      refine (unhide HNm).mono ?_
                      rintro e w4 ⟨rfl, rfl⟩
                      go_wp2_with fail
                      refine (unhide HNm).mono ?_
                      rintro e w5 ⟨rfl, rfl⟩
                      go_wp2_with (at_builtin; refine wl_app rfl rfl Try.underlying62 info22 rfl (by decide) (B := W.heap.size) (C := W.heap.size) (n := X.length) (m := 1) rfl rfl (unhide Hus1) (unhide HLt) (unhide Hone) (by unfold maxLen; omega) (by omega) (unhide HS6).b.size ?_)
                      intro v' w' ho hg he
                      obtain ⟨S7, kp7⟩ := (unhide HS6).app (c := c2) (unhide HJ6) (unhide Hus) (by rw [fst_len]; exact ho) hg (by simpa using he)
                      have HS7 := hide (show Sl W w' z.n bm (nG z.n (A ++ L ++ (X ++ [(bh m (by0, w), nn)]))) (.slice (some ⟨g, 0, none⟩) L.length cl) v' (L.map (·.1)) ((X ++ [(bh m (by0, w), nn)]).map (·.1)) from by
                        rw [List.map_append]
                        exact S7)
                      have HI7 := hide (kp7 _ _ (unhide HI6))
                      clear S7 kp7 ho hg he HS6 HI6 HJ6 HLt Hus Hus1 Hone HL1 L1 hput
                      go_wp2
                      go_roundw
                      case rel => exact ⟨_, w + 1, v', rfl, by omega, by omega, by go_num, HBn, HFa, hX2, unhide HS7, unhide HI7⟩
                      case measure => simp [intOf]; omega
                · obtain rfl : w = N := by omega
                  have HFa := hide (show Fa z (A ++ L ++ X) m (((y + 1 : Nat) : Int) - 2) 1 from by
                    have h5 := unhide hFa
                    rw [unhide HN, unhide Hby] at h5
                    have := h5.row
                    rwa [show (y : Int) - 2 + 1 = ((y + 1 : Nat) : Int) - 2 by omega] at this)
                  have gw : ¬ ((w : Int) < (w : Int)) := by omega
                  clear hlw
                  go_wp2
                  go_roundw
                  case rel => exact ⟨X, y + 1, vn, rfl, by omega, by rw [unhide Hby]; congr 1; omega, hBf2, HFa, hX, unhide HS1, unhide HI1⟩
                  case measure => simp [intOf]; omega
            · obtain rfl : y = 5 := by omega
              obtain rfl : by0 = 3 := by have := unhide Hby; omega
              have HB5 := hide (show Bf z (A ++ L ++ X) (A.length + (ix + 1)) from (unhide hBf2).next (unhide HGm X) (unhide hFa).done)
              clear hyl
              go_wp2
              go_roundw
              case rel => exact ⟨X, ix + 1, vn, rfl, by omega, by go_num, HB5, hX, unhide HS1⟩
              case measure => simp [intOf]; omega
        · obtain rfl : ix = L.length := by omega
          have HB5 := hide (show Bf z ((A ++ L) ++ X) (A ++ L).length from by simpa using unhide hBf2)
          have HS5 := hide (show Sl W wr z.n bm (nG z.n ((A ++ L) ++ X)) vn (.slice none 0 0) (X.map (·.1)) [] from ⟨hS.mp, hS.bm, hS.x, Rs.nil _ _ _, (fun i e k => nomatch k), hS.b⟩)
          have gi : ¬ ((L.length : Int) < (L.length : Int)) := by omega
          clear hlt hS
          go_wp2
          go_roundw
          case rel => exact ⟨A ++ L, X, nn + 1, vn, rfl, by go_num, HB5, (fun g hg => by rw [hX g hg]), by simp; omega, by omega, unhide HS5⟩
          case measure => simp [intOf]; omega
end Go.Proofs.Ytpdknodnlamphaa
