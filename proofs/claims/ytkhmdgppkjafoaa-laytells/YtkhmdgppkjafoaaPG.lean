/-
  Fits of package lay.
-/
import Derived.Test.YtkhmdgppkjafoaaPE
import Derived.Deep.RegionWith
namespace Go.Proofs.Ytkhmdgppkjafoaa
open Go.RowKit

theorem info48 : (Try.prog.info? 48).map (fun i => (i.zero, i.size, i.bytes)) = some (some (.agg #[.int .i64 0, .int .i64 0, .int .i64 0, .int .i64 0]), 4, 32) := by kernel_rfl
/-- areas that may be written -/
def Aw (W : World) (g n : Nat) (l r o t : Nat → Int) : Prop := AR W g n l r o t ∧ ∀ j, W.frozen? ⟨g, j, none⟩ = false
theorem Aw.keep {W V : World} {g n : Nat} {l r o t : Nat → Int} (h : Aw W g n l r o t) (hb : Below W.heap.size W V) : Aw V g n l r o t := ⟨h.1.keep hb, fun j => keepF hb h.1.1 (h.2 j)⟩
def put48 (W : World) (g i : Nat) (l r o t : Int) : World := (((W.setCell ⟨g, i * 4, none⟩ (.int .i64 l)).setCell ⟨g, i * 4 + 1, none⟩ (.int .i64 r)).setCell ⟨g, i * 4 + 2, none⟩ (.int .i64 o)).setCell ⟨g, i * 4 + 3, none⟩ (.int .i64 t)
theorem Aw.put {W : World} {g n i : Nat} {l r o t l' r' o' t' : Nat → Int} {a b c d : Int} (h : Aw W g n l r o t) (hx : l' i = a ∧ r' i = b ∧ o' i = c ∧ t' i = d) (hr : ∀ j, j < n → j ≠ i → l j = l' j ∧ r j = r' j ∧ o j = o' j ∧ t j = t' j) : Aw (put48 W g i a b c d) g n l' r' o' t' := by
  refine ⟨⟨by simpa [put48] using h.1.1, fun j hj => ?_⟩, fun j => fset (fset (fset (fset (h.2 j))))⟩
  obtain ⟨h0, h1, h2, h3⟩ := h.1.2 j hj
  by_cases e : j = i
  · subst e
    rw [hx.1, hx.2.1, hx.2.2.1, hx.2.2.2]
    exact ⟨cset (cset (cset (csame h0) (by omega)) (by omega)) (by omega), cset (cset (csame (cset h1 (by omega))) (by omega)) (by omega), cset (csame (cset (cset h2 (by omega)) (by omega))) (by omega), csame (cset (cset (cset h3 (by omega)) (by omega)) (by omega))⟩
  · obtain ⟨e0, e1, e2, e3⟩ := hr j hj e
    rw [← e0, ← e1, ← e2, ← e3]
    exact ⟨cset (cset (cset (cset h0 (by omega)) (by omega)) (by omega)) (by omega), cset (cset (cset (cset h1 (by omega)) (by omega)) (by omega)) (by omega), cset (cset (cset (cset h2 (by omega)) (by omega)) (by omega)) (by omega), cset (cset (cset (cset h3 (by omega)) (by omega)) (by omega)) (by omega)⟩
theorem put48_kept (W : World) (g i : Nat) (l r o t : Int) : Kept (fun j => j = g) W (put48 W g i l r o t) :=
  ((((Kept.refl (fun j => j = g) W).set (b := g) _ _ (.inl rfl)).set (b := g) _ _ (.inl rfl)).set (b := g) _ _ (.inl rfl)).set (b := g) _ _ (.inl rfl)
theorem made_four (z : Value) (m j : Nat) (hj : j < m) : (madeCells #[z, z, z, z] m).toList[j]? = some z := by
  have h : j % 4 = 0 ∨ j % 4 = 1 ∨ j % 4 = 2 ∨ j % 4 = 3 := by omega
  rcases h with h | h | h | h <;> simp [madeCells, hj, h]
theorem aw_made {w : World} {B b n : Nat} (h : w.ownsRow B 48 4 (.slice (some ⟨b, 0, none⟩) n n) n (madeCells #[.int .i64 0, .int .i64 0, .int .i64 0, .int .i64 0] (n * 4)).toList) : Aw w b n (fun _ => 0) (fun _ => 0) (fun _ => 0) (fun _ => 0) :=
  ⟨⟨(h.lt b rfl).2, fun j hj => ⟨by rw [h.cellAt _ (by omega)]; exact made_four _ _ _ (by omega), by rw [h.cellAt _ (by omega)]; exact made_four _ _ _ (by omega), by rw [h.cellAt _ (by omega)]; exact made_four _ _ _ (by omega), by rw [h.cellAt _ (by omega)]; exact made_four _ _ _ (by omega)⟩⟩, fun j => h.frozenAt j⟩

/-- a truth and an error are told -/
def AnsB (F : Nat) (args : Array Value) (W : World) (k : Bool) (er : Int) : Prop :=
  Calls Try.prog F args W fun e V => e = .returned (.tuple #[.bool k, .int .i64 er]) ∧ Below W.heap.size W V

set_option maxHeartbeats 1000000 in
theorem fits_err (wide high : Int) (q : Option Addr) (n cap : Nat) (a b : Nat → Int) (q' : Option Addr) (n' cap' : Nat) (W : World) (hP : Ps W q n a b) (he : wE wide n a b ≠ 0) : AnsB 9 #[.int .i64 wide, .int .i64 high, .slice q n cap, .slice q' n' cap'] W false (wE wide n a b) := by
  unfold AnsB
  have HC := hide (wrong_any wide q n cap a b W hP)
  generalize wE wide n a b = er at *
  have h1 : (er != 0) = true := by simpa using he
  clear hP he
  go_enter Try.func9, Try.ntmps9
  go_wp2_with fail
  refine (unhide HC).mono ?_
  rintro e w1 ⟨rfl, hb1⟩
  go_wp2
  exact bodyPost_ret (v := .tuple #[.bool false, .int .i64 er]) (by simp [results, Try.results9, go_sem]) rfl ⟨rfl, hb1⟩
set_option maxHeartbeats 1000000 in
theorem fits_len (wide high : Int) (q : Option Addr) (n cap : Nat) (a b : Nat → Int) (q' : Option Addr) (n' cap' : Nat) (W : World) (hP : Ps W q n a b) (he : wE wide n a b = 0) (hl : n' ≠ n) : AnsB 9 #[.int .i64 wide, .int .i64 high, .slice q n cap, .slice q' n' cap'] W false 8 := by
  unfold AnsB
  have HC := hide (wrong_any wide q n cap a b W hP)
  rw [he] at HC
  have h1 : ((n' : Int) != (n : Int)) = true := by simp; omega
  clear hP he
  go_enter Try.func9, Try.ntmps9
  go_wp2_with fail
  refine (unhide HC).mono ?_
  rintro e w1 ⟨rfl, hb1⟩
  go_wp2
  exact bodyPost_ret (v := .tuple #[.bool false, .int .i64 8]) (by simp [results, Try.results9, go_sem]) rfl ⟨rfl, hb1⟩

/-- what lies about while areas are held against each other -/
def Ft (W0 : World) (tb n : Nat) (a b X Y : Nat → Int) (x : Nat) (V : World) : Prop := Aw V tb n (upto X x) (upto (fun i => X i + a i) x) (upto Y x) (upto (fun i => Y i + b i) x) ∧ Below W0.heap.size W0 V
theorem fit_in {wide high : Int} {n i : Nat} {a b X Y : Nat → Int} (h : FitP wide high n a b X Y) (hi : i < n) : wiB (X i) (a i) wide = true ∧ wiB (Y i) (b i) high = true := ⟨decide_eq_true (h i hi).1.1, decide_eq_true (h i hi).1.2⟩

theorem m1_iff {ux uy a b : Int} {x : Nat} {X Y w h : Nat → Int} : m1B ux (ux + a) uy (uy + b) x X (fun i => X i + w i) Y (fun i => Y i + h i) = true ↔ ¬ ∀ j, j < x → ¬ MtP a b ux uy (w j) (h j) (X j) (Y j) := by
  unfold m1B MtP
  simp only [Bool.not_eq_true', decide_eq_false_iff_not]

set_option maxRecDepth 100000 in
set_option maxHeartbeats 4000000 in
theorem fits_ok (wide : Nat) (high : Int) (hh : high ≤ 9223372036854775807) (q : Option Addr) (n cap : Nat) (w h : Nat → Nat) (r : Rg wide n w h) (q' : Option Addr) (cap' : Nat) (X Y : Nat → Int) (W : World) (hP : Ps W q n (fun k => (w k : Int)) (fun k => (h k : Int))) (hZ : Ps W q' n X Y) :
    AnsB 9 #[.int .i64 (wide : Int), .int .i64 high, .slice q n cap, .slice q' n cap'] W (decide (FitP (wide : Int) high n (fun k => (w k : Int)) (fun k => (h k : Int)) X Y)) 0 := by
  unfold AnsB
  obtain ⟨i0, hi, hz0, hz1, hz2⟩ := info_parts info48
  have hw := r.wide
  have hn := r.many
  have hby : i0.bytes * n ≤ 281474976710656 := by rw [hz2]; omega
  have hml : n ≤ maxLen := by unfold maxLen; omega
  have HC := hide (wrong_any (wide : Int) q n cap _ _ W hP)
  rw [wE_rg r] at HC
  have HP := hide hP
  have HZ := hide hZ
  have Hr := hide r
  have h1 : ((n : Int) != (n : Int)) = false := by simp
  obtain ⟨fb, hfb⟩ : ∃ fb, fb = decide (FitP (wide : Int) high n (fun k => (w k : Int)) (fun k => (h k : Int)) X Y) := ⟨_, rfl⟩
  rw [← hfb]
  have Hno := hide (show (¬ FitP (wide : Int) high n (fun k => (w k : Int)) (fun k => (h k : Int)) X Y) → fb = false from fun q => by rw [hfb, decide_eq_false q])
  have Hyes := hide (show FitP (wide : Int) high n (fun k => (w k : Int)) (fun k => (h k : Int)) X Y → fb = true from fun q => by rw [hfb, decide_eq_true q])
  clear hP hZ r hfb
  go_enter Try.func9, Try.ntmps9
  go_wp2_with fail
  refine (unhide HC).mono ?_
  rintro e w1 ⟨rfl, hb1⟩
  have Hb1 := hide hb1
  clear hb1 HC
  go_wp2_with (first | fail | refine wpList_make_full _ rfl _ _ 45 rfl w1.heap.size 48 i0 _ 4 Try.underlying45 hi hz0 hz1 .i64 .i64 (n : Int) (n : Int) n rfl rfl rfl rfl hby hml (Nat.le_refl _) ?_)
  intro wm hown hgrow
  have HR := hide (aw_made hown)
  have Hb3 := hide (btrans (unhide Hb1) ((Below.refl _ w1).grown hgrow (Nat.le_refl _) (fun k hk => by cases hk)))
  have hS0 : W.heap.size ≤ w1.heap.size := (unhide Hb1).size
  clear hown hgrow hi hz0 hz1 hz2 hby hml Hb1
  generalize w1.heap.size = tb at *
  go_wp2
  go_loopw [30] (fun i wr => ∃ x : Nat, x ≤ n ∧ i = .int .i64 (x : Int) ∧ Hid (FitP (wide : Int) high x (fun k => (w k : Int)) (fun k => (h k : Int)) X Y) ∧ Ft W tb n (fun k => (w k : Int)) (fun k => (h k : Int)) X Y x wr) (fun i _ => n - (intOf i).toNat)
  case atStart => exact ⟨0, Nat.zero_le _, rfl, hide (fun i hi => by omega), by simpa only [upto_zero] using unhide HR, unhide Hb3⟩
  case round =>
    clear HR Hb3
    obtain ⟨x, hx, rfl, Hf, hL⟩ := hrel
    by_cases hlt : x < n
    · have q0 : (x : Int) < (n : Int) := by omega
      have q1 : (0 : Int) ≤ (x : Int) := by omega
      obtain ⟨ad, oo, rfl, k0, k1⟩ := ((unhide HP).keep hL.2).at hlt
      have HB := hide (B2.new wr (w x : Int) (h x : Int) 33)
      have HL := hide (show Ft W tb n (fun k => (w k : Int)) (fun k => (h k : Int)) X Y x (wr.alloc (.cells #[.int .i64 (w x : Int), .int .i64 (h x : Int)] 33)) from ⟨hL.1.keep (bnew _ _), bal hL.2⟩)
      have hBt : tb < wr.heap.size := hL.1.1.1
      have Hea := hide ((unhide Hr).each x hlt)
      have Hwi := hide (show wiB (X x) (w x : Int) (wide : Int) = true → wiB (Y x) (h x : Int) high = true → (∀ j, j < x → ¬ MtP (w x : Int) (h x : Int) (X x) (Y x) (w j : Int) (h j : Int) (X j) (Y j)) → FitP (wide : Int) high (x + 1) (fun k => (w k : Int)) (fun k => (h k : Int)) X Y from fun p1 p2 p3 i hi => by
        by_cases e : i = x
        · subst e; exact ⟨⟨of_decide_eq_true p1, of_decide_eq_true p2⟩, p3⟩
        · exact unhide Hf i (by omega))
      have Hf1 := hide (show wiB (X x) (w x : Int) (wide : Int) = false → fb = false from fun p1 => unhide Hno fun q => by have := (fit_in q hlt).1; rw [p1] at this; cases this)
      have Hf2 := hide (show wiB (Y x) (h x : Int) high = false → fb = false from fun p1 => unhide Hno fun q => by have := (fit_in q hlt).2; rw [p1] at this; cases this)
      have Hf3 := hide (show (¬ ∀ j, j < x → ¬ MtP (w x : Int) (h x : Int) (X x) (Y x) (w j : Int) (h j : Int) (X j) (Y j)) → fb = false from fun p1 => unhide Hno fun q => p1 (q x hlt).2)
      clear hL
      go_upto_region 10 with fail
      generalize wr.alloc (.cells #[.int .i64 (w x : Int), .int .i64 (h x : Int)] 33) = w2 at *
      generalize wr.heap.size = n13 at *
      clear k0 k1
      have i0 := (unhide HB).2.1
      have i1 := (unhide HB).2.2
      obtain ⟨ad', oo', rfl, z0, z1⟩ := ((unhide HZ).keep (unhide HL).2).at hlt
      obtain ⟨ux, hux⟩ : ∃ ux, X x = ux := ⟨_, rfl⟩
      obtain ⟨uy, huy⟩ : ∃ uy, Y x = uy := ⟨_, rfl⟩
      obtain ⟨ua, hua⟩ : ∃ ua, w x = ua := ⟨_, rfl⟩
      obtain ⟨ub, hub⟩ : ∃ ub, h x = ub := ⟨_, rfl⟩
      rw [hux, hua] at Hf1
      rw [huy, hub] at Hf2
      rw [hux, huy, hua, hub] at Hwi Hf3
      rw [hua, hub] at HB Hea
      rw [hux] at z0
      rw [huy] at z1
      rw [hua] at i0
      rw [hub] at i1
      rw [hua, hub]
      have Hlet := hide (show X x = ux ∧ Y x = uy ∧ w x = ua ∧ h x = ub from ⟨hux, huy, hua, hub⟩)
      clear hux huy hua hub
      cases p1 : wiB ux (ua : Int) (wide : Int) with
      | false =>
        have HCx := hide (fun V => within_any ux (ua : Int) (wide : Int) (by omega) V)
        rw [p1] at HCx
        have He := hide (unhide Hf1 p1)
        clear p1
        go_wp2_with fail
        go_quiet (first | (go_at_call 16; exact Calls.quiet_of_same (unhide HCx _)))
        have Hb9 := hide (btrans (unhide HL).2 (Joins.below_draws w2.heap.size w2 nq))
        generalize w2.drewN nq = w9 at *
        go_wp2
        exact bodyPost_ret (v := .tuple #[.bool false, .int .i64 0]) (by simp [results, Try.results9, go_sem]) rfl ⟨by rw [unhide He], unhide Hb9⟩
      | true =>
        have HCx := hide (fun V => within_any ux (ua : Int) (wide : Int) (by omega) V)
        rw [p1] at HCx
        cases p2 : wiB uy (ub : Int) high with
        | false =>
          have HCy := hide (fun V => within_any uy (ub : Int) high hh V)
          rw [p2] at HCy
          have He := hide (unhide Hf2 p2)
          clear p1 p2
          go_wp2_with fail
          go_quiet (first | (go_at_call_of 16 ux; exact Calls.quiet_of_same (unhide HCx _)) | (go_at_call_of 16 uy; exact Calls.quiet_of_same (unhide HCy _)))
          have Hb9 := hide (btrans (unhide HL).2 (Joins.below_draws w2.heap.size w2 nq))
          generalize w2.drewN nq = w9 at *
          go_wp2
          exact bodyPost_ret (v := .tuple #[.bool false, .int .i64 0]) (by simp [results, Try.results9, go_sem]) rfl ⟨by rw [unhide He], unhide Hb9⟩
        | true =>
          have HCy := hide (fun V => within_any uy (ub : Int) high hh V)
          rw [p2] at HCy
          have Hwi2 := hide (unhide Hwi p1 p2)
          have Hbd := hide (And.intro (of_decide_eq_true p1) (of_decide_eq_true p2))
          have HA := hide (fun V => areaOf_any (ua : Int) (ub : Int) ux uy (ux + (ua : Int)) (uy + (ub : Int)) rfl rfl (by have := unhide Hbd; omega) (by have := unhide Hbd; omega) V)
          clear p1 p2 Hwi Hf1 Hf2
          go_wp2_with fail
          go_quiet (first | (go_at_call_of 16 ux; exact Calls.quiet_of_same (unhide HCx _)) | (go_at_call_of 16 uy; exact Calls.quiet_of_same (unhide HCy _)))
          have Hb3 := hide (Joins.below_draws w2.heap.size w2 nq)
          have HL3 := hide (show Ft W tb n (fun k => (w k : Int)) (fun k => (h k : Int)) X Y x (w2.drewN nq) from ⟨(unhide HL).1.keep (unhide Hb3), btrans (unhide HL).2 (unhide Hb3)⟩)
          have HB3 := hide ((unhide HB).keep (unhide Hb3))
          clear HL HB Hb3 i0 i1 z0 z1 HCx HCy
          generalize w2.drewN nq = w3 at *
          have i0 := (unhide HB3).2.1
          have i1 := (unhide HB3).2.2
          obtain ⟨ad2, oo2, hq2, z0, z1⟩ := ((unhide HZ).keep (unhide HL3).2).at hlt
          cases hq2
          rw [(unhide Hlet).1] at z0
          rw [(unhide Hlet).2.1] at z1
          obtain ⟨rx, hrx⟩ : ∃ rx, rx = ux + (ua : Int) := ⟨_, rfl⟩
          obtain ⟨ry, hry⟩ : ∃ ry, ry = uy + (ub : Int) := ⟨_, rfl⟩
          rw [← hrx, ← hry] at HA
          have Hrx := hide (And.intro hrx hry)
          clear hrx hry
          unfold pV arV at HA
          go_wp2_with fail
          go_region_with (go_at_call 17; refine (unhide HA _).mono ?_; rintro e w4 ⟨rfl, hb4⟩; obtain ⟨⟨-, tcs⟩, tfs⟩ := (unhide HL3).1.keep (btrans (bdrew w3) hb4); obtain ⟨t0, t1, t2, t3⟩ := tcs x hlt; have u0 := tfs (x * 4); have u1 := tfs (x * 4 + 1); have u2 := tfs (x * 4 + 2); have u3 := tfs (x * 4 + 3))
          all_goals
            have HL5 := hide (show Ft W tb n (fun k => (w k : Int)) (fun k => (h k : Int)) X Y (x + 1) (put48 w4 tb x ux rx uy ry) from by
              obtain ⟨a1, a2, a3, a4⟩ := unhide Hlet
              obtain ⟨a5, a6⟩ := unhide Hrx
              refine ⟨((unhide HL3).1.keep (btrans (bdrew w3) hb4)).put ⟨by rw [upto_at, a1], by rw [upto_at, a5, ← a1, ← a3], by rw [upto_at, a2], by rw [upto_at, a6, ← a2, ← a4]⟩ (fun j _ hj => ⟨upto_ne _ x j hj, upto_ne _ x j hj, upto_ne _ x j hj, upto_ne _ x j hj⟩), ?_⟩
              have hb5 := btrans (unhide HL3).2 (btrans (bdrew w3) hb4)
              exact Kept.back hb5 (put48_kept w4 tb x ux rx uy ry) hb5.size (fun q e => by subst e; exact hS0))
            unfold put48 at HL5
            clear t0 t1 t2 t3 u0 u1 u2 u3 tcs tfs hb4 HL3 HB3 i0 i1 z0 z1 HA
            go_upto_region 13 with fail
            generalize (((w4.setCell ⟨tb, x * 4, none⟩ (.int .i64 ux)).setCell ⟨tb, x * 4 + 1, none⟩ (.int .i64 rx)).setCell ⟨tb, x * 4 + 2, none⟩ (.int .i64 uy)).setCell ⟨tb, x * 4 + 3, none⟩ (.int .i64 ry) = w5 at *
            have Hc5 := hide (show w5.cell? ⟨tb, x * 4, none⟩ = some (.int .i64 ux) ∧ w5.cell? ⟨tb, x * 4 + 1, none⟩ = some (.int .i64 rx) ∧ w5.cell? ⟨tb, x * 4 + 2, none⟩ = some (.int .i64 uy) ∧ w5.cell? ⟨tb, x * 4 + 3, none⟩ = some (.int .i64 ry) from by
              have k := (unhide HL5).1.1.2 x hlt
              obtain ⟨a1, a2, a3, a4⟩ := unhide Hlet
              obtain ⟨a5, a6⟩ := unhide Hrx
              simp only [upto_at] at k
              rw [a1, a2, a3, a4, ← a5, ← a6] at k
              exact k)
            obtain ⟨t0, t1, t2, t3⟩ := unhide Hc5
            have HM := hide (show ∀ V, Below w5.heap.size w5 V → Calls Try.prog 18 #[arV ux rx uy ry, .slice (some ⟨tb, 0, none⟩) x n] V fun e V' => e = .returned (.bool (m1B ux rx uy ry x X (fun i => X i + (w i : Int)) Y (fun i => Y i + (h i : Int)))) ∧ Below V.heap.size V V' from fun V hV => meetsOne_any ux rx uy ry tb x n _ _ _ _ (by omega) V (by
              have k := (unhide HL5).1.1.keep hV
              refine ⟨k.1, fun j hj => ?_⟩
              have k2 := k.2 j (by omega)
              have e : ∀ f : Nat → Int, upto f (x + 1) j = f j := fun f => by simp [upto]; omega
              rw [e, e, e, e] at k2
              exact k2))
            unfold arV at HM
            have Hm1 := hide (show (m1B ux rx uy ry x X (fun i => X i + (w i : Int)) Y (fun i => Y i + (h i : Int)) = true → fb = false) ∧ (m1B ux rx uy ry x X (fun i => X i + (w i : Int)) Y (fun i => Y i + (h i : Int)) = false → FitP (wide : Int) high (x + 1) (fun k => (w k : Int)) (fun k => (h k : Int)) X Y) from by
              obtain ⟨a5, a6⟩ := unhide Hrx
              rw [a5, a6]
              refine ⟨fun q => unhide Hf3 (m1_iff.1 q), fun q => unhide Hwi2 ?_⟩
              by_cases p : ∀ j, j < x → ¬ MtP (ua : Int) (ub : Int) ux uy (w j : Int) (h j : Int) (X j) (Y j)
              · exact p
              · rw [m1_iff.2 p] at q
                cases q)
            generalize m1B ux rx uy ry x X (fun i => X i + (w i : Int)) Y (fun i => Y i + (h i : Int)) = mb at *
            have q2 : (x : Int) ≤ (n : Int) := by omega
            go_wp2_with fail
            go_region_with (go_at_call 18; refine (unhide HM _ (bdrew w5)).mono ?_; rintro e w6 ⟨rfl, hb6⟩)
            all_goals
              have HL6 := hide (show Ft W tb n (fun k => (w k : Int)) (fun k => (h k : Int)) X Y (x + 1) w6 from ⟨(unhide HL5).1.keep (btrans (bdrew w5) hb6), btrans (unhide HL5).2 (btrans (bdrew w5) hb6)⟩)
              clear hb6 t0 t1 t2 t3 HL5 Hc5 HM
              cases mb with
              | true =>
                have He := hide ((unhide Hm1).1 rfl)
                clear Hm1
                go_wp2
                exact bodyPost_ret (v := .tuple #[.bool false, .int .i64 0]) (by simp [results, Try.results9, go_sem]) rfl ⟨by rw [unhide He], (unhide HL6).2⟩
              | false =>
                have He := hide ((unhide Hm1).2 rfl)
                clear Hm1
                go_wp2
                go_roundw
                case rel => exact ⟨x + 1, by omega, by go_num, hide (unhide He), unhide HL6⟩
                case measure => simp [intOf]; omega
    · obtain rfl : n = x := by omega
      have cl : ¬ ((n : Int) < (n : Int)) := by omega
      have He := hide (unhide Hyes (unhide Hf))
      have Hb := hide hL.2
      clear hL
      go_wp2
      exact bodyPost_ret (v := .tuple #[.bool true, .int .i64 0]) (by simp [results, Try.results9, go_sem]) rfl ⟨by rw [unhide He], unhide Hb⟩
end Go.Proofs.Ytkhmdgppkjafoaa
