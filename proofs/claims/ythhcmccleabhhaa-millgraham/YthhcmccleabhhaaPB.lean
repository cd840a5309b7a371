/-
  Plan of package mill.
-/
import Derived.Test.YthhcmccleabhhaaPA
namespace Go.Proofs.Ythhcmccleabhhaa
open Go.RowKit

theorem info45 : (Try.prog.info? 45).map (fun i => (i.zero, i.size, i.bytes)) = some (some (.agg #[.int .i64 0, .int .i64 0]), 2, 16) := by kernel_rfl
/-- the first x are f's, the others nought -/
def upto (f : Nat → Nat) (x : Nat) : Nat → Nat := fun j => if j < x then f j else 0
theorem upto_zero (f : Nat → Nat) : upto f 0 = fun _ => 0 := by funext j; simp [upto]
theorem upto_at (f : Nat → Nat) (x : Nat) : upto f (x + 1) x = f x := by simp [upto]
theorem upto_ne (f : Nat → Nat) (x j : Nat) (h : j ≠ x) : upto f x j = upto f (x + 1) j := by
  unfold upto
  by_cases h2 : j < x
  · rw [if_pos h2, if_pos (by omega)]
  · rw [if_neg h2, if_neg (by omega)]
theorem ld_max (L : Nat) (p : Nat → Nat) (M : Nat) : ∀ i, (∀ k, k < i → p k ≤ M) → ∀ k, ld L p i k ≤ i * M
  | 0, _, k => by simp [ld]
  | i + 1, h, k => by
    have h1 := ld_max L p M i (fun k hk => h k (by omega)) k
    have h2 := h i (by omega)
    rw [Nat.add_mul, Nat.one_mul]
    unfold ld
    split <;> omega

/-- jobs, when the last is done, and an error are told -/
def PJ (W : World) (n : Nat) (a b : Nat → Nat) (t : Nat) (er : Int) (e : Ending) (V : World) : Prop := ∃ q cp, e = .returned (.tuple #[.slice q n cp, .int .i64 (t : Int), .int .i64 er]) ∧ Ps V q n (fun j => (a j : Int)) (fun j => (b j : Int)) ∧ Below W.heap.size W V
theorem PJ.mk {W V : World} {n t : Nat} {a b : Nat → Nat} {er : Int} (q : Option Addr) (cp : Nat) (h : Ps V q n (fun j => (a j : Int)) (fun j => (b j : Int))) (hb : Below W.heap.size W V) : PJ W n a b t er (.returned (.tuple #[.slice q n cp, .int .i64 (t : Int), .int .i64 er])) V := ⟨q, cp, rfl, h, hb⟩

set_option maxHeartbeats 1000000 in
theorem plan_err (q : Option Addr) (n cap : Nat) (k : Int) (f : Nat → Int) (W : World) (hP : Is W q n f) (he : wE n k ≠ 0 ∨ aC n f = false) : Calls Try.prog 6 #[.slice q n cap, .int .i64 k] W (PJ W 0 (fun _ => 0) (fun _ => 0) 0 (if wE n k ≠ 0 then wE n k else 3)) := by
  have HW := hide (wrong_any n k W)
  by_cases h0 : wE n k = 0
  · have ha : aC n f = false := by rcases he with h | h; exact absurd h0 h; exact h
    have hn : n ≤ 64 := by
      unfold wE at h0
      by_cases c : 64 < n
      · rw [if_pos c] at h0; cases h0
      · omega
    rw [if_neg (by simp [h0])]
    rw [h0] at HW
    have HA := hide (fun V (hb : Below W.heap.size W V) => all_any q n cap f hn V (hP.keep hb))
    rw [ha] at HA
    clear hP he h0 ha
    go_enter Try.func6, Try.ntmps6
    go_wp2_with fail
    refine (unhide HW).mono ?_
    rintro e w1 ⟨rfl, hb1⟩
    have HC := hide (unhide HA _ hb1)
    have Hb := hide hb1
    clear HA HW hb1
    go_wp2_with fail
    refine (unhide HC).mono ?_
    rintro e w2 ⟨rfl, hb2⟩
    have Hb2 := hide (btrans (unhide Hb) hb2)
    clear HC Hb hb2
    go_wp2
    exact bodyPost_ret (v := .tuple #[.slice none 0 0, .int .i64 0, .int .i64 3]) (by simp [results, Try.results6, go_sem]) rfl (PJ.mk (t := 0) _ _ (.inl rfl) (unhide Hb2))
  · rw [if_pos h0]
    generalize wE n k = er at *
    have h1 : (er != 0) = true := by simpa using h0
    clear hP he h0
    go_enter Try.func6, Try.ntmps6
    go_wp2_with fail
    refine (unhide HW).mono ?_
    rintro e w1 ⟨rfl, hb1⟩
    have Hb := hide hb1
    clear HW hb1
    go_wp2
    exact bodyPost_ret (v := .tuple #[.slice none 0 0, .int .i64 0, .int .i64 er]) (by simp [results, Try.results6, go_sem]) rfl (PJ.mk (t := 0) _ _ (.inl rfl) (unhide Hb))

/-- what lies about while jobs are given out -/
def Ly (W0 : World) (fb ob n m L : Nat) (p : Nat → Nat) (x : Nat) (V : World) : Prop := JRow V fb m (ld L p x) ∧ PRw V ob n (upto (lo L p) x) (upto (fr L p) x) ∧ fb < ob ∧ W0.heap.size ≤ fb ∧ Below W0.heap.size W0 V
theorem Ly.keep {W0 V V' : World} {fb ob n m L x : Nat} {p : Nat → Nat} (h : Ly W0 fb ob n m L p x V) (hb : Below V.heap.size V V') : Ly W0 fb ob n m L p x V' := ⟨h.1.keep hb, h.2.1.keep hb, h.2.2.1, h.2.2.2.1, btrans h.2.2.2.2 hb⟩
theorem Ly.step {W0 V : World} {fb ob n m L x a b c : Nat} {p : Nat → Nat} (h : Ly W0 fb ob n m L p x V) (ha : a = lo L p x) (hb : b = fr L p x) (hc : b + p x = c) : Ly W0 fb ob n m L p (x + 1) (((V.setCell ⟨ob, x * 2, none⟩ (.int .i64 (a : Int))).setCell ⟨ob, x * 2 + 1, none⟩ (.int .i64 (b : Int))).setCell ⟨fb, a, none⟩ (.int .i64 (c : Int))) := by
  obtain ⟨h1, h2, h3, h4, h5⟩ := h
  have K := ((Kept.refl (fun i => i = ob) V).set (b := ob) (x * 2) (.int .i64 (a : Int)) (.inl rfl)).set (b := ob) (x * 2 + 1) (.int .i64 (b : Int)) (.inl rfl)
  have hbk := Kept.back h5 K h5.size (fun q e => by subst e; omega)
  refine ⟨(h1.kept K (show ¬ fb = ob by omega)).put ?_ ?_, (h2.put ⟨by rw [upto_at, ← ha], by rw [upto_at, ← hb]⟩ (fun j _ hj => ⟨upto_ne _ _ _ hj, upto_ne _ _ _ hj⟩)).kept (kset _ fb a (.int .i64 (c : Int))) (show ¬ ob = fb by omega), h3, h4, bset hbk h4⟩
  · rw [ha, ld_own, ← hb, hc]
  · intro j _ hj; rw [ld_else (by rw [← ha]; exact hj)]

set_option maxRecDepth 100000 in
set_option maxHeartbeats 4000000 in
theorem plan_ok (q : Option Addr) (n cap m L : Nat) (hm : m = L + 1) (hL : m ≤ 16) (hn : n ≤ 64) (p : Nat → Nat) (hp : ∀ k, k < n → p k ≤ 1048576) (W : World) (hP : Is W q n (fun k => (p k : Int))) : Calls Try.prog 6 #[.slice q n cap, .int .i64 (m : Int)] W (PJ W n (lo L p) (fr L p) (la L p n) 0) := by
  obtain ⟨i0, hi, hz0, hz1, hz2⟩ := info_parts info3
  obtain ⟨j0, gi, gz0, gz1, gz2⟩ := info_parts info45
  have hby : i0.bytes * m ≤ 281474976710656 := by rw [hz2]; omega
  have hml : m ≤ maxLen := by unfold maxLen; omega
  have gby : j0.bytes * n ≤ 281474976710656 := by rw [gz2]; omega
  have gml : n ≤ maxLen := by unfold maxLen; omega
  have HW := hide (wrong_any n (m : Int) W)
  rw [show wE n (m : Int) = 0 by unfold wE; rw [if_neg (by omega), if_neg (by omega)]] at HW
  have HA := hide (fun V (hb : Below W.heap.size W V) => all_any q n cap _ hn V (hP.keep hb))
  rw [aC_all (fun k hk => by have := hp k hk; omega)] at HA
  have HP := hide hP
  have Hp := hide hp
  have Hm := hide hm
  clear hP hp hm
  go_enter Try.func6, Try.ntmps6
  go_wp2_with fail
  refine (unhide HW).mono ?_
  rintro e w1 ⟨rfl, hb1⟩
  have HC := hide (unhide HA _ hb1)
  have Hb := hide hb1
  clear HA HW hb1
  go_wp2_with fail
  refine (unhide HC).mono ?_
  rintro e w2 ⟨rfl, hb2⟩
  have Hb2 := hide (btrans (unhide Hb) hb2)
  clear HC Hb hb2
  go_wp2_with (first | fail | refine wpList_make_full _ rfl _ _ 22 rfl w2.heap.size 3 i0 _ 1 Try.underlying22 hi hz0 hz1 .i64 .i64 (m : Int) (m : Int) m rfl rfl rfl rfl hby hml (Nat.le_refl _) ?_)
  intro w3 hown hgrow
  have HF := hide (jrow_made hown)
  have Hb3 := hide (btrans (unhide Hb2) ((Below.refl _ w2).grown hgrow (Nat.le_refl _) (fun k hk => by cases hk)))
  have hS0 : W.heap.size ≤ w2.heap.size := (unhide Hb2).size
  clear hown hgrow hi hz0 hz1 hz2 hby hml Hb2
  generalize w2.heap.size = fb at *
  go_wp2_with (first | fail | refine wpList_make_full _ rfl _ _ 24 rfl w3.heap.size 45 j0 _ 2 Try.underlying24 gi gz0 gz1 .i64 .i64 (n : Int) (n : Int) n rfl rfl rfl rfl gby gml (Nat.le_refl _) ?_)
  intro w4 hown hgrow
  have HR := hide (prw_made hown)
  have hS1 := (Below.refl _ w3).grown hgrow (Nat.le_refl _) (fun k hk => by cases hk)
  have HL := hide (show Ly W fb w3.heap.size n m L p 0 w4 from ⟨(unhide HF).keep hS1, by rw [upto_zero, upto_zero]; exact unhide HR, (unhide HF).1, hS0, btrans (unhide Hb3) hS1⟩)
  clear hown hgrow gi gz0 gz1 gz2 gby gml hS1 HF HR Hb3 hS0
  generalize w3.heap.size = ob at *
  go_wp2
  go_loopw [30] (fun i wr => ∃ x : Nat, x ≤ n ∧ i = .int .i64 (x : Int) ∧ Ly W fb ob n m L p x wr) (fun i _ => n - (intOf i).toNat)
  case atStart => exact ⟨0, Nat.zero_le _, rfl, unhide HL⟩
  case round =>
    clear HL
    obtain ⟨x, hx, rfl, hLy⟩ := hrel
    by_cases hlt : x < n
    · have q0 : (x : Int) < (n : Int) := by omega
      have q1 : (0 : Int) ≤ (x : Int) := by omega
      obtain ⟨ad, oo, rfl, k0⟩ := ((unhide HP).keep hLy.2.2.2.2).at hlt
      have Hpx := hide (unhide Hp x hlt)
      have HLy := hide hLy
      have HC := hide (first_any L m (unhide Hm) hL (some ⟨fb, 0, none⟩) m _ wr hLy.1.is)
      have Hst := hide (fun V => @Ly.step W V fb ob n m L x (lo L p x) (fr L p x) (fr L p x + p x) p)
      have Hfr := hide (show fr L p x ≤ 67108864 by
        have := ld_max L p 1048576 x (fun k hk => unhide Hp k (by omega)) (lo L p x)
        have h2 : x * 1048576 ≤ 64 * 1048576 := Nat.mul_le_mul_right _ (by omega)
        have h3 : fr L p x = ld L p x (lo L p x) := rfl
        omega)
      have Hlo := hide (show lo L p x < m by have := lo_le L p x; have := unhide Hm; omega)
      have hfv : ld L p x (lo L p x) = fr L p x := rfl
      have Hfv := hide hfv
      rw [show am (ld L p x) L = lo L p x from rfl] at HC
      clear hLy hfv
      obtain ⟨a, ha⟩ : ∃ a, a = lo L p x := ⟨_, rfl⟩
      obtain ⟨b, hb⟩ : ∃ b, b = fr L p x := ⟨_, rfl⟩
      obtain ⟨u, hu⟩ : ∃ u, u = p x := ⟨_, rfl⟩
      rw [← ha] at HC Hst Hlo Hfv
      rw [← hb] at Hst Hfr Hfv
      rw [← hu] at k0 Hpx
      have Ha := hide ha
      have Hb := hide hb
      have Hu := hide hu
      clear ha hb hu
      go_upto_region 11 with fail
      go_wp2_with fail
      refine (unhide HC).mono ?_
      rintro e w5 ⟨rfl, hb5⟩
      have HL5 := hide ((unhide HLy).keep hb5)
      clear HC HLy hb5 k0
      have hlo := unhide Hlo
      have c0 : (a : Int) < (m : Int) := by omega
      have c1 : (0 : Int) ≤ (a : Int) := by omega
      have j0 := ((unhide HL5).1.2 a hlo).1
      rw [unhide Hfv] at j0
      obtain ⟨⟨p0, p1⟩, p2, p3⟩ := (unhide HL5).2.1.2 x hlt
      have jf := ((unhide HL5).1.2 a hlo).2
      have hne : ob ≠ fb := by have := (unhide HL5).2.2.1; omega
      have j1 : ((w5.setCell ⟨ob, x * 2, none⟩ (.int .i64 (a : Int))).setCell ⟨ob, x * 2 + 1, none⟩ (.int .i64 (b : Int))).cell? ⟨fb, a, none⟩ = some (.int .i64 (b : Int)) := by
        rw [World.cell?_setCell_other _ _ _ _ (by intro e; cases e; exact hne rfl), World.cell?_setCell_other _ _ _ _ (by intro e; cases e; exact hne rfl)]; exact j0
      have jf1 : ((w5.setCell ⟨ob, x * 2, none⟩ (.int .i64 (a : Int))).setCell ⟨ob, x * 2 + 1, none⟩ (.int .i64 (b : Int))).frozen? ⟨fb, a, none⟩ = false := fset (fset jf)
      obtain ⟨c, hc⟩ : ∃ c, c = b + u := ⟨_, rfl⟩
      have e1 : (b : Int) + (u : Int) = (c : Int) := by omega
      have hfr := unhide Hfr
      have hpx := unhide Hpx
      have e2 : (c : Int) ≤ 68157440 := by omega
      have HLn := hide (show Ly W fb ob n m L p (x + 1) (((w5.setCell ⟨ob, x * 2, none⟩ (.int .i64 (a : Int))).setCell ⟨ob, x * 2 + 1, none⟩ (.int .i64 (b : Int))).setCell ⟨fb, a, none⟩ (.int .i64 (c : Int))) from
        (unhide HL5).step (unhide Ha) (unhide Hb) (by rw [← unhide Hu, ← hc]))
      clear HL5 hc Hst hlo hfr hpx
      generalize ((upto (lo L p) x x : Nat) : Int) = z0 at p0
      generalize ((upto (fr L p) x x : Nat) : Int) = z1 at p1
      go_wp2
      go_roundw
      case rel => exact ⟨x + 1, by omega, by go_num, unhide HLn⟩
      case measure => simp [intOf]; omega
    · obtain rfl : n = x := by omega
      have cl : ¬ ((n : Int) < (n : Int)) := by omega
      have HLy := hide hLy
      have HC := hide (greatest_any L m (unhide Hm) hL (some ⟨fb, 0, none⟩) m _ wr hLy.1.is)
      rw [show mx (ld L p n) (L + 1) = la L p n from rfl] at HC
      clear hLy
      generalize la L p n = t at *
      go_wp2_with fail
      refine (unhide HC).mono ?_
      rintro e w5 ⟨rfl, hb5⟩
      have HL5 := hide ((unhide HLy).keep hb5)
      clear HC HLy hb5
      go_wp2
      have HP5 := (unhide HL5).2.1.ps
      exact bodyPost_ret (v := .tuple #[.slice (some ⟨ob, 0, none⟩) n n, .int .i64 (t : Int), .int .i64 0]) (by simp [results, Try.results6, go_sem]) rfl (PJ.mk _ _ (by
        rcases HP5 with h | ⟨g, o, e1, e2, e3⟩
        · exact .inl h
        · exact .inr ⟨g, o, e1, e2, fun k hk => by
            have := e3 k hk
            simp only [upto, if_pos hk] at this
            exact this⟩) (unhide HL5).2.2.2.2)
end Go.Proofs.Ythhcmccleabhhaa
