/-
  What Shown, String and Cloth answer, for the laws.
-/
import Derived.Test.YtbmgjoocpbikkaaShE
import Derived.Test.YtbmgjoocpbikkaaCl
import Derived.Test.YtbmgjoocpbikkaaSm
namespace Go.Proofs.Ytbmgjoocpbikkaa
open Go.RowKit

/-- ends, then picks -/
def thr (n : Nat) (e p : Nat → Int) : Nat → Int := fun s => if s < n then e s else p (s - n)
theorem thr_end {n : Nat} {e p : Nat → Int} {s : Nat} (h : s < n) : thr n e p s = e s := by simp [thr, h]
theorem thr_pick {n : Nat} {e p : Nat → Int} (y : Nat) : thr n e p (n + y) = p y := by unfold thr; rw [if_neg (by omega), Nat.add_sub_cancel_left]
theorem cs_good {n m : Nat} {e p px : Nat → Int} (h : ∀ j, j < n * m → CS n e p px j) : Good (pic n m px) (thr n e p) := by
  rw [shows_iff]
  intro y x hy hx
  have := h (y * n + x) (place_lt hx hy)
  unfold CS at this
  have e1 : (y * n + x) % n = x := by rw [Nat.add_comm, Nat.add_mul_mod_self_right, Nat.mod_eq_of_lt hx]
  have e2 : (y * n + x) / n = y := by rw [Nat.add_comm, Nat.add_mul_div_right _ _ (by omega), Nat.div_eq_of_lt hx, Nat.zero_add]
  rw [e1, e2] at this
  rw [thr_end hx, thr_pick]
  exact this
theorem good_cs {n m : Nat} {e p px f : Nat → Int} (h : Good (pic n m px) f) (he : ∀ x, x < n → e x = f x) (hp : ∀ y, y < m → p y = f (n + y)) : ∀ j, j < n * m → CS n e p px j := by
  rw [shows_iff] at h
  intro j hj
  have hn : 0 < n := by
    rcases Nat.eq_zero_or_pos n with e | e
    · rw [e, Nat.zero_mul] at hj; omega
    · exact e
  have h1 : j % n < n := Nat.mod_lt _ hn
  have h2 : j / n < m := by rw [Nat.div_lt_iff_lt_mul hn, Nat.mul_comm m n]; exact hj
  have h3 := h (j / n) (j % n) h2 h1
  have h4 : j / n * n + j % n = j := by rw [Nat.mul_comm]; exact Nat.div_add_mod j n
  rw [h4] at h3
  unfold CS
  rw [he _ h1, hp _ h2]
  exact h3
theorem thr_tot {n m : Nat} {e p : Nat → Int} {px : Nat → Int} (h1 : ∀ k, k < n → 0 ≤ e k ∧ e k ≤ 61) (h2 : ∀ k, k < m → 0 ≤ p k ∧ p k ≤ 61) : Tot (pic n m px) (thr n e p) := by
  intro s hs
  by_cases c : s < n
  · rw [thr_end c]; exact h1 s c
  · have : s < n + m := hs
    obtain ⟨y, rfl⟩ : ∃ y, s = n + y := ⟨s - n, by omega⟩
    rw [thr_pick]; exact h2 y (by omega)
theorem mod_div {n m j : Nat} (hj : j < n * m) : j % n < n ∧ j / n < m := by
  have hn : 0 < n := by
    rcases Nat.eq_zero_or_pos n with e | e
    · rw [e, Nat.zero_mul] at hj; omega
    · exact e
  exact ⟨Nat.mod_lt _ hn, by rw [Nat.div_lt_iff_lt_mul hn, Nat.mul_comm m n]; exact hj⟩
/-- what is seen is a right picture -/
theorem shw_picture {n m : Nat} {e p px : Nat → Int} {f : Nat → Bool} (hs : sE n m e p = 0) (h : ∀ j, j < n * m → px j = shw n e p f j) : pE 4 n m (n * m) px = 0 ∧ ∀ j, j < n * m → CS n e p px j := by
  obtain ⟨⟨n1, n2⟩, ⟨m1, m2⟩, h3, h4⟩ := sE_zero hs
  have hall : ∀ k, k < n * m → 0 ≤ px k ∧ px k ≤ 61 := fun k hk => by
    obtain ⟨a, b⟩ := mod_div hk
    rw [h k hk]; unfold shw
    split
    · exact h3 _ a
    · exact h4 _ b
  refine ⟨?_, fun j hj => ?_⟩
  · have hw : Ch.wE 4 n m (n * m) px = 0 := by
      unfold Ch.wE
      have a : Ch.allin px (n * m) = true := by
        cases c : Ch.allin px (n * m) with
        | true => rfl
        | false =>
          exfalso
          have : ∀ k, k ≤ n * m → Ch.allin px k = true := by
            intro k
            induction k with
            | zero => intro _; rfl
            | succ k ih =>
              intro hk
              have := hall k (by omega)
              simp [Ch.allin, ih (by omega)]
              omega
          rw [this _ (Nat.le_refl _)] at c
          cases c
      rw [if_pos (by simp [Ch.okg]), if_pos (by simp [Ch.sw]; omega), if_pos (by simp), if_pos a]
    unfold pE
    rw [if_pos hw, if_pos rfl]
  · unfold CS
    rw [h j hj]; unfold shw
    split
    · exact .inl rfl
    · exact .inr rfl
theorem tE_nat {n m : Nat} (hn : n ≤ 64) (hm : m ≤ 64) : T.wE n m (n * m) = 0 := by
  unfold T.wE
  rw [if_pos (by simp [T.sd]; omega), if_pos (by simp)]
theorem shE_ok {n m : Nat} {e p : Nat → Int} (hs : sE n m e p = 0) : shE n m e p n m (n * m) = 0 := by
  obtain ⟨⟨n1, n2⟩, ⟨m1, m2⟩, _, _⟩ := sE_zero hs
  unfold shE
  rw [if_pos hs, if_pos (tE_nat n2 m2), if_pos ⟨rfl, rfl⟩]
theorem clE_ok {n m : Nat} {e p px : Nat → Int} (hs : sE n m e p = 0) (hp : pE 4 n m (n * m) px = 0) : clE n m e p 4 n m (n * m) px = 0 := by
  unfold clE
  rw [if_pos hs, if_pos hp, if_pos ⟨rfl, rfl⟩]
theorem shE_zero {n m : Nat} {e p : Nat → Int} {w h : Int} {nb : Nat} (he : shE n m e p w h nb = 0) : sE n m e p = 0 ∧ w = (n : Int) ∧ h = (m : Int) ∧ nb = n * m := by
  unfold shE at he
  split at he
  · rename_i a
    split at he
    · rename_i b
      split at he
      · rename_i c
        obtain ⟨w', h', e1, e2, _, _, e5⟩ := T.wE_zero _ _ _ b
        refine ⟨a, c.1.symm, c.2.symm, ?_⟩
        have : w' = n := by omega
        have : h' = m := by omega
        subst_vars; rfl
      · omega
    · exact absurd he (by assumption)
  · exact absurd he (by assumption)
theorem clE_zero {n m : Nat} {e p : Nat → Int} {g w h : Int} {nc : Nat} {px : Nat → Int} (he : clE n m e p g w h nc px = 0) : sE n m e p = 0 ∧ pE g w h nc px = 0 ∧ w = (n : Int) ∧ h = (m : Int) := by
  unfold clE at he
  split at he
  · rename_i a
    split at he
    · rename_i b
      split at he
      · rename_i c
        exact ⟨a, b, c.1.symm, c.2.symm⟩
      · omega
    · exact absurd he (by assumption)
  · exact absurd he (by assumption)

/-- threads and truths that go together: what is seen -/
theorem shown0 {q1 : Option Addr} {n c1 : Nat} {q2 : Option Addr} {m c2 : Nat} {e p : Nat → Int} {w h : Int} {q3 : Option Addr} {nb c3 : Nat} {f : Nat → Bool} {W : World} (h1 : T.Is W q1 n e) (h2 : T.Is W q2 m p) (h3 : T.Bs W q3 nb c3 f) (he : shE n m e p w h nb = 0) :
    Calls Try.prog 6 #[sg q1 n c1 q2 m c2, T.tr w h q3 nb c3] W fun e' w' => ∃ px q c, e' = .returned (.tuple #[Ch.ch 4 n m q (n * m) c, .int .i64 0]) ∧ T.Is w' q (n * m) px ∧ Below W.heap.size W w' ∧ ∀ j, j < n * m → px j = shw n e p f j := by
  refine (shown_any q1 n c1 q2 m c2 e p w h q3 nb c3 f W h1 h2 h3).mono ?_
  rintro e' w' ⟨er, g1, w1, h1, k, px, q, c, rfl, hI, hb, hR⟩
  rcases hR with ⟨r, _⟩ | ⟨_, rfl, rfl, rfl, rfl, rfl, r⟩
  · exact absurd he r
  · exact ⟨px, q, c, rfl, hI, hb, r⟩
theorem shown1 {q1 : Option Addr} {n c1 : Nat} {q2 : Option Addr} {m c2 : Nat} {e p : Nat → Int} {w h : Int} {q3 : Option Addr} {nb c3 : Nat} {f : Nat → Bool} {W : World} (h1 : T.Is W q1 n e) (h2 : T.Is W q2 m p) (h3 : T.Bs W q3 nb c3 f) (he : shE n m e p w h nb ≠ 0) :
    Calls Try.prog 6 #[sg q1 n c1 q2 m c2, T.tr w h q3 nb c3] W fun e' w' => ∃ er g1 w1 h1 q k c, e' = .returned (.tuple #[Ch.ch g1 w1 h1 q k c, .int .i64 er]) ∧ (er != 0) = true ∧ (er == 0) = false ∧ Below W.heap.size W w' := by
  refine (shown_any q1 n c1 q2 m c2 e p w h q3 nb c3 f W h1 h2 h3).mono ?_
  rintro e' w' ⟨er, g1, w1, h1, k, px, q, c, rfl, hI, hb, hR⟩
  rcases hR with ⟨r, r2, _⟩ | ⟨r, _⟩
  · exact ⟨er, _, _, _, _, _, _, rfl, by rw [r2]; simpa using r, by rw [r2]; simpa using r, hb⟩
  · exact absurd r he
theorem pE_six (g w h : Int) (n : Nat) (px : Nat → Int) : pE g w h n px ≠ 6 := by
  unfold pE Ch.wE
  repeat' split
  all_goals omega
/-- a right picture that some threads show -/
theorem string0 {a b : Nat} {p : Option Addr} {n cap : Nat} {px : Nat → Int} {W : World} (hI : T.Is W p n px) (he : pE 4 a b n px = 0) {f0 : Nat → Int} (hT : Tot (pic a b px) f0) (hG : Good (pic a b px) f0) :
    Calls Try.prog 9 #[Ch.ch 4 a b p n cap] W fun e' w' => ∃ f q1 c1 q2 c2, e' = .returned (.tuple #[sg q1 a c1 q2 b c2, .int .i64 0]) ∧ T.Is w' q1 a f ∧ T.Is w' q2 b (fun y => f (a + y)) ∧ Below W.heap.size W w' ∧ First (pic a b px) f := by
  refine (string_any 4 a b p n cap px W hI).mono ?_
  rintro e' w' ⟨er, k1, k2, f, q1, c1, q2, c2, rfl, hI1, hI2, hb, hR⟩
  rcases hR with ⟨r, _⟩ | ⟨_, ⟨rfl, r1, r2, r3⟩ | ⟨_, _, _, r4⟩⟩
  · exact absurd he r
  · obtain rfl : a = k1 := by omega
    obtain rfl : b = k2 := by omega
    exact ⟨f, q1, c1, q2, c2, rfl, hI1, hI2, hb, r3⟩
  · exact absurd hG (r4 a b rfl rfl f0 hT)
/-- a right picture that none show -/
theorem string6 {a b : Nat} {p : Option Addr} {n cap : Nat} {px : Nat → Int} {W : World} (hI : T.Is W p n px) (he : pE 4 a b n px = 0) (hG : ∀ f, Tot (pic a b px) f → ¬ Good (pic a b px) f) :
    Calls Try.prog 9 #[Ch.ch 4 a b p n cap] W fun e' w' => ∃ q1 k1 c1 q2 k2 c2, e' = .returned (.tuple #[sg q1 k1 c1 q2 k2 c2, .int .i64 6]) ∧ Below W.heap.size W w' := by
  refine (string_any 4 a b p n cap px W hI).mono ?_
  rintro e' w' ⟨er, k1, k2, f, q1, c1, q2, c2, rfl, hI1, hI2, hb, hR⟩
  rcases hR with ⟨r, _⟩ | ⟨_, ⟨rfl, r1, r2, r3⟩ | ⟨rfl, _, _, _⟩⟩
  · exact absurd he r
  · obtain rfl : a = k1 := by omega
    obtain rfl : b = k2 := by omega
    exact absurd r3.2.1 (hG f r3.1)
  · exact ⟨q1, k1, c1, q2, k2, c2, rfl, hb⟩
/-- a wrong one -/
theorem stringX {g w h : Int} {p : Option Addr} {n cap : Nat} {px : Nat → Int} {W : World} (hI : T.Is W p n px) (he : pE g w h n px ≠ 0) :
    Calls Try.prog 9 #[Ch.ch g w h p n cap] W fun e' w' => ∃ er q1 k1 c1 q2 k2 c2, e' = .returned (.tuple #[sg q1 k1 c1 q2 k2 c2, .int .i64 er]) ∧ (er != 0) = true ∧ (er == 0) = false ∧ (er == 6) = false ∧ Below W.heap.size W w' := by
  refine (string_any g w h p n cap px W hI).mono ?_
  rintro e' w' ⟨er, k1, k2, f, q1, c1, q2, c2, rfl, hI1, hI2, hb, hR⟩
  have h6 := pE_six g w h n px
  rcases hR with ⟨r, r2, _⟩ | ⟨r, _⟩
  · exact ⟨er, q1, k1, c1, q2, k2, c2, rfl, by rw [r2]; simpa using r, by rw [r2]; simpa using r, by rw [r2]; simpa using h6, hb⟩
  · exact absurd r he
/-- threads that show a picture: its cloth -/
theorem cloth0 {q1 : Option Addr} {n c1 : Nat} {q2 : Option Addr} {m c2 : Nat} {e p : Nat → Int} {q3 : Option Addr} {nc c3 : Nat} {px : Nat → Int} {W : World} (h1 : T.Is W q1 n e) (h2 : T.Is W q2 m p) (h3 : T.Is W q3 nc px) (hn : nc = n * m) (hs : sE n m e p = 0) (hp : pE 4 n m nc px = 0) (hc : ∀ j, j < n * m → CS n e p px j) :
    Calls Try.prog 12 #[sg q1 n c1 q2 m c2, Ch.ch 4 n m q3 nc c3] W fun e' w' => ∃ f q c, e' = .returned (.tuple #[T.tr n m q (n * m) c, .int .i64 0]) ∧ T.Bs w' q (n * m) c f ∧ Below W.heap.size W w' ∧ ∀ j, j < n * m → f j = (px j == e (j % n)) := by
  refine (cloth_any q1 n c1 q2 m c2 e p 4 n m q3 nc c3 px W h1 h2 h3).mono ?_
  rintro e' w' ⟨er, w1, h1, k, f, q, c, rfl, hI, hb, hR⟩
  rcases hR with ⟨r, _⟩ | ⟨_, ⟨rfl, rfl, rfl, rfl, r1, _⟩ | ⟨_, _, _, _, r2⟩⟩
  · rw [hn] at r hp
    exact absurd (clE_ok hs hp) r
  · exact ⟨f, q, c, rfl, hI, hb, r1⟩
  · exact absurd hc r2
/-- threads and a picture of which there is none -/
theorem cloth1 {q1 : Option Addr} {n c1 : Nat} {q2 : Option Addr} {m c2 : Nat} {e p : Nat → Int} {g w h : Int} {q3 : Option Addr} {nc c3 : Nat} {px : Nat → Int} {W : World} (h1 : T.Is W q1 n e) (h2 : T.Is W q2 m p) (h3 : T.Is W q3 nc px) (hc : clE n m e p g w h nc px = 0 → ¬ ∀ j, j < n * m → CS n e p px j) :
    Calls Try.prog 12 #[sg q1 n c1 q2 m c2, Ch.ch g w h q3 nc c3] W fun e' w' => ∃ er w1 h1 q k c, e' = .returned (.tuple #[T.tr w1 h1 q k c, .int .i64 er]) ∧ (er != 0) = true ∧ Below W.heap.size W w' := by
  refine (cloth_any q1 n c1 q2 m c2 e p g w h q3 nc c3 px W h1 h2 h3).mono ?_
  rintro e' w' ⟨er, w1, h1, k, f, q, c, rfl, hI, hb, hR⟩
  rcases hR with ⟨r, r2, _⟩ | ⟨r0, ⟨_, _, _, _, _, r1⟩ | ⟨rfl, _, _, _, _⟩⟩
  · exact ⟨er, w1, h1, q, k, c, rfl, by rw [r2]; simpa using r, hb⟩
  · exact absurd r1 (hc r0)
  · exact ⟨6, w1, h1, q, k, c, rfl, by decide, hb⟩

/-- of one cell, the end is of colour 0 -/
theorem one_cell {px f : Nat → Int} (hp : px 0 = 5) (h : First (pic 1 1 px) f) : f 0 = 0 ∧ f 1 = 5 := by
  obtain ⟨h1, h2, h3⟩ := h
  have t0 := h1 0 (show 0 < 1 + 1 by omega)
  have t1 := h1 1 (show 1 < 1 + 1 by omega)
  rw [shows_iff] at h2
  have g0 := h2 0 0 (by omega) (by omega)
  rw [Nat.zero_mul, Nat.zero_add, hp] at g0
  have gt : Tot (pic 1 1 px) (fun s => if s = 0 then 0 else 5) := fun s _ => by dsimp only; split <;> omega
  have gg : Good (pic 1 1 px) (fun s => if s = 0 then 0 else 5) := by
    rw [shows_iff]
    intro y x hy hx
    obtain rfl : x = 0 := by omega
    obtain rfl : y = 0 := by omega
    exact .inr (by rw [Nat.zero_mul, Nat.zero_add, hp]; rfl)
  rcases h3 _ gt gg with r | ⟨i, i1, i2, i3⟩
  · have r0 := r 0 (show 0 < 1 + 1 by omega)
    have r1 := r 1 (show 1 < 1 + 1 by omega)
    simp at r0 r1
    exact ⟨r0.symm, r1.symm⟩
  · have i1' : i < 2 := i1
    rcases (show i = 0 ∨ i = 1 by omega) with rfl | rfl
    · simp at i2; omega
    · have := i3 0 (by omega)
      simp at this i2
      rw [this] at g0
      rcases g0 with g0 | g0
      · omega
      · have : f (1 + 0) = f 1 := rfl
        omega

set_option maxRecDepth 100000 in
set_option maxHeartbeats 2000000 in
theorem alive_any (W : World) : Calls Try.prog 15 #[] W fun e w' => e = .returned (.bool true) ∧ Below W.heap.size W w' := by
  have B0 := hide (bnew W (.cells #[.int .i64 5] 3))
  have hI : T.Is (W.alloc (.cells #[.int .i64 5] 3)) (some ⟨W.heap.size, 0, none⟩) 1 (fun _ => 5) := .inr ⟨_, _, rfl, by simp, fun k hk => by rw [show k = 0 by omega]; simp [go_sem]⟩
  have he : pE 4 1 1 1 (fun _ => 5) = 0 := by decide
  have hT : Tot (pic 1 1 (fun _ => 5)) (fun _ => 5) := fun s _ => by dsimp only; omega
  have hG : Good (pic 1 1 (fun _ => 5)) (fun _ => 5) := fun s t _ => .inl rfl
  have HS := hide (string0 (a := 1) (b := 1) (cap := 1) hI he hT hG)
  clear hI he hT hG
  go_enter Try.func15, Try.ntmps15
  go_upto_region 2 with (go_at_call 9; refine (unhide HS).mono ?_; rintro e w1 ⟨f, q1, c1, q2, c2, rfl, h1, h2, hb, hF⟩)
  obtain ⟨f0, f1⟩ := one_cell rfl hF
  obtain ⟨b1, o1, rfl, _, x1⟩ := (h1.keep (bnew w1 (.cells #[.slice q1 1 c1, .slice q2 1 c2] 24))).at (show 0 < 1 by omega)
  obtain ⟨b2, o2, rfl, _, x2⟩ := (h2.keep (bnew w1 (.cells #[.slice (some ⟨b1, o1, none⟩) 1 c1, .slice q2 1 c2] 24))).at (show 0 < 1 by omega)
  rw [f0] at x1
  rw [show f (1 + 0) = 5 from f1] at x2
  rw [Nat.add_zero] at x1 x2
  have Hb := hide (bal (o := .cells #[.slice (some ⟨b1, o1, none⟩) 1 c1, .slice (some ⟨b2, o2, none⟩) 1 c2] 24) (btrans (unhide B0) hb))
  clear h1 h2 hb hF f0 f1
  go_wp2
  go_ret
  exact ⟨rfl, unhide Hb⟩
end Go.Proofs.Ytbmgjoocpbikkaa
