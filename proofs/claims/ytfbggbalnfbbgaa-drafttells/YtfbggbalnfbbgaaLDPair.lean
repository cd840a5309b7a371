/-
  DraftTells: what both sides answer.
-/
import Derived.Test.YtfbggbalnfbbgaaRdF
namespace Go.Proofs.Ytfbggbalnfbbgaa
open Go.RowKit Go.Shelf

theorem right_of {W : World} {q1 : Option Addr} {n1 : Nat} {f1 : Nat → Int} {p : Option Addr} {n cap : Nat} {f : Nat → Bool} {q2 : Option Addr} {n2 : Nat} {f2 : Nat → Int} {w h : Nat} {t1 t2 : Nat → Nat} (k1 : w ≤ 64) (k2 : h ≤ 64) (k3 : n = w * h) (m1 : 1 ≤ n1) (m2 : n1 ≤ 64) (m3 : 1 ≤ n2) (m4 : n2 ≤ 64) (b1 : ∀ k, k < n1 → f1 k = (t1 k : Nat) ∧ t1 k < w) (b2 : ∀ k, k < n2 → f2 k = (t2 k : Nat) ∧ t2 k < h)
    (h1 : Is W q1 n1 f1) (hf : Bs W p n cap f) (h2 : Is W q2 n2 f2) : Rd W q1 n1 t1 w h p n cap f q2 n2 t2 :=
  ⟨⟨k1, k2, k3, hf⟩, ⟨m1, m2, h1.congr fun k hk => (b1 k hk).1, fun k hk => (b1 k hk).2⟩, ⟨m3, m4, h2.congr fun k hk => (b2 k hk).1, fun k hk => (b2 k hk).2⟩⟩

theorem draw_pair (n1 : Nat) (f1 : Nat → Int) (w h : Int) (n : Nat) (f : Nat → Bool) (n2 : Nat) (f2 : Nat → Int) : ∃ (pw ph : Int) (pn : Nat) (pf : Nat → Bool) (pe : Int), pn ≤ 4096 ∧
    (∀ V q1 c1 p cap q2 c2, Is V q1 n1 f1 → Bs V p n cap f → Is V q2 n2 f2 → AnsT 8 #[dr q1 n1 c1 w h p n cap q2 n2 c2] V pw ph pn pf pe) ∧
    (∀ V q1 c1 p cap q2 c2, Is V q1 n1 f1 → Bs V p n cap f → Is V q2 n2 f2 → AnsT 9 #[dr q1 n1 c1 w h p n cap q2 n2 c2] V pw ph pn pf pe) := by
  by_cases e : dE n1 f1 w h n n2 f2 = 0
  · obtain ⟨w', h', t1, t2, rfl, rfl, k1, k2, k3, m1, m2, m3, m4, b1, b2⟩ := dE_zero e
    refine ⟨n1, n2, n1 * n2, ddF f w' t1 t2 n1, 0, Nat.mul_le_mul m2 m4, fun V q1 c1 p cap q2 c2 h1 hf h2 => ?_, fun V q1 c1 p cap q2 c2 h1 hf h2 => ?_⟩
    · refine (draw_ok (right_of k1 k2 k3 m1 m2 m3 m4 b1 b2 h1 hf h2) (n1 * n2) rfl).mono ?_
      rintro e V' ⟨q, cp, rfl, hr, hb⟩
      exact ⟨_, _, rfl, hr.1.2.2.2, hb⟩
    · refine (rdraw_ok (right_of k1 k2 k3 m1 m2 m3 m4 b1 b2 h1 hf h2) (n1 * n2) rfl).mono ?_
      rintro e V' ⟨q, cp, rfl, hr, hb⟩
      exact ⟨_, _, rfl, hr, hb⟩
  · refine ⟨0, 0, 0, fun _ => false, dE n1 f1 w h n n2 f2, Nat.zero_le _, fun V q1 c1 p cap q2 c2 h1 hf h2 => ?_, fun V q1 c1 p cap q2 c2 h1 hf h2 => ?_⟩
    · refine (draw_err q1 n1 c1 f1 w h p n cap q2 n2 c2 f2 V h1 h2 _ rfl (dE_pos e)).mono ?_
      rintro e V' ⟨rfl, hb⟩
      exact ⟨_, _, rfl, bs_zero _ _ _ _, hb⟩
    · refine (rdraw_err q1 n1 c1 f1 w h p n cap q2 n2 c2 f2 V h1 h2 _ rfl (dE_pos e)).mono ?_
      rintro e V' ⟨rfl, hb⟩
      exact ⟨_, _, rfl, bs_zero _ _ _ _, hb⟩

/-- a call that answers a draft and an error -/
def AnsD (F : Nat) (args : Array Value) (V : World) (k1 : Nat) (g1 : Nat → Int) (pw ph : Int) (pn : Nat) (pf : Nat → Bool) (k2 : Nat) (g2 : Nat → Int) (pe : Int) : Prop :=
  Calls Try.prog F args V fun e V' => ∃ q1 c1 q cp q2 c2, e = .returned (.tuple #[dr q1 k1 c1 pw ph q pn cp q2 k2 c2, .int .i64 pe]) ∧ Is V' q1 k1 g1 ∧ Bs V' q pn cp pf ∧ Is V' q2 k2 g2 ∧ Below V.heap.size V V'
theorem few_pair (w h : Int) (n : Nat) (f : Nat → Bool) : ∃ (k1 : Nat) (g1 : Nat → Int) (pw ph : Int) (pn : Nat) (pf : Nat → Bool) (k2 : Nat) (g2 : Nat → Int) (pe : Int), k1 ≤ 64 ∧ pn ≤ 4096 ∧ k2 ≤ 64 ∧
    (∀ V p cap, Bs V p n cap f → AnsD 11 #[tr w h p n cap] V k1 g1 pw ph pn pf k2 g2 pe) ∧ (∀ V p cap, Bs V p n cap f → AnsD 12 #[tr w h p n cap] V k1 g1 pw ph pn pf k2 g2 pe) := by
  by_cases e : wE w h n = 0
  · obtain ⟨a, b, rfl, rfl, j1, j2, j3⟩ := wE_zero _ _ _ e
    by_cases en : n = 0
    · refine ⟨0, fun _ => 0, 0, 0, 0, fun _ => false, 0, fun _ => 0, 5, by omega, by omega, by omega, fun V p cap hf => ?_, fun V p cap hf => ?_⟩
      · refine (few_none a b p n cap f V ⟨j1, j2, j3, hf⟩ en).mono ?_
        rintro e V' ⟨rfl, hb⟩
        exact ⟨_, _, _, _, _, _, rfl, .inl rfl, bs_zero _ _ _ _, .inl rfl, hb⟩
      · refine (rfew_none a b p n cap f V ⟨j1, j2, j3, hf⟩ en).mono ?_
        rintro e V' ⟨rfl, hb⟩
        exact ⟨_, _, _, _, _, _, rfl, .inl rfl, bs_zero _ _ _ _, .inl rfl, hb⟩
    · have e1 := un_len (tuF f a b) b a
      have e2 := un_len f a b
      refine ⟨a, fun k => ((nuN (tuF f a b) b k : Nat) : Int), (unU (tuF f a b) b a).length, (unU f a b).length, (unU (tuF f a b) b a).length * (unU f a b).length, fwF f a b (unU (tuF f a b) b a).length, b, fun k => ((nuN f a k : Nat) : Int), 0, j1, Nat.mul_le_mul (Nat.le_trans e1 j1) (Nat.le_trans e2 j2), j2, fun V p cap hf => ?_, fun V p cap hf => ?_⟩
      · refine (few_ok (show Rt V a b p n cap f from ⟨j1, j2, j3, hf⟩) (by omega) _ _ _ rfl rfl rfl).mono ?_
        rintro e V' ⟨q1, c1, q, cp, q2, c2, rfl, ht1, hr, ht2, hb⟩
        exact ⟨_, _, _, _, _, _, rfl, ht1.1.2.2.1, hr.1.2.2.2, ht2.1.2.2.1, hb⟩
      · refine (rfew_ok (show Rt V a b p n cap f from ⟨j1, j2, j3, hf⟩) (by omega) _ _ _ rfl rfl rfl).mono ?_
        rintro e V' ⟨q1, c1, q, cp, q2, c2, rfl, ht1, hr, ht2, hb⟩
        exact ⟨_, _, _, _, _, _, rfl, ht1, hr, ht2, hb⟩
  · refine ⟨0, fun _ => 0, 0, 0, 0, fun _ => false, 0, fun _ => 0, wE w h n, by omega, by omega, by omega, fun V p cap hf => ?_, fun V p cap hf => ?_⟩
    · refine (few_err w h p n cap V _ rfl (wE_pos _ _ _ e)).mono ?_
      rintro e V' ⟨rfl, hb⟩
      exact ⟨_, _, _, _, _, _, rfl, .inl rfl, bs_zero _ _ _ _, .inl rfl, hb⟩
    · refine (rfew_err w h p n cap V _ rfl (wE_pos _ _ _ e)).mono ?_
      rintro e V' ⟨rfl, hb⟩
      exact ⟨_, _, _, _, _, _, rfl, .inl rfl, bs_zero _ _ _ _, .inl rfl, hb⟩

/-- a call that answers three truths and an error -/
def AnsC (F : Nat) (args : Array Value) (V : World) (aw ah : Int) (an : Nat) (af : Nat → Bool) (bw bh : Int) (bn : Nat) (bf : Nat → Bool) (cw ch : Int) (cn : Nat) (cf : Nat → Bool) (pe : Int) : Prop :=
  Calls Try.prog F args V fun e V' => ∃ qa ca qb cb qc cc, e = .returned (.tuple #[tr aw ah qa an ca, tr bw bh qb bn cb, tr cw ch qc cn cc, .int .i64 pe]) ∧ Bs V' qa an ca af ∧ Bs V' qb bn cb bf ∧ Bs V' qc cn cc cf ∧ Below V.heap.size V V'
theorem md_tie (f : Nat → Bool) (w j : Nat) : mdF (fun y x => f (y * w + x)) w j = f j := by
  unfold mdF
  dsimp only
  rw [Nat.mul_comm, Nat.div_add_mod]
theorem mk_pick (t : Nat → Nat) (w j : Nat) : mkF t w j = mdF (fun y x => (t y : Int) == (x : Int)) w j := by
  unfold mkF mdF
  exact Bool.beq_comm
theorem tu_pick (t : Nat → Nat) (w n j : Nat) (hj : j < n * w) : tuF (mkF t w) w n j = mdF (fun y x => (t x : Int) == (y : Int)) n j := by
  have hn : 0 < n := by rcases Nat.eq_zero_or_pos n with e | e; (· rw [e, Nat.zero_mul] at hj; omega); exact e
  have hx := Nat.mod_lt j hn
  have hy : j / n < w := Nat.div_lt_of_lt_mul hj
  have e : j = j / n * n + j % n := by rw [Nat.mul_comm]; exact (Nat.div_add_mod j n).symm
  rw [e, tu_at_row _ _ _ _ _ hx, mdF_at _ _ _ _ hx]
  unfold mkF
  rw [mdF_at _ _ _ _ hy]
  exact Bool.beq_comm
theorem chain_pair (n1 : Nat) (f1 : Nat → Int) (w h : Int) (n : Nat) (f : Nat → Bool) (n2 : Nat) (f2 : Nat → Int) : ∃ (aw ah : Int) (an : Nat) (af : Nat → Bool) (bw bh : Int) (bn : Nat) (bf : Nat → Bool) (cw ch : Int) (cn : Nat) (cf : Nat → Bool) (pe : Int), an ≤ 4096 ∧ bn ≤ 4096 ∧ cn ≤ 4096 ∧
    (∀ V q1 c1 p cap q2 c2, Is V q1 n1 f1 → Bs V p n cap f → Is V q2 n2 f2 → AnsC 14 #[dr q1 n1 c1 w h p n cap q2 n2 c2] V aw ah an af bw bh bn bf cw ch cn cf pe) ∧
    (∀ V q1 c1 p cap q2 c2, Is V q1 n1 f1 → Bs V p n cap f → Is V q2 n2 f2 → AnsC 15 #[dr q1 n1 c1 w h p n cap q2 n2 c2] V aw ah an af bw bh bn bf cw ch cn cf pe) := by
  by_cases e : dE n1 f1 w h n n2 f2 = 0
  · obtain ⟨w', h', t1, t2, rfl, rfl, k1, k2, k3, m1, m2, m3, m4, b1, b2⟩ := dE_zero e
    refine ⟨h', n2, h' * n2, mdF (fun y x => (t2 y : Int) == (x : Int)) h', w', h', n, f, n1, w', n1 * w', mdF (fun y x => (t1 x : Int) == (y : Int)) n1, 0, Nat.mul_le_mul k2 m4, by rw [k3]; exact Nat.mul_le_mul k1 k2, Nat.mul_le_mul m2 k1, fun V q1 c1 p cap q2 c2 h1 hf h2 => ?_, fun V q1 c1 p cap q2 c2 h1 hf h2 => ?_⟩
    · refine (chain_ok (right_of k1 k2 k3 m1 m2 m3 m4 b1 b2 h1 hf h2) (h' * n2) (n1 * w') rfl rfl).mono ?_
      rintro e V' ⟨qa, ca, qb, cb, qc, cc, rfl, ra, rb, rc, hb⟩
      exact ⟨_, _, _, _, _, _, rfl, ra.1.2.2.2, rb.1.2.2.2.congr fun k _ => md_tie f w' k, rc.1.2.2.2, hb⟩
    · refine (rchain_ok (right_of k1 k2 k3 m1 m2 m3 m4 b1 b2 h1 hf h2) (h' * n2) (n1 * w') rfl (Nat.mul_comm _ _)).mono ?_
      rintro e V' ⟨qa, ca, qc, cc, rfl, ra, rc, hb⟩
      exact ⟨_, _, _, _, _, _, rfl, ra.1.2.2.2.congr fun k _ => mk_pick t2 h' k, hf.keep hb, rc.1.2.2.2.congr fun k hk => tu_pick t1 w' n1 k hk, hb⟩
  · refine ⟨0, 0, 0, fun _ => false, 0, 0, 0, fun _ => false, 0, 0, 0, fun _ => false, dE n1 f1 w h n n2 f2, Nat.zero_le _, Nat.zero_le _, Nat.zero_le _, fun V q1 c1 p cap q2 c2 h1 hf h2 => ?_, fun V q1 c1 p cap q2 c2 h1 hf h2 => ?_⟩
    · refine (chain_err q1 n1 c1 f1 w h p n cap q2 n2 c2 f2 V h1 h2 _ rfl (dE_pos e)).mono ?_
      rintro e V' ⟨rfl, hb⟩
      exact ⟨_, _, _, _, _, _, rfl, bs_zero _ _ _ _, bs_zero _ _ _ _, bs_zero _ _ _ _, hb⟩
    · refine (rchain_err q1 n1 c1 f1 w h p n cap q2 n2 c2 f2 V h1 h2 _ rfl (dE_pos e)).mono ?_
      rintro e V' ⟨rfl, hb⟩
      exact ⟨_, _, _, _, _, _, rfl, bs_zero _ _ _ _, bs_zero _ _ _ _, bs_zero _ _ _ _, hb⟩
end Go.Proofs.Ytfbggbalnfbbgaa
