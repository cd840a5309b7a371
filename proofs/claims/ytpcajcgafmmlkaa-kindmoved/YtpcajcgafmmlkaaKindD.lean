/-
  Plain facts: which turns and flips there are.
-/
import Derived.Test.YtpcajcgafmmlkaaKindC
import Derived.Test.YtpcajcgafmmlkaaBA
namespace Go.Proofs.Ytpcajcgafmmlkaa
open Go.RowKit Go.Maps

theorem rot6 : ∀ r1 r2 r3 r4 r5 : Bool, (!(r1 && r1) || r2) = true → (!(r1 && r2) || r3) = true → (!(r1 && r3) || r4) = true → (!(r1 && r4) || r5) = true → (!(r2 && r2) || r4) = true → (!(r2 && r3) || r5) = true → (!(r2 && r5) || r1) = true → (!(r3 && r4) || r1) = true → (!(r3 && r5) || r2) = true → (!(r4 && r4) || r2) = true → (!(r4 && r5) || r3) = true → (!(r5 && r5) || r4) = true →
    (1 + r1.toNat + r2.toNat + r3.toNat + r4.toNat + r5.toNat = 1 ∨ 1 + r1.toNat + r2.toNat + r3.toNat + r4.toNat + r5.toNat = 2 ∨ 1 + r1.toNat + r2.toNat + r3.toNat + r4.toNat + r5.toNat = 3 ∨ 1 + r1.toNat + r2.toNat + r3.toNat + r4.toNat + r5.toNat = 6) ∧ (1 + r1.toNat + r2.toNat + r3.toNat + r4.toNat + r5.toNat = 3 → r2 = true) := by
  intro r1 r2 r3 r4 r5
  cases r1 <;> cases r2 <;> cases r3 <;> cases r4 <;> cases r5 <;> decide
theorem rot4 : ∀ r1 r2 r3 : Bool, (!(r1 && r1) || r2) = true → (!(r1 && r2) || r3) = true → (!(r2 && r3) || r1) = true → (!(r3 && r3) || r2) = true →
    (1 + r1.toNat + r2.toNat + r3.toNat = 1 ∨ 1 + r1.toNat + r2.toNat + r3.toNat = 2 ∨ 1 + r1.toNat + r2.toNat + r3.toNat = 4) := by
  intro r1 r2 r3
  cases r1 <;> cases r2 <;> cases r3 <;> decide
theorem Cn4 (r : Nat → Bool) : Cn r 4 = (r 0).toNat + (r 1).toNat + (r 2).toNat + (r 3).toNat := by
  rw [Cn_succ, Cn_succ, Cn_succ, Cn_succ]
  have : Cn r 0 = 0 := rfl
  rw [this]
  cases r 0 <;> cases r 1 <;> cases r 2 <;> cases r 3 <;> rfl
theorem Cn6 (r : Nat → Bool) : Cn r 6 = (r 0).toNat + (r 1).toNat + (r 2).toNat + (r 3).toNat + (r 4).toNat + (r 5).toNat := by
  rw [Cn_succ, Cn_succ, Cn4]
  cases r 4 <;> cases r 5 <;> rfl
/-- the turns without a flip, and the flips, of a group -/
structure Grp (G : Nat) (r f : Nat → Bool) : Prop where
  hG : G = 4 ∨ G = 6
  one : r 0 = true
  rr : ∀ a b, a < G → b < G → r a = true → r b = true → r ((a + b) % G) = true
  fr : ∀ a b, a < G → b < G → f a = true → r b = true → f ((a + (G - b)) % G) = true
  ff : ∀ a b, a < G → b < G → f a = true → f b = true → r ((a + (G - b)) % G) = true
theorem bimp {a b c : Bool} (h : a = true → b = true → c = true) : (!(a && b) || c) = true := by cases a <;> cases b <;> simp_all
theorem Grp.count {G : Nat} {r f : Nat → Bool} (h : Grp G r f) : (Cn r G = 1 ∨ Cn r G = 2 ∨ Cn r G = 3 ∧ G = 6 ∨ Cn r G = 4 ∧ G = 4 ∨ Cn r G = 6 ∧ G = 6) ∧ (Cn r G = 3 → r 2 = true) := by
  rcases h.hG with rfl | rfl
  · have k := rot4 (r 1) (r 2) (r 3) (bimp (h.rr 1 1 (by omega) (by omega))) (bimp (h.rr 1 2 (by omega) (by omega))) (bimp (h.rr 2 3 (by omega) (by omega))) (bimp (h.rr 3 3 (by omega) (by omega)))
    rw [Cn4, h.one]
    simp only [Bool.toNat_true]
    generalize (r 1).toNat = x1 at *
    generalize (r 2).toNat = x2 at *
    generalize (r 3).toNat = x3 at *
    refine ⟨?_, fun e => by omega⟩
    rcases k with k | k | k
    · exact Or.inl k
    · exact Or.inr (Or.inl k)
    · exact Or.inr (Or.inr (Or.inr (Or.inl ⟨k, trivial⟩)))
  · have k := rot6 (r 1) (r 2) (r 3) (r 4) (r 5) (bimp (h.rr 1 1 (by omega) (by omega))) (bimp (h.rr 1 2 (by omega) (by omega))) (bimp (h.rr 1 3 (by omega) (by omega))) (bimp (h.rr 1 4 (by omega) (by omega))) (bimp (h.rr 2 2 (by omega) (by omega))) (bimp (h.rr 2 3 (by omega) (by omega))) (bimp (h.rr 2 5 (by omega) (by omega))) (bimp (h.rr 3 4 (by omega) (by omega))) (bimp (h.rr 3 5 (by omega) (by omega))) (bimp (h.rr 4 4 (by omega) (by omega))) (bimp (h.rr 4 5 (by omega) (by omega))) (bimp (h.rr 5 5 (by omega) (by omega)))
    rw [Cn6, h.one]
    simp only [Bool.toNat_true]
    refine ⟨?_, k.2⟩
    rcases k.1 with k | k | k | k
    · exact Or.inl k
    · exact Or.inr (Or.inl k)
    · exact Or.inr (Or.inr (Or.inl ⟨k, trivial⟩))
    · exact Or.inr (Or.inr (Or.inr (Or.inr ⟨k, trivial⟩)))
theorem Grp.flips {G : Nat} {r f : Nat → Bool} (h : Grp G r f) : Cn f G = 0 ∨ Cn f G = Cn r G := by
  by_cases hz : ∃ t, t < G ∧ f t = true
  · right
    obtain ⟨t0, ht0, hf0⟩ := hz
    have key : ∀ i, i < G → f i = r ((t0 + (G - i)) % G) := by
      intro i hi
      rw [Bool.eq_iff_iff]
      constructor
      · exact fun k => h.ff t0 i ht0 hi hf0 k
      · intro k
        have hlt : (t0 + (G - i)) % G < G := Nat.mod_lt _ (by omega)
        have := h.fr t0 _ ht0 hlt hf0 k
        have e : (t0 + (G - (t0 + (G - i)) % G)) % G = i := by
          rcases h.hG with rfl | rfl <;> omega
        rw [e] at this
        exact this
    rcases h.hG with rfl | rfl
    · rw [Cn4, Cn4, key 0 (by omega), key 1 (by omega), key 2 (by omega), key 3 (by omega)]
      rcases (show t0 = 0 ∨ t0 = 1 ∨ t0 = 2 ∨ t0 = 3 by omega) with rfl | rfl | rfl | rfl <;> simp only [Nat.reduceAdd, Nat.reduceSub, Nat.reduceMod] <;> omega
    · rw [Cn6, Cn6, key 0 (by omega), key 1 (by omega), key 2 (by omega), key 3 (by omega), key 4 (by omega), key 5 (by omega)]
      rcases (show t0 = 0 ∨ t0 = 1 ∨ t0 = 2 ∨ t0 = 3 ∨ t0 = 4 ∨ t0 = 5 by omega) with rfl | rfl | rfl | rfl | rfl | rfl <;> simp only [Nat.reduceAdd, Nat.reduceSub, Nat.reduceMod] <;> omega
  · left
    rw [Cn_congr f (fun _ => false) G (fun i hi => bfalse (fun k => hz ⟨i, hi, k⟩)), Cn_none]
/-- .. and of a pattern's moves -/
theorem fi_some {L : List Mv} {t : Nat} {f : Bool} : (fi L t f).isSome = true ↔ ∃ X Y, (t, f, X, Y) ∈ L := by
  unfold fi
  rw [List.find?_isSome]
  constructor
  · rintro ⟨⟨a, b, X, Y⟩, hm, k⟩
    simp at k
    obtain ⟨rfl, rfl⟩ := k
    exact ⟨X, Y, hm⟩
  · rintro ⟨X, Y, hm⟩
    exact ⟨_, hm, by simp⟩
theorem moves_grp (w h N : Nat) (px : Nat → Int) (g : Int) (hg : g = 4 ∨ g = 6) (hN : 1 ≤ N) : Grp g.toNat (fun t => (fi (movesL w h N px g) t false).isSome) (fun t => (fi (movesL w h N px g) t true).isSome) := by
  have hA := acts2 w h N px g hg hN
  refine ⟨by omega, fi_some.2 ⟨0, 0, List.mem_of_getElem? (moves_head w h N px g hN hg)⟩, ?_, ?_, ?_⟩
  · intro a b ha hb h1 h2
    obtain ⟨X, Y, m1⟩ := fi_some.1 h1
    obtain ⟨X', Y', m2⟩ := fi_some.1 h2
    have := hA.mem _ m1 _ m2
    unfold mulM at this
    simp only [cT, cF] at this
    rw [show ((((a : Int) + (b : Int)) % g).toNat) = (a + b) % g.toNat by
      rcases hg with rfl | rfl
      · show _ = (a + b) % 4
        omega
      · show _ = (a + b) % 6
        omega] at this
    exact fi_some.2 ⟨_, _, this⟩
  · intro a b ha hb h1 h2
    obtain ⟨X, Y, m1⟩ := fi_some.1 h1
    obtain ⟨X', Y', m2⟩ := fi_some.1 h2
    have := hA.mem _ m1 _ m2
    unfold mulM at this
    simp only [cT, cF] at this
    rw [show ((((a : Int) + (g - (b : Int))) % g).toNat) = (a + (g.toNat - b)) % g.toNat by
      rcases hg with rfl | rfl
      · show _ = (a + (4 - b)) % 4
        have : b < 4 := hb
        omega
      · show _ = (a + (6 - b)) % 6
        have : b < 6 := hb
        omega] at this
    exact fi_some.2 ⟨_, _, this⟩
  · intro a b ha hb h1 h2
    obtain ⟨X, Y, m1⟩ := fi_some.1 h1
    obtain ⟨X', Y', m2⟩ := fi_some.1 h2
    have := hA.mem _ m1 _ m2
    unfold mulM at this
    simp only [cT, cF, Bool.not_true] at this
    rw [show ((((a : Int) + (g - (b : Int))) % g).toNat) = (a + (g.toNat - b)) % g.toNat by
      rcases hg with rfl | rfl
      · show _ = (a + (4 - b)) % 4
        have : b < 4 := hb
        omega
      · show _ = (a + (6 - b)) % 6
        have : b < 6 := hb
        omega] at this
    exact fi_some.2 ⟨_, _, this⟩
end Go.Proofs.Ytpcajcgafmmlkaa

namespace Go.Proofs.Ytpcajcgafmmlkaa
open Go.RowKit Go.Maps

def KindIs (g w h : Int) (p : Option Addr) (n cap : Nat) (W : World) (kd er : Int) : Prop :=
  Calls Try.prog 14 #[Ch.ch g w h p n cap] W fun e w' => e = .returned (.tuple #[.int .i64 kd, .int .i64 er]) ∧ Below W.heap.size W w'
/-- the steps, and the flips, that keep a pattern -/
def stB (w h N : Nat) (px : Nat → Int) (g : Int) (x y : Int) : Bool := kpV w h N px g 0 false (x % N) (y % N)
def flB (w h N : Nat) (px : Nat → Int) (g : Int) (t : Nat) (x y : Int) : Bool := kpV w h N px g t true (x % N) (y % N)
/-- the kind of a pattern -/
def kindO (w h N : Nat) (px : Nat → Int) (g : Int) (s u v : Nat) : Int :=
  kdO (Cn (fun t => (fi (movesL w h N px g) t false).isSome) g.toNat) g.toNat (flF (stB w h N px g) g (movesL w h N px g) s u v) (thB (flB w h N px g) g g.toNat (movesL w h N px g) s u v)

theorem Kind_bad (g w h : Int) (p : Option Addr) (n cap : Nat) (px : Nat → Int) (W : World) (hc : Ch.Cells W p n px) (er : Int) (her : toE g w h n px = er) (hp : 1 ≤ er) : KindIs g w h p n cap W 0 er :=
  Kind_err g w h p n cap W er hp (fun V => Ch.Cells V p n px) (fun _ _ k hb => k.keep hb)
    (fun V k => patternOf_err g w h p n cap V er hp (fun V => Ch.Cells V p n px) (fun _ _ k hb => k.keep hb) (fun V k => moves_err g w h p n cap px V k er her hp) k) hc

theorem Kind_right (g w h : Int) (p : Option Addr) (n cap : Nat) (px : Nat → Int) (w' h' N b o : Nat) (s u v : Nat) (W : World) (r : Right W g w h p n px w' h' N b o) (hs : SideIs (stepK w' h' N px g) N s) (hu : UpIs (stepK w' h' N px g) N s u v) :
    KindIs g w h p n cap W (kindO w' h' N px g s u v) 0 := by
  have hN1 := r.hN1
  have hg := r.hg
  have hf := fine_of w' h' N px g s u v hN1.1 hs hu
  have hs1 := hf.hs
  have hv1 := hf.hv
  have hu1 := hf.hu
  have hG : g = (g.toNat : Int) := by omega
  have hlen := moves_len w' h' N px g hN1.2 hg
  have hLb : ∀ m ∈ movesL w' h' N px g, m.2.2.1 ≤ 24 ∧ m.2.2.2 ≤ 24 := by
    rintro ⟨a, f, X, Y⟩ hm
    obtain ⟨-, hX, hY, -⟩ := (mem_moves w' h' N px g a f X Y hN1.1).1 hm
    exact ⟨by simp only; omega, by simp only; omega⟩
  have h0 : stB w' h' N px g 0 0 = true := by
    unfold stB
    rw [Int.zero_emod]
    exact (kpV_iff w' h' N px g 0 false 0 0 hN1.1).2 (kp_id _ g)
  have hgrp := moves_grp w' h' N px g hg hN1.1
  have kst : ∀ V, Right V g w h p n px w' h' N b o → ∀ x y : Int, -10000 ≤ x ∧ x ≤ 10000 → -10000 ≤ y ∧ y ≤ 10000 → KeepsIs 72 g w h p n cap 0 false x y V (stB w' h' N px g x y) 0 := fun V k x y hx hy =>
    keeps_ok g w h p n cap px w' h' N b o 0 false x y V k (wE_of hg ⟨by omega, by omega⟩ (sm2_of (by omega) (by omega)))
  have kfl : ∀ V, Right V g w h p n px w' h' N b o → ∀ t : Nat, t < g.toNat → ∀ x y : Int, -10000 ≤ x ∧ x ≤ 10000 → -10000 ≤ y ∧ y ≤ 10000 → KeepsIs 72 g w h p n cap t true x y V (flB w' h' N px g t x y) 0 := fun V k t ht x y hx hy =>
    keeps_ok g w h p n cap px w' h' N b o t true x y V k (wE_of hg ⟨by omega, by omega⟩ (sm2_of (by omega) (by omega)))
  refine Kind_ok g w h p n cap (movesL w' h' N px g) s u v _ W (fun V => Right V g w h p n px w' h' N b o) (fun V V' k hb => k.keep hb) (fun V k => ?_) (fun V q cp k hm => ?_) r
  · refine patternOf_ok g w h p n cap (movesL w' h' N px g) s u v ⟨_, moves_head w' h' N px g hN1.1 hg⟩ V (fun V => Right V g w h p n px w' h' N b o) (fun V V' k hb => k.keep hb) (fun V k => ?_) (fun V k => ?_) k
    · refine (moves_ok g w h p n cap px w' h' N b o V k).mono ?_
      rintro e V' ⟨q, cp, rfl, hm, hb⟩
      exact ⟨q, cp, rfl, hm.1, hb⟩
    · refine (finest_ok g w h p n cap px w' h' N b o V k).mono ?_
      rintro e V' ⟨s', u', v', rfl, ⟨hs', hu'⟩, hb⟩
      obtain rfl := side_one hs' hs
      obtain ⟨rfl, rfl⟩ := up_one hu' hu
      exact ⟨rfl, hb⟩
  · have hTle := Cn_le (fun t => (fi (movesL w' h' N px g) t false).isSome) g.toNat
    refine kind_plain g w h p n cap q (movesL w' h' N px g).length cp s u v _ g.toNat _ _ (fun V => Right V g w h p n px w' h' N b o ∧ MRow V q (movesL w' h' N px g)) V (by omega) (fun V V' k hb => ⟨k.1.keep hb, k.2.keep hb⟩)
      (fun V k => turns_any g w h p n cap q cp s u v (movesL w' h' N px g) g.toNat V hG (by omega) hlen k.2)
      (fun V k => flips_any g w h p n cap q cp s u v (movesL w' h' N px g) g.toNat (stB w' h' N px g) (fun V => Right V g w h p n px w' h' N b o) V hg hG (by omega) (by omega) (by omega) h0 hlen hLb (fun V V' k hb => k.keep hb) kst k.2 k.1)
      (fun h3 V k => ?_) ⟨k, hm⟩
    have h2 := (hgrp.count).2 h3
    obtain ⟨⟨a, f, X, Y⟩, hfi⟩ := Option.isSome_iff_exists.1 h2
    have hmem := List.mem_of_find?_eq_some hfi
    have hab : a = 2 ∧ f = false := by have := List.find?_some hfi; simp at this; exact this
    obtain ⟨rfl, rfl⟩ := hab
    have hb2 := hLb _ hmem
    have := thirds_any g w h p n cap q cp s u v (movesL w' h' N px g) X Y g.toNat (flB w' h' N px g) (fun V => Right V g w h p n px w' h' N b o) V hg hG (by omega) (by omega) (by omega) hlen hfi hb2.1 hb2.2 (fun V V' k hb => k.keep hb) kfl k.2 k.1
    unfold thB
    rw [hfi]
    exact this
end Go.Proofs.Ytpcajcgafmmlkaa

namespace Go.Proofs.Ytpcajcgafmmlkaa
open Go.RowKit Go.Maps

theorem hex_right (W : World) (b : Nat) (hr : Ch.Row W b 0 1 (fun _ => 0)) : Right W 6 1 1 (some ⟨b, 0, none⟩) 1 (fun _ => 0) 1 1 1 b 0 := by
  have e : toE 6 1 1 1 (fun _ => 0) = 0 := by decide
  have e2 : toN 6 1 1 1 (fun _ => 0) = 1 := by decide
  exact ⟨Or.inr rfl, ⟨rfl, by omega, by omega⟩, ⟨rfl, by omega, by omega⟩, rfl, rfl, hr, e, e2, by omega, by omega⟩
theorem hex_moves : movesL 1 1 1 (fun _ => 0) 6 = [(0, false, 0, 0), (1, false, 0, 0), (2, false, 0, 0), (3, false, 0, 0), (4, false, 0, 0), (5, false, 0, 0), (0, true, 0, 0), (1, true, 0, 0), (2, true, 0, 0), (3, true, 0, 0), (4, true, 0, 0), (5, true, 0, 0)] := by decide
theorem hex_kind (s u v : Nat) : kindO 1 1 1 (fun _ => 0) 6 s u v = 17 := by
  unfold kindO
  rw [show (6 : Int).toNat = 6 from rfl, hex_moves]
  have hT : Cn (fun t => (fi [(0, false, 0, 0), (1, false, 0, 0), (2, false, 0, 0), (3, false, 0, 0), (4, false, 0, 0), (5, false, 0, 0), (0, true, 0, 0), (1, true, 0, 0), (2, true, 0, 0), (3, true, 0, 0), (4, true, 0, 0), (5, true, 0, 0)] t false).isSome) 6 = 6 := by decide
  rw [hT]
  have hF : ¬ Cn (fun t => (flF (stB 1 1 1 (fun _ => 0) 6) 6 [(0, false, 0, 0), (1, false, 0, 0), (2, false, 0, 0), (3, false, 0, 0), (4, false, 0, 0), (5, false, 0, 0), (0, true, 0, 0), (1, true, 0, 0), (2, true, 0, 0), (3, true, 0, 0), (4, true, 0, 0), (5, true, 0, 0)] s u v t).isSome) 6 = 0 := by
    simp only [flF, Option.isSome_map]
    decide
  unfold kdO
  rw [if_neg hF]
  rfl

set_option maxHeartbeats 1000000 in
theorem kalive_any (w : World) : Calls Try.prog 13 #[] w fun e w' => e = .returned (.bool true) ∧ Below w.heap.size w w' := by
  have R0 : Ch.Row (w.alloc (.cells #[.int .i64 0] 3)) w.heap.size 0 1 (fun _ => 0) := ⟨by simp, fun k hk => by
    have : k = 0 := by omega
    subst this
    simp [go_sem]⟩
  obtain ⟨s, hs⟩ := side_ex (stepK 1 1 1 (fun _ => 0) 6) 1 (by omega)
  obtain ⟨u, v, hu⟩ := up_ex (stepK 1 1 1 (fun _ => 0) 6) 1 s (by omega) hs.1.1
  have HM := hide (Kind_right 6 1 1 (some ⟨w.heap.size, 0, none⟩) 1 1 (fun _ => 0) 1 1 1 w.heap.size 0 s u v _ (hex_right _ _ R0) hs hu)
  rw [hex_kind] at HM
  have B0 := hide (bal (o := .cells #[.int .i64 0] 3) (Below.refl w.heap.size w))
  clear R0 hs hu
  go_enter Try.func13, Try.ntmps13
  go_wp2_with fail
  refine (unhide HM).mono ?_
  rintro e w1 ⟨rfl, hb⟩
  have S := btrans (unhide B0) hb
  clear HM hb
  go_wp2
  go_ret
  exact ⟨rfl, S⟩

/-- turns and flips of a kind -/
def tuO (k : Nat) : Nat := ([0, 1, 2, 1, 1, 1, 2, 2, 2, 2, 4, 4, 4, 3, 3, 3, 6, 6] : List Nat).getD k 0
def tuF (k : Nat) : Nat := if k = 1 ∨ k = 2 ∨ k = 10 ∨ k = 13 ∨ k = 16 then 0 else tuO k
set_option maxHeartbeats 2000000 in
theorem kturns_any (k : Nat) (W : World) (hk : 1 ≤ k ∧ k ≤ 17) : Calls Try.prog 17 #[.int .i64 k] W fun e w' => e = .returned (.tuple #[.int .i64 (tuO k), .int .i64 (tuF k)]) ∧ Below W.heap.size W w' := by
  rcases (show k = 1 ∨ k = 2 ∨ k = 3 ∨ k = 4 ∨ k = 5 ∨ k = 6 ∨ k = 7 ∨ k = 8 ∨ k = 9 ∨ k = 10 ∨ k = 11 ∨ k = 12 ∨ k = 13 ∨ k = 14 ∨ k = 15 ∨ k = 16 ∨ k = 17 by omega) with rfl | rfl | rfl | rfl | rfl | rfl | rfl | rfl | rfl | rfl | rfl | rfl | rfl | rfl | rfl | rfl | rfl
  all_goals
    go_enter Try.func17, Try.ntmps17
    go_wp2
    refine bodyPost_ret ?_ rfl ⟨rfl, bal (Below.refl _ _)⟩
    simp [results, Try.results17, tuO, tuF]

/-! ### the kind says how many turns and flips there are -/
theorem Cn_two {p : Nat → Bool} {M i j : Nat} (h : Cn p M = 1) (hi : i < M) (hj : j < M) (pi : p i = true) (pj : p j = true) : i = j := by
  rcases Nat.decEq i j with ne | e
  · exfalso
    have := inj_len (fun x : Nat => x) [i, j] ((List.range M).filter p) (by simp [ne]) (by intro a ha; simp at ha; rcases ha with rfl | rfl <;> simp [*]) (by intro a _ b _ e; exact e)
    unfold Cn at h
    rw [h] at this
    simp at this
  · exact e
theorem cho_one {G : Nat} {F : Nat → Option (Bool × Bool)} (h : Cn (fun t => (F t).isSome) G = 1) (hF : ∀ t c, F t = some c → c ≠ (false, false)) : chO G F 3 4 5 0 = 3 ∨ chO G F 3 4 5 0 = 4 ∨ chO G F 3 4 5 0 = 5 := by
  obtain ⟨t0, ht0, hs0⟩ : ∃ t, t < G ∧ (F t).isSome = true := by
    unfold Cn at h
    obtain ⟨t, ht⟩ := List.exists_mem_of_ne_nil ((List.range G).filter (fun t => (F t).isSome)) (fun e => by rw [e] at h; cases h)
    have := List.mem_filter.1 ht
    exact ⟨t, List.mem_range.1 this.1, this.2⟩
  obtain ⟨c, hc⟩ := Option.isSome_iff_exists.1 hs0
  have key : ∀ d, c = d → allW G F (fun h => h == d) = true := by
    intro d e
    rw [allW_iff]
    intro t h' ht hh
    have := Cn_two h ht ht0 (by rw [hh]; rfl) hs0
    subst this
    rw [hc] at hh
    cases hh
    simp [e]
  unfold chO
  by_cases h1 : allW G F (fun h => h == (true, false)) = true
  · rw [if_pos h1]; exact Or.inl rfl
  · rw [if_neg h1]
    by_cases h2 : allW G F (fun h => h == (false, true)) = true
    · rw [if_pos h2]; exact Or.inr (Or.inl rfl)
    · rw [if_neg h2]
      by_cases h3 : allW G F (fun h => h == (true, true)) = true
      · rw [if_pos h3]; exact Or.inr (Or.inr rfl)
      · exfalso
        have n0 := hF t0 c hc
        rcases c with ⟨a, b⟩
        cases a <;> cases b
        · exact n0 rfl
        · exact h2 (key _ rfl)
        · exact h1 (key _ rfl)
        · exact h3 (key _ rfl)
theorem cho_any (G : Nat) (F : Nat → Option (Bool × Bool)) (a b c d : Int) : chO G F a b c d = a ∨ chO G F a b c d = b ∨ chO G F a b c d = c ∨ chO G F a b c d = d := by
  unfold chO
  split
  · exact Or.inl rfl
  · split
    · exact Or.inr (Or.inl rfl)
    · split
      · exact Or.inr (Or.inr (Or.inl rfl))
      · exact Or.inr (Or.inr (Or.inr rfl))
theorem flF_some {K : Int → Int → Bool} {g : Int} {L : List Mv} {s u v t : Nat} {c : Bool × Bool} (h : flF K g L s u v t = some c) : c ≠ (false, false) := by
  unfold flF at h
  rw [Option.map_eq_some_iff] at h
  obtain ⟨m, -, rfl⟩ := h
  intro e
  rw [Prod.mk.injEq, List.any_eq_false, List.any_eq_false] at e
  have hmem : bMv t true m.2.2.1 m.2.2.2 s u v 0 0 ∈ bAll t true m.2.2.1 m.2.2.2 s u v 2 2 := by
    unfold bAll bRow
    rw [List.mem_flatMap]
    exact ⟨0, by simp, List.mem_map.2 ⟨0, by simp, rfl⟩⟩
  have a := e.1 _ hmem
  have b := e.2 _ hmem
  simp only [Bool.not_eq_true', Bool.not_eq_true] at a b
  exact a b
theorem kd_turns {T G : Nat} {F : Nat → Option (Bool × Bool)} {th : Bool} {FT : Nat} (hFT : FT = Cn (fun t => (F t).isSome) G) (hT : T = 1 ∨ T = 2 ∨ T = 3 ∧ G = 6 ∨ T = 4 ∧ G = 4 ∨ T = 6 ∧ G = 6) (hfl : FT = 0 ∨ FT = T) (hF : ∀ t c, F t = some c → c ≠ (false, false)) :
    ∃ k : Nat, kdO T G F th = k ∧ (1 ≤ k ∧ k ≤ 17) ∧ tuO k = T ∧ tuF k = FT := by
  unfold kdO
  rw [← hFT]
  by_cases hz : FT = 0
  · rw [if_pos hz, hz]
    rcases hT with rfl | rfl | ⟨rfl, -⟩ | ⟨rfl, -⟩ | ⟨rfl, -⟩
    · exact ⟨1, rfl, by omega, rfl, rfl⟩
    · exact ⟨2, rfl, by omega, rfl, rfl⟩
    · exact ⟨13, rfl, by omega, rfl, rfl⟩
    · exact ⟨10, rfl, by omega, rfl, rfl⟩
    · exact ⟨16, rfl, by omega, rfl, rfl⟩
  · rw [if_neg hz]
    have e : FT = T := hfl.resolve_left hz
    rw [e]
    rcases hT with rfl | rfl | ⟨rfl, -⟩ | ⟨rfl, -⟩ | ⟨rfl, -⟩
    · rw [if_pos rfl]
      rcases cho_one (by rw [← hFT, e]) hF with k | k | k
      · exact ⟨3, k, by omega, rfl, rfl⟩
      · exact ⟨4, k, by omega, rfl, rfl⟩
      · exact ⟨5, k, by omega, rfl, rfl⟩
    · rw [if_neg (by omega), if_pos rfl]
      rcases cho_any G F 6 8 9 7 with k | k | k | k
      · exact ⟨6, k, by omega, rfl, rfl⟩
      · exact ⟨8, k, by omega, rfl, rfl⟩
      · exact ⟨9, k, by omega, rfl, rfl⟩
      · exact ⟨7, k, by omega, rfl, rfl⟩
    · rw [if_neg (by omega), if_neg (by omega), if_pos rfl]
      cases th
      · exact ⟨15, rfl, by omega, rfl, rfl⟩
      · exact ⟨14, rfl, by omega, rfl, rfl⟩
    · rw [if_neg (by omega), if_neg (by omega), if_neg (by omega), if_pos rfl]
      cases allW G F (fun h => h.1)
      · exact ⟨12, rfl, by omega, rfl, rfl⟩
      · exact ⟨11, rfl, by omega, rfl, rfl⟩
    · rw [if_neg (by omega), if_neg (by omega), if_neg (by omega), if_neg (by omega)]
      exact ⟨17, rfl, by omega, rfl, rfl⟩
end Go.Proofs.Ytpcajcgafmmlkaa

namespace Go.Proofs.Ytpcajcgafmmlkaa
open Go.RowKit Go.Maps

def cntL (f : Bool) (L : List Mv) : Nat := (L.filter fun m => m.2.1 == f).length
theorem cntL_append (f : Bool) (A B : List Mv) : cntL f (A ++ B) = cntL f A + cntL f B := by unfold cntL; rw [List.filter_append, List.length_append]
theorem rowM_mem {K : Nat → Bool → Nat → Bool} {N t M : Nat} {f : Bool} {m : Mv} (h : m ∈ rowM K N t f M) : m.1 = t ∧ m.2.1 = f := by
  unfold rowM at h
  rw [List.mem_map] at h
  obtain ⟨j, _, rfl⟩ := h
  exact ⟨rfl, rfl⟩
theorem rowM_cn (K : Nat → Bool → Nat → Bool) (N t M : Nat) (f : Bool) : (rowM K N t f M).length = Cn (K t f) M := by
  unfold rowM Cn
  rw [List.length_map]
theorem cntL_row (K : Nat → Bool → Nat → Bool) (N t M : Nat) (f f' : Bool) : cntL f (rowM K N t f' M) = if f' = f then Cn (K t f') M else 0 := by
  unfold cntL
  by_cases e : f' = f
  · subst e
    rw [if_pos rfl, List.filter_eq_self.2 (fun m hm => by simp [(rowM_mem hm).2]), rowM_cn]
  · rw [if_neg e, List.filter_eq_nil_iff.2 (fun m hm => by simp [(rowM_mem hm).2, e])]
    rfl
/-- all rows of a flip together -/
theorem cntL_turns (K : Nat → Bool → Nat → Bool) (N M : Nat) (f : Bool) (c0 : Nat) (r : Nat → Bool) : ∀ G : Nat, (∀ t, t < G → Cn (K t f) M = if r t = true then c0 else 0) → cntL f ((List.range G).flatMap fun t => rowM K N t f M) = Cn r G * c0 := by
  intro G
  induction G with
  | zero => intro _; simp [cntL, Cn]
  | succ G ih =>
    intro h
    rw [List.range_succ, List.flatMap_append, cntL_append, ih (fun t ht => h t (by omega)), Cn_succ]
    simp only [List.flatMap_cons, List.flatMap_nil, List.append_nil]
    rw [cntL_row, if_pos rfl, h G (by omega), Nat.add_mul]
    congr 1
    by_cases e : r G = true <;> simp [e]
theorem cntL_other (K : Nat → Bool → Nat → Bool) (N M : Nat) (f f' : Bool) (hne : f' ≠ f) : ∀ G : Nat, cntL f ((List.range G).flatMap fun t => rowM K N t f' M) = 0 := by
  intro G
  induction G with
  | zero => simp [cntL]
  | succ G ih =>
    rw [List.range_succ, List.flatMap_append, cntL_append, ih]
    simp only [List.flatMap_cons, List.flatMap_nil, List.append_nil]
    rw [cntL_row, if_neg hne]
theorem moves_two (w h N : Nat) (px : Nat → Int) (g : Int) : movesL w h N px g = ((List.range g.toNat).flatMap fun t => rowM (keepsK w h N px g) N t false (N * N)) ++ ((List.range g.toNat).flatMap fun t => rowM (keepsK w h N px g) N t true (N * N)) := by
  unfold movesL allM turnsM
  simp [List.range_succ, flipOf]
theorem row_some (w h N : Nat) (px : Nat → Int) (g : Int) (t : Nat) (f : Bool) (hg : g = 4 ∨ g = 6) (hN : 1 ≤ N) (ht : t < g.toNat) : Cn (keepsK w h N px g t f) (N * N) = if (fi (movesL w h N px g) t f).isSome = true then Cn (keepsK w h N px g 0 false) (N * N) else 0 := by
  by_cases hs : (fi (movesL w h N px g) t f).isSome = true
  · rw [if_pos hs]
    refine (coset w h N px g t f hg (by omega) hN).resolve_left (fun e => ?_)
    obtain ⟨X, Y, hm⟩ := fi_some.1 hs
    obtain ⟨-, hX, hY, hk⟩ := (mem_moves w h N px g t f X Y hN).1 hm
    have hlt : Y * N + X < N * N := by
      have := Nat.mul_le_mul_right N (show Y + 1 ≤ N by omega)
      rw [Nat.add_mul] at this
      omega
    have : Y * N + X ∈ (List.range (N * N)).filter (keepsK w h N px g t f) := by
      rw [List.mem_filter, List.mem_range]
      refine ⟨hlt, (keepsK_iff w h N px g t f _ hN).2 ?_⟩
      rw [Nat.mul_comm Y N, Nat.mul_add_mod, Nat.mod_eq_of_lt hX, Nat.mul_add_div (by omega), Nat.div_eq_of_lt hX, Nat.add_zero]
      exact hk
    unfold Cn at e
    rw [List.length_eq_zero_iff] at e
    rw [e] at this
    cases this
  · rw [if_neg hs]
    unfold Cn
    rw [List.length_eq_zero_iff, List.filter_eq_nil_iff]
    intro j hj hk
    rw [List.mem_range] at hj
    refine hs (fi_some.2 ⟨j % N, j / N, (mem_moves w h N px g t f _ _ hN).2 ⟨ht, Nat.mod_lt _ (by omega), (Nat.div_lt_iff_lt_mul (by omega)).2 hj, (keepsK_iff w h N px g t f j hN).1 hk⟩⟩)
theorem cnt_moves (w h N : Nat) (px : Nat → Int) (g : Int) (hg : g = 4 ∨ g = 6) (hN : 1 ≤ N) (f : Bool) : cntL f (movesL w h N px g) = Cn (fun t => (fi (movesL w h N px g) t f).isSome) g.toNat * Cn (keepsK w h N px g 0 false) (N * N) := by
  have hr := cntL_turns (keepsK w h N px g) N (N * N) f (Cn (keepsK w h N px g 0 false) (N * N)) (fun t => (fi (movesL w h N px g) t f).isSome) g.toNat (fun t ht => row_some w h N px g t f hg hN ht)
  rw [← hr]
  conv => lhs; rw [moves_two]
  rw [cntL_append]
  cases f
  · rw [cntL_other _ _ _ false true (by simp)]; omega
  · rw [cntL_other _ _ _ true false (by simp)]; omega
/-- the first k moves -/
theorem cntL_take (f : Bool) (L : List Mv) (k : Nat) (m : Mv) (h : L[k]? = some m) : cntL f (L.take (k + 1)) = cntL f (L.take k) + (if m.2.1 = f then 1 else 0) := by
  rw [List.take_add_one, h, cntL_append]
  congr 1
  unfold cntL
  by_cases e : m.2.1 = f <;> simp [e]
theorem cntL_le (f : Bool) (L : List Mv) (k : Nat) : cntL f (L.take k) ≤ k := by
  unfold cntL
  exact Nat.le_trans (List.length_filter_le _ _) (by rw [List.length_take]; exact Nat.min_le_left _ _)
end Go.Proofs.Ytpcajcgafmmlkaa

namespace Go.Proofs.Ytpcajcgafmmlkaa
open Go.RowKit Go.Maps

def CountsIs (g w h : Int) (p : Option Addr) (n cap : Nat) (W : World) : Prop :=
  Calls Try.prog 5 #[Ch.ch g w h p n cap] W fun e w' => e = .returned (.bool true) ∧ Below W.heap.size W w'

set_option maxHeartbeats 1500000 in
set_option maxRecDepth 100000 in
theorem counts_err (g w h : Int) (p : Option Addr) (n cap : Nat) (px : Nat → Int) (W : World) (hc : Ch.Cells W p n px) (er : Int) (her : toE g w h n px = er) (hp : 1 ≤ er) : CountsIs g w h p n cap W := by
  have HK := hide (fun V (hc : Ch.Cells V p n px) => Kind_bad g w h p n cap px V hc er her hp)
  have B0 := bal (o := .cells #[.int .i64 g, .int .i64 w, .int .i64 h, .slice p n cap] 24) (Below.refl W.heap.size W)
  have Hc := hide (hc.keep B0)
  have HB := hide B0
  have HC0 := hide (Ch.OwnC.new W g w h p n cap 24)
  have hee : (er != 0) = true := by simp; omega
  clear hc B0 hp her
  unfold CountsIs
  go_enter Try.func5, Try.ntmps5
  go_wp2_with fail
  generalize W.alloc (.cells #[.int .i64 g, .int .i64 w, .int .i64 h, .slice p n cap] 24) = w0 at *
  refine (kalive_any _).mono ?_
  rintro e w1 ⟨rfl, hb⟩
  have S1 := hb
  have c := ((unhide HC0).keep S1).2
  go_wp2_with fail
  clear c
  refine (unhide HK _ ((unhide Hc).keep S1)).mono ?_
  rintro e w2 ⟨rfl, hb⟩
  have S2 := btrans S1 hb
  clear hb S1
  go_wp2
  go_ret
  exact ⟨ret_bool (by simp), btrans (unhide HB) S2⟩

set_option maxHeartbeats 3000000 in
set_option maxRecDepth 100000 in
theorem counts_plain (g w h : Int) (p : Option Addr) (n cap : Nat) (N s u v k T FT c0 : Nat) (L : List Mv) (Rc : World → Prop) (W : World) (hg : g = 4 ∧ T ≠ 3 ∧ T ≠ 6 ∨ g = 6 ∧ T ≠ 4) (hN : 1 ≤ N ∧ N ≤ 24) (hs : 1 ≤ s ∧ s ≤ 24) (hv : 1 ≤ v ∧ v ≤ 24) (hk : 1 ≤ k ∧ k ≤ 17) (hT : T ≤ 6) (hFT : FT ≤ 6) (hc0 : c0 ≤ 576) (hL : L.length ≤ 6912)
    (hdiv : c0 * s * v = N * N) (h1 : cntL false L = T * c0) (h2 : cntL true L = FT * c0) (hRc : ∀ V V', Rc V → Below V.heap.size V V' → Rc V')
    (H14 : ∀ V, Rc V → KindIs g w h p n cap V k 0)
    (H17 : ∀ V : World, Calls Try.prog 17 #[.int .i64 k] V fun e w' => e = .returned (.tuple #[.int .i64 T, .int .i64 FT]) ∧ Below V.heap.size V w')
    (H8 : ∀ V, Rc V → Calls Try.prog 8 #[Ch.ch g w h p n cap] V fun e w' => ∃ q cp, e = .returned (.tuple #[.slice (some ⟨q, 0, none⟩) L.length cp, .int .i64 0]) ∧ MRow w' q L ∧ Below V.heap.size V w')
    (H9 : ∀ V, Rc V → Calls Try.prog 9 #[Ch.ch g w h p n cap] V fun e w' => e = .returned (.tuple #[.int .i64 N, .int .i64 0]) ∧ Below V.heap.size V w')
    (H16 : ∀ V, Rc V → Calls Try.prog 16 #[Ch.ch g w h p n cap] V fun e w' => e = .returned (.tuple #[.agg #[.int .i64 s, .int .i64 0], .agg #[.int .i64 u, .int .i64 v], .int .i64 0]) ∧ Below V.heap.size V w')
    (hc : Rc W) : CountsIs g w h p n cap W := by
  have K14 := hide H14
  have K17 := hide H17
  have K8 := hide H8
  have K9 := hide H9
  have K16 := hide H16
  have HRc := hide hRc
  have Hh1 := hide h1
  have Hh2 := hide h2
  have Hdiv := hide hdiv
  have Hg := hide hg
  have B0 := bal (o := .cells #[.int .i64 g, .int .i64 w, .int .i64 h, .slice p n cap] 24) (Below.refl W.heap.size W)
  have Hc := hide (hRc _ _ hc B0)
  have HB := hide B0
  have HC0 := hide (Ch.OwnC.new W g w h p n cap 24)
  clear hc B0 H14 H17 H8 H9 H16 hRc h1 h2 hdiv hg
  unfold CountsIs
  go_enter Try.func5, Try.ntmps5
  go_wp2_with fail
  generalize W.alloc (.cells #[.int .i64 g, .int .i64 w, .int .i64 h, .slice p n cap] 24) = w0 at *
  refine (kalive_any _).mono ?_
  rintro e w1 ⟨rfl, hb⟩
  have S1 := hb
  have c := ((unhide HC0).keep S1).2
  go_wp2_with fail
  clear c
  refine (unhide K14 _ (unhide HRc _ _ (unhide Hc) S1)).mono ?_
  rintro e w2 ⟨rfl, hb⟩
  have S2 := btrans S1 hb
  have c := ((unhide HC0).keep S2).2
  clear hb S1 K14
  go_wp2_with fail
  clear c
  refine (unhide K8 _ (unhide HRc _ _ (unhide Hc) S2)).mono ?_
  rintro e w3 ⟨q, cp, rfl, hm, hb⟩
  have S3 := btrans S2 hb
  have Hm3 := hide hm
  have c := ((unhide HC0).keep S3).2
  clear hb S2 hm K8
  go_wp2_with fail
  clear c
  refine (unhide K9 _ (unhide HRc _ _ (unhide Hc) S3)).mono ?_
  rintro e w4 ⟨rfl, hb⟩
  have S4 := btrans S3 hb
  have Hm4 := hide ((unhide Hm3).keep hb)
  have c := ((unhide HC0).keep S4).2
  clear hb S3 Hm3 K9
  go_wp2_with fail
  clear c
  refine (unhide K16 _ (unhide HRc _ _ (unhide Hc) S4)).mono ?_
  rintro e w5 ⟨rfl, hb⟩
  have hb5 := bal (o := .cells #[.int .i64 u, .int .i64 v] 36) (bal (o := .cells #[.int .i64 s, .int .i64 0] 36) hb)
  have S5 := btrans S4 hb5
  have Hm5 := hide ((unhide Hm4).keep hb5)
  have A0 := (Own.new w5 s 0 36).alloc (.cells #[.int .i64 u, .int .i64 v] 36)
  have HA := hide A0
  have A1 := Own.new (w5.alloc (.cells #[.int .i64 s, .int .i64 0] 36)) u v 36
  rw [World.size_alloc] at A1
  have HU := hide A1
  have a := A0.2.1
  have b := A1.2.1
  have d1 : decide ((s : Int) < 1) = false := by simp; omega
  have d2 : decide ((v : Int) < 1) = false := by simp; omega
  have d3 : decide ((k : Int) < 1) = false := by simp; omega
  have d4 : decide ((17 : Int) < (k : Int)) = false := by simp; omega
  clear hb hb5 S4 A0 A1 Hm4 K16
  go_wp2_with fail
  clear a b d1 d2 d3 d4
  generalize (w5.alloc (.cells #[.int .i64 s, .int .i64 0] 36)).alloc (.cells #[.int .i64 u, .int .i64 v] 36) = w6 at *
  generalize w5.heap.size = ba at *
  refine (unhide K17 _).mono ?_
  rintro e w7 ⟨rfl, hb⟩
  have HS7 := hide (btrans S5 hb)
  have Hm := hide ((unhide Hm5).keep hb)
  have a := ((unhide HA).keep hb).2.1
  have b := ((unhide HU).keep hb).2.1
  have c := ((unhide HC0).keep (btrans S5 hb)).2
  clear hb S5 Hm5 HA HU K17
  have t3 : T ≠ 3 → ((T : Int) == 3) = false := by simp; omega
  have t6 : T ≠ 6 → ((T : Int) == 6) = false := by simp; omega
  have t4 : T ≠ 4 → ((T : Int) == 4) = false := by simp; omega
  have hNN : N * N ≤ 576 := Nat.mul_le_mul hN.2 hN.2
  have hsv : s * v ≤ 576 := Nat.mul_le_mul hs.2 hv.2
  have hsv1 : 1 ≤ s * v := Nat.mul_pos hs.1 hv.1
  have hq : N * N / (s * v) = c0 := by
    rw [← unhide Hdiv, Nat.mul_assoc]
    exact Nat.mul_div_cancel _ hsv1
  have m1 : IntKind.i64.wrap ((N : Int) * (N : Int)) = ((N * N : Nat) : Int) := by rw [← Int.natCast_mul]; exact (Go.IntWalk.i64_left _).trans (Go.IntWalk.wrap64_in _ (by omega))
  have m2 : IntKind.i64.wrap ((s : Int) * (v : Int)) = ((s * v : Nat) : Int) := by rw [← Int.natCast_mul]; exact (Go.IntWalk.i64_left _).trans (Go.IntWalk.wrap64_in _ (by omega))
  generalize hNNe : N * N = NN at *
  generalize hsve : s * v = SV at *
  have m3 : ((NN : Int)).tdiv (SV : Int) = (c0 : Int) := by rw [← hq]; exact (Int.ofNat_tdiv NN SV).symm
  have m0 : ¬ ((SV : Int) = 0) := by omega
  clear hq hNNe hsve
  rcases unhide Hg with ⟨rfl, g1, g2⟩ | ⟨rfl, g1⟩
  all_goals
    first
      | (have e3 := t3 g1; have e6 := t6 g2)
      | (have e4 := t4 g1)
    clear t3 t6 t4
    go_wp2
    clear a b c m0 m1 m2 m3
    go_loopw [14, 15, 107] (fun x y i wr => ∃ j : Nat, j ≤ L.length ∧ i = .int .i64 j ∧ x = .int .i64 (cntL false (L.take j)) ∧ y = .int .i64 (cntL true (L.take j)) ∧ Below w7.heap.size w7 wr) (fun _ _ i _ => L.length - (intOf i).toNat)
    case atStart => exact ⟨0, Nat.zero_le _, rfl, by simp [cntL], by simp [cntL], Below.refl _ _⟩
    case round =>
      obtain ⟨j, hj, rfl, rfl, rfl, hbel⟩ := hrel
      have l1 := cntL_le false L j
      have l2 := cntL_le true L j
      by_cases hlt : j < L.length
      · have q1 : (0 : Int) ≤ (j : Int) := by omega
        have q2 : (j : Int) < (L.length : Int) := by omega
        obtain ⟨⟨a, b, X, Y⟩, hmk⟩ : ∃ m, L[j]? = some m := ⟨_, List.getElem?_eq_getElem hlt⟩
        have p1 := ((unhide Hm).keep hbel).2 j _ hmk
        have Hc1 := hide (cntL_take false L j _ hmk)
        have Hc2 := hide (cntL_take true L j _ hmk)
        generalize cntL false (L.take j) = x at *
        generalize cntL true (L.take j) = y at *
        have HSN := hide (bal (o := .cells #[.int .i64 a, .bool b, .int .i64 X, .int .i64 Y] 38) hbel)
        have Hl := hide hlt
        clear hmk hbel hlt
        cases b with
        | true =>
          have Hd1 := hide (show cntL false (L.take (j + 1)) = x by rw [unhide Hc1]; simp)
          have Hd2 := hide (show cntL true (L.take (j + 1)) = y + 1 by rw [unhide Hc2]; simp)
          clear Hc1 Hc2
          go_wp2
          go_roundw
          case rel => exact ⟨j + 1, unhide Hl, by go_num, by rw [unhide Hd1], by rw [unhide Hd2]; go_num, unhide HSN⟩
          case measure => have := unhide Hl; simp [intOf]; omega
        | false =>
          have Hd1 := hide (show cntL false (L.take (j + 1)) = x + 1 by rw [unhide Hc1]; simp)
          have Hd2 := hide (show cntL true (L.take (j + 1)) = y by rw [unhide Hc2]; simp)
          clear Hc1 Hc2
          go_wp2
          go_roundw
          case rel => exact ⟨j + 1, unhide Hl, by go_num, by rw [unhide Hd1]; go_num, by rw [unhide Hd2], unhide HSN⟩
          case measure => have := unhide Hl; simp [intOf]; omega
      · have cl : ¬ ((j : Int) < (L.length : Int)) := by omega
        have e : L.length = j := by omega
        have x1 : cntL false (L.take j) = T * c0 := by rw [← e, List.take_length]; exact unhide Hh1
        have x2 : cntL true (L.take j) = FT * c0 := by rw [← e, List.take_length]; exact unhide Hh2
        rw [x1, x2]
        have b1 : T * c0 ≤ 3456 := Nat.mul_le_mul hT hc0
        have b2 : FT * c0 ≤ 3456 := Nat.mul_le_mul hFT hc0
        have n1 : IntKind.i64.wrap ((T : Int) * (c0 : Int)) = ((T * c0 : Nat) : Int) := by rw [← Int.natCast_mul]; exact (Go.IntWalk.i64_left _).trans (Go.IntWalk.wrap64_in _ (by omega))
        have n2 : IntKind.i64.wrap ((FT : Int) * (c0 : Int)) = ((FT * c0 : Nat) : Int) := by rw [← Int.natCast_mul]; exact (Go.IntWalk.i64_left _).trans (Go.IntWalk.wrap64_in _ (by omega))
        generalize T * c0 = P1 at *
        generalize FT * c0 = P2 at *
        have HSe := hide (btrans (unhide HB) (btrans (unhide HS7) hbel))
        clear hbel hj hlt e x1 x2 l1 l2
        go_wp2
        go_ret
        exact ⟨ret_bool (by simp), unhide HSe⟩
end Go.Proofs.Ytpcajcgafmmlkaa

namespace Go.Proofs.Ytpcajcgafmmlkaa
open Go.RowKit Go.Maps

/-- the kind of a pattern, and how many turns and flips it has -/
theorem kind_turns (w h N : Nat) (px : Nat → Int) (g : Int) (s u v : Nat) (hg : g = 4 ∨ g = 6) (hN : 1 ≤ N) :
    ∃ k : Nat, kindO w h N px g s u v = k ∧ (1 ≤ k ∧ k ≤ 17) ∧ tuO k = Cn (fun t => (fi (movesL w h N px g) t false).isSome) g.toNat ∧ tuF k = Cn (fun t => (fi (movesL w h N px g) t true).isSome) g.toNat := by
  have hgr := moves_grp w h N px g hg hN
  unfold kindO
  refine kd_turns ?_ hgr.count.1 hgr.flips (fun t c hc => flF_some hc)
  refine Cn_congr _ _ _ (fun t _ => ?_)
  unfold flF
  rw [Option.isSome_map]

theorem counts_ok (g w h : Int) (p : Option Addr) (n cap : Nat) (px : Nat → Int) (w' h' N b o : Nat) (W : World) (r : Right W g w h p n px w' h' N b o) : CountsIs g w h p n cap W := by
  have hN1 := r.hN1
  have hg := r.hg
  obtain ⟨s, hs⟩ := side_ex (stepK w' h' N px g) N hN1.1
  obtain ⟨u, v, hu⟩ := up_ex (stepK w' h' N px g) N s hN1.1 hs.1.1
  have hf := fine_of w' h' N px g s u v hN1.1 hs hu
  have hs1 := hf.hs
  have hv1 := hf.hv
  obtain ⟨k, ek, hk, hT, hF⟩ := kind_turns w' h' N px g s u v hg hN1.1
  have hgr := moves_grp w' h' N px g hg hN1.1
  have hcnt := hf.count hN1.1 (pat_per w' h' N px) (keepsK w' h' N px g 0 false) (fun j => by rw [keepsK_iff w' h' N px g 0 false j hN1.1, kp_step])
  have c1 := cnt_moves w' h' N px g hg hN1.1 false
  have c2 := cnt_moves w' h' N px g hg hN1.1 true
  rw [← hT] at c1
  rw [← hF] at c2
  have hcle := Cn_le (keepsK w' h' N px g 0 false) (N * N)
  have hNN : N * N ≤ 576 := Nat.mul_le_mul hN1.2 hN1.2
  have t1 := Cn_le (fun t => (fi (movesL w' h' N px g) t false).isSome) g.toNat
  have t2 := Cn_le (fun t => (fi (movesL w' h' N px g) t true).isSome) g.toNat
  have hcases := hgr.count.1
  rw [← hT] at t1 hcases
  rw [← hF] at t2
  refine counts_plain g w h p n cap N s u v k (tuO k) (tuF k) (Cn (keepsK w' h' N px g 0 false) (N * N)) (movesL w' h' N px g) (fun V => Right V g w h p n px w' h' N b o) W ?_ hN1 (by omega) (by omega) hk (by omega) (by omega) (by omega) (moves_len w' h' N px g hN1.2 hg) hcnt c1 c2 (fun V V' k hb => k.keep hb)
    (fun V k' => ?_) (fun V => kturns_any k V hk) (fun V k' => ?_) (fun V k' => ?_) (fun V k' => ?_) r
  · rcases hg with rfl | rfl
    · left
      refine ⟨rfl, ?_, ?_⟩ <;> intro e <;> rw [e] at hcases <;> simp at hcases
    · right
      refine ⟨rfl, ?_⟩
      intro e
      rw [e] at hcases
      simp at hcases
  · have := Kind_right g w h p n cap px w' h' N b o s u v V k' hs hu
    rw [ek] at this
    exact this
  · refine (moves_ok g w h p n cap px w' h' N b o V k').mono ?_
    rintro e V' ⟨q, cp, rfl, hm, hb⟩
    exact ⟨q, cp, rfl, hm.1, hb⟩
  · have := torus_any g w h p n cap px V (Or.inr ⟨b, o, k'.hp, k'.row⟩)
    rw [k'.hE, k'.hN] at this
    exact this
  · refine (finest_ok g w h p n cap px w' h' N b o V k').mono ?_
    rintro e V' ⟨s', u', v', rfl, ⟨hs', hu'⟩, hb⟩
    obtain rfl := side_one hs' hs
    obtain ⟨rfl, rfl⟩ := up_one hu' hu
    exact ⟨rfl, hb⟩

theorem counts_walk (g w h : Int) (p : Option Addr) (n cap : Nat) (px : Nat → Int) (W : World) (hc : Ch.Cells W p n px) : CountsIs g w h p n cap W := by
  by_cases he : toE g w h n px = 0
  · obtain ⟨w', h', N, b, o, r⟩ := right_of hc he
    exact counts_ok g w h p n cap px w' h' N b o W r
  · exact counts_err g w h p n cap px W hc _ rfl (toE_pos he)
end Go.Proofs.Ytpcajcgafmmlkaa
