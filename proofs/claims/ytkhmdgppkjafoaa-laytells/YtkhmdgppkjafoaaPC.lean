/-
  highestFirst of package lay: the places of pieces, the highest first.
-/
import Derived.Test.YtkhmdgppkjafoaaPB
import Derived.Test.YtkhmdgppkjafoaaStE
namespace Go.Proofs.Ytkhmdgppkjafoaa
open Go.RowKit

set_option maxHeartbeats 400000 in
theorem isnan_any (x : Nat) (V : World) : Calls Try.prog 25 #[.int .i64 x] V fun e V' => e = .returned (.bool false) ∧ V' = V := by
  have h : ((x : Int) != (x : Int)) = false := by simp
  go_enter Try.func25, Try.ntmps25
  go_wp2
  go_ret
  exact ⟨rfl, rfl⟩
set_option maxHeartbeats 1000000 in
theorem compare_any (x y : Nat) (V : World) : Calls Try.prog 22 #[.int .i64 x, .int .i64 y] V fun e V' => e = .returned (.int .i64 (cpI x y)) ∧ V' = V := by
  have HI := hide (fun x V => isnan_any x V)
  have Hc := hide (show cpI x y = if x < y then -1 else if y < x then 1 else 0 from rfl)
  by_cases h1 : x < y
  · have g1 : (x : Int) < (y : Int) := by omega
    have He := hide (show cpI x y = -1 by rw [unhide Hc, if_pos h1])
    go_enter Try.func22, Try.ntmps22
    go_wp2_with (go_at_call 25; refine (unhide HI _ _).mono ?_; rintro e w' ⟨rfl, rfl⟩)
    go_ret
    exact ⟨ret_int (unhide He).symm, rfl⟩
  · have g1 : ¬ ((x : Int) < (y : Int)) := by omega
    by_cases h2 : y < x
    · have g2 : (y : Int) < (x : Int) := by omega
      have He := hide (show cpI x y = 1 by rw [unhide Hc, if_neg h1, if_pos h2])
      go_enter Try.func22, Try.ntmps22
      go_wp2_with (go_at_call 25; refine (unhide HI _ _).mono ?_; rintro e w' ⟨rfl, rfl⟩)
      go_ret
      exact ⟨ret_int (unhide He).symm, rfl⟩
    · have g2 : ¬ ((y : Int) < (x : Int)) := by omega
      have He := hide (show cpI x y = 0 by rw [unhide Hc, if_neg h1, if_neg h2])
      go_enter Try.func22, Try.ntmps22
      go_wp2_with (go_at_call 25; refine (unhide HI _ _).mono ?_; rintro e w' ⟨rfl, rfl⟩)
      go_ret
      exact ⟨ret_int (unhide He).symm, rfl⟩


set_option maxRecDepth 100000 in
set_option maxHeartbeats 2000000 in
theorem cmp21_any {V : World} {B n cap : Nat} {q : Option Addr} {a h : Nat → Nat} (hbox : V.cell? ⟨B, 0, none⟩ = some (.slice q n cap)) (hP : Ps V q n (fun k => (a k : Int)) (fun k => (h k : Int))) (x y : Nat) (hx : x < n) (hy : y < n) :
    Calls Try.prog 21 #[.int .i64 (x : Int), .int .i64 (y : Int), .pointer (some ⟨B, 0, none⟩)] V fun e V' => e = .returned (.int .i64 (cpI (h y) (h x))) ∧ ∃ k, V' = V.drewN k := by
  obtain ⟨g1, o1, e1, -, r1⟩ := hP.at hx
  obtain ⟨g2, o2, e2, -, r2⟩ := hP.at hy
  rw [e1] at e2
  cases e2
  subst e1
  have HC := hide (fun a b V => compare_any a b V)
  generalize h x = kx at *
  generalize h y = ky at *
  have g3 : (x : Int) < (n : Int) := by omega
  have g4 : (0 : Int) ≤ (x : Int) := by omega
  have g5 : (y : Int) < (n : Int) := by omega
  have g6 : (0 : Int) ≤ (y : Int) := by omega
  clear hP
  go_enter Try.func21, Try.ntmps21
  go_wp2_with fail
  go_quiet (first | (go_at_call 22; exact Calls.quiet_of_same (unhide HC _ _ _)))
  go_wp2
  go_ret
  exact ⟨rfl, _, rfl⟩

/-- the key: the highest comes first -/
def kyN (h : Nat → Nat) (x : Nat) : Nat := 1048576 - h x
theorem cpI_key {h : Nat → Nat} {x y : Nat} (hx : h x ≤ 1048576) (hy : h y ≤ 1048576) : cpI (h y) (h x) = cpI (kyN h x) (kyN h y) := by
  unfold cpI kyN
  by_cases c1 : h y < h x
  · rw [if_pos c1, if_pos (show 1048576 - h x < 1048576 - h y by omega)]
  · by_cases c2 : h x < h y
    · rw [if_neg c1, if_pos c2, if_neg (show ¬ (1048576 - h x < 1048576 - h y) by omega), if_pos (show 1048576 - h y < 1048576 - h x by omega)]
    · rw [if_neg c1, if_neg c2, if_neg (show ¬ (1048576 - h x < 1048576 - h y) by omega), if_neg (show ¬ (1048576 - h y < 1048576 - h x) by omega)]
/-- places are numbers -/
def elN : El := ⟨fun x => (x : Int)⟩
theorem cmp_is {W0 : World} {B b n cap : Nat} {q : Option Addr} {a h : Nat → Nat} (hbox : W0.cell? ⟨B, 0, none⟩ = some (.slice q n cap)) (hP : Ps W0 q n (fun k => (a k : Int)) (fun k => (h k : Int))) (hB : B < W0.heap.size) (hne : B ≠ b) (hq : ∀ g o, 0 < n → q = some ⟨g, o, none⟩ → g ≠ b) (hh : ∀ k, k < n → h k ≤ 1048576) :
    CmpIs elN (fun x => x < n) (kyN h) B W0 b := by
  intro V hV x y hx hy
  rw [← cpI_key (hh x hx) (hh y hy)]
  have K := grown_kept (S := fun i => i = b) hV (fun r e => by cases e; exact .inl rfl)
  refine cmp21_any (a := a) (K.cell hB hne hbox) ?_ x y hx hy
  rcases hP with e | ⟨g, o, e, hl, hk⟩
  · exact .inl e
  · exact .inr ⟨g, o, e, Nat.lt_of_lt_of_le hl K.size, fun k hkn => ⟨K.cell hl (hq g o (by omega) e) (hk k hkn).1, K.cell hl (hq g o (by omega) e) (hk k hkn).2⟩⟩
theorem srt_of {n : Nat} {h g : Nat → Nat} (hh : ∀ k, k < n → h k ≤ 1048576) (k : Bk (kyN h) (fun i => i) 0 n g) : Srt n h g := by
  have hl : ∀ i, i < n → g i < n := fun i hi => by obtain ⟨j, -, h2, e⟩ := k.2 i (Nat.zero_le _) hi; rw [e]; exact h2
  refine ⟨hl, fun i j hij hj => ?_⟩
  have h1 := hh _ (hl i (by omega))
  have h2 := hh _ (hl j hj)
  have := k.1 i j (Nat.zero_le _) hij hj
  unfold lx kyN at this
  omega

/-- numbers that may be written -/
def JRow (W : World) (b k : Nat) (f : Nat → Int) : Prop := b < W.heap.size ∧ ∀ j, j < k → W.cell? ⟨b, j, none⟩ = some (.int .i64 (f j)) ∧ W.frozen? ⟨b, j, none⟩ = false
theorem JRow.put {W : World} {b k : Nat} {f g : Nat → Int} (h : JRow W b k f) {x : Nat} {v : Int} (hv : g x = v) (hg : ∀ j, j < k → j ≠ x → f j = g j) : JRow (W.setCell ⟨b, x, none⟩ (.int .i64 v)) b k g := by
  refine ⟨by simpa using h.1, fun j hj => ⟨?_, fset (h.2 j hj).2⟩⟩
  by_cases e : j = x
  · subst e; rw [hv]; exact csame (h.2 j hj).1
  · rw [← hg j hj e]; exact cset (h.2 j hj).1 e
theorem jrow_made {w : World} {B b k : Nat} (h : w.ownsRow B 3 1 (.slice (some ⟨b, 0, none⟩) k k) k (madeCells #[.int .i64 0] k).toList) : JRow w b k (fun _ => 0) :=
  ⟨(h.lt b rfl).2, fun j hj => ⟨by rw [h.cellAt j (by omega), toList_madeCells_one, List.getElem?_replicate, if_pos (by omega)], h.frozenAt j⟩⟩
/-- the first x are f's, the others nought -/
def upto (f : Nat → Int) (x : Nat) : Nat → Int := fun j => if j < x then f j else 0
theorem upto_zero (f : Nat → Int) : upto f 0 = fun _ => 0 := by funext j; simp [upto]
theorem upto_at (f : Nat → Int) (x : Nat) : upto f (x + 1) x = f x := by simp [upto]
theorem upto_ne (f : Nat → Int) (x j : Nat) (h : j ≠ x) : upto f x j = upto f (x + 1) j := by
  unfold upto
  by_cases h2 : j < x
  · rw [if_pos h2, if_pos (by omega)]
  · rw [if_neg h2, if_neg (by omega)]
/-- an order in a new row -/
def PO (W : World) (n : Nat) (h : Nat → Nat) (e : Ending) (V : World) : Prop := ∃ (b : Nat) (g : Nat → Nat), e = .returned (.slice (some ⟨b, 0, none⟩) n n) ∧ Srt n h g ∧ (b < V.heap.size ∧ ∀ k, k < n → V.cell? ⟨b, k, none⟩ = some (.int .i64 (g k : Int))) ∧ W.heap.size ≤ b ∧ Below W.heap.size W V
theorem PO.mk {W V : World} {n : Nat} {h : Nat → Nat} (b : Nat) (g : Nat → Nat) (h1 : Srt n h g) (h2 : b < V.heap.size ∧ ∀ k, k < n → V.cell? ⟨b, k, none⟩ = some (.int .i64 (g k : Int))) (h3 : W.heap.size ≤ b) (hb : Below W.heap.size W V) : PO W n h (.returned (.slice (some ⟨b, 0, none⟩) n n)) V := ⟨b, g, rfl, h1, h2, h3, hb⟩

set_option maxRecDepth 100000 in
set_option maxHeartbeats 4000000 in
theorem order_any (q : Option Addr) (n cap : Nat) (a h : Nat → Nat) (hn : n ≤ 256) (hh : ∀ k, k < n → h k ≤ 1048576) (W : World) (hP : Ps W q n (fun k => (a k : Int)) (fun k => (h k : Int))) : Calls Try.prog 13 #[.slice q n cap] W (PO W n h) := by
  obtain ⟨i0, hi, hz0, hz1, hz2⟩ := info_parts info3
  have hby : i0.bytes * n ≤ 281474976710656 := by rw [hz2]; omega
  have hml : n ≤ maxLen := by unfold maxLen; omega
  have HP := hide hP
  have Hh := hide hh
  have Hb0 := hide (bnew W (.cells #[.slice q n cap] 22))
  have Hq := hide (show ∀ g o, q = some ⟨g, o, none⟩ → 0 < n → g < W.heap.size from fun g o e hn0 => by
    rcases hP with e0 | ⟨g', o', e', hl, -⟩
    · omega
    · rw [e] at e'; cases e'; exact hl)
  have hbx : (W.alloc (.cells #[.slice q n cap] 22)).cell? ⟨W.heap.size, 0, none⟩ = some (.slice q n cap) := by simp [go_sem]
  have hbz : W.heap.size < (W.alloc (.cells #[.slice q n cap] 22)).heap.size := by simp
  clear hP hh
  go_enter Try.func13, Try.ntmps13
  go_upto_region 1 with fail
  generalize W.alloc (.cells #[.slice q n cap] 22) = w1 at *
  obtain ⟨B, hB⟩ : ∃ B, B = W.heap.size := ⟨_, rfl⟩
  rw [← hB] at hbx hbz
  rw [← hB]
  have HB := hide hB
  clear hB
  go_wp2_with (refine wpList_make_full _ rfl _ _ 41 rfl w1.heap.size 3 i0 _ 1 Try.underlying41 hi hz0 hz1 .i64 .i64 (n : Int) (n : Int) n rfl rfl rfl rfl hby hml (Nat.le_refl _) ?_)
  intro wm hown hgrow
  have HR := hide (jrow_made hown)
  have hS1 := (Below.refl _ w1).grown hgrow (Nat.le_refl _) (fun k hk => by cases hk)
  have HS := hide (btrans (unhide Hb0) hS1)
  have Hbx := hide (show B < wm.heap.size ∧ wm.cell? ⟨B, 0, none⟩ = some (.slice q n cap) from ⟨Nat.lt_of_lt_of_le hbz hS1.size, keepC hS1 hbz hbx⟩)
  have Hbz := hide hbz
  clear hown hgrow hi hz0 hz1 hz2 hby hml hS1 hbx hbz Hb0
  generalize w1.heap.size = bq at *
  go_wp2
  go_loopw [10] (fun i wr => ∃ x : Nat, x ≤ n ∧ i = .int .i64 (x : Int) ∧ JRow wr bq n (upto (fun i => (i : Int)) x) ∧ (B < wr.heap.size ∧ wr.cell? ⟨B, 0, none⟩ = some (.slice q n cap)) ∧ Below W.heap.size W wr) (fun i _ => n - (intOf i).toNat)
  case atStart => exact ⟨0, Nat.zero_le _, rfl, by rw [upto_zero]; exact unhide HR, unhide Hbx, unhide HS⟩
  case round =>
    clear HR HS Hbx
    obtain ⟨x, hx, rfl, hR, hbx, hb⟩ := hrel
    by_cases hlt : x < n
    · have q0 : (x : Int) < (n : Int) := by omega
      have q1 : (0 : Int) ≤ (x : Int) := by omega
      have hf := (hR.2 x hlt).2
      have hc := (hR.2 x hlt).1
      generalize upto (fun i => (i : Int)) x x = old at hc
      have HR := hide (hR.put (g := upto (fun i => (i : Int)) (x + 1)) (x := x) (v := (x : Int)) (by rw [upto_at]) (fun j _ hj => upto_ne _ x j hj))
      have Hb := hide (bset (p := ⟨bq, x, none⟩) (u := .int .i64 (x : Int)) hb (show W.heap.size ≤ bq by have := unhide Hbz; have := unhide HB; omega))
      have Hbx := hide (show B < (wr.setCell ⟨bq, x, none⟩ (.int .i64 (x : Int))).heap.size ∧ (wr.setCell ⟨bq, x, none⟩ (.int .i64 (x : Int))).cell? ⟨B, 0, none⟩ = some (.slice q n cap) from ⟨by simpa using hbx.1, by
        rw [World.cell?_setCell_other _ _ _ _ (by intro e; cases e; have := unhide Hbz; omega)]; exact hbx.2⟩)
      clear hR hb hbx
      go_wp2
      go_roundw
      case rel => exact ⟨x + 1, by omega, by go_num, unhide HR, unhide Hbx, unhide Hb⟩
      case measure => simp [intOf]; omega
    · obtain rfl : n = x := by omega
      have cl : ¬ ((n : Int) < (n : Int)) := by omega
      have HC := hide (cmp_is (b := bq) hbx.2 ((unhide HP).keep hb) hbx.1 (by have := unhide Hbz; omega) (fun g o hn0 e => by have := unhide Hq g o e hn0; have := unhide Hbz; have := unhide HB; omega) (unhide Hh))
      have HSW := hide (show SW elN (fun s => s < n) wr bq n (fun k => k) wr from ⟨⟨hR.1, fun k hk => ⟨by rw [(hR.2 k hk).1]; simp [upto, hk, elN], (hR.2 k hk).2, hk⟩⟩, World.grownBy.refl _ _⟩)
      have Hsort := hide (sortstable_any (cap := n) (unhide HC) (unhide HSW) hn (fun i j h1 _ => h1))
      have Hb := hide hb
      have hz : W.heap.size ≤ bq := by have := unhide Hbz; have := unhide HB; omega
      clear hR hbx hb HC HSW
      go_wp2_with fail
      refine (unhide Hsort).mono ?_
      rintro e w6 ⟨rfl, gf, hSW6, hBk⟩
      have HG := hide (srt_of (unhide Hh) hBk)
      have Hrow := hide (show bq < w6.heap.size ∧ ∀ k, k < n → w6.cell? ⟨bq, k, none⟩ = some (.int .i64 (gf k : Int)) from ⟨hSW6.1.1, fun k hk => (hSW6.1.2 k hk).1⟩)
      have Hb6 := hide ((unhide Hb).grown hSW6.2 (unhide Hb).size (fun j e => by cases e; exact hz))
      clear hSW6 hBk Hsort
      go_wp2
      exact bodyPost_ret (v := .slice (some ⟨bq, 0, none⟩) n n) (by simp [results, Try.results13, go_sem]) rfl (PO.mk bq gf (unhide HG) (unhide Hrow) hz (unhide Hb6))
end Go.Proofs.Ytkhmdgppkjafoaa
