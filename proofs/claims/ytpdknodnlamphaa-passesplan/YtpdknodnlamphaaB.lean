/-
  Package passes: behind, standingOn, may, isPass.
-/
import Derived.Test.YtpdknodnlamphaaA
import Derived.Laws.CopyRow
namespace Go.Proofs.Ytpdknodnlamphaa
open Go.RowKit

/-- five numbers in a box that may be written -/
def SR (W : World) (b : Nat) (f : Nat → Int) : Prop := b < W.heap.size ∧ ∀ j, j < 5 → W.cell? ⟨b, j, none⟩ = some (.int .i64 (f j)) ∧ W.frozen? ⟨b, j, none⟩ = false
theorem SR.keep {W V : World} {b : Nat} {f : Nat → Int} (h : SR W b f) (hb : Below W.heap.size W V) : SR V b f :=
  ⟨Nat.lt_of_lt_of_le h.1 hb.size, fun j hj => ⟨keepC hb h.1 (h.2 j hj).1, keepF hb h.1 (h.2 j hj).2⟩⟩
theorem SR.new (W : World) (f : Nat → Int) (t : TypeId) : SR (W.alloc (.cells #[.int .i64 (f 0), .int .i64 (f 1), .int .i64 (f 2), .int .i64 (f 3), .int .i64 (f 4)] t)) W.heap.size f :=
  ⟨by simp, fun j hj => by
    rcases j with _ | _ | _ | _ | _ | j
    · simp [go_sem]
    · simp [go_sem]
    · simp [go_sem]
    · simp [go_sem]
    · simp [go_sem]
    · omega⟩
theorem SR.set {W : World} {b : Nat} {f : Nat → Int} (h : SR W b f) (j : Nat) (v : Int) : SR (W.setCell ⟨b, j, none⟩ (.int .i64 v)) b (fun i => if i = j then v else f i) := by
  refine ⟨by simpa using h.1, fun i hi => ?_⟩
  obtain ⟨h1, h2⟩ := h.2 i hi
  refine ⟨?_, by rw [World.frozen?_setCell]; exact h2⟩
  by_cases e : i = j
  · subst e
    rw [World.cell?_setCell_same' _ _ _ (by rw [h1]; rfl)]; simp
  · simp [go_sem, e, h1]
theorem SR.congr {W : World} {b : Nat} {f g : Nat → Int} (h : SR W b f) (e : ∀ j, j < 5 → f j = g j) : SR W b g := ⟨h.1, fun j hj => by rw [← e j hj]; exact h.2 j hj⟩
/-- two numbers in a box -/
def PB (W : World) (b : Nat) (x y : Int) : Prop := b < W.heap.size ∧ W.cell? ⟨b, 0, none⟩ = some (.int .i64 x) ∧ W.cell? ⟨b, 1, none⟩ = some (.int .i64 y)
theorem PB.keep {W V : World} {b : Nat} {x y : Int} (h : PB W b x y) (hb : Below W.heap.size W V) : PB V b x y :=
  ⟨Nat.lt_of_lt_of_le h.1 hb.size, keepC hb h.1 h.2.1, keepC hb h.1 h.2.2⟩
theorem PB.new (W : World) (x y : Int) (t : TypeId) : PB (W.alloc (.cells #[.int .i64 x, .int .i64 y] t)) W.heap.size x y := ⟨by simp, by simp [go_sem], by simp [go_sem]⟩

theorem PB.kept {S : Nat → Prop} {W V : World} {b : Nat} {x y : Int} (h : PB W b x y) (k : Kept S W V) (hS : ¬ S b) : PB V b x y :=
  ⟨Nat.lt_of_lt_of_le h.1 k.size, k.cell h.1 hS h.2.1, k.cell h.1 hS h.2.2⟩
theorem SR.kept {S : Nat → Prop} {W V : World} {b : Nat} {f : Nat → Int} (h : SR W b f) (k : Kept S W V) (hS : ¬ S b) : SR V b f :=
  ⟨Nat.lt_of_lt_of_le h.1 k.size, fun j hj => ⟨k.cell h.1 hS (h.2 j hj).1, k.froz h.1 hS (h.2 j hj).2⟩⟩
theorem bit_is : ∀ w, w < 32 → ∀ k, k < 5 → (bits BinOp.and IntKind.i64 ((w : Nat) / 2 ^ k : Int) 1 == 1) = w.testBit k := by decide +kernel
/-- a number behind a pass -/
def nb (f : Nat → Int) (b : Int) (w : Nat) (j : Nat) : Int := f j + if w.testBit j then b else 0

set_option maxRecDepth 100000 in
set_option maxHeartbeats 4000000 in
theorem behind_num (f : Nat → Int) (b : Int) (w : Nat) (W : World) (hf : ∀ i, i < 5 → 0 ≤ f i ∧ f i ≤ 11) (hb : -2 ≤ b ∧ b ≤ 2) (hw : w < 32) :
    Calls Try.prog 25 #[.agg #[.int .i64 (f 0), .int .i64 (f 1), .int .i64 (f 2), .int .i64 (f 3), .int .i64 (f 4)], .agg #[.int .i64 b, .int .i64 w]] W fun e w' =>
      e = .returned (.agg #[.int .i64 (nb f b w 0), .int .i64 (nb f b w 1), .int .i64 (nb f b w 2), .int .i64 (nb f b w 3), .int .i64 (nb f b w 4)]) ∧ Below W.heap.size W w' := by
  go_enter Try.func25, Try.ntmps25
  go_wp2
  obtain ⟨w3, hw3, R3, P3, Z3, B3⟩ : ∃ w3, ((W.alloc (.cells #[.int .i64 (f 0), .int .i64 (f 1), .int .i64 (f 2), .int .i64 (f 3), .int .i64 (f 4)] 38)).alloc (.cells #[.int .i64 b, .int .i64 w] 44)).alloc (.cells #[.int .i64 0, .int .i64 0, .int .i64 0, .int .i64 0, .int .i64 0] 38) = w3 ∧ SR w3 W.heap.size f ∧ PB w3 (W.heap.size + 1) b w ∧ SR w3 (W.heap.size + 1 + 1) (fun _ => 0) ∧ Below W.heap.size W w3 := by
    refine ⟨_, rfl, ((SR.new W f 38).keep (bnew _ _)).keep (bnew _ _), ?_, ?_, bal (bal (bal (Below.refl _ _)))⟩
    · have := (PB.new (W.alloc (.cells #[.int .i64 (f 0), .int .i64 (f 1), .int .i64 (f 2), .int .i64 (f 3), .int .i64 (f 4)] 38)) b w 44).keep (bnew _ (.cells #[.int .i64 0, .int .i64 0, .int .i64 0, .int .i64 0, .int .i64 0] 38))
      simpa using this
    · have := SR.new ((W.alloc (.cells #[.int .i64 (f 0), .int .i64 (f 1), .int .i64 (f 2), .int .i64 (f 3), .int .i64 (f 4)] 38)).alloc (.cells #[.int .i64 b, .int .i64 w] 44)) (fun _ => 0) 38
      simpa using this
  rw [hw3]
  clear hw3
  generalize hs : W.heap.size = s at *
  go_loopw [6] (fun i wr => ∃ k : Nat, i = .int .i64 k ∧ k ≤ 5 ∧ SR wr s (fun j => if j < k then nb f b w j else f j) ∧ PB wr (s + 1) b w ∧ SR wr (s + 1 + 1) (fun _ => 0) ∧ Below s W wr) (fun i _ => 5 - (intOf i).toNat)
  case atStart => exact ⟨0, rfl, by omega, R3, P3, Z3, B3⟩
  case round =>
    clear R3 P3 Z3 B3
    obtain ⟨k, rfl, hk, R, P, Z, B⟩ := hrel
    have HR := hide R
    have HP := hide P
    have HZ := hide Z
    have HB := hide B
    clear R Z B
    by_cases hlt : k < 5
    · have p1 := P.2.1
      have p2 := P.2.2
      have g2 : (k : Int) < 5 := by omega
      clear P
      have hbit := bit_is w hw k hlt
      by_cases ht : w.testBit k = true
      · rw [ht] at hbit
        have hv := hf k hlt
        obtain ⟨c1, c2⟩ := (unhide HR).2 k hlt
        dsimp only at c1
        rw [if_neg (Nat.lt_irrefl k)] at c1
        have e1 : nb f b w k = f k + b := by unfold nb; rw [if_pos ht]
        have e2 : IntKind.i64.wrap (f k + b) = f k + b := Go.IntWalk.i64_in _ (by omega)
        have HR2 := hide (show SR (wr.setCell ⟨s, k, none⟩ (.int .i64 (f k + b))) s (fun j => if j < k + 1 then nb f b w j else f j) from ((unhide HR).set k (f k + b)).congr (fun j _ => by
          by_cases h1 : j = k
          · subst h1; rw [if_pos rfl, if_pos (by omega), e1]
          · rw [if_neg h1]
            by_cases h2 : j < k
            · rw [if_pos h2, if_pos (by omega)]
            · rw [if_neg h2, if_neg (by omega)]))
        have g1 : (0 : Int) ≤ (k : Int) := by omega
        generalize f k = x at *
        clear ht
        go_wp2
        go_region
        go_wp2
        go_roundw
        case rel =>
          have K := (kset wr s k (.int .i64 (x + b))).dr
          exact ⟨k + 1, by go_num, by omega, (unhide HR2).keep (bdrew _), (unhide HP).kept K (by omega), (unhide HZ).kept K (by omega), K.back (unhide HB) (by have := (unhide HR).1; omega) (fun q hq => by omega)⟩
        case measure => simp [intOf]; omega
      · have hb0 : w.testBit k = false := by simpa using ht
        rw [hb0] at hbit
        have HR2 := hide (show SR wr s (fun j => if j < k + 1 then nb f b w j else f j) from (unhide HR).congr (fun j _ => by
          by_cases h2 : j < k
          · rw [if_pos h2, if_pos (by omega)]
          · rw [if_neg h2]
            by_cases h1 : j = k
            · subst h1
              rw [if_pos (by omega)]
              unfold nb
              rw [hb0]
              simp
            · rw [if_neg (by omega)]))
        clear ht hb0
        go_wp2
        go_roundw
        case rel => exact ⟨k + 1, by go_num, by omega, unhide HR2, unhide HP, unhide HZ, unhide HB⟩
        case measure => simp [intOf]; omega
    · obtain rfl : k = 5 := by omega
      have RR := (unhide HR).congr (g := nb f b w) (fun j hj => if_pos hj)
      obtain ⟨a0, -⟩ := RR.2 0 (by omega)
      obtain ⟨a1, -⟩ := RR.2 1 (by omega)
      obtain ⟨a2, -⟩ := RR.2 2 (by omega)
      obtain ⟨a3, -⟩ := RR.2 3 (by omega)
      obtain ⟨a4, -⟩ := RR.2 4 (by omega)
      obtain ⟨z0, y0⟩ := (unhide HZ).2 0 (by omega)
      obtain ⟨z1, y1⟩ := (unhide HZ).2 1 (by omega)
      obtain ⟨z2, y2⟩ := (unhide HZ).2 2 (by omega)
      obtain ⟨z3, y3⟩ := (unhide HZ).2 3 (by omega)
      obtain ⟨z4, y4⟩ := (unhide HZ).2 4 (by omega)
      clear RR P hlt
      go_wp2
      subst hs
      refine bodyPost_ret (v := .agg #[.int .i64 (nb f b w 0), .int .i64 (nb f b w 1), .int .i64 (nb f b w 2), .int .i64 (nb f b w 3), .int .i64 (nb f b w 4)]) (by simp [results, Try.results25, go_sem, z0, z1, z2, z3, z4]) rfl ⟨rfl, ?_⟩
      exact bset (bset (bset (bset (bset (unhide HB) (by dsimp only; omega)) (by dsimp only; omega)) (by dsimp only; omega)) (by dsimp only; omega)) (by dsimp only; omega)
theorem low_bit {w n i : Nat} (hw : w < 2 ^ n) (hi : n ≤ i) : w.testBit i = false := Nat.testBit_lt_two_pow (Nat.lt_of_lt_of_le hw (Nat.pow_le_pow_right (by omega) hi))
theorem behind_any {z : Pz} (hz : z.n < 6) (l : List Int) (hl : OkS z l) (p : Ps) (hp : okP z.n p) (W : World) :
    Calls Try.prog 25 #[stV l, .agg #[.int .i64 p.1, .int .i64 (p.2 : Nat)]] W fun e w' => e = .returned (stV (bh l p)) ∧ Below W.heap.size W w' := by
  have e : ∀ j, nb (gt l) p.1 p.2 j = gt (bh l p) j := fun j => by
    unfold nb
    by_cases hj : j < l.length
    · rw [bh_gt hj]
    · rw [gt_out (l := bh l p) (by simpa using hj), gt_out (by omega), low_bit hp.2.2 (by have := hl.1; omega)]
      simp
  have := behind_num (gt l) p.1 p.2 W (fun i _ => okS_bound hl i) ⟨hp.1.1, hp.1.2.1⟩ (Nat.lt_of_lt_of_le hp.2.2 (Nat.pow_le_pow_right (n := 2) (i := z.n) (j := 5) (by omega) (by omega)))
  rw [e, e, e, e, e] at this
  exact this

theorem info3s : (Try.prog.info? 3).map (·.size) = some 1 := by kernel_rfl
def numL (n : Nat) (f : Nat → Int) : List Value := (List.range n).map fun k => .int .i64 (f k)
/-- five cells in a block, their beginning copied from elsewhere -/
theorem copied (W : World) (g b o n c : Nat) (f : Nat → Int) (hg : W.heap[g]? = some (.cells #[.int .i64 0, .int .i64 0, .int .i64 0, .int .i64 0, .int .i64 0] 38 (0, 0))) (h5 : n ≤ 5) (hc : ∀ k, k < n → W.cell? ⟨b, o + k, none⟩ = some (.int .i64 (f k))) :
    ∃ V, (Builtin.copy_ #[22, 22] 3 #[.slice (some ⟨g, 0, none⟩) 5 5, .slice (some ⟨b, o, none⟩) n c]).run Try.prog W = .ok (goInt n) V ∧ SR V g (gt (tl n f)) ∧ Kept (fun i => i = g) W V := by
  have hlt := (Array.getElem?_eq_some_iff.1 hg).1
  have hl : (numL n f).length = n := by simp [numL]
  have h := run_copy_row (P := Try.prog) W 22 22 3 3 g 0 5 5 ⟨b, o, none⟩ n c _ 38 (numL n f) Try.underlying22 info3s hg (by rw [hl]; exact (Nat.min_eq_left h5).symm) (fun j v hj => by
    have hjn : j < n := by have := (List.getElem?_eq_some_iff.1 hj).1; omega
    have : v = .int .i64 (f j) := by simp [numL, hjn] at hj; exact hj.symm
    rw [this, ← hc j hjn]
    by_cases h0 : j = 0
    · subst h0; simp [Addr.add]
    · simp [Addr.add, h0]) (by rw [hl]; simpa using h5) (fun v hv => by obtain ⟨k, -, rfl⟩ := List.mem_map.1 hv; rfl)
  rw [hl] at h
  refine ⟨_, h, ⟨by simpa using hlt, fun j hj => ⟨?_, ?_⟩⟩, ⟨rfl, rfl, rfl, by simp, fun k _ hk => setRow_other _ _ _ _ hk⟩⟩
  · rw [cell_setRow_same _ _ _ _ _ _ _ hg]
    by_cases hjn : j < n
    · simp [List.getElem?_append, hjn, gt_tl f hjn, numL]
    · rw [gt_out (l := tl n f) (by simp; omega)]
      simp [List.getElem?_append, hl, hjn]
      rcases (show n + (j - n) = 0 ∨ n + (j - n) = 1 ∨ n + (j - n) = 2 ∨ n + (j - n) = 3 ∨ n + (j - n) = 4 by omega) with e | e | e | e | e <;> simp [e]
  · unfold World.frozen?
    rw [setRow_heap _ _ _ _ _ _ hg]
    simp
set_option maxRecDepth 100000 in
set_option maxHeartbeats 4000000 in
theorem standingOn_any (q : Option Addr) (n c : Nat) (f : Nat → Int) (W : World) (hq : Is W q n f) (h1 : 1 ≤ n) (h5 : n ≤ 5) :
    Calls Try.prog 17 #[.slice q n c] W fun e w' => e = .returned (stV (tl n f)) ∧ Below W.heap.size W w' := by
  obtain ⟨b, o, rfl, hbl, hc⟩ : ∃ b o, q = some ⟨b, o, none⟩ ∧ b < W.heap.size ∧ ∀ k, k < n → W.cell? ⟨b, o + k, none⟩ = some (.int .i64 (f k)) := by
    rcases hq with h | h
    · omega
    · exact h
  clear hq
  go_enter Try.func17, Try.ntmps17
  go_upto_region 2 with fail
  have B1 := bnew W (.cells #[.int .i64 0, .int .i64 0, .int .i64 0, .int .i64 0, .int .i64 0] 38)
  have Z1 := SR.new W (fun _ => 0) 38
  generalize hw1 : W.alloc (.cells #[.int .i64 0, .int .i64 0, .int .i64 0, .int .i64 0, .int .i64 0] 38) = w1 at *
  have hs1 : w1.heap.size = W.heap.size + 1 := by rw [← hw1]; simp
  have B2 := btrans B1 (bnew w1 (.cells #[.int .i64 0, .int .i64 0, .int .i64 0, .int .i64 0, .int .i64 0] 38))
  have Z2 := Z1.keep (bnew w1 (.cells #[.int .i64 0, .int .i64 0, .int .i64 0, .int .i64 0, .int .i64 0] 38))
  have hg := heap_alloc_new w1 (.cells #[.int .i64 0, .int .i64 0, .int .i64 0, .int .i64 0, .int .i64 0] 38)
  rw [hs1] at hg
  generalize hw2 : w1.alloc (.cells #[.int .i64 0, .int .i64 0, .int .i64 0, .int .i64 0, .int .i64 0] 38) = w2 at *
  obtain ⟨w3, hcp, R3, K3⟩ := copied w2 (W.heap.size + 1) b o n c f hg h5 (fun k hk => keepC B2 hbl (hc k hk))
  have Z3 := Z2.kept K3 (by omega)
  have B3 := K3.back B2 (by have := Z2.1; omega) (fun i hi => by omega)
  obtain ⟨a0, -⟩ := R3.2 0 (by omega)
  obtain ⟨a1, -⟩ := R3.2 1 (by omega)
  obtain ⟨a2, -⟩ := R3.2 2 (by omega)
  obtain ⟨a3, -⟩ := R3.2 3 (by omega)
  obtain ⟨a4, -⟩ := R3.2 4 (by omega)
  obtain ⟨z0, y0⟩ := Z3.2 0 (by omega)
  obtain ⟨z1, y1⟩ := Z3.2 1 (by omega)
  obtain ⟨z2, y2⟩ := Z3.2 2 (by omega)
  obtain ⟨z3, y3⟩ := Z3.2 3 (by omega)
  obtain ⟨z4, y4⟩ := Z3.2 4 (by omega)
  have HB := hide B3
  clear B1 B2 B3 Z1 Z2 Z3 R3 K3 hg hw1 hw2 hc
  go_wp2
  refine bodyPost_ret (v := stV (tl n f)) (by simp [results, Try.results17, go_sem, z0, z1, z2, z3, z4]) rfl ⟨rfl, ?_⟩
  exact bset (bset (bset (bset (bset (unhide HB) (by dsimp only; omega)) (by dsimp only; omega)) (by dsimp only; omega)) (by dsimp only; omega)) (by dsimp only; omega)

/-- what is to be done, as a value -/
abbrev wkV (q : Option Addr) (n c : Nat) (sl : Int) : Value := .agg #[.slice q n c, .int .i64 sl]
/-- .. in its box -/
def KB (W : World) (b : Nat) (q : Option Addr) (n c : Nat) (sl : Int) : Prop := b < W.heap.size ∧ W.cell? ⟨b, 0, none⟩ = some (.slice q n c) ∧ W.cell? ⟨b, 1, none⟩ = some (.int .i64 sl)
theorem KB.keep {W V : World} {b : Nat} {q : Option Addr} {n c : Nat} {sl : Int} (h : KB W b q n c sl) (hb : Below W.heap.size W V) : KB V b q n c sl :=
  ⟨Nat.lt_of_lt_of_le h.1 hb.size, keepC hb h.1 h.2.1, keepC hb h.1 h.2.2⟩
theorem KB.new (W : World) (q : Option Addr) (n c : Nat) (sl : Int) (t : TypeId) : KB (W.alloc (.cells #[.slice q n c, .int .i64 sl] t)) W.heap.size q n c sl := ⟨by simp, by simp [go_sem], by simp [go_sem]⟩

set_option maxRecDepth 100000 in
set_option maxHeartbeats 4000000 in
theorem may_any (q : Option Addr) (n c : Nat) (t : Nat → Int) (sl : Int) (l : List Int) (W : World) (hq : Is W q n t) (h1 : 1 ≤ n) (h5 : n ≤ 5) (hs : 1 ≤ sl ∧ sl ≤ 11) :
    Calls Try.prog 26 #[wkV q n c sl, stV l] W fun e w' => e = .returned (.bool (stB n t sl (gt l))) ∧ Below W.heap.size W w' := by
  go_enter Try.func26, Try.ntmps26
  go_wp2_with fail
  have B1 := bnew W (.cells #[.slice q n c, .int .i64 sl] 36)
  have K1 := KB.new W q n c sl 36
  generalize hw1 : W.alloc (.cells #[.slice q n c, .int .i64 sl] 36) = w1 at *
  have hs1 : w1.heap.size = W.heap.size + 1 := by rw [← hw1]; simp
  have B2 := btrans B1 (bnew w1 (.cells #[.int .i64 (gt l 0), .int .i64 (gt l 1), .int .i64 (gt l 2), .int .i64 (gt l 3), .int .i64 (gt l 4)] 38))
  have K2 := K1.keep (bnew w1 (.cells #[.int .i64 (gt l 0), .int .i64 (gt l 1), .int .i64 (gt l 2), .int .i64 (gt l 3), .int .i64 (gt l 4)] 38))
  have R2 := SR.new w1 (gt l) 38
  rw [hs1] at R2
  generalize hw2 : w1.alloc (.cells #[.int .i64 (gt l 0), .int .i64 (gt l 1), .int .i64 (gt l 2), .int .i64 (gt l 3), .int .i64 (gt l 4)] 38) = w2 at *
  have HM := hide (show ∀ j, Calls Try.prog 15 #[.slice (some ⟨W.heap.size + 1, 0, none⟩) n 5, .slice q n c, .int .i64 sl] (w2.drewN j) fun e w' => e = .returned (.bool (stB n t sl (gt l))) ∧ ∃ i, w' = (w2.drewN j).drewN i from fun j =>
    mayStand_any (some ⟨W.heap.size + 1, 0, none⟩) q n n 5 c (gt l) t sl (w2.drewN j) (.inr ⟨W.heap.size + 1, 0, rfl, R2.1, fun k hk => by simpa using (R2.2 k (by omega)).1⟩) (hq.keep (B2.trans (Joins.below_draws _ w2 j))) (Nat.le_refl _) h5 hs)
  have HB := hide B2
  obtain ⟨-, k1, k2⟩ := K2
  have g1 : (n : Int) ≤ 5 := by omega
  have g0 : (0 : Int) ≤ (n : Int) := by omega
  clear hw1 hw2 B1 B2 K1 R2 hq
  go_quiet (first | (go_at_call 15; exact Calls.quiet_of (unhide HM _)))
  go_wp2
  go_ret
  exact ⟨rfl, (unhide HB).trans (Joins.below_draws _ _ _)⟩

set_option maxRecDepth 100000 in
set_option maxHeartbeats 4000000 in
theorem isPass_any (q : Option Addr) (n c : Nat) (sl x y : Int) (W : World) (h1 : 1 ≤ n) (h5 : n ≤ 5) :
    Calls Try.prog 24 #[wkV q n c sl, .agg #[.int .i64 x, .int .i64 y]] W fun e w' => e = .returned (.bool (decide ((-2 ≤ x ∧ x ≤ 2 ∧ x ≠ 0) ∧ 1 ≤ y ∧ y < (2 ^ n : Nat)))) ∧ Below W.heap.size W w' := by
  generalize hans : decide ((-2 ≤ x ∧ x ≤ 2 ∧ x ≠ 0) ∧ 1 ≤ y ∧ y < (2 ^ n : Nat)) = ans
  go_enter Try.func24, Try.ntmps24
  go_wp2_with fail
  have B1 := bnew W (.cells #[.slice q n c, .int .i64 sl] 36)
  have K1 := KB.new W q n c sl 36
  generalize hw1 : W.alloc (.cells #[.slice q n c, .int .i64 sl] 36) = w1 at *
  have hs1 : w1.heap.size = W.heap.size + 1 := by rw [← hw1]; simp
  have B2 := btrans B1 (bnew w1 (.cells #[.int .i64 x, .int .i64 y] 44))
  have K2 := K1.keep (bnew w1 (.cells #[.int .i64 x, .int .i64 y] 44))
  have P2 := PB.new w1 x y 44
  rw [hs1] at P2
  generalize hw2 : w1.alloc (.cells #[.int .i64 x, .int .i64 y] 44) = w2 at *
  have HB := hide B2
  obtain ⟨-, k1, k2⟩ := K2
  obtain ⟨-, p1, p2⟩ := P2
  clear hw1 hw2 B1 B2 K1
  have w1 : IntKind.i64.wrap ((2 : Int) ^ n) = ((2 ^ n : Nat) : Int) := by
    rcases (show n = 1 ∨ n = 2 ∨ n = 3 ∨ n = 4 ∨ n = 5 by omega) with rfl | rfl | rfl | rfl | rfl <;> rfl
  by_cases a1 : -2 ≤ x
  · by_cases a2 : x ≤ 2
    · by_cases a3 : x = 0
      · subst a3
        obtain rfl : ans = false := by rw [← hans]; simp
        clear hans w1
        go_quiet (fail)
        go_wp2
        go_ret
        exact ⟨rfl, (unhide HB).trans (Joins.below_draws _ _ _)⟩
      · have a3' : (x != 0) = true := by simpa using a3
        by_cases a4 : 1 ≤ y
        · obtain rfl : decide (y < ((2 ^ n : Nat) : Int)) = ans := by rw [← hans]; simp [a1, a2, a3, a4]
          clear hans a3
          go_quiet (fail)
          go_wp2
          go_ret
          exact ⟨rfl, (unhide HB).trans (Joins.below_draws _ _ _)⟩
        · have a4' : decide (1 ≤ y) = false := by simpa using a4
          obtain rfl : ans = false := by rw [← hans]; simp [a4]
          clear hans a3 w1
          go_quiet (fail)
          go_wp2
          go_ret
          exact ⟨rfl, (unhide HB).trans (Joins.below_draws _ _ _)⟩
    · have a2' : decide (x ≤ 2) = false := by simpa using a2
      obtain rfl : ans = false := by rw [← hans]; simp [a2]
      clear hans w1
      go_quiet (fail)
      go_wp2
      go_ret
      exact ⟨rfl, (unhide HB).trans (Joins.below_draws _ _ _)⟩
  · have a1' : decide (-2 ≤ x) = false := by simpa using a1
    obtain rfl : ans = false := by rw [← hans]; simp [a1]
    clear hans w1
    go_quiet (fail)
    go_wp2
    go_ret
    exact ⟨rfl, (unhide HB).trans (Joins.below_draws _ _ _)⟩
end Go.Proofs.Ytpdknodnlamphaa
