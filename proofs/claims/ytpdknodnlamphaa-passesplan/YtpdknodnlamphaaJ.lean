/-
  PassesMirrored.
-/
import Derived.Test.YtpdknodnlamphaaI
namespace Go.Proofs.Ytpdknodnlamphaa
open Go.RowKit

/-- numbers mirrored, the last ones first, so many of them -/
def mrL (n : Nat) (f : Nat → Int) (x : Nat) : List Int := (List.range x).map fun j => 11 - f (n - 1 - j)
theorem mrL_len (n x : Nat) (f : Nat → Int) : (mrL n f x).length = x := by simp [mrL]
theorem mrL_succ (n x : Nat) (f : Nat → Int) : mrL n f (x + 1) = mrL n f x ++ [11 - f (n - 1 - x)] := by simp [mrL, List.range_succ]
def intsV (xs : List Int) : List Value := xs.map fun x => Value.int .i64 x
theorem intsV_one (xs : List Int) : ∀ u ∈ intsV xs, u.oneCell' = true := by
  intro u hu
  obtain ⟨j, -, rfl⟩ := List.mem_map.1 hu
  rfl
/-- numbers in a row of one's own -/
def IR (W : World) (B : Nat) (v : Value) (xs : List Int) : Prop := W.ownsRow B 3 1 v xs.length (intsV xs)
theorem IR.is {W : World} {B : Nat} {v : Value} {n : Nat} {f : Nat → Int} (h : IR W B v (mrL n f n)) : ∃ q c, v = .slice q n c ∧ Is W q n (fun j => 11 - f (n - 1 - j)) := by
  have hl := mrL_len n n f
  unfold IR at h
  rw [hl] at h
  obtain ⟨q, c, rfl⟩ := own_form h
  refine ⟨q, c, rfl, ?_⟩
  by_cases h0 : n = 0
  · exact .inl h0
  · obtain ⟨g, c', e⟩ := own_slice h (by omega)
    cases e
    refine .inr ⟨g, 0, rfl, (h.lt g rfl).2, fun k hk => ?_⟩
    rw [Nat.zero_add, h.cellAt k (by omega)]
    simp [intsV, mrL, hk]
theorem shN_mir {n : Nat} {f : Nat → Int} (h : ¬ ShN n f) : ¬ ShN n (fun j => 11 - f (n - 1 - j)) := by
  rintro ⟨i, h0, hi, e⟩
  refine h ⟨n - 1 - (i - 1), by omega, by omega, ?_⟩
  rw [show n - 1 - (i - 1) - 1 = n - 1 - i by omega]
  dsimp only at e
  omega
theorem tl_mir {n : Nat} (f : Nat → Int) : tl n (fun j => 11 - f (n - 1 - j)) = mirL n (tl n f) := tl_congr (fun i hi => by rw [gt_tl _ (by omega)])
theorem rt_mir {z : Pz} {f : Nat → Int} (h : Rt z f) : Rt z.mir (fun j => 11 - f (z.n - 1 - j)) :=
  ⟨h.n1, h.n5, h.sl, by rw [E_mir]; exact okS_mir h.e, by
    show OkS z.mir (tl z.n (fun j => 11 - f (z.n - 1 - j)))
    rw [tl_mir]
    exact okS_mir h.s⟩
theorem g18_0 {a0 a1 a2 a3 a4 a5 a6 a7 a8 a9 a10 a11 a12 a13 a14 a15 a16 a17 : Oper} : (#[a0, a1, a2, a3, a4, a5, a6, a7, a8, a9, a10, a11, a12, a13, a14, a15, a16, a17] : Array Oper)[0]? = some a0 := rfl
theorem g18_1 {a0 a1 a2 a3 a4 a5 a6 a7 a8 a9 a10 a11 a12 a13 a14 a15 a16 a17 : Oper} : (#[a0, a1, a2, a3, a4, a5, a6, a7, a8, a9, a10, a11, a12, a13, a14, a15, a16, a17] : Array Oper)[1]? = some a1 := rfl
theorem g18_2 {a0 a1 a2 a3 a4 a5 a6 a7 a8 a9 a10 a11 a12 a13 a14 a15 a16 a17 : Oper} : (#[a0, a1, a2, a3, a4, a5, a6, a7, a8, a9, a10, a11, a12, a13, a14, a15, a16, a17] : Array Oper)[2]? = some a2 := rfl
theorem g18_3 {a0 a1 a2 a3 a4 a5 a6 a7 a8 a9 a10 a11 a12 a13 a14 a15 a16 a17 : Oper} : (#[a0, a1, a2, a3, a4, a5, a6, a7, a8, a9, a10, a11, a12, a13, a14, a15, a16, a17] : Array Oper)[3]? = some a3 := rfl
theorem g18_4 {a0 a1 a2 a3 a4 a5 a6 a7 a8 a9 a10 a11 a12 a13 a14 a15 a16 a17 : Oper} : (#[a0, a1, a2, a3, a4, a5, a6, a7, a8, a9, a10, a11, a12, a13, a14, a15, a16, a17] : Array Oper)[4]? = some a4 := rfl
theorem g18_5 {a0 a1 a2 a3 a4 a5 a6 a7 a8 a9 a10 a11 a12 a13 a14 a15 a16 a17 : Oper} : (#[a0, a1, a2, a3, a4, a5, a6, a7, a8, a9, a10, a11, a12, a13, a14, a15, a16, a17] : Array Oper)[5]? = some a5 := rfl
theorem g18_6 {a0 a1 a2 a3 a4 a5 a6 a7 a8 a9 a10 a11 a12 a13 a14 a15 a16 a17 : Oper} : (#[a0, a1, a2, a3, a4, a5, a6, a7, a8, a9, a10, a11, a12, a13, a14, a15, a16, a17] : Array Oper)[6]? = some a6 := rfl
theorem g18_7 {a0 a1 a2 a3 a4 a5 a6 a7 a8 a9 a10 a11 a12 a13 a14 a15 a16 a17 : Oper} : (#[a0, a1, a2, a3, a4, a5, a6, a7, a8, a9, a10, a11, a12, a13, a14, a15, a16, a17] : Array Oper)[7]? = some a7 := rfl
theorem g18_8 {a0 a1 a2 a3 a4 a5 a6 a7 a8 a9 a10 a11 a12 a13 a14 a15 a16 a17 : Oper} : (#[a0, a1, a2, a3, a4, a5, a6, a7, a8, a9, a10, a11, a12, a13, a14, a15, a16, a17] : Array Oper)[8]? = some a8 := rfl
theorem g18_9 {a0 a1 a2 a3 a4 a5 a6 a7 a8 a9 a10 a11 a12 a13 a14 a15 a16 a17 : Oper} : (#[a0, a1, a2, a3, a4, a5, a6, a7, a8, a9, a10, a11, a12, a13, a14, a15, a16, a17] : Array Oper)[9]? = some a9 := rfl
theorem g18_10 {a0 a1 a2 a3 a4 a5 a6 a7 a8 a9 a10 a11 a12 a13 a14 a15 a16 a17 : Oper} : (#[a0, a1, a2, a3, a4, a5, a6, a7, a8, a9, a10, a11, a12, a13, a14, a15, a16, a17] : Array Oper)[10]? = some a10 := rfl
theorem g18_11 {a0 a1 a2 a3 a4 a5 a6 a7 a8 a9 a10 a11 a12 a13 a14 a15 a16 a17 : Oper} : (#[a0, a1, a2, a3, a4, a5, a6, a7, a8, a9, a10, a11, a12, a13, a14, a15, a16, a17] : Array Oper)[11]? = some a11 := rfl
theorem g18_12 {a0 a1 a2 a3 a4 a5 a6 a7 a8 a9 a10 a11 a12 a13 a14 a15 a16 a17 : Oper} : (#[a0, a1, a2, a3, a4, a5, a6, a7, a8, a9, a10, a11, a12, a13, a14, a15, a16, a17] : Array Oper)[12]? = some a12 := rfl
theorem g18_13 {a0 a1 a2 a3 a4 a5 a6 a7 a8 a9 a10 a11 a12 a13 a14 a15 a16 a17 : Oper} : (#[a0, a1, a2, a3, a4, a5, a6, a7, a8, a9, a10, a11, a12, a13, a14, a15, a16, a17] : Array Oper)[13]? = some a13 := rfl
theorem g18_14 {a0 a1 a2 a3 a4 a5 a6 a7 a8 a9 a10 a11 a12 a13 a14 a15 a16 a17 : Oper} : (#[a0, a1, a2, a3, a4, a5, a6, a7, a8, a9, a10, a11, a12, a13, a14, a15, a16, a17] : Array Oper)[14]? = some a14 := rfl
theorem g18_15 {a0 a1 a2 a3 a4 a5 a6 a7 a8 a9 a10 a11 a12 a13 a14 a15 a16 a17 : Oper} : (#[a0, a1, a2, a3, a4, a5, a6, a7, a8, a9, a10, a11, a12, a13, a14, a15, a16, a17] : Array Oper)[15]? = some a15 := rfl
theorem g18_16 {a0 a1 a2 a3 a4 a5 a6 a7 a8 a9 a10 a11 a12 a13 a14 a15 a16 a17 : Oper} : (#[a0, a1, a2, a3, a4, a5, a6, a7, a8, a9, a10, a11, a12, a13, a14, a15, a16, a17] : Array Oper)[16]? = some a16 := rfl
theorem g18_17 {a0 a1 a2 a3 a4 a5 a6 a7 a8 a9 a10 a11 a12 a13 a14 a15 a16 a17 : Oper} : (#[a0, a1, a2, a3, a4, a5, a6, a7, a8, a9, a10, a11, a12, a13, a14, a15, a16, a17] : Array Oper)[17]? = some a17 := rfl

theorem intsV_app (xs : List Int) (x : Int) : intsV (xs ++ [x]) = intsV xs ++ [.int .i64 x] := by simp [intsV]
/-- two rows of one's own, each in its own block -/
def Tw (W V : World) (a b : Value) (xs ys : List Int) : Prop := IR V W.heap.size a xs ∧ IR V W.heap.size b ys ∧ (∀ i, a.ownBlock = some i → b.ownBlock ≠ some i) ∧ Below W.heap.size W V
theorem Tw.keep {W V U : World} {a b : Value} {xs ys : List Int} (h : Tw W V a b xs ys) (hb : Below V.heap.size V U) : Tw W U a b xs ys := ⟨own_keep h.1 hb, own_keep h.2.1 hb, h.2.2.1, btrans h.2.2.2 hb⟩
theorem IR.lt {V : World} {B i : Nat} {a : Value} {xs : List Int} (h : IR V B a xs) (e : a.ownBlock = some i) : B ≤ i ∧ i < V.heap.size := World.ownsRow.lt h i e
theorem grown_row {W V U : World} {v : Value} {xs : List Int} (hb : Below W.heap.size W V) (h : IR V W.heap.size v xs) (g : V.grownBy U v.ownBlock) : Below W.heap.size W U :=
  hb.grown g hb.size (fun _ e => (h.lt e).1)
theorem Tw.first {W V U : World} {a b a' : Value} {xs ys : List Int} {x : Int} (h : Tw W V a b xs ys) (ho : U.ownsRow W.heap.size 3 1 a' (xs.length + 1) (intsV xs ++ [.int .i64 x])) (hg : V.grownBy U a.ownBlock) (he : a'.ownBlock = a.ownBlock ∨ a'.ownBlock = some V.heap.size) : Tw W U a' b (xs ++ [x]) ys := by
  refine ⟨by unfold IR; rw [intsV_app]; simpa using ho, own_but h.2.1 (grown_kept (S := fun i => a.ownBlock = some i) hg (fun r e => .inl e)) (fun i e k => h.2.2.1 i k e), fun i e k => ?_, grown_row h.2.2.2 h.1 hg⟩
  have := (h.2.1.lt k).2
  rcases he with q | q
  · exact h.2.2.1 i (q ▸ e) k
  · rw [q] at e; cases e; omega
theorem Tw.swap {W V : World} {a b : Value} {xs ys : List Int} (h : Tw W V a b xs ys) : Tw W V b a ys xs := ⟨h.2.1, h.1, fun i e k => h.2.2.1 i k e, h.2.2.2⟩
theorem Tw.second {W V U : World} {a b b' : Value} {xs ys : List Int} {x : Int} (h : Tw W V a b xs ys) (ho : U.ownsRow W.heap.size 3 1 b' (ys.length + 1) (intsV ys ++ [.int .i64 x])) (hg : V.grownBy U b.ownBlock) (he : b'.ownBlock = b.ownBlock ∨ b'.ownBlock = some V.heap.size) : Tw W U a b' xs (ys ++ [x]) := (h.swap.first ho hg he).swap
/-- a row of one number that has just been laid -/
def Li (V : World) (s : Nat) (x : Int) : Prop := V.ownsRow s 3 1 (.slice (some ⟨s, 0, none⟩) 1 1) 1 [.int .i64 x]
theorem Li.new (V : World) (x : Int) : Li (V.alloc (.cells #[.int .i64 x] 3)) V.heap.size x := own_lit (e := 3) (z := 1) (k := 1) V #[.int .i64 x] (Nat.le_refl _) (by unfold maxLen; omega) rfl
theorem Li.keep {V U : World} {s : Nat} {x : Int} (h : Li V s x) (hb : Below V.heap.size V U) : Li U s x := own_keep h hb
theorem Li.grown {V U : World} {s : Nat} {x : Int} {r : Option Nat} (h : Li V s x) (hg : V.grownBy U r) (hr : r ≠ some s) : Li U s x := own_but h (grown_kept (S := fun i => r = some i) hg (fun _ e => .inl e)) (fun _ e k => hr (k.trans e.symm))
theorem lit_one (x : Int) : ∀ u ∈ [Value.int .i64 x], u.oneCell' = true := by simp [Value.oneCell']

set_option maxRecDepth 100000 in
set_option maxHeartbeats 4000000 in
theorem mir_any (q p : Option Addr) (c d : Nat) (f : Nat → Int) (z : Pz) (W : World) (hq : Is W q z.n f) (hp : Is W p z.n z.t) (he : wE z.n z.n f z.t z.sl = 0) :
    Calls Try.prog 5 #[.slice q z.n c, .slice p z.n d, .int .i64 z.sl] W fun e w' => e = .returned (.bool true) ∧ Below W.heap.size W w' := by
  obtain ⟨-, hR, hsh⟩ := wE_ok he
  have hR : Rt z f := hR
  have HA := hide (alive_any W)
  have HP := hide (fun V (hb : Below W.heap.size W V) => plan_mid q p c d f z V (hq.keep hb) (hp.keep hb) he)
  have HP2 := hide (fun V (q2 p2 : Option Addr) (c2 d2 : Nat) (h1 : Is V q2 z.n (fun j => 11 - f (z.n - 1 - j))) (h2 : Is V p2 z.n (fun j => 11 - z.t (z.n - 1 - j))) => (show Calls Try.prog 8 #[.slice q2 z.n c2, .slice p2 z.n d2, .int .i64 z.sl] V (PlanPost V z.mir (fun j => 11 - f (z.n - 1 - j))) from plan_mid q2 p2 c2 d2 (fun j => 11 - f (z.n - 1 - j)) z.mir V h1 h2 (wE_of (rt_mir hR) (shN_mir hsh))))
  obtain ⟨qb, qo, rfl, hqb, hqc⟩ : ∃ b o, q = some ⟨b, o, none⟩ ∧ b < W.heap.size ∧ ∀ k, k < z.n → W.cell? ⟨b, o + k, none⟩ = some (.int .i64 (f k)) := hq.resolve_left (by have := hR.n1; omega)
  obtain ⟨pb, po, rfl, hpb, hpc⟩ : ∃ b o, p = some ⟨b, o, none⟩ ∧ b < W.heap.size ∧ ∀ k, k < z.n → W.cell? ⟨b, o + k, none⟩ = some (.int .i64 (z.t k)) := hp.resolve_left (by have := hR.n1; omega)
  have hf : ∀ y, y < z.n → 0 ≤ f y ∧ f y ≤ 11 := fun y hy => by have := (hR.s.2 y hy).1; rw [gt_tl _ hy] at this; exact this
  have ht : ∀ y, y < z.n → 0 ≤ z.t y ∧ z.t y ≤ 11 := fun y hy => by have := (hR.e.2 y hy).1; rw [show z.E = tl z.n z.t from rfl, gt_tl _ hy] at this; exact this
  have hn1 := hR.n1
  have hn5 := hR.n5
  have Hdm := hide (fun k (h : dst z k (tl z.n f)) => (show dst z.mir k (tl z.n (fun j => 11 - f (z.n - 1 - j))) from by rw [tl_mir]; exact dst_mir (by have := hR.n5; omega) hR.e (by simp) h))
  clear hq hp he hR hsh
  go_enter Try.func5, Try.ntmps5
  go_wp2_with fail
  refine (unhide HA).mono ?_
  rintro e w1 ⟨rfl, hb1⟩
  go_wp2_with fail
  refine (unhide HP w1 hb1).mono ?_
  rintro e w2 ⟨hb2, ⟨rfl, hnr⟩ | ⟨k, g, hd, rfl, hg, hr⟩⟩
  · have HB := hide (btrans hb1 hb2)
    clear hb1 hb2 hnr
    go_wp2
    go_ret
    exact ⟨rfl, unhide HB⟩
  · have HB := hide (btrans hb1 hb2)
    have Hd := hide (unhide Hdm k hd)
    clear hb1 hb2 hr hd Hdm hg HA HP
    have w0 : IntKind.i64.wrap ((z.n : Int) - 1) = (z.n : Int) - 1 := Go.IntWalk.i64_in _ (by omega)
    go_wp2
    go_loopw [9, 10, 11] (fun va vb i wr => ∃ (x : Nat) (ua ub : Value), ua = va ∧ ub = vb ∧ x ≤ z.n ∧ i = .int .i64 ((z.n : Int) - 1 - x) ∧ Tw W wr ua ub (mrL z.n f x) (mrL z.n z.t x)) (fun _ _ i _ => (intOf i + 1).toNat)
    case atStart => exact ⟨0, _, _, rfl, rfl, Nat.zero_le _, by simp, World.ownsRow_nil _ _ _ _, World.ownsRow_nil _ _ _ _, (fun i e => nomatch e), unhide HB⟩
    case round =>
      obtain ⟨x, va, vb, rfl, rfl, hx, rfl, hT⟩ := hrel
      by_cases hlt : x < z.n
      · obtain ⟨y, hy0⟩ : ∃ y, y + 1 + x = z.n := ⟨z.n - 1 - x, by omega⟩
        have hyI : (z.n : Int) - 1 - x = (y : Int) := by omega
        have hy : y < z.n := by omega
        have hfy := hf y hy
        have hty := ht y hy
        rw [hyI]
        have w3 : IntKind.i64.wrap ((y : Int) - 1) = (y : Int) - 1 := Go.IntWalk.i64_in _ (by omega)
        go_wp2
        replace hT := hT.keep (bdrew wr)
        have oa : ∀ i, va.ownBlock = some i → i < wr.drew.heap.size := fun i e => (hT.1.lt e).2
        refine wp_region_noPanic ?_
        refine wp_region_held_drew (S := fun V => Below W.heap.size W V) (by kernel_rfl) (hT.2.2.2) ?_
        intro _
        generalize wr.drew = w8 at *
        refine wpAnyH_take (i := 0) (oi := _) (v := va) g18_0 (by kernel_rfl) (by kernel_rfl) (by kernel_rfl) (fun _ _ _ h => h) (Or.inl ⟨by rfl, ?_⟩) (by assumption) ?_
        · intro V hSw
          try dsimp only at hSw
          go_simp
        simp only [Act.put, List.setIfInBounds_toArray, List.set_cons_zero, List.set_cons_succ]
        refine wpAnyH_take (i := 1) (oi := _) (v := .slice (some ⟨qb, qo, none⟩) z.n c) g18_1 (by kernel_rfl) (by kernel_rfl) (by kernel_rfl) (fun _ _ _ h => h) (Or.inl ⟨by rfl, ?_⟩) (by assumption) ?_
        · intro V hSw
          try dsimp only at hSw
          go_simp
        simp only [Act.put, List.setIfInBounds_toArray, List.set_cons_zero, List.set_cons_succ]
        refine wpAnyH_take (i := 2) (oi := _) (v := .int .i64 (y : Nat)) g18_2 (by kernel_rfl) (by kernel_rfl) (by kernel_rfl) (fun _ _ _ h => h) (Or.inl ⟨by rfl, ?_⟩) (by assumption) ?_
        · intro V hSw
          try dsimp only at hSw
          go_simp
        simp only [Act.put, List.setIfInBounds_toArray, List.set_cons_zero, List.set_cons_succ]
        refine wpAnyH_take (i := 3) (oi := _) (v := .pointer (some ⟨qb, qo + y, none⟩)) g18_3 (by kernel_rfl) (by kernel_rfl) (by kernel_rfl) (fun _ _ _ h => h) (Or.inl ⟨by rfl, ?_⟩) (by assumption) ?_
        · intro V hSw
          try dsimp only at hSw
          have e9 : y < z.n := hy
          go_simp
        simp only [Act.put, List.setIfInBounds_toArray, List.set_cons_zero, List.set_cons_succ]
        refine wpAnyH_take (i := 4) (oi := _) (v := .int .i64 (f y)) g18_4 (by kernel_rfl) (by kernel_rfl) (by kernel_rfl) (fun _ _ _ h => h) (Or.inl ⟨by rfl, ?_⟩) (by assumption) ?_
        · intro V hSw
          try dsimp only at hSw
          have e9 := keepC hSw hqb (hqc y hy)
          go_simp
        simp only [Act.put, List.setIfInBounds_toArray, List.set_cons_zero, List.set_cons_succ]
        refine wpAnyH_take (i := 5) (oi := _) (v := .int .i64 (11 - f y)) g18_5 (by kernel_rfl) (by kernel_rfl) (by kernel_rfl) (fun _ _ _ h => h) (Or.inl ⟨by rfl, ?_⟩) (by assumption) ?_
        · intro V hSw
          try dsimp only at hSw
          have e9 : IntKind.i64.wrap (11 - f y) = 11 - f y := Go.IntWalk.i64_in _ (by omega)
          go_simp
        simp only [Act.put, List.setIfInBounds_toArray, List.set_cons_zero, List.set_cons_succ]
        refine wpAnyH_take (i := 8) (oi := _) (v := vb) g18_8 (by kernel_rfl) (by kernel_rfl) (by kernel_rfl) (fun _ _ _ h => h) (Or.inl ⟨by rfl, ?_⟩) (by assumption) ?_
        · intro V hSw
          try dsimp only at hSw
          go_simp
        simp only [Act.put, List.setIfInBounds_toArray, List.set_cons_zero, List.set_cons_succ]
        refine wpAnyH_take (i := 9) (oi := _) (v := .slice (some ⟨pb, po, none⟩) z.n d) g18_9 (by kernel_rfl) (by kernel_rfl) (by kernel_rfl) (fun _ _ _ h => h) (Or.inl ⟨by rfl, ?_⟩) (by assumption) ?_
        · intro V hSw
          try dsimp only at hSw
          go_simp
        simp only [Act.put, List.setIfInBounds_toArray, List.set_cons_zero, List.set_cons_succ]
        refine wpAnyH_take (i := 10) (oi := _) (v := .int .i64 (y : Nat)) g18_10 (by kernel_rfl) (by kernel_rfl) (by kernel_rfl) (fun _ _ _ h => h) (Or.inl ⟨by rfl, ?_⟩) (by assumption) ?_
        · intro V hSw
          try dsimp only at hSw
          go_simp
        simp only [Act.put, List.setIfInBounds_toArray, List.set_cons_zero, List.set_cons_succ]
        refine wpAnyH_take (i := 11) (oi := _) (v := .pointer (some ⟨pb, po + y, none⟩)) g18_11 (by kernel_rfl) (by kernel_rfl) (by kernel_rfl) (fun _ _ _ h => h) (Or.inl ⟨by rfl, ?_⟩) (by assumption) ?_
        · intro V hSw
          try dsimp only at hSw
          go_simp
        simp only [Act.put, List.setIfInBounds_toArray, List.set_cons_zero, List.set_cons_succ]
        refine wpAnyH_take (i := 12) (oi := _) (v := .int .i64 (z.t y)) g18_12 (by kernel_rfl) (by kernel_rfl) (by kernel_rfl) (fun _ _ _ h => h) (Or.inl ⟨by rfl, ?_⟩) (by assumption) ?_
        · intro V hSw
          try dsimp only at hSw
          have e9 := keepC hSw hpb (hpc y hy)
          go_simp
        simp only [Act.put, List.setIfInBounds_toArray, List.set_cons_zero, List.set_cons_succ]
        refine wpAnyH_take (i := 13) (oi := _) (v := .int .i64 (11 - z.t y)) g18_13 (by kernel_rfl) (by kernel_rfl) (by kernel_rfl) (fun _ _ _ h => h) (Or.inl ⟨by rfl, ?_⟩) (by assumption) ?_
        · intro V hSw
          try dsimp only at hSw
          have e9 : IntKind.i64.wrap (11 - z.t y) = 11 - z.t y := Go.IntWalk.i64_in _ (by omega)
          go_simp
        simp only [Act.put, List.setIfInBounds_toArray, List.set_cons_zero, List.set_cons_succ]
        refine wpAnyH_ready (rs := [6, 14]) (by kernel_rfl) (by simp) ?_
        refine (AllReadyH.cons (o := _) g18_6 (fun K hK => ?_) (AllReadyH.cons (o := _) g18_14 (fun K hK => ?_) AllReadyH.nil))
        · go_simp
          have hT2 := hT.keep (bnew w8 (.cells #[.int .i64 (11 - f y)] 3))
          have lf := Li.new w8 (11 - f y)
          refine hK.out _ _ (hT2.2.2.2) (fun _ => ?_)
          clear hK K
          replace hT := hT2
          clear hT2
          refine wpAnyH_ready (rs := [7, 14]) (by kernel_rfl) (by simp) ?_
          refine (AllReadyH.cons (o := _) g18_7 (fun K hK => ?_) (AllReadyH.cons (o := _) g18_14 (fun K hK => ?_) AllReadyH.nil))
          · refine wp_app (t := 22) (e := 3) rfl Try.underlying22 info3 rfl (by decide) rfl rfl hT.1 lf (lit_one _) (by unfold maxLen; rw [mrL_len]; omega) (by rw [mrL_len]; omega) hT.2.2.2.size ?_
            intro va1 wa ho hg he
            have hT2 := hT.first ho hg he
            refine hK.out _ _ (hT2.2.2.2) (fun _ => ?_)
            clear hK K
            replace hT := hT2
            clear hT2 ho hg he
            clear lf
            refine wpAnyH_ready (rs := [14]) (by kernel_rfl) (by simp) ?_
            refine AllReadyH.cons (o := _) g18_14 (fun K hK => ?_) AllReadyH.nil
            go_simp
            have hT2 := hT.keep (bnew wa (.cells #[.int .i64 (11 - z.t y)] 3))
            have lt := Li.new wa (11 - z.t y)
            refine hK.out _ _ (hT2.2.2.2) (fun _ => ?_)
            clear hK K
            replace hT := hT2
            clear hT2
            refine wpAnyH_ready (rs := [15]) (by kernel_rfl) (by simp) ?_
            refine AllReadyH.cons (o := _) g18_15 (fun K hK => ?_) AllReadyH.nil
            refine wp_app (t := 22) (e := 3) rfl Try.underlying22 info3 rfl (by decide) rfl rfl hT.2.1 lt (lit_one _) (by unfold maxLen; rw [mrL_len]; omega) (by rw [mrL_len]; omega) hT.2.2.2.size ?_
            intro vb1 wb ho hg he
            have hT2 := hT.second ho hg he
            refine hK.out _ _ (hT2.2.2.2) (fun _ => ?_)
            clear hK K
            replace hT := hT2
            clear hT2 ho hg he
            clear lt
            have hS9 := hT.2.2.2
            have HT := hide hT
            clear hT
            refine wpAnyH_take (i := 16) (oi := _) (v := va1) g18_16 (by kernel_rfl) (by kernel_rfl) (by kernel_rfl) (fun _ _ _ h => h) (Or.inl ⟨by rfl, ?_⟩) (by assumption) ?_
            · intro V hSw
              try dsimp only at hSw
              go_simp
            simp only [Act.put, List.setIfInBounds_toArray, List.set_cons_zero, List.set_cons_succ]
            refine wpAnyH_take (i := 17) (oi := _) (v := vb1) g18_17 (by kernel_rfl) (by kernel_rfl) (by kernel_rfl) (fun _ _ _ h => h) (Or.inl ⟨by rfl, ?_⟩) (by assumption) ?_
            · intro V hSw
              try dsimp only at hSw
              go_simp
            simp only [Act.put, List.setIfInBounds_toArray, List.set_cons_zero, List.set_cons_succ]
            refine wpAnyH_done (by kernel_rfl) ?_ _
            refine NoPanic.normal ?_
            go_wp2
            refine ⟨⟨x + 1, va1, vb1, rfl, rfl, by omega, by congr 1; omega, ?_⟩, ?_⟩
            · have := unhide HT
              rw [mrL_succ, mrL_succ, show z.n - 1 - x = y by omega]
              exact this
            · simp [intOf]
          · go_simp
            have hT2 := hT.keep (bnew (w8.alloc (.cells #[.int .i64 (11 - f y)] 3)) (.cells #[.int .i64 (11 - z.t y)] 3))
            have lt := Li.new (w8.alloc (.cells #[.int .i64 (11 - f y)] 3)) (11 - z.t y)
            refine hK.out _ _ (hT2.2.2.2) (fun _ => ?_)
            clear hK K
            replace hT := hT2
            clear hT2
            rw [World.size_alloc] at lt
            have lf2 := lf.keep (bnew _ (.cells #[.int .i64 (11 - z.t y)] 3))
            clear lf
            refine wpAnyH_ready (rs := [7]) (by kernel_rfl) (by simp) ?_
            refine AllReadyH.cons (o := _) g18_7 (fun K hK => ?_) AllReadyH.nil
            refine wp_app (t := 22) (e := 3) rfl Try.underlying22 info3 rfl (by decide) rfl rfl hT.1 lf2 (lit_one _) (by unfold maxLen; rw [mrL_len]; omega) (by rw [mrL_len]; omega) hT.2.2.2.size ?_
            intro va1 wa ho hg he
            have hT2 := hT.first ho hg he
            refine hK.out _ _ (hT2.2.2.2) (fun _ => ?_)
            clear hK K
            have lt2 := lt.grown hg (fun e => by have := oa _ e; omega)
            replace hT := hT2
            clear hT2 ho hg he
            clear lf2 lt
            refine wpAnyH_ready (rs := [15]) (by kernel_rfl) (by simp) ?_
            refine AllReadyH.cons (o := _) g18_15 (fun K hK => ?_) AllReadyH.nil
            refine wp_app (t := 22) (e := 3) rfl Try.underlying22 info3 rfl (by decide) rfl rfl hT.2.1 lt2 (lit_one _) (by unfold maxLen; rw [mrL_len]; omega) (by rw [mrL_len]; omega) hT.2.2.2.size ?_
            intro vb1 wb ho hg he
            have hT2 := hT.second ho hg he
            refine hK.out _ _ (hT2.2.2.2) (fun _ => ?_)
            clear hK K
            replace hT := hT2
            clear hT2 ho hg he
            clear lt2
            have hS9 := hT.2.2.2
            have HT := hide hT
            clear hT
            refine wpAnyH_take (i := 16) (oi := _) (v := va1) g18_16 (by kernel_rfl) (by kernel_rfl) (by kernel_rfl) (fun _ _ _ h => h) (Or.inl ⟨by rfl, ?_⟩) (by assumption) ?_
            · intro V hSw
              try dsimp only at hSw
              go_simp
            simp only [Act.put, List.setIfInBounds_toArray, List.set_cons_zero, List.set_cons_succ]
            refine wpAnyH_take (i := 17) (oi := _) (v := vb1) g18_17 (by kernel_rfl) (by kernel_rfl) (by kernel_rfl) (fun _ _ _ h => h) (Or.inl ⟨by rfl, ?_⟩) (by assumption) ?_
            · intro V hSw
              try dsimp only at hSw
              go_simp
            simp only [Act.put, List.setIfInBounds_toArray, List.set_cons_zero, List.set_cons_succ]
            refine wpAnyH_done (by kernel_rfl) ?_ _
            refine NoPanic.normal ?_
            go_wp2
            refine ⟨⟨x + 1, va1, vb1, rfl, rfl, by omega, by congr 1; omega, ?_⟩, ?_⟩
            · have := unhide HT
              rw [mrL_succ, mrL_succ, show z.n - 1 - x = y by omega]
              exact this
            · simp [intOf]
        · go_simp
          have hT2 := hT.keep (bnew w8 (.cells #[.int .i64 (11 - z.t y)] 3))
          have lt := Li.new w8 (11 - z.t y)
          refine hK.out _ _ (hT2.2.2.2) (fun _ => ?_)
          clear hK K
          replace hT := hT2
          clear hT2
          refine wpAnyH_ready (rs := [6]) (by kernel_rfl) (by simp) ?_
          refine AllReadyH.cons (o := _) g18_6 (fun K hK => ?_) AllReadyH.nil
          go_simp
          have hT2 := hT.keep (bnew (w8.alloc (.cells #[.int .i64 (11 - z.t y)] 3)) (.cells #[.int .i64 (11 - f y)] 3))
          have lf := Li.new (w8.alloc (.cells #[.int .i64 (11 - z.t y)] 3)) (11 - f y)
          refine hK.out _ _ (hT2.2.2.2) (fun _ => ?_)
          clear hK K
          replace hT := hT2
          clear hT2
          rw [World.size_alloc] at lf
          have lt2 := lt.keep (bnew _ (.cells #[.int .i64 (11 - f y)] 3))
          clear lt
          refine wpAnyH_ready (rs := [7]) (by kernel_rfl) (by simp) ?_
          refine AllReadyH.cons (o := _) g18_7 (fun K hK => ?_) AllReadyH.nil
          refine wp_app (t := 22) (e := 3) rfl Try.underlying22 info3 rfl (by decide) rfl rfl hT.1 lf (lit_one _) (by unfold maxLen; rw [mrL_len]; omega) (by rw [mrL_len]; omega) hT.2.2.2.size ?_
          intro va1 wa ho hg he
          have hT2 := hT.first ho hg he
          refine hK.out _ _ (hT2.2.2.2) (fun _ => ?_)
          clear hK K
          have lt3 := lt2.grown hg (fun e => by have := oa _ e; omega)
          replace hT := hT2
          clear hT2 ho hg he
          clear lf lt2
          refine wpAnyH_ready (rs := [15]) (by kernel_rfl) (by simp) ?_
          refine AllReadyH.cons (o := _) g18_15 (fun K hK => ?_) AllReadyH.nil
          refine wp_app (t := 22) (e := 3) rfl Try.underlying22 info3 rfl (by decide) rfl rfl hT.2.1 lt3 (lit_one _) (by unfold maxLen; rw [mrL_len]; omega) (by rw [mrL_len]; omega) hT.2.2.2.size ?_
          intro vb1 wb ho hg he
          have hT2 := hT.second ho hg he
          refine hK.out _ _ (hT2.2.2.2) (fun _ => ?_)
          clear hK K
          replace hT := hT2
          clear hT2 ho hg he
          clear lt3
          have hS9 := hT.2.2.2
          have HT := hide hT
          clear hT
          refine wpAnyH_take (i := 16) (oi := _) (v := va1) g18_16 (by kernel_rfl) (by kernel_rfl) (by kernel_rfl) (fun _ _ _ h => h) (Or.inl ⟨by rfl, ?_⟩) (by assumption) ?_
          · intro V hSw
            try dsimp only at hSw
            go_simp
          simp only [Act.put, List.setIfInBounds_toArray, List.set_cons_zero, List.set_cons_succ]
          refine wpAnyH_take (i := 17) (oi := _) (v := vb1) g18_17 (by kernel_rfl) (by kernel_rfl) (by kernel_rfl) (fun _ _ _ h => h) (Or.inl ⟨by rfl, ?_⟩) (by assumption) ?_
          · intro V hSw
            try dsimp only at hSw
            go_simp
          simp only [Act.put, List.setIfInBounds_toArray, List.set_cons_zero, List.set_cons_succ]
          refine wpAnyH_done (by kernel_rfl) ?_ _
          refine NoPanic.normal ?_
          go_wp2
          refine ⟨⟨x + 1, va1, vb1, rfl, rfl, by omega, by congr 1; omega, ?_⟩, ?_⟩
          · have := unhide HT
            rw [mrL_succ, mrL_succ, show z.n - 1 - x = y by omega]
            exact this
          · simp [intOf]
      · obtain rfl : x = z.n := by omega
        rw [show (z.n : Int) - 1 - (z.n : Nat) = -1 by omega]
        obtain ⟨qa, ca, rfl, ia⟩ := hT.1.is
        obtain ⟨qc, cb, rfl, ib⟩ := hT.2.1.is
        have HP3 := hide (unhide HP2 wr qa qc ca cb ia ib)
        have HB9 := hide hT.2.2.2
        clear hT ia ib hqc hpc hf ht HB HP2
        go_wp2_with fail
        refine (unhide HP3).mono ?_
        rintro e w5 ⟨hb5, ⟨rfl, hnr⟩ | ⟨k2, g2, hd2, rfl, -, -⟩⟩
        · exact absurd (unhide Hd).1 (hnr k)
        · obtain rfl : k2 = k := dst_unique hd2 (unhide Hd)
          have HB5 := hide (btrans (unhide HB9) hb5)
          clear hb5 hd2 Hd HP3 HB9
          go_wp2
          go_ret
          exact ⟨rfl, unhide HB5⟩

set_option maxRecDepth 100000 in
set_option maxHeartbeats 1000000 in
theorem mirrored_any (q p : Option Addr) (n k c d : Nat) (f t : Nat → Int) (sl : Int) (W : World) (hq : Is W q n f) (hp : Is W p k t) :
    Calls Try.prog 5 #[.slice q n c, .slice p k d, .int .i64 sl] W fun e w' => e = .returned (.bool true) ∧ Below W.heap.size W w' := by
  by_cases he : wE n k f t sl = 0
  · obtain ⟨hmn, -, -⟩ := wE_ok he
    subst hmn
    exact mir_any q p c d f ⟨k, t, sl⟩ W hq hp he
  · have HA := hide (alive_any W)
    have HP := hide (fun V (hb : Below W.heap.size W V) => plan_err q p n k c d f t sl V (hq.keep hb) (hp.keep hb) he)
    generalize wE n k f t sl = x at *
    have hx' : (x != 0) = true := by simpa using he
    clear he hq hp
    go_enter Try.func5, Try.ntmps5
    go_wp2_with fail
    refine (unhide HA).mono ?_
    rintro e w1 ⟨rfl, hb1⟩
    go_wp2_with fail
    refine (unhide HP w1 hb1).mono ?_
    rintro e w2 ⟨rfl, hb2⟩
    have HB := hide (btrans hb1 hb2)
    clear hb1 hb2
    go_wp2
    go_ret
    exact ⟨rfl, unhide HB⟩
end Go.Proofs.Ytpdknodnlamphaa
