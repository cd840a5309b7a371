/-
  Scripts in memory; Run.
-/
import Derived.Test.YtancniamgfppiaaStC
namespace Go.Proofs.Ytancniamgfppiaa
open Go.RowKit

/-- stitches that lie in a slice -/
def Sc (W : World) (q : Option Addr) (n : Nat) (f : Nat → Sx) : Prop := n = 0 ∨ ∃ b o, q = some ⟨b, o, none⟩ ∧ b < W.heap.size ∧ ∀ k, k < n → W.cell? ⟨b, o + k * 5, none⟩ = some (.int .i64 (f k).dk) ∧ W.cell? ⟨b, o + k * 5 + 1, none⟩ = some (.int .i64 (f k).bed) ∧ W.cell? ⟨b, o + k * 5 + 2, none⟩ = some (.int .i64 (f k).ndl) ∧ W.cell? ⟨b, o + k * 5 + 3, none⟩ = some (.int .i64 (f k).car) ∧ W.cell? ⟨b, o + k * 5 + 4, none⟩ = some (.int .i64 (f k).tt)
theorem low_cell {B : Nat} {W V : World} {b o : Nat} {v : Value} (hb : Below B W V) (h : b < B) (hc : W.cell? ⟨b, o, none⟩ = some v) : V.cell? ⟨b, o, none⟩ = some v := by
  rw [hb.cell (p := ⟨b, o, none⟩) h]; exact hc
theorem low_froz {B : Nat} {W V : World} {b o : Nat} (hb : Below B W V) (h : b < B) (hc : W.frozen? ⟨b, o, none⟩ = false) : V.frozen? ⟨b, o, none⟩ = false := by
  rw [hb.frozen (p := ⟨b, o, none⟩) h]; exact hc
theorem Sc.up {B : Nat} {W V : World} {q : Option Addr} {n : Nat} {f : Nat → Sx} (h : Sc W q n f) (hb : Below B W V) (hB : W.heap.size ≤ B) : Sc V q n f := by
  rcases h with h | ⟨b, o, e, hl, hk⟩
  · exact .inl h
  · refine .inr ⟨b, o, e, Nat.lt_of_lt_of_le hl hb.size, fun k hkn => ?_⟩
    obtain ⟨c0, c1, c2, c3, c4⟩ := hk k hkn
    exact ⟨low_cell hb (by omega) c0, low_cell hb (by omega) c1, low_cell hb (by omega) c2, low_cell hb (by omega) c3, low_cell hb (by omega) c4⟩
theorem Sc.keep {W V : World} {q : Option Addr} {n : Nat} {f : Nat → Sx} (h : Sc W q n f) (hb : Below W.heap.size W V) : Sc V q n f := h.up hb (Nat.le_refl _)
theorem Sc.at {W : World} {q : Option Addr} {n k : Nat} {f : Nat → Sx} (h : Sc W q n f) (hk : k < n) : ∃ b o, q = some ⟨b, o, none⟩ ∧ W.cell? ⟨b, o + k * 5, none⟩ = some (.int .i64 (f k).dk) ∧ W.cell? ⟨b, o + k * 5 + 1, none⟩ = some (.int .i64 (f k).bed) ∧ W.cell? ⟨b, o + k * 5 + 2, none⟩ = some (.int .i64 (f k).ndl) ∧ W.cell? ⟨b, o + k * 5 + 3, none⟩ = some (.int .i64 (f k).car) ∧ W.cell? ⟨b, o + k * 5 + 4, none⟩ = some (.int .i64 (f k).tt) := by
  rcases h with h | ⟨b, o, e, hl, hc⟩
  · omega
  · exact ⟨b, o, e, hc k hk⟩

/-- a fault in its box -/
def FB (W : World) (b : Nat) (x y : Int) : Prop := (b < W.heap.size ∧ Tg W b 32) ∧ (W.cell? ⟨b, 0, none⟩ = some (.int .i64 x) ∧ W.cell? ⟨b, 1, none⟩ = some (.int .i64 y)) ∧ W.frozen? ⟨b, 0, none⟩ = false ∧ W.frozen? ⟨b, 1, none⟩ = false
theorem FB.kept {S : Nat → Prop} {W V : World} {b : Nat} {x y : Int} (k : FB W b x y) (e : Kept S W V) (hS : ¬ S b) : FB V b x y :=
  ⟨⟨Nat.lt_of_lt_of_le k.1.1 e.size, k.1.2.kept e k.1.1 hS⟩, ⟨e.cell k.1.1 hS k.2.1.1, e.cell k.1.1 hS k.2.1.2⟩, e.froz k.1.1 hS k.2.2.1, e.froz k.1.1 hS k.2.2.2⟩
theorem FB.keep {W V : World} {b : Nat} {x y : Int} (k : FB W b x y) (e : Below W.heap.size W V) : FB V b x y := k.kept (Kept.of (S := fun _ => False) e) id
theorem FB.new (W : World) (x y : Int) : FB (W.alloc (.cells #[.int .i64 x, .int .i64 y] 32)) W.heap.size x y := ⟨⟨by simp, Tg.new _ _ _⟩, ⟨by simp [go_sem], by simp [go_sem]⟩, by simp [go_sem], by simp [go_sem]⟩
abbrev put30 (W : World) (b : Nat) (x y : Int) : World := (W.setCell ⟨b, 0, none⟩ (.int .i64 x)).setCell ⟨b, 1, none⟩ (.int .i64 y)
theorem FB.put {W : World} {b : Nat} {x' y' : Int} (k : FB W b x' y') (x y : Int) : FB (put30 W b x y) b x y := by
  obtain ⟨⟨l, t⟩, ⟨a0, a1⟩, f0, f1⟩ := k
  exact ⟨⟨by simpa using l, (t.set _ _).set _ _⟩, ⟨cset (csame a0) (by decide), csame (cset a1 (by decide))⟩, fset (fset f0), fset (fset f1)⟩
theorem put30_kept (W : World) (b : Nat) (x y : Int) : Kept (fun i => i = b) W (put30 W b x y) := ((Kept.refl (fun i => i = b) W).set (b := b) 0 (.int .i64 x) (.inl rfl)).set (b := b) 1 (.int .i64 y) (.inl rfl)
/-- blocks below a bound stay -/
theorem KB.up {B : Nat} {W V : World} {b : Nat} {v0 v1 v2 v3 : Value} {r : Int} (k : KB W b v0 v1 v2 v3 r) (e : Below B W V) (h : b < B) : KB V b v0 v1 v2 v3 r :=
  k.kept (S := fun i => B ≤ i) ⟨e.os, e.tape, e.output, e.size, fun i _ hS => e.block i (by omega)⟩ (by omega)
theorem FB.up {B : Nat} {W V : World} {b : Nat} {x y : Int} (k : FB W b x y) (e : Below B W V) (h : b < B) : FB V b x y :=
  k.kept (S := fun i => B ≤ i) ⟨e.os, e.tape, e.output, e.size, fun i _ hS => e.block i (by omega)⟩ (by omega)

theorem Th.zero : Th s0 := fun e he => by simp [s0] at he
theorem Th.next {s : St} {x : Sx} (h : Th s) (hI : Iv s) : Th (doS s x) := by
  have h8 := hI.2.2.2.1
  intro e he
  unfold doS cnt doX at he
  by_cases e1 : x.dk = 1
  · rw [if_pos e1] at he
    rcases List.mem_append.1 he with q | q
    · exact h e q
    · rw [List.mem_singleton.1 q]; exact h8 _ _
  rw [if_neg e1] at he
  by_cases e2 : x.dk = 2
  · rw [if_pos e2] at he
    rcases List.mem_append.1 he with q | q
    · exact h e q
    · rw [List.mem_singleton.1 q]; simp
  rw [if_neg e2] at he
  by_cases e4 : x.dk = 4
  · rw [if_pos e4] at he; exact h e he
  rw [if_neg e4] at he
  by_cases e5 : x.dk = 5
  · rw [if_pos e5] at he; exact h e he
  rw [if_neg e5] at he
  by_cases e6 : x.dk = 6
  · rw [if_pos e6] at he; exact h e he
  · rw [if_neg e6] at he; exact h e he
theorem Th.kn (N : Nat) (f : Nat → Sx) (k : Nat) : Th (knS N f k) := by
  induction k with
  | zero => exact Th.zero
  | succ k ih =>
    simp only [knS]
    split
    · exact ih.next (Iv.kn N f k)
    · exact ih
theorem nx_kn (N : Nat) (f : Nat → Sx) (k : Nat) : nxS N (knS N f k) (f k) = knS N f (k + 1) := rfl

abbrev zeroK : Value := .agg #[.slice none 0 0, .slice none 0 0, .slice none 0 0, .slice none 0 0, .int .i64 0]
abbrev fltV (x y : Int) : Value := .agg #[.int .i64 x, .int .i64 y]
set_option maxRecDepth 100000 in
set_option maxHeartbeats 4000000 in
theorem run_new (n : Int) (W : World) (q : Option Addr) (l c : Nat) (h : n < 1 ∨ 128 < n) : Calls Try.prog 15 #[.int .i64 n, .slice q l c] W fun e w' => e = .returned (.tuple #[zeroK, fltV 3 0]) ∧ Below W.heap.size W w' := by
  have HN := hide (fun V => new_err n V h)
  have B0 := hide (btrans (bnew W (.cells #[.slice none 0 0, .slice none 0 0, .slice none 0 0, .slice none 0 0, .int .i64 0] 29)) (bnew _ (.cells #[.int .i64 0, .int .i64 0] 32)))
  have HKb := hide ((KB.new W (.slice none 0 0) (.slice none 0 0) (.slice none 0 0) (.slice none 0 0) 0).keep (bnew _ (.cells #[.int .i64 0, .int .i64 0] 32)))
  have HFb := hide (show FB ((W.alloc (.cells #[.slice none 0 0, .slice none 0 0, .slice none 0 0, .slice none 0 0, .int .i64 0] 29)).alloc (.cells #[.int .i64 0, .int .i64 0] 32)) (W.heap.size + 1) 0 0 by have := FB.new (W.alloc (.cells #[.slice none 0 0, .slice none 0 0, .slice none 0 0, .slice none 0 0, .int .i64 0] 29)) 0 0; simpa using this)
  have Hsz := hide (show ((W.alloc (.cells #[.slice none 0 0, .slice none 0 0, .slice none 0 0, .slice none 0 0, .int .i64 0] 29)).alloc (.cells #[.int .i64 0, .int .i64 0] 32)).heap.size = W.heap.size + 2 by simp)
  clear h
  go_enter Try.func15, Try.ntmps15
  go_upto_region 1 with fail
  generalize ((W.alloc (.cells #[.slice none 0 0, .slice none 0 0, .slice none 0 0, .slice none 0 0, .int .i64 0] 29)).alloc (.cells #[.int .i64 0, .int .i64 0] 32)) = w0 at *
  obtain ⟨kb, hkb⟩ : ∃ kb, kb = W.heap.size := ⟨_, rfl⟩
  obtain ⟨fb, hfb⟩ : ∃ fb, fb = W.heap.size + 1 := ⟨_, rfl⟩
  rw [← hkb] at HKb
  rw [← hfb] at HFb
  rw [← hfb]
  rw [← hkb]
  have Hkb := hide hkb
  have Hfb := hide hfb
  clear hkb hfb
  have HKc := hide (unhide HKb)
  have HFc := hide (unhide HFb)
  clear HKb HFb
  go_wp2_with fail
  refine (unhide HN _).mono ?_
  rintro e w1 ⟨rfl, hw1⟩
  subst hw1
  obtain ⟨-, ⟨r0, r1, r2, r3, r4⟩, rf⟩ := unhide HKc
  have rf0 := rf 0 (by decide)
  have rf1 := rf 1 (by decide)
  have rf2 := rf 2 (by decide)
  have rf3 := rf 3 (by decide)
  have rf4 := rf 4 (by decide)
  clear rf
  obtain ⟨-, ⟨y0, y1⟩, g0, g1⟩ := unhide HFc
  obtain ⟨x9, hx9, hK9, hL9⟩ : ∃ x9, put27 w1 kb (.slice none 0 0) (.slice none 0 0) (.slice none 0 0) (.slice none 0 0) 0 = x9 ∧ KB x9 kb (.slice none 0 0) (.slice none 0 0) (.slice none 0 0) (.slice none 0 0) 0 ∧ Kept (fun i => i = kb) w1 x9 := ⟨_, rfl, (unhide HKc).put _ _ _ _ _, put27_kept _ _ _ _ _ _ _⟩
  unfold put27 at hx9
  have HF9 := hide ((unhide HFc).kept hL9 (by have := unhide Hkb; have := unhide Hfb; omega))
  have HK9 := hide hK9
  have HL9 := hide hL9
  clear hK9 hL9
  obtain ⟨x8, hx8, hF8, hL8⟩ : ∃ x8, put30 x9 fb 3 0 = x8 ∧ FB x8 fb 3 0 ∧ Kept (fun i => i = fb) x9 x8 := ⟨_, rfl, (unhide HF9).put _ _, put30_kept _ _ _ _⟩
  unfold put30 at hx8
  have HF8 := hide hF8
  have HL8 := hide hL8
  have HK8 := hide ((unhide HK9).kept hL8 (by have := unhide Hkb; have := unhide Hfb; omega))
  clear hF8 hL8
  obtain ⟨-, ⟨y0', y1'⟩, g0', g1'⟩ := unhide HF9
  go_wp2
  obtain ⟨-, ⟨z0, z1, z2, z3, z4⟩, -⟩ := unhide HK8
  obtain ⟨-, ⟨t0, t1⟩, -⟩ := unhide HF8
  refine bodyPost_ret (v := .tuple #[zeroK, fltV 3 0]) ?_ rfl ?_
  · simp [results, Try.results15, go_sem, z0, z1, z2, z3, z4, t0, t1]
  · exact ⟨rfl, Kept.back (Kept.back (unhide B0) (unhide HL9) (unhide B0).size (fun i e => by have := unhide Hkb; omega)) (unhide HL8) (Nat.le_trans (unhide B0).size (unhide HL9).size) (fun i e => by have := unhide Hfb; omega)⟩

set_option maxRecDepth 100000 in
set_option maxHeartbeats 4000000 in
theorem run_ok {N : Nat} {W : World} {q : Option Addr} {n c : Nat} {f : Nat → Sx} (h1 : 1 ≤ N) (hN : N ≤ 128) (hs : Sc W q n f) (hn : n * 40 + 4096 ≤ 140737488355328) (hall : ∀ i, i < n → erS N f i = 0) : Calls Try.prog 15 #[.int .i64 (N : Int), .slice q n c] W fun e w' => ∃ v, e = .returned (.tuple #[v, fltV 0 0]) ∧ KRe w' W.heap.size v (tell N (knS N f n)) ∧ Below W.heap.size W w' := by
  have HN := hide (fun V => new_ok N V h1 hN)
  have B0 := hide (btrans (bnew W (.cells #[.slice none 0 0, .slice none 0 0, .slice none 0 0, .slice none 0 0, .int .i64 0] 29)) (bnew _ (.cells #[.int .i64 0, .int .i64 0] 32)))
  have HKb := hide ((KB.new W (.slice none 0 0) (.slice none 0 0) (.slice none 0 0) (.slice none 0 0) 0).keep (bnew _ (.cells #[.int .i64 0, .int .i64 0] 32)))
  have HFb := hide (show FB ((W.alloc (.cells #[.slice none 0 0, .slice none 0 0, .slice none 0 0, .slice none 0 0, .int .i64 0] 29)).alloc (.cells #[.int .i64 0, .int .i64 0] 32)) (W.heap.size + 1) 0 0 by have := FB.new (W.alloc (.cells #[.slice none 0 0, .slice none 0 0, .slice none 0 0, .slice none 0 0, .int .i64 0] 29)) 0 0; simpa using this)
  have Hsz := hide (show ((W.alloc (.cells #[.slice none 0 0, .slice none 0 0, .slice none 0 0, .slice none 0 0, .int .i64 0] 29)).alloc (.cells #[.int .i64 0, .int .i64 0] 32)).heap.size = W.heap.size + 2 by simp)
  have HS := hide (hs.keep (unhide B0))
  have Hall := hide hall
  clear hs hall
  go_enter Try.func15, Try.ntmps15
  go_upto_region 1 with fail
  generalize ((W.alloc (.cells #[.slice none 0 0, .slice none 0 0, .slice none 0 0, .slice none 0 0, .int .i64 0] 29)).alloc (.cells #[.int .i64 0, .int .i64 0] 32)) = w0 at *
  obtain ⟨kb, hkb⟩ : ∃ kb, kb = W.heap.size := ⟨_, rfl⟩
  obtain ⟨fb, hfb⟩ : ∃ fb, fb = W.heap.size + 1 := ⟨_, rfl⟩
  rw [← hkb] at HKb
  rw [← hfb] at HFb
  rw [← hfb]
  rw [← hkb]
  have Hkb := hide hkb
  have Hfb := hide hfb
  clear hkb hfb
  go_wp2_with fail
  refine (unhide HN _).mono ?_
  rintro e w1 ⟨m, g, rfl, hm, hM1, hb1⟩
  have HM1 := hide hM1
  have HB1 := hide hb1
  have Hm := hide hm
  clear hM1 hb1 hm HN
  go_wp2
  go_loopw [23] (fun i wr => ∃ (x : Nat) (g' : Mg), x ≤ n ∧ i = .int .i64 x ∧ MB m wr m N (knS N f x) g' ∧ Below m w0 wr) (fun i _ => n - (intOf i).toNat)
  case atStart => exact ⟨0, g, Nat.zero_le _, rfl, unhide HM1, unhide HB1⟩
  case round =>
    clear HM1 HB1
    obtain ⟨x, g', hx, rfl, hM, hB⟩ := hrel
    have HM := hide hM
    have HB := hide hB
    clear hM hB
    have HI := hide (Iv.kn N f x)
    have HTh := hide (Th.kn N f x)
    by_cases hlt : x < n
    · have q1 : (x : Int) < (n : Int) := by omega
      have q2 : (0 : Int) ≤ (x : Int) := by omega
      obtain ⟨b5, o5, rfl, c0, c1, c2, c3, c4⟩ := ((unhide HS).up (unhide HB) (unhide Hm)).at (show x < n by omega)
      have HD := hide (do_any ((unhide HM).keep (bnew wr (.cells #[.int .i64 (f x).dk, .int .i64 (f x).bed, .int .i64 (f x).ndl, .int .i64 (f x).car, .int .i64 (f x).tt] 24))) (unhide HI) hN (f x))
      rw [nx_kn, show wrE N (knS N f x) (f x) = 0 from unhide Hall x hlt] at HD
      have HX := hide (XB.new wr (f x))
      have T1 := hide ((unhide HB).alloc (by have := (unhide HM).lt; omega) (.cells #[.int .i64 (f x).dk, .int .i64 (f x).bed, .int .i64 (f x).ndl, .int .i64 (f x).car, .int .i64 (f x).tt] 24))
      go_upto_region 7 with fail
      generalize wr.alloc (.cells #[.int .i64 (f x).dk, .int .i64 (f x).bed, .int .i64 (f x).ndl, .int .i64 (f x).car, .int .i64 (f x).tt] 24) = w2 at *
      obtain ⟨-, x0, x1, x2, x3, x4⟩ := unhide HX
      go_wp2_with fail
      refine (unhide HD).mono ?_
      rintro e w3 ⟨rfl, g3, hM3, hK3⟩
      have HM3 := hide hM3
      have HB3 := hide (Kt.back (unhide T1) hK3 (by have := (unhide HM).lt; have := (unhide HX).1.1; omega))
      clear hM3 hK3 HD HX T1 x0 x1 x2 x3 x4 c0 c1 c2 c3 c4 HM HB HI HTh
      go_wp2
      go_roundw
      case rel => exact ⟨x + 1, g3, by omega, by go_num, unhide HM3, unhide HB3⟩
      case measure => simp [intOf]; omega
    · obtain rfl : n = x := by omega
      have cl : ¬ ((n : Int) < (n : Int)) := by omega
      have HSt := hide (state_any (unhide HM) (unhide HI) (unhide HTh) h1 hN)
      go_wp2_with fail
      refine (unhide HSt).mono ?_
      rintro e w8 ⟨v8, rfl, ⟨og, hR8⟩, hb8⟩
      have hlt8 : m < wr.heap.size := (unhide HM).lt
      have HB8 := hide ((unhide HB).trans (hb8.mono (Nat.le_of_lt hlt8)))
      have HKc := hide ((unhide HKb).up (unhide HB8) (by have := unhide Hm; have := (unhide HKb).1.1; omega))
      have HFc := hide ((unhide HFb).up (unhide HB8) (by have := unhide Hm; have := (unhide HFb).1.1; omega))
      have HR8 := hide (hR8.le (show W.heap.size ≤ wr.heap.size by have := unhide Hm; have := unhide Hsz; omega))
      obtain ⟨u1, u2, u3, u4, rfl, hu1, hu2, hu3, hu4, hu5⟩ := id hR8
      obtain ⟨a1, a2, a3, rfl⟩ := hu1.form
      obtain ⟨a4, a5, a6, rfl⟩ := hu2.form
      obtain ⟨a7, a8, a9, rfl⟩ := hu3.form
      obtain ⟨d1, d2, rfl⟩ := hu4.form
      have Hu := hide (show LPRo w8 wr.heap.size (.slice a1 a2 a3) (knS N f n).loops og ∧ LRo w8 wr.heap.size (.slice a4 a5 a6) ((List.range N).map ((knS N f n).on 0)) og 1 ∧ LRo w8 wr.heap.size (.slice a7 a8 a9) ((List.range N).map ((knS N f n).on 1)) og 2 ∧ NR w8 wr.heap.size (.slice d1 (tell N (knS N f n)).loose.length d2) (knS N f n).loose ∧ Og og (3, 0) (.slice d1 (tell N (knS N f n)).loose.length d2) from ⟨hu1, hu2, hu3, hu4, hu5⟩)
      clear hR8 hb8 hu1 hu2 hu3 hu4 hu5 HSt
      generalize (tell N (knS N f n)).loose.length = d3 at *
      obtain ⟨rk, hrk⟩ : ∃ rk, rk = (tell N (knS N f n)).rack := ⟨_, rfl⟩
      rw [← hrk]
      have Hrk := hide hrk
      clear hrk
      obtain ⟨-, ⟨r0, r1, r2, r3, r4⟩, rf⟩ := unhide HKc
      have rf0 := rf 0 (by decide)
      have rf1 := rf 1 (by decide)
      have rf2 := rf 2 (by decide)
      have rf3 := rf 3 (by decide)
      have rf4 := rf 4 (by decide)
      clear rf
      obtain ⟨-, ⟨y0, y1⟩, g0, g1⟩ := unhide HFc
      obtain ⟨x9, hx9, hK9, hL9⟩ : ∃ x9, put27 w8 kb (.slice a1 a2 a3) (.slice a4 a5 a6) (.slice a7 a8 a9) (.slice d1 d3 d2) rk = x9 ∧ KB x9 kb (.slice a1 a2 a3) (.slice a4 a5 a6) (.slice a7 a8 a9) (.slice d1 d3 d2) rk ∧ Kept (fun i => i = kb) w8 x9 := ⟨_, rfl, (unhide HKc).put _ _ _ _ _, put27_kept _ _ _ _ _ _ _⟩
      unfold put27 at hx9
      have HF9 := hide ((unhide HFc).kept hL9 (by have := unhide Hkb; have := unhide Hfb; omega))
      have HK9 := hide hK9
      have HL9 := hide hL9
      clear hK9 hL9
      obtain ⟨x8, hx8, hF8, hL8⟩ : ∃ x8, put30 x9 fb 0 0 = x8 ∧ FB x8 fb 0 0 ∧ Kept (fun i => i = fb) x9 x8 := ⟨_, rfl, (unhide HF9).put _ _, put30_kept _ _ _ _⟩
      unfold put30 at hx8
      have HF8 := hide hF8
      have HL8 := hide hL8
      have HK8 := hide ((unhide HK9).kept hL8 (by have := unhide Hkb; have := unhide Hfb; omega))
      clear hF8 hL8
      obtain ⟨-, ⟨y0', y1'⟩, g0', g1'⟩ := unhide HF9
      go_wp2
      obtain ⟨-, ⟨z0, z1, z2, z3, z4⟩, -⟩ := unhide HK8
      obtain ⟨-, ⟨t0, t1⟩, -⟩ := unhide HF8
      refine bodyPost_ret (v := .tuple #[.agg #[.slice a1 a2 a3, .slice a4 a5 a6, .slice a7 a8 a9, .slice d1 d3 d2, .int .i64 rk], fltV 0 0]) ?_ rfl ?_
      · simp [results, Try.results15, go_sem, z0, z1, z2, z3, z4, t0, t1]
      · obtain ⟨hu1, hu2, hu3, hu4, hu5⟩ := unhide Hu
        have t27 : Tg w8 kb 29 := (unhide HKc).1.2
        have t30 : Tg x9 fb 32 := (unhide HF9).1.2
        have n27 : ∀ {u : TypeId}, (29 : TypeId) ≠ u → ∀ i, i = kb → ¬ Tg w8 i u := fun h i e t => tg_not (show Tg w8 i 29 from e ▸ t27) h t
        have n30 : ∀ {u : TypeId}, (32 : TypeId) ≠ u → ∀ i, i = fb → ¬ Tg x9 i u := fun h i e t => tg_not (show Tg x9 i 32 from e ▸ t30) h t
        have hle : W.heap.size ≤ wr.heap.size := by have := unhide Hm; have := unhide Hsz; omega
        have b8 : Below W.heap.size W w8 := (unhide B0).trans ((unhide HB8).mono (by have := unhide Hm; have := unhide Hsz; omega))
        refine ⟨_, rfl, ⟨og, ⟨_, _, _, _, by rw [unhide Hrk], ?_, ?_, ?_, ?_, hu5⟩⟩, ?_⟩
        · exact ((hu1.kept (unhide HL9) (n27 (by decide)) (n27 (by decide))).kept (unhide HL8) (n30 (by decide)) (n30 (by decide))).le hle
        · exact ((hu2.kept (unhide HL9) (n27 (by decide)) (n27 (by decide))).kept (unhide HL8) (n30 (by decide)) (n30 (by decide))).le hle
        · exact ((hu3.kept (unhide HL9) (n27 (by decide)) (n27 (by decide))).kept (unhide HL8) (n30 (by decide)) (n30 (by decide))).le hle
        · exact ((hu4.kept (unhide HL9) (n27 (by decide))).kept (unhide HL8) (n30 (by decide))).le hle
        · exact Kept.back (Kept.back b8 (unhide HL9) b8.size (fun i e => by have := unhide Hkb; omega)) (unhide HL8) (Nat.le_trans b8.size (unhide HL9).size) (fun i e => by have := unhide Hfb; omega)

set_option maxRecDepth 100000 in
set_option maxHeartbeats 4000000 in
theorem run_bad {N : Nat} {W : World} {q : Option Addr} {n c : Nat} {f : Nat → Sx} (h1 : 1 ≤ N) (hN : N ≤ 128) (hs : Sc W q n f) (hn : n * 40 + 4096 ≤ 140737488355328) (k : Nat) (hk : k < n) (hall : ∀ i, i < k → erS N f i = 0) (hbad : erS N f k ≠ 0) : Calls Try.prog 15 #[.int .i64 (N : Int), .slice q n c] W fun e w' => e = .returned (.tuple #[zeroK, fltV (erS N f k) k]) ∧ Below W.heap.size W w' := by
  have HN := hide (fun V => new_ok N V h1 hN)
  have B0 := hide (btrans (bnew W (.cells #[.slice none 0 0, .slice none 0 0, .slice none 0 0, .slice none 0 0, .int .i64 0] 29)) (bnew _ (.cells #[.int .i64 0, .int .i64 0] 32)))
  have HKb := hide ((KB.new W (.slice none 0 0) (.slice none 0 0) (.slice none 0 0) (.slice none 0 0) 0).keep (bnew _ (.cells #[.int .i64 0, .int .i64 0] 32)))
  have HFb := hide (show FB ((W.alloc (.cells #[.slice none 0 0, .slice none 0 0, .slice none 0 0, .slice none 0 0, .int .i64 0] 29)).alloc (.cells #[.int .i64 0, .int .i64 0] 32)) (W.heap.size + 1) 0 0 by have := FB.new (W.alloc (.cells #[.slice none 0 0, .slice none 0 0, .slice none 0 0, .slice none 0 0, .int .i64 0] 29)) 0 0; simpa using this)
  have Hsz := hide (show ((W.alloc (.cells #[.slice none 0 0, .slice none 0 0, .slice none 0 0, .slice none 0 0, .int .i64 0] 29)).alloc (.cells #[.int .i64 0, .int .i64 0] 32)).heap.size = W.heap.size + 2 by simp)
  have HS := hide (hs.keep (unhide B0))
  have Hall := hide hall
  clear hs hall
  go_enter Try.func15, Try.ntmps15
  go_upto_region 1 with fail
  generalize ((W.alloc (.cells #[.slice none 0 0, .slice none 0 0, .slice none 0 0, .slice none 0 0, .int .i64 0] 29)).alloc (.cells #[.int .i64 0, .int .i64 0] 32)) = w0 at *
  obtain ⟨kb, hkb⟩ : ∃ kb, kb = W.heap.size := ⟨_, rfl⟩
  obtain ⟨fb, hfb⟩ : ∃ fb, fb = W.heap.size + 1 := ⟨_, rfl⟩
  rw [← hkb] at HKb
  rw [← hfb] at HFb
  rw [← hfb]
  rw [← hkb]
  have Hkb := hide hkb
  have Hfb := hide hfb
  clear hkb hfb
  go_wp2_with fail
  refine (unhide HN _).mono ?_
  rintro e w1 ⟨m, g, rfl, hm, hM1, hb1⟩
  have HM1 := hide hM1
  have HB1 := hide hb1
  have Hm := hide hm
  clear hM1 hb1 hm HN
  go_wp2
  go_loopw [23] (fun i wr => ∃ (x : Nat) (g' : Mg), x ≤ k ∧ i = .int .i64 x ∧ MB m wr m N (knS N f x) g' ∧ Below m w0 wr) (fun i _ => k - (intOf i).toNat)
  case atStart => exact ⟨0, g, Nat.zero_le _, rfl, unhide HM1, unhide HB1⟩
  case round =>
    clear HM1 HB1
    obtain ⟨x, g', hx, rfl, hM, hB⟩ := hrel
    have HM := hide hM
    have HB := hide hB
    clear hM hB
    have HI := hide (Iv.kn N f x)
    have HTh := hide (Th.kn N f x)
    by_cases hlt : x < k
    · have q1 : (x : Int) < (n : Int) := by omega
      have q2 : (0 : Int) ≤ (x : Int) := by omega
      obtain ⟨b5, o5, rfl, c0, c1, c2, c3, c4⟩ := ((unhide HS).up (unhide HB) (unhide Hm)).at (show x < n by omega)
      have HD := hide (do_any ((unhide HM).keep (bnew wr (.cells #[.int .i64 (f x).dk, .int .i64 (f x).bed, .int .i64 (f x).ndl, .int .i64 (f x).car, .int .i64 (f x).tt] 24))) (unhide HI) hN (f x))
      rw [nx_kn, show wrE N (knS N f x) (f x) = 0 from unhide Hall x hlt] at HD
      have HX := hide (XB.new wr (f x))
      have T1 := hide ((unhide HB).alloc (by have := (unhide HM).lt; omega) (.cells #[.int .i64 (f x).dk, .int .i64 (f x).bed, .int .i64 (f x).ndl, .int .i64 (f x).car, .int .i64 (f x).tt] 24))
      go_upto_region 7 with fail
      generalize wr.alloc (.cells #[.int .i64 (f x).dk, .int .i64 (f x).bed, .int .i64 (f x).ndl, .int .i64 (f x).car, .int .i64 (f x).tt] 24) = w2 at *
      obtain ⟨-, x0, x1, x2, x3, x4⟩ := unhide HX
      go_wp2_with fail
      refine (unhide HD).mono ?_
      rintro e w3 ⟨rfl, g3, hM3, hK3⟩
      have HM3 := hide hM3
      have HB3 := hide (Kt.back (unhide T1) hK3 (by have := (unhide HM).lt; have := (unhide HX).1.1; omega))
      clear hM3 hK3 HD HX T1 x0 x1 x2 x3 x4 c0 c1 c2 c3 c4 HM HB HI HTh
      go_wp2
      go_roundw
      case rel => exact ⟨x + 1, g3, by omega, by go_num, unhide HM3, unhide HB3⟩
      case measure => simp [intOf]; omega
    · obtain rfl : k = x := by omega
      have q1 : (k : Int) < (n : Int) := by omega
      have q2 : (0 : Int) ≤ (k : Int) := by omega
      obtain ⟨b5, o5, rfl, c0, c1, c2, c3, c4⟩ := ((unhide HS).up (unhide HB) (unhide Hm)).at hk
      have HD := hide (do_any ((unhide HM).keep (bnew wr (.cells #[.int .i64 (f k).dk, .int .i64 (f k).bed, .int .i64 (f k).ndl, .int .i64 (f k).car, .int .i64 (f k).tt] 24))) (unhide HI) hN (f k))
      rw [show wrE N (knS N f k) (f k) = erS N f k from rfl] at HD
      obtain ⟨er, her⟩ : ∃ er, er = erS N f k := ⟨_, rfl⟩
      rw [← her] at HD hbad
      have Her := hide her
      have hbad' : (er != 0) = true := by simpa using hbad
      have HX := hide (XB.new wr (f k))
      have T1 := hide ((unhide HB).alloc (by have := (unhide HM).lt; omega) (.cells #[.int .i64 (f k).dk, .int .i64 (f k).bed, .int .i64 (f k).ndl, .int .i64 (f k).car, .int .i64 (f k).tt] 24))
      clear her hbad
      go_upto_region 7 with fail
      generalize wr.alloc (.cells #[.int .i64 (f k).dk, .int .i64 (f k).bed, .int .i64 (f k).ndl, .int .i64 (f k).car, .int .i64 (f k).tt] 24) = w2 at *
      obtain ⟨-, x0, x1, x2, x3, x4⟩ := unhide HX
      go_wp2_with fail
      refine (unhide HD).mono ?_
      rintro e w3 ⟨rfl, g3, hM3, hK3⟩
      have HB8 := hide (Kt.back (unhide T1) hK3 (by have := (unhide HM).lt; have := (unhide HX).1.1; omega))
      clear hM3 hK3 HD HX T1 x0 x1 x2 x3 x4 c0 c1 c2 c3 c4 HI HTh
      have HKc := hide ((unhide HKb).up (unhide HB8) (by have := unhide Hm; have := (unhide HKb).1.1; omega))
      have HFc := hide ((unhide HFb).up (unhide HB8) (by have := unhide Hm; have := (unhide HFb).1.1; omega))
      obtain ⟨-, ⟨r0, r1, r2, r3, r4⟩, rf⟩ := unhide HKc
      have rf0 := rf 0 (by decide)
      have rf1 := rf 1 (by decide)
      have rf2 := rf 2 (by decide)
      have rf3 := rf 3 (by decide)
      have rf4 := rf 4 (by decide)
      clear rf
      obtain ⟨-, ⟨y0, y1⟩, g0, g1⟩ := unhide HFc
      obtain ⟨x9, hx9, hK9, hL9⟩ : ∃ x9, put27 w3 kb (.slice none 0 0) (.slice none 0 0) (.slice none 0 0) (.slice none 0 0) 0 = x9 ∧ KB x9 kb (.slice none 0 0) (.slice none 0 0) (.slice none 0 0) (.slice none 0 0) 0 ∧ Kept (fun i => i = kb) w3 x9 := ⟨_, rfl, (unhide HKc).put _ _ _ _ _, put27_kept _ _ _ _ _ _ _⟩
      unfold put27 at hx9
      have HF9 := hide ((unhide HFc).kept hL9 (by have := unhide Hkb; have := unhide Hfb; omega))
      have HK9 := hide hK9
      have HL9 := hide hL9
      clear hK9 hL9
      obtain ⟨x8, hx8, hF8, hL8⟩ : ∃ x8, put30 x9 fb er k = x8 ∧ FB x8 fb er k ∧ Kept (fun i => i = fb) x9 x8 := ⟨_, rfl, (unhide HF9).put _ _, put30_kept _ _ _ _⟩
      unfold put30 at hx8
      have HF8 := hide hF8
      have HL8 := hide hL8
      have HK8 := hide ((unhide HK9).kept hL8 (by have := unhide Hkb; have := unhide Hfb; omega))
      clear hF8 hL8
      obtain ⟨-, ⟨y0', y1'⟩, g0', g1'⟩ := unhide HF9
      go_wp2
      obtain ⟨-, ⟨z0, z1, z2, z3, z4⟩, -⟩ := unhide HK8
      obtain ⟨-, ⟨t0, t1⟩, -⟩ := unhide HF8
      refine bodyPost_ret (v := .tuple #[zeroK, fltV er k]) ?_ rfl ?_
      · simp [results, Try.results15, go_sem, z0, z1, z2, z3, z4, t0, t1]
      · have b8 : Below W.heap.size W w3 := (unhide B0).trans ((unhide HB8).mono (by have := unhide Hm; have := unhide Hsz; omega))
        exact ⟨by rw [← unhide Her], Kept.back (Kept.back b8 (unhide HL9) b8.size (fun i e => by have := unhide Hkb; omega)) (unhide HL8) (Nat.le_trans b8.size (unhide HL9).size) (fun i e => by have := unhide Hfb; omega)⟩

end Go.Proofs.Ytancniamgfppiaa
