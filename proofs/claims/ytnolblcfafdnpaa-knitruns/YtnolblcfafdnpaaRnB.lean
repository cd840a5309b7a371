/-
  plain.Knit: stitches, whatever is told of them.
-/
import Derived.Test.YtnolblcfafdnpaaRnA
namespace Go.Proofs.Ytnolblcfafdnpaa
open Go.RowKit

/-- what is told of the first stitches -/
def errV (N : Nat) (f : Nat → Sx) (n : Nat) : List Value := (List.range n).map fun i => Value.int .i64 (erS N f i)
theorem errV_succ (N : Nat) (f : Nat → Sx) (n : Nat) : errV N f (n + 1) = errV N f n ++ [.int .i64 (erS N f n)] := by simp [errV, List.range_succ]
/-- what Knit answers, of the program and of the document -/
def KnitOk (F N n : Nat) (f : Nat → Sx) (args : Array Value) (W : World) : Prop :=
  Calls Try.prog F args W fun e w' => ∃ ov v, e = .returned (.tuple #[ov, v, .int .i64 0]) ∧ w'.ownsRow W.heap.size 28 1 ov n (errV N f n) ∧ KR w' W.heap.size v (tell N (knS N f n)) ∧ Below W.heap.size W w'

set_option maxRecDepth 100000 in
set_option maxHeartbeats 4000000 in
theorem knit_new (n : Int) (W : World) (q : Option Addr) (l c : Nat) (h : n < 1 ∨ 128 < n) : Calls Try.prog 10 #[.int .i64 n, .slice q l c] W fun e w' => e = .returned (.tuple #[.slice none 0 0, zeroK, .int .i64 3]) ∧ Below W.heap.size W w' := by
  have HN := hide (fun V => new_err n V h)
  have B0 := hide (bnew W (.cells #[.slice none 0 0, .slice none 0 0, .slice none 0 0, .slice none 0 0, .int .i64 0] 27))
  have HKb := hide (KB.new W (.slice none 0 0) (.slice none 0 0) (.slice none 0 0) (.slice none 0 0) 0)
  have Hsz := hide (show (W.alloc (.cells #[.slice none 0 0, .slice none 0 0, .slice none 0 0, .slice none 0 0, .int .i64 0] 27)).heap.size = W.heap.size + 1 by simp)
  clear h
  go_enter Try.func10, Try.ntmps10
  go_upto_region 1 with fail
  generalize (W.alloc (.cells #[.slice none 0 0, .slice none 0 0, .slice none 0 0, .slice none 0 0, .int .i64 0] 27)) = w0 at *
  obtain ⟨kb, hkb⟩ : ∃ kb, kb = W.heap.size := ⟨_, rfl⟩
  rw [← hkb] at HKb
  rw [← hkb]
  have Hkb := hide hkb
  clear hkb
  have HKc := hide (unhide HKb)
  clear HKb
  go_wp2_with fail
  refine (unhide HN _).mono ?_
  rintro e w1 ⟨rfl, hw1⟩
  subst hw1
  obtain ⟨-, ⟨r0, r1, r2, r3, r4⟩, rf⟩ := unhide HKc
  have rf0 := rf 0 (by decide)
  have rf1 := rf 1 (by decide)
  have rf2 := rf 2 (by decide)
  have rf3 := rf 3 (by decide)
  have rf4 := rf 4 (by decide)
  clear rf
  obtain ⟨x9, hx9, hK9, hL9⟩ : ∃ x9, put27 w1 kb (.slice none 0 0) (.slice none 0 0) (.slice none 0 0) (.slice none 0 0) 0 = x9 ∧ KB x9 kb (.slice none 0 0) (.slice none 0 0) (.slice none 0 0) (.slice none 0 0) 0 ∧ Kept (fun i => i = kb) w1 x9 := ⟨_, rfl, (unhide HKc).put _ _ _ _ _, put27_kept _ _ _ _ _ _ _⟩
  unfold put27 at hx9
  have HK9 := hide hK9
  have HL9 := hide hL9
  clear hK9 hL9
  go_wp2
  obtain ⟨-, ⟨z0, z1, z2, z3, z4⟩, -⟩ := unhide HK9
  refine bodyPost_ret (v := .tuple #[.slice none 0 0, zeroK, .int .i64 3]) ?_ rfl ?_
  · simp [results, Try.results10, go_sem, z0, z1, z2, z3, z4]
  · exact ⟨rfl, Kept.back (unhide B0) (unhide HL9) (unhide B0).size (fun i e => by have := unhide Hkb; omega)⟩

set_option maxRecDepth 100000 in
set_option maxHeartbeats 4000000 in
theorem knit_ok {N : Nat} {W : World} {q : Option Addr} {n c : Nat} {f : Nat → Sx} (h1 : 1 ≤ N) (hN : N ≤ 128) (hs : Sc W q n f) (hn : n * 40 + 4096 ≤ 140737488355328) : KnitOk 10 N n f #[.int .i64 (N : Int), .slice q n c] W := by
  unfold KnitOk
  have HN := hide (fun V => new_ok N V h1 hN)
  have B0 := hide (bnew W (.cells #[.slice none 0 0, .slice none 0 0, .slice none 0 0, .slice none 0 0, .int .i64 0] 27))
  have HKb := hide (KB.new W (.slice none 0 0) (.slice none 0 0) (.slice none 0 0) (.slice none 0 0) 0)
  have Hsz := hide (show (W.alloc (.cells #[.slice none 0 0, .slice none 0 0, .slice none 0 0, .slice none 0 0, .int .i64 0] 27)).heap.size = W.heap.size + 1 by simp)
  have HS := hide (hs.keep (unhide B0))
  clear hs
  go_enter Try.func10, Try.ntmps10
  go_upto_region 1 with fail
  generalize (W.alloc (.cells #[.slice none 0 0, .slice none 0 0, .slice none 0 0, .slice none 0 0, .int .i64 0] 27)) = w0 at *
  obtain ⟨kb, hkb⟩ : ∃ kb, kb = W.heap.size := ⟨_, rfl⟩
  rw [← hkb] at HKb
  rw [← hkb]
  have Hkb := hide hkb
  clear hkb
  go_wp2_with fail
  refine (unhide HN _).mono ?_
  rintro e w1 ⟨m, g, rfl, hm, hM1, hb1⟩
  have HM1 := hide hM1
  have HB1 := hide hb1
  have Hm := hide hm
  clear hM1 hb1 hm HN
  go_wp2
  go_loopw [9, 27] (fun ov i wr => ∃ (x : Nat) (g' : Mg), x ≤ n ∧ i = .int .i64 x ∧ wr.ownsRow m 28 1 ov x (errV N f x) ∧ MB m wr m N (knS N f x) g' ∧ Below m w0 wr) (fun _ i _ => n - (intOf i).toNat)
  case atStart => exact ⟨0, g, Nat.zero_le _, rfl, World.ownsRow_nil _ _ _ _, unhide HM1, unhide HB1⟩
  case round =>
    clear HM1 HB1
    obtain ⟨x, g', hx, rfl, hO, hM, hB⟩ := hrel
    obtain ⟨oq, oc, rfl⟩ := own_form hO
    have HO := hide hO
    have HM := hide hM
    have HB := hide hB
    clear hM hB hO
    have HI := hide (Iv.kn N f x)
    have HTh := hide (Th.kn N f x)
    by_cases hlt : x < n
    · have q1 : (x : Int) < (n : Int) := by omega
      have q2 : (0 : Int) ≤ (x : Int) := by omega
      obtain ⟨b5, o5, rfl, c0, c1, c2, c3, c4⟩ := ((unhide HS).up (unhide HB) (unhide Hm)).at hlt
      have HD := hide (do_any ((unhide HM).keep (bnew wr (.cells #[.int .i64 (f x).dk, .int .i64 (f x).bed, .int .i64 (f x).ndl, .int .i64 (f x).car, .int .i64 (f x).tt] 44))) (unhide HI) hN (f x))
      rw [nx_kn, show wrE N (knS N f x) (f x) = erS N f x from rfl] at HD
      have HX := hide (XB.new wr (f x))
      have HO1 := hide (own_keep (unhide HO) (bnew wr (.cells #[.int .i64 (f x).dk, .int .i64 (f x).bed, .int .i64 (f x).ndl, .int .i64 (f x).car, .int .i64 (f x).tt] 44)))
      have T1 := hide ((unhide HB).alloc (by have := (unhide HM).lt; omega) (.cells #[.int .i64 (f x).dk, .int .i64 (f x).bed, .int .i64 (f x).ndl, .int .i64 (f x).car, .int .i64 (f x).tt] 44))
      have Hsu := hide (errV_succ N f x)
      generalize erS N f x = er at *
      have hlm := (unhide HM).lt
      go_upto_region 8 with fail
      generalize wr.alloc (.cells #[.int .i64 (f x).dk, .int .i64 (f x).bed, .int .i64 (f x).ndl, .int .i64 (f x).car, .int .i64 (f x).tt] 44) = w2 at *
      obtain ⟨-, x0, x1, x2, x3, x4⟩ := unhide HX
      go_wp2_with fail
      refine (unhide HD).mono ?_
      rintro e w3 ⟨rfl, g3, hM3, hK3⟩
      have HM3 := hide hM3
      have HB3 := hide (Kt.back (unhide T1) hK3 (by have := (unhide HX).1.1; omega))
      have HO3 := hide (own_keep (hK3.own (unhide HO1) (by decide) (by decide) (by decide) (by decide)) (bnew w3 (.cells #[.int .i64 er] 28)))
      have HY3 := hide (own_lit (B := 0) (e := 28) (z := 1) (k := 1) w3 #[.int .i64 er] (Nat.zero_le _) (by unfold maxLen; omega) rfl)
      have hlm3 := hM3.lt
      have H1 := hide (show ∀ u ∈ (#[Value.int .i64 er] : Array Value).toList, u.oneCell' = true by intro u hu; simp at hu; subst hu; rfl)
      clear hM3 hK3 HD HX T1 x0 x1 x2 x3 x4 c0 c1 c2 c3 c4 HM HB HI HTh HO HO1
      go_wp2_with (at_builtin; refine wl_app rfl rfl Try.underlying34 info28 rfl (by decide) (B := m) (C := 0) (n := x) (m := 1) rfl rfl (unhide HO3) (unhide HY3) (unhide H1) (by unfold maxLen; omega) (by omega) (by simp; omega) ?_)
      intro v' w5 hown' hgrow _
      have t28 : ∀ i, (Value.slice oq x oc).ownBlock = some i → Tg (w3.alloc (.cells #[.int .i64 er] 28)) i 28 := fun i e => own_tg (unhide HO3) e
      have K5 : Kept (fun i => (Value.slice oq x oc).ownBlock = some i) (w3.alloc (.cells #[.int .i64 er] 28)) w5 := grown_kept hgrow (fun r e => .inl e)
      have HM5 := hide (((unhide HM3).keep (bnew w3 (.cells #[.int .i64 er] 28))).kept K5 (fun i e => mt_not (t28 i e) (by decide) (by decide) (by decide) (by decide)))
      have HB5 := hide (((unhide HB3).alloc (Nat.le_of_lt hlm3) (.cells #[.int .i64 er] 28)).grown hgrow (by simp; omega) (fun k hk => ((unhide HO3).lt k hk).1))
      have HO5 := hide (show w5.ownsRow m 28 1 v' (x + 1) (errV N f (x + 1)) by rw [unhide Hsu]; exact hown')
      obtain ⟨q', cap', rfl⟩ := own_form hown'
      clear hown' hgrow K5 t28
      go_wp2
      go_roundw
      case rel => exact ⟨x + 1, g3, by omega, by go_num, unhide HO5, unhide HM5, unhide HB5⟩
      case measure => simp [intOf]; omega
    · obtain rfl : n = x := by omega
      have cl : ¬ ((n : Int) < (n : Int)) := by omega
      have HSt := hide (state_any (unhide HM) (unhide HI) (unhide HTh) h1 hN)
      go_wp2_with fail
      refine (unhide HSt).mono ?_
      rintro e w8 ⟨v8, rfl, hR8, hb8⟩
      have hlt8 : m < wr.heap.size := (unhide HM).lt
      have HB8 := hide ((unhide HB).trans (hb8.mono (Nat.le_of_lt hlt8)))
      have HO8 := hide (own_keep (unhide HO) hb8)
      have HKc := hide ((unhide HKb).up (unhide HB8) (by have := unhide Hm; have := (unhide HKb).1.1; omega))
      obtain ⟨u1, u2, u3, u4, rfl, hu1, hu2, hu3, hu4⟩ := id hR8
      obtain ⟨a1, a2, a3, rfl⟩ := hu1.form
      obtain ⟨a4, a5, a6, rfl⟩ := hu2.form
      obtain ⟨a7, a8, a9, rfl⟩ := hu3.form
      obtain ⟨d1, d2, rfl⟩ := hu4.form
      have Hu := hide (show LPR w8 wr.heap.size (.slice a1 a2 a3) (knS N f n).loops ∧ LR w8 wr.heap.size (.slice a4 a5 a6) ((List.range N).map ((knS N f n).on 0)) ∧ LR w8 wr.heap.size (.slice a7 a8 a9) ((List.range N).map ((knS N f n).on 1)) ∧ NR w8 wr.heap.size (.slice d1 (tell N (knS N f n)).loose.length d2) (knS N f n).loose from ⟨hu1, hu2, hu3, hu4⟩)
      clear hR8 hb8 hu1 hu2 hu3 hu4 HSt
      generalize (tell N (knS N f n)).loose.length = d3 at *
      obtain ⟨rk, hrk⟩ : ∃ rk, rk = (tell N (knS N f n)).rack := ⟨_, rfl⟩
      rw [← hrk]
      have Hrk := hide hrk
      clear hrk
      obtain ⟨-, ⟨r0, r1, r2, r3, r4⟩, rf⟩ := unhide HKc
      have rf0 := rf 0 (by decide)
      have rf1 := rf 1 (by decide)
      have rf2 := rf 2 (by decide)
      have rf3 := rf 3 (by decide)
      have rf4 := rf 4 (by decide)
      clear rf
      obtain ⟨x9, hx9, hK9, hL9⟩ : ∃ x9, put27 w8 kb (.slice a1 a2 a3) (.slice a4 a5 a6) (.slice a7 a8 a9) (.slice d1 d3 d2) rk = x9 ∧ KB x9 kb (.slice a1 a2 a3) (.slice a4 a5 a6) (.slice a7 a8 a9) (.slice d1 d3 d2) rk ∧ Kept (fun i => i = kb) w8 x9 := ⟨_, rfl, (unhide HKc).put _ _ _ _ _, put27_kept _ _ _ _ _ _ _⟩
      unfold put27 at hx9
      have HK9 := hide hK9
      have HL9 := hide hL9
      clear hK9 hL9
      go_wp2
      obtain ⟨-, ⟨z0, z1, z2, z3, z4⟩, -⟩ := unhide HK9
      refine bodyPost_ret (v := .tuple #[.slice oq n oc, .agg #[.slice a1 a2 a3, .slice a4 a5 a6, .slice a7 a8 a9, .slice d1 d3 d2, .int .i64 rk], .int .i64 0]) ?_ rfl ?_
      · simp [results, Try.results10, go_sem, z0, z1, z2, z3, z4]
      · obtain ⟨hu1, hu2, hu3, hu4⟩ := unhide Hu
        have t27 : Tg w8 kb 27 := (unhide HKc).1.2
        have n27 : ∀ {u : TypeId}, (27 : TypeId) ≠ u → ∀ i, i = kb → ¬ Tg w8 i u := fun h i e t => tg_not (show Tg w8 i 27 from e ▸ t27) h t
        have hle : W.heap.size ≤ wr.heap.size := by have := unhide Hm; have := unhide Hsz; omega
        have b8 : Below W.heap.size W w8 := (unhide B0).trans ((unhide HB8).mono (by have := unhide Hm; have := unhide Hsz; omega))
        refine ⟨_, _, rfl, own_le (own_kept (unhide HO8) (unhide HL9) (n27 (by decide))) (by have := unhide Hm; have := unhide Hsz; omega), ⟨_, _, _, _, by rw [unhide Hrk], ?_, ?_, ?_, ?_⟩, ?_⟩
        · exact (hu1.kept (unhide HL9) (n27 (by decide)) (n27 (by decide))).le hle
        · exact (hu2.kept (unhide HL9) (n27 (by decide)) (n27 (by decide))).le hle
        · exact (hu3.kept (unhide HL9) (n27 (by decide)) (n27 (by decide))).le hle
        · exact (hu4.kept (unhide HL9) (n27 (by decide))).le hle
        · exact Kept.back b8 (unhide HL9) b8.size (fun i e => by have := unhide Hkb; omega)
end Go.Proofs.Ytnolblcfafdnpaa
