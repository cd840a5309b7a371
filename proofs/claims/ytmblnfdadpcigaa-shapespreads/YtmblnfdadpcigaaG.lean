/-
  The reference: Rows; SameNumbers; ShapeSpreads.
-/
import Derived.Test.YtmblnfdadpcigaaF
import Derived.Test.YtmblnfdadpcigaaE
namespace Go.Proofs.Ytmblnfdadpcigaa
open Go.RowKit

theorem g20_0 {a0 a1 a2 a3 a4 a5 a6 a7 a8 a9 a10 a11 a12 a13 a14 a15 a16 a17 a18 a19 : Oper} : (#[a0, a1, a2, a3, a4, a5, a6, a7, a8, a9, a10, a11, a12, a13, a14, a15, a16, a17, a18, a19] : Array Oper)[0]? = some a0 := rfl
theorem g20_1 {a0 a1 a2 a3 a4 a5 a6 a7 a8 a9 a10 a11 a12 a13 a14 a15 a16 a17 a18 a19 : Oper} : (#[a0, a1, a2, a3, a4, a5, a6, a7, a8, a9, a10, a11, a12, a13, a14, a15, a16, a17, a18, a19] : Array Oper)[1]? = some a1 := rfl
theorem g20_2 {a0 a1 a2 a3 a4 a5 a6 a7 a8 a9 a10 a11 a12 a13 a14 a15 a16 a17 a18 a19 : Oper} : (#[a0, a1, a2, a3, a4, a5, a6, a7, a8, a9, a10, a11, a12, a13, a14, a15, a16, a17, a18, a19] : Array Oper)[2]? = some a2 := rfl
theorem g20_3 {a0 a1 a2 a3 a4 a5 a6 a7 a8 a9 a10 a11 a12 a13 a14 a15 a16 a17 a18 a19 : Oper} : (#[a0, a1, a2, a3, a4, a5, a6, a7, a8, a9, a10, a11, a12, a13, a14, a15, a16, a17, a18, a19] : Array Oper)[3]? = some a3 := rfl
theorem g20_4 {a0 a1 a2 a3 a4 a5 a6 a7 a8 a9 a10 a11 a12 a13 a14 a15 a16 a17 a18 a19 : Oper} : (#[a0, a1, a2, a3, a4, a5, a6, a7, a8, a9, a10, a11, a12, a13, a14, a15, a16, a17, a18, a19] : Array Oper)[4]? = some a4 := rfl
theorem g20_5 {a0 a1 a2 a3 a4 a5 a6 a7 a8 a9 a10 a11 a12 a13 a14 a15 a16 a17 a18 a19 : Oper} : (#[a0, a1, a2, a3, a4, a5, a6, a7, a8, a9, a10, a11, a12, a13, a14, a15, a16, a17, a18, a19] : Array Oper)[5]? = some a5 := rfl
theorem g20_6 {a0 a1 a2 a3 a4 a5 a6 a7 a8 a9 a10 a11 a12 a13 a14 a15 a16 a17 a18 a19 : Oper} : (#[a0, a1, a2, a3, a4, a5, a6, a7, a8, a9, a10, a11, a12, a13, a14, a15, a16, a17, a18, a19] : Array Oper)[6]? = some a6 := rfl
theorem g20_7 {a0 a1 a2 a3 a4 a5 a6 a7 a8 a9 a10 a11 a12 a13 a14 a15 a16 a17 a18 a19 : Oper} : (#[a0, a1, a2, a3, a4, a5, a6, a7, a8, a9, a10, a11, a12, a13, a14, a15, a16, a17, a18, a19] : Array Oper)[7]? = some a7 := rfl
theorem g20_8 {a0 a1 a2 a3 a4 a5 a6 a7 a8 a9 a10 a11 a12 a13 a14 a15 a16 a17 a18 a19 : Oper} : (#[a0, a1, a2, a3, a4, a5, a6, a7, a8, a9, a10, a11, a12, a13, a14, a15, a16, a17, a18, a19] : Array Oper)[8]? = some a8 := rfl
theorem g20_9 {a0 a1 a2 a3 a4 a5 a6 a7 a8 a9 a10 a11 a12 a13 a14 a15 a16 a17 a18 a19 : Oper} : (#[a0, a1, a2, a3, a4, a5, a6, a7, a8, a9, a10, a11, a12, a13, a14, a15, a16, a17, a18, a19] : Array Oper)[9]? = some a9 := rfl
theorem g20_10 {a0 a1 a2 a3 a4 a5 a6 a7 a8 a9 a10 a11 a12 a13 a14 a15 a16 a17 a18 a19 : Oper} : (#[a0, a1, a2, a3, a4, a5, a6, a7, a8, a9, a10, a11, a12, a13, a14, a15, a16, a17, a18, a19] : Array Oper)[10]? = some a10 := rfl
theorem g20_11 {a0 a1 a2 a3 a4 a5 a6 a7 a8 a9 a10 a11 a12 a13 a14 a15 a16 a17 a18 a19 : Oper} : (#[a0, a1, a2, a3, a4, a5, a6, a7, a8, a9, a10, a11, a12, a13, a14, a15, a16, a17, a18, a19] : Array Oper)[11]? = some a11 := rfl
theorem g20_12 {a0 a1 a2 a3 a4 a5 a6 a7 a8 a9 a10 a11 a12 a13 a14 a15 a16 a17 a18 a19 : Oper} : (#[a0, a1, a2, a3, a4, a5, a6, a7, a8, a9, a10, a11, a12, a13, a14, a15, a16, a17, a18, a19] : Array Oper)[12]? = some a12 := rfl
theorem g20_13 {a0 a1 a2 a3 a4 a5 a6 a7 a8 a9 a10 a11 a12 a13 a14 a15 a16 a17 a18 a19 : Oper} : (#[a0, a1, a2, a3, a4, a5, a6, a7, a8, a9, a10, a11, a12, a13, a14, a15, a16, a17, a18, a19] : Array Oper)[13]? = some a13 := rfl
theorem g20_14 {a0 a1 a2 a3 a4 a5 a6 a7 a8 a9 a10 a11 a12 a13 a14 a15 a16 a17 a18 a19 : Oper} : (#[a0, a1, a2, a3, a4, a5, a6, a7, a8, a9, a10, a11, a12, a13, a14, a15, a16, a17, a18, a19] : Array Oper)[14]? = some a14 := rfl
theorem g20_15 {a0 a1 a2 a3 a4 a5 a6 a7 a8 a9 a10 a11 a12 a13 a14 a15 a16 a17 a18 a19 : Oper} : (#[a0, a1, a2, a3, a4, a5, a6, a7, a8, a9, a10, a11, a12, a13, a14, a15, a16, a17, a18, a19] : Array Oper)[15]? = some a15 := rfl
theorem g20_16 {a0 a1 a2 a3 a4 a5 a6 a7 a8 a9 a10 a11 a12 a13 a14 a15 a16 a17 a18 a19 : Oper} : (#[a0, a1, a2, a3, a4, a5, a6, a7, a8, a9, a10, a11, a12, a13, a14, a15, a16, a17, a18, a19] : Array Oper)[16]? = some a16 := rfl
theorem g20_17 {a0 a1 a2 a3 a4 a5 a6 a7 a8 a9 a10 a11 a12 a13 a14 a15 a16 a17 a18 a19 : Oper} : (#[a0, a1, a2, a3, a4, a5, a6, a7, a8, a9, a10, a11, a12, a13, a14, a15, a16, a17, a18, a19] : Array Oper)[17]? = some a17 := rfl
theorem g20_18 {a0 a1 a2 a3 a4 a5 a6 a7 a8 a9 a10 a11 a12 a13 a14 a15 a16 a17 a18 a19 : Oper} : (#[a0, a1, a2, a3, a4, a5, a6, a7, a8, a9, a10, a11, a12, a13, a14, a15, a16, a17, a18, a19] : Array Oper)[18]? = some a18 := rfl
theorem g20_19 {a0 a1 a2 a3 a4 a5 a6 a7 a8 a9 a10 a11 a12 a13 a14 a15 a16 a17 a18 a19 : Oper} : (#[a0, a1, a2, a3, a4, a5, a6, a7, a8, a9, a10, a11, a12, a13, a14, a15, a16, a17, a18, a19] : Array Oper)[19]? = some a19 := rfl

theorem lit_int (x : Int) : ∀ u ∈ [Value.int .i64 x], u.oneCell' = true := by intro u hu; obtain rfl := List.mem_singleton.1 hu; rfl
theorem li_new (W : World) (x : Int) : (W.alloc (.cells #[.int .i64 x] 3)).ownsRow 0 3 1 (.slice (some ⟨W.heap.size, 0, none⟩) 1 1) 1 [.int .i64 x] :=
  own_lit (e := 3) (z := 1) (k := 1) W #[.int .i64 x] (Nat.zero_le _) (by unfold maxLen; omega) rfl

set_option maxRecDepth 100000 in
set_option maxHeartbeats 1000000 in
theorem rrows_err (a b n : Int) (h : roB a b n = false) (W : World) : AnsN 12 #[.int .i64 a, .int .i64 b, .int .i64 n] W 0 (fun _ => 0) 3 := by
  unfold AnsN
  have Hc : ¬ (((0 ≤ a ∧ a ≤ 1048576) ∧ 0 ≤ b ∧ b ≤ 1048576) ∧ 1 ≤ n ∧ n ≤ 4096) := fun k => by rw [(roB_iff a b n).2 k] at h; cases h
  clear h
  by_cases c0 : a < 0
  · have d0 : decide (a < 0) = true := decide_eq_true c0
    clear Hc
    go_enter Try.func12, Try.ntmps12
    go_wp2
    exact bodyPost_ret (v := .tuple #[.slice none 0 0, .int .i64 3]) (by simp [results, Try.results12, go_sem]) rfl (PN.mk _ _ (.inl rfl) (Below.refl _ _))
  · have d0 : decide (a < 0) = false := decide_eq_false c0
    by_cases c1 : b < 0
    · have d1 : decide (b < 0) = true := decide_eq_true c1
      clear Hc
      go_enter Try.func12, Try.ntmps12
      go_wp2
      exact bodyPost_ret (v := .tuple #[.slice none 0 0, .int .i64 3]) (by simp [results, Try.results12, go_sem]) rfl (PN.mk _ _ (.inl rfl) (Below.refl _ _))
    · have d1 : decide (b < 0) = false := decide_eq_false c1
      by_cases c2 : 1048576 < a
      · have d2 : decide (1048576 < a) = true := decide_eq_true c2
        clear Hc
        go_enter Try.func12, Try.ntmps12
        go_wp2
        exact bodyPost_ret (v := .tuple #[.slice none 0 0, .int .i64 3]) (by simp [results, Try.results12, go_sem]) rfl (PN.mk _ _ (.inl rfl) (Below.refl _ _))
      · have d2 : decide (1048576 < a) = false := decide_eq_false c2
        by_cases c3 : 1048576 < b
        · have d3 : decide (1048576 < b) = true := decide_eq_true c3
          clear Hc
          go_enter Try.func12, Try.ntmps12
          go_wp2
          exact bodyPost_ret (v := .tuple #[.slice none 0 0, .int .i64 3]) (by simp [results, Try.results12, go_sem]) rfl (PN.mk _ _ (.inl rfl) (Below.refl _ _))
        · have d3 : decide (1048576 < b) = false := decide_eq_false c3
          by_cases c4 : n < 1
          · have d4 : decide (n < 1) = true := decide_eq_true c4
            clear Hc
            go_enter Try.func12, Try.ntmps12
            go_wp2
            exact bodyPost_ret (v := .tuple #[.slice none 0 0, .int .i64 3]) (by simp [results, Try.results12, go_sem]) rfl (PN.mk _ _ (.inl rfl) (Below.refl _ _))
          · have d4 : decide (n < 1) = false := decide_eq_false c4
            have c5 : 4096 < n := by omega
            have d5 : decide (4096 < n) = true := decide_eq_true c5
            clear Hc
            go_enter Try.func12, Try.ntmps12
            go_wp2
            exact bodyPost_ret (v := .tuple #[.slice none 0 0, .int .i64 3]) (by simp [results, Try.results12, go_sem]) rfl (PN.mk _ _ (.inl rfl) (Below.refl _ _))

theorem rrow_nums (a b n x : Nat) (ha : a ≤ 1048576) (hb : b ≤ 1048576) (hn : n ≤ 4096) (hx : x < n) : ∃ (q m y yq c s : Nat) (ws v : Int), c = mb n m y ∧ y = x + 1 ∧ Int.tdiv (fr a b : Int) (n : Int) = (q : Int) ∧ Int.tmod (fr a b : Int) (n : Int) = (m : Int) ∧ IntKind.i64.wrap ((q : Int) * (y : Int)) = (yq : Int) ∧ (yq : Int) + (c : Int) = (s : Int) ∧ IntKind.i64.wrap (s : Int) = (s : Int) ∧
    wy a b * (s : Int) = ws ∧ IntKind.i64.wrap ws = ws ∧ (a : Int) + ws = v ∧ IntKind.i64.wrap v = v ∧ v = wd a b n x ∧ m ≤ n ∧ y ≤ n ∧ IntKind.i64.wrap (q : Int) = (q : Int) ∧ ((n : Int) == 0) = false ∧ (0 : Int) ≤ (fr a b : Int) := by
  obtain ⟨q, m, y, yq, c, s, ws, v, h1, h2, h3, h4, h5, h6, h7, h8, h9, h10, h11, h12, -, -, h13, h14, h15, h16, -, -⟩ := row_nums a b n x ha hb hn hx
  have hy : y = x + 1 := by omega
  refine ⟨q, m, y, yq, c, s, ws, v, h1, hy, h3, h4, by rw [Int.mul_comm]; exact h5, h6, h7, h8, h9, h10, h11, h12, ?_, by omega, h13, h14, h15⟩
  rw [Int.tmod_eq_emod_of_nonneg h15] at h4
  have := Int.emod_lt_of_pos (fr a b : Int) (show (0 : Int) < (n : Int) by omega)
  omega

set_option maxRecDepth 100000 in
set_option maxHeartbeats 4000000 in
theorem rrows_ok (a b n : Nat) (ha : a ≤ 1048576) (hb : b ≤ 1048576) (hn0 : 1 ≤ n) (hn : n ≤ 4096) (W : World) : AnsN 12 #[.int .i64 a, .int .i64 b, .int .i64 n] W n (wd a b n) 0 := by
  unfold AnsN
  have HM := hide (fun (m p : Nat) hm hp V => ahead_any n m p (by omega) (by omega) hm hp V)
  have HN := hide (fun (x : Nat) (hx : x < n) => rrow_nums a b n x ha hb hn hx)
  obtain ⟨f, hf⟩ : ∃ f : Nat, f = fr a b := ⟨_, rfl⟩
  have Hf := hide hf
  rw [← hf] at HN
  obtain ⟨g, hg⟩ : ∃ g : Nat → Int, g = wd a b n := ⟨_, rfl⟩
  rw [← hg] at HN ⊢
  clear hf hg
  have c0 : ¬ ((a : Int) < 0) := by omega
  have d0 : decide ((a : Int) < 0) = false := decide_eq_false c0
  have c1 : ¬ ((b : Int) < 0) := by omega
  have d1 : decide ((b : Int) < 0) = false := decide_eq_false c1
  have c2 : ¬ (1048576 < (a : Int)) := by omega
  have d2 : decide (1048576 < (a : Int)) = false := decide_eq_false c2
  have c3 : ¬ (1048576 < (b : Int)) := by omega
  have d3 : decide (1048576 < (b : Int)) = false := decide_eq_false c3
  have c4 : ¬ ((n : Int) < 1) := by omega
  have d4 : decide ((n : Int) < 1) = false := decide_eq_false c4
  have c5 : ¬ (4096 < (n : Int)) := by omega
  have d5 : decide (4096 < (n : Int)) = false := decide_eq_false c5
  go_enter Try.func12, Try.ntmps12
  by_cases hd : b < a
  · have c6 : (b : Int) - (a : Int) < 0 := by omega
    have c7 : -((b : Int) - (a : Int)) = (f : Int) := by rw [unhide Hf]; unfold fr; rw [if_pos hd]; omega
    have Hw := hide (show wy a b = -1 by unfold wy; rw [if_pos hd])
    rw [unhide Hw] at HN
    clear Hw hd
    go_wp2
    clear c0 d0 c1 d1 c2 d2 c3 d3 c4 d4 c5 d5 c6 c7
    go_loopw [10, 11] (fun v i wr => ∃ (x cp : Nat) (q : Option Addr), x ≤ n ∧ i = .int .i64 ((x + 1 : Nat) : Int) ∧ v = .slice q x cp ∧ wr.ownsRow W.heap.size 3 1 (.slice q x cp) x (fv g x) ∧ Below W.heap.size W wr) (fun _ i _ => n + 1 - (intOf i).toNat)
    case atStart => exact ⟨0, 0, none, Nat.zero_le _, rfl, rfl, World.ownsRow_nil _ _ _ _, Below.refl _ _⟩
    case round =>
      obtain ⟨x, cp, q, hx, rfl, rfl, hown, hb⟩ := hrel
      by_cases hlt : x < n
      · obtain ⟨qq, m, y, yq, c, s, ws, v, hc, hy, e2, e3, e4, e5, e6, e7, e8, e9, e10, e11, b1, b2, b3, b4, b5⟩ := unhide HN x hlt
        have HMx := hide (unhide HM m y b1 b2)
        rw [← hc] at HMx
        rw [← hy]
        simp only [Int.neg_mul, Int.one_mul] at e7
        have Hy := hide hy
        have Hv := hide e11
        have q0 : (y : Int) ≤ (n : Int) := by omega
        have HO := hide hown
        have Hb := hide hb
        clear hc hy e11 hown hb
        go_wp2_with fail
        have hown := unhide HO
        have hb := unhide Hb
        clear HO Hb
        replace hown := own_keep hown (bdrew wr)
        replace hb := btrans hb (bdrew wr)
        refine wp_region_noPanic ?_
        refine wp_region_held_drew (S := fun V => Below W.heap.size W V) (by kernel_rfl) (hb) ?_
        intro _
        generalize wr.drew = w8 at *
        refine wpAnyH_take (i := 0) (oi := _) (v := .slice q x cp) g20_0 (by kernel_rfl) (by kernel_rfl) (by kernel_rfl) (fun _ _ _ h => h) (Or.inl ⟨by rfl, ?_⟩) (by assumption) ?_
        · intro V hSw
          try dsimp only at hSw
          go_simp
        simp only [Act.put, List.setIfInBounds_toArray, List.set_cons_zero, List.set_cons_succ]
        refine wpAnyH_take (i := 1) (oi := _) (v := .int .i64 (a : Int)) g20_1 (by kernel_rfl) (by kernel_rfl) (by kernel_rfl) (fun _ _ _ h => h) (Or.inl ⟨by rfl, ?_⟩) (by assumption) ?_
        · intro V hSw
          try dsimp only at hSw
          go_simp
        simp only [Act.put, List.setIfInBounds_toArray, List.set_cons_zero, List.set_cons_succ]
        refine wpAnyH_take (i := 2) (oi := _) (v := .int .i64 (-1)) g20_2 (by kernel_rfl) (by kernel_rfl) (by kernel_rfl) (fun _ _ _ h => h) (Or.inl ⟨by rfl, ?_⟩) (by assumption) ?_
        · intro V hSw
          try dsimp only at hSw
          go_simp
        simp only [Act.put, List.setIfInBounds_toArray, List.set_cons_zero, List.set_cons_succ]
        refine wpAnyH_take (i := 3) (oi := _) (v := .int .i64 (f : Int)) g20_3 (by kernel_rfl) (by kernel_rfl) (by kernel_rfl) (fun _ _ _ h => h) (Or.inl ⟨by rfl, ?_⟩) (by assumption) ?_
        · intro V hSw
          try dsimp only at hSw
          go_simp
        simp only [Act.put, List.setIfInBounds_toArray, List.set_cons_zero, List.set_cons_succ]
        refine wpAnyH_take (i := 4) (oi := _) (v := .int .i64 (n : Int)) g20_4 (by kernel_rfl) (by kernel_rfl) (by kernel_rfl) (fun _ _ _ h => h) (Or.inl ⟨by rfl, ?_⟩) (by assumption) ?_
        · intro V hSw
          try dsimp only at hSw
          go_simp
        simp only [Act.put, List.setIfInBounds_toArray, List.set_cons_zero, List.set_cons_succ]
        refine wpAnyH_take (i := 5) (oi := _) (v := .int .i64 (qq : Int)) g20_5 (by kernel_rfl) (by kernel_rfl) (by kernel_rfl) (fun _ _ _ h => h) (Or.inl ⟨by rfl, ?_⟩) (by assumption) ?_
        · intro V hSw
          try dsimp only at hSw
          have nn0 : ¬ n = 0 := by omega
          go_simp
        simp only [Act.put, List.setIfInBounds_toArray, List.set_cons_zero, List.set_cons_succ]
        refine wpAnyH_take (i := 6) (oi := _) (v := .int .i64 (y : Int)) g20_6 (by kernel_rfl) (by kernel_rfl) (by kernel_rfl) (fun _ _ _ h => h) (Or.inl ⟨by rfl, ?_⟩) (by assumption) ?_
        · intro V hSw
          try dsimp only at hSw
          go_simp
        simp only [Act.put, List.setIfInBounds_toArray, List.set_cons_zero, List.set_cons_succ]
        refine wpAnyH_take (i := 7) (oi := _) (v := .int .i64 (yq : Int)) g20_7 (by kernel_rfl) (by kernel_rfl) (by kernel_rfl) (fun _ _ _ h => h) (Or.inl ⟨by rfl, ?_⟩) (by assumption) ?_
        · intro V hSw
          try dsimp only at hSw
          go_simp
        simp only [Act.put, List.setIfInBounds_toArray, List.set_cons_zero, List.set_cons_succ]
        refine wpAnyH_take (i := 8) (oi := _) (v := .int .i64 (n : Int)) g20_8 (by kernel_rfl) (by kernel_rfl) (by kernel_rfl) (fun _ _ _ h => h) (Or.inl ⟨by rfl, ?_⟩) (by assumption) ?_
        · intro V hSw
          try dsimp only at hSw
          go_simp
        simp only [Act.put, List.setIfInBounds_toArray, List.set_cons_zero, List.set_cons_succ]
        refine wpAnyH_take (i := 9) (oi := _) (v := .int .i64 (f : Int)) g20_9 (by kernel_rfl) (by kernel_rfl) (by kernel_rfl) (fun _ _ _ h => h) (Or.inl ⟨by rfl, ?_⟩) (by assumption) ?_
        · intro V hSw
          try dsimp only at hSw
          go_simp
        simp only [Act.put, List.setIfInBounds_toArray, List.set_cons_zero, List.set_cons_succ]
        refine wpAnyH_take (i := 10) (oi := _) (v := .int .i64 (n : Int)) g20_10 (by kernel_rfl) (by kernel_rfl) (by kernel_rfl) (fun _ _ _ h => h) (Or.inl ⟨by rfl, ?_⟩) (by assumption) ?_
        · intro V hSw
          try dsimp only at hSw
          go_simp
        simp only [Act.put, List.setIfInBounds_toArray, List.set_cons_zero, List.set_cons_succ]
        refine wpAnyH_take (i := 11) (oi := _) (v := .int .i64 (m : Int)) g20_11 (by kernel_rfl) (by kernel_rfl) (by kernel_rfl) (fun _ _ _ h => h) (Or.inl ⟨by rfl, ?_⟩) (by assumption) ?_
        · intro V hSw
          try dsimp only at hSw
          have nn0 : ¬ n = 0 := by omega
          go_simp
        simp only [Act.put, List.setIfInBounds_toArray, List.set_cons_zero, List.set_cons_succ]
        refine wpAnyH_take (i := 12) (oi := _) (v := .int .i64 (y : Int)) g20_12 (by kernel_rfl) (by kernel_rfl) (by kernel_rfl) (fun _ _ _ h => h) (Or.inl ⟨by rfl, ?_⟩) (by assumption) ?_
        · intro V hSw
          try dsimp only at hSw
          go_simp
        simp only [Act.put, List.setIfInBounds_toArray, List.set_cons_zero, List.set_cons_succ]
        refine wpAnyH_ready (rs := [13]) (by kernel_rfl) (by simp) ?_
        refine AllReadyH.cons (o := _) g20_13 (fun K hK => ?_) AllReadyH.nil
        go_simp
        refine (unhide HMx _).mono ?_
        rintro e w4 ⟨rfl, hb4⟩
        replace hown := own_keep hown hb4
        replace hb := btrans hb hb4
        clear hb4
        refine hK.out _ _ (hb) (fun _ => ?_)
        clear hK K
        refine wpAnyH_take (i := 14) (oi := _) (v := .int .i64 (s : Int)) g20_14 (by kernel_rfl) (by kernel_rfl) (by kernel_rfl) (fun _ _ _ h => h) (Or.inl ⟨by rfl, ?_⟩) (by assumption) ?_
        · intro V hSw
          try dsimp only at hSw
          go_simp
        simp only [Act.put, List.setIfInBounds_toArray, List.set_cons_zero, List.set_cons_succ]
        refine wpAnyH_take (i := 15) (oi := _) (v := .int .i64 ws) g20_15 (by kernel_rfl) (by kernel_rfl) (by kernel_rfl) (fun _ _ _ h => h) (Or.inl ⟨by rfl, ?_⟩) (by assumption) ?_
        · intro V hSw
          try dsimp only at hSw
          go_simp
        simp only [Act.put, List.setIfInBounds_toArray, List.set_cons_zero, List.set_cons_succ]
        refine wpAnyH_take (i := 16) (oi := _) (v := .int .i64 v) g20_16 (by kernel_rfl) (by kernel_rfl) (by kernel_rfl) (fun _ _ _ h => h) (Or.inl ⟨by rfl, ?_⟩) (by assumption) ?_
        · intro V hSw
          try dsimp only at hSw
          go_simp
        simp only [Act.put, List.setIfInBounds_toArray, List.set_cons_zero, List.set_cons_succ]
        refine wpAnyH_ready (rs := [17]) (by kernel_rfl) (by simp) ?_
        refine AllReadyH.cons (o := _) g20_17 (fun K hK => ?_) AllReadyH.nil
        go_simp
        replace hown := own_keep hown (bnew w4 (.cells #[.int .i64 v] 3))
        replace hb := btrans hb (bnew w4 (.cells #[.int .i64 v] 3))
        have lt := li_new w4 v
        refine hK.out _ _ (hb) (fun _ => ?_)
        clear hK K
        refine wpAnyH_ready (rs := [18]) (by kernel_rfl) (by simp) ?_
        refine AllReadyH.cons (o := _) g20_18 (fun K hK => ?_) AllReadyH.nil
        refine wp_app (t := 22) (e := 3) rfl Try.underlying22 info3 rfl (by decide) rfl rfl hown lt (lit_int _) (by unfold maxLen; omega) (by omega) hb.size ?_
        intro v1 w6 ho hgr he
        have hb6 := hb.grown hgr hb.size (fun k hk => (hown.lt k hk).1)
        refine hK.out _ _ (hb6) (fun _ => ?_)
        clear hK K
        obtain ⟨q1, cp1, rfl⟩ := own_form ho
        have HO := hide ho
        have Hb := hide hb6
        clear ho hgr he hown lt hb
        refine wpAnyH_take (i := 19) (oi := _) (v := .slice q1 (x + 1) cp1) g20_19 (by kernel_rfl) (by kernel_rfl) (by kernel_rfl) (fun _ _ _ h => h) (Or.inl ⟨by rfl, ?_⟩) (by assumption) ?_
        · intro V hSw
          try dsimp only at hSw
          go_simp
        simp only [Act.put, List.setIfInBounds_toArray, List.set_cons_zero, List.set_cons_succ]
        refine wpAnyH_done (by kernel_rfl) ?_ _
        refine NoPanic.normal ?_
        clear e2 e3 e4 e5 e6 e7 e8 e9 e10 HMx hb6
        rw [unhide Hy]
        go_wp2
        go_roundw
        case rel =>
          refine ⟨x + 1, cp1, q1, by omega, by go_num, rfl, ?_, unhide Hb⟩
          rw [fv_succ, ← unhide Hv]
          exact unhide HO
        case measure =>
          have := unhide Hy
          simp [intOf]
          omega
      · obtain rfl : n = x := by omega
        have cl : ¬ (((n + 1 : Nat) : Int) ≤ (n : Int)) := by omega
        have HO := hide hown
        have Hb := hide hb
        clear hown hb
        go_wp2
        exact bodyPost_ret (v := .tuple #[.slice q n cp, .int .i64 0]) (by simp [results, Try.results12, go_sem]) rfl (PN.mk _ _ (fv_is (unhide HO)) (unhide Hb))
  · have c6 : ¬ ((b : Int) - (a : Int) < 0) := by omega
    have c7 : (b : Int) - (a : Int) = (f : Int) := by rw [unhide Hf]; unfold fr; rw [if_neg hd]; omega
    have Hw := hide (show wy a b = 1 by unfold wy; rw [if_neg hd])
    rw [unhide Hw] at HN
    clear Hw hd
    go_wp2
    clear c0 d0 c1 d1 c2 d2 c3 d3 c4 d4 c5 d5 c6 c7
    go_loopw [10, 11] (fun v i wr => ∃ (x cp : Nat) (q : Option Addr), x ≤ n ∧ i = .int .i64 ((x + 1 : Nat) : Int) ∧ v = .slice q x cp ∧ wr.ownsRow W.heap.size 3 1 (.slice q x cp) x (fv g x) ∧ Below W.heap.size W wr) (fun _ i _ => n + 1 - (intOf i).toNat)
    case atStart => exact ⟨0, 0, none, Nat.zero_le _, rfl, rfl, World.ownsRow_nil _ _ _ _, Below.refl _ _⟩
    case round =>
      obtain ⟨x, cp, q, hx, rfl, rfl, hown, hb⟩ := hrel
      by_cases hlt : x < n
      · obtain ⟨qq, m, y, yq, c, s, ws, v, hc, hy, e2, e3, e4, e5, e6, e7, e8, e9, e10, e11, b1, b2, b3, b4, b5⟩ := unhide HN x hlt
        have HMx := hide (unhide HM m y b1 b2)
        rw [← hc] at HMx
        rw [← hy]
        simp only [Int.one_mul] at e7
        have Hy := hide hy
        have Hv := hide e11
        have q0 : (y : Int) ≤ (n : Int) := by omega
        have HO := hide hown
        have Hb := hide hb
        clear hc hy e11 hown hb
        go_wp2_with fail
        have hown := unhide HO
        have hb := unhide Hb
        clear HO Hb
        replace hown := own_keep hown (bdrew wr)
        replace hb := btrans hb (bdrew wr)
        refine wp_region_noPanic ?_
        refine wp_region_held_drew (S := fun V => Below W.heap.size W V) (by kernel_rfl) (hb) ?_
        intro _
        generalize wr.drew = w8 at *
        refine wpAnyH_take (i := 0) (oi := _) (v := .slice q x cp) g20_0 (by kernel_rfl) (by kernel_rfl) (by kernel_rfl) (fun _ _ _ h => h) (Or.inl ⟨by rfl, ?_⟩) (by assumption) ?_
        · intro V hSw
          try dsimp only at hSw
          go_simp
        simp only [Act.put, List.setIfInBounds_toArray, List.set_cons_zero, List.set_cons_succ]
        refine wpAnyH_take (i := 1) (oi := _) (v := .int .i64 (a : Int)) g20_1 (by kernel_rfl) (by kernel_rfl) (by kernel_rfl) (fun _ _ _ h => h) (Or.inl ⟨by rfl, ?_⟩) (by assumption) ?_
        · intro V hSw
          try dsimp only at hSw
          go_simp
        simp only [Act.put, List.setIfInBounds_toArray, List.set_cons_zero, List.set_cons_succ]
        refine wpAnyH_take (i := 2) (oi := _) (v := .int .i64 (1)) g20_2 (by kernel_rfl) (by kernel_rfl) (by kernel_rfl) (fun _ _ _ h => h) (Or.inl ⟨by rfl, ?_⟩) (by assumption) ?_
        · intro V hSw
          try dsimp only at hSw
          go_simp
        simp only [Act.put, List.setIfInBounds_toArray, List.set_cons_zero, List.set_cons_succ]
        refine wpAnyH_take (i := 3) (oi := _) (v := .int .i64 (f : Int)) g20_3 (by kernel_rfl) (by kernel_rfl) (by kernel_rfl) (fun _ _ _ h => h) (Or.inl ⟨by rfl, ?_⟩) (by assumption) ?_
        · intro V hSw
          try dsimp only at hSw
          go_simp
        simp only [Act.put, List.setIfInBounds_toArray, List.set_cons_zero, List.set_cons_succ]
        refine wpAnyH_take (i := 4) (oi := _) (v := .int .i64 (n : Int)) g20_4 (by kernel_rfl) (by kernel_rfl) (by kernel_rfl) (fun _ _ _ h => h) (Or.inl ⟨by rfl, ?_⟩) (by assumption) ?_
        · intro V hSw
          try dsimp only at hSw
          go_simp
        simp only [Act.put, List.setIfInBounds_toArray, List.set_cons_zero, List.set_cons_succ]
        refine wpAnyH_take (i := 5) (oi := _) (v := .int .i64 (qq : Int)) g20_5 (by kernel_rfl) (by kernel_rfl) (by kernel_rfl) (fun _ _ _ h => h) (Or.inl ⟨by rfl, ?_⟩) (by assumption) ?_
        · intro V hSw
          try dsimp only at hSw
          have nn0 : ¬ n = 0 := by omega
          go_simp
        simp only [Act.put, List.setIfInBounds_toArray, List.set_cons_zero, List.set_cons_succ]
        refine wpAnyH_take (i := 6) (oi := _) (v := .int .i64 (y : Int)) g20_6 (by kernel_rfl) (by kernel_rfl) (by kernel_rfl) (fun _ _ _ h => h) (Or.inl ⟨by rfl, ?_⟩) (by assumption) ?_
        · intro V hSw
          try dsimp only at hSw
          go_simp
        simp only [Act.put, List.setIfInBounds_toArray, List.set_cons_zero, List.set_cons_succ]
        refine wpAnyH_take (i := 7) (oi := _) (v := .int .i64 (yq : Int)) g20_7 (by kernel_rfl) (by kernel_rfl) (by kernel_rfl) (fun _ _ _ h => h) (Or.inl ⟨by rfl, ?_⟩) (by assumption) ?_
        · intro V hSw
          try dsimp only at hSw
          go_simp
        simp only [Act.put, List.setIfInBounds_toArray, List.set_cons_zero, List.set_cons_succ]
        refine wpAnyH_take (i := 8) (oi := _) (v := .int .i64 (n : Int)) g20_8 (by kernel_rfl) (by kernel_rfl) (by kernel_rfl) (fun _ _ _ h => h) (Or.inl ⟨by rfl, ?_⟩) (by assumption) ?_
        · intro V hSw
          try dsimp only at hSw
          go_simp
        simp only [Act.put, List.setIfInBounds_toArray, List.set_cons_zero, List.set_cons_succ]
        refine wpAnyH_take (i := 9) (oi := _) (v := .int .i64 (f : Int)) g20_9 (by kernel_rfl) (by kernel_rfl) (by kernel_rfl) (fun _ _ _ h => h) (Or.inl ⟨by rfl, ?_⟩) (by assumption) ?_
        · intro V hSw
          try dsimp only at hSw
          go_simp
        simp only [Act.put, List.setIfInBounds_toArray, List.set_cons_zero, List.set_cons_succ]
        refine wpAnyH_take (i := 10) (oi := _) (v := .int .i64 (n : Int)) g20_10 (by kernel_rfl) (by kernel_rfl) (by kernel_rfl) (fun _ _ _ h => h) (Or.inl ⟨by rfl, ?_⟩) (by assumption) ?_
        · intro V hSw
          try dsimp only at hSw
          go_simp
        simp only [Act.put, List.setIfInBounds_toArray, List.set_cons_zero, List.set_cons_succ]
        refine wpAnyH_take (i := 11) (oi := _) (v := .int .i64 (m : Int)) g20_11 (by kernel_rfl) (by kernel_rfl) (by kernel_rfl) (fun _ _ _ h => h) (Or.inl ⟨by rfl, ?_⟩) (by assumption) ?_
        · intro V hSw
          try dsimp only at hSw
          have nn0 : ¬ n = 0 := by omega
          go_simp
        simp only [Act.put, List.setIfInBounds_toArray, List.set_cons_zero, List.set_cons_succ]
        refine wpAnyH_take (i := 12) (oi := _) (v := .int .i64 (y : Int)) g20_12 (by kernel_rfl) (by kernel_rfl) (by kernel_rfl) (fun _ _ _ h => h) (Or.inl ⟨by rfl, ?_⟩) (by assumption) ?_
        · intro V hSw
          try dsimp only at hSw
          go_simp
        simp only [Act.put, List.setIfInBounds_toArray, List.set_cons_zero, List.set_cons_succ]
        refine wpAnyH_ready (rs := [13]) (by kernel_rfl) (by simp) ?_
        refine AllReadyH.cons (o := _) g20_13 (fun K hK => ?_) AllReadyH.nil
        go_simp
        refine (unhide HMx _).mono ?_
        rintro e w4 ⟨rfl, hb4⟩
        replace hown := own_keep hown hb4
        replace hb := btrans hb hb4
        clear hb4
        refine hK.out _ _ (hb) (fun _ => ?_)
        clear hK K
        refine wpAnyH_take (i := 14) (oi := _) (v := .int .i64 (s : Int)) g20_14 (by kernel_rfl) (by kernel_rfl) (by kernel_rfl) (fun _ _ _ h => h) (Or.inl ⟨by rfl, ?_⟩) (by assumption) ?_
        · intro V hSw
          try dsimp only at hSw
          go_simp
        simp only [Act.put, List.setIfInBounds_toArray, List.set_cons_zero, List.set_cons_succ]
        refine wpAnyH_take (i := 15) (oi := _) (v := .int .i64 ws) g20_15 (by kernel_rfl) (by kernel_rfl) (by kernel_rfl) (fun _ _ _ h => h) (Or.inl ⟨by rfl, ?_⟩) (by assumption) ?_
        · intro V hSw
          try dsimp only at hSw
          go_simp
        simp only [Act.put, List.setIfInBounds_toArray, List.set_cons_zero, List.set_cons_succ]
        refine wpAnyH_take (i := 16) (oi := _) (v := .int .i64 v) g20_16 (by kernel_rfl) (by kernel_rfl) (by kernel_rfl) (fun _ _ _ h => h) (Or.inl ⟨by rfl, ?_⟩) (by assumption) ?_
        · intro V hSw
          try dsimp only at hSw
          go_simp
        simp only [Act.put, List.setIfInBounds_toArray, List.set_cons_zero, List.set_cons_succ]
        refine wpAnyH_ready (rs := [17]) (by kernel_rfl) (by simp) ?_
        refine AllReadyH.cons (o := _) g20_17 (fun K hK => ?_) AllReadyH.nil
        go_simp
        replace hown := own_keep hown (bnew w4 (.cells #[.int .i64 v] 3))
        replace hb := btrans hb (bnew w4 (.cells #[.int .i64 v] 3))
        have lt := li_new w4 v
        refine hK.out _ _ (hb) (fun _ => ?_)
        clear hK K
        refine wpAnyH_ready (rs := [18]) (by kernel_rfl) (by simp) ?_
        refine AllReadyH.cons (o := _) g20_18 (fun K hK => ?_) AllReadyH.nil
        refine wp_app (t := 22) (e := 3) rfl Try.underlying22 info3 rfl (by decide) rfl rfl hown lt (lit_int _) (by unfold maxLen; omega) (by omega) hb.size ?_
        intro v1 w6 ho hgr he
        have hb6 := hb.grown hgr hb.size (fun k hk => (hown.lt k hk).1)
        refine hK.out _ _ (hb6) (fun _ => ?_)
        clear hK K
        obtain ⟨q1, cp1, rfl⟩ := own_form ho
        have HO := hide ho
        have Hb := hide hb6
        clear ho hgr he hown lt hb
        refine wpAnyH_take (i := 19) (oi := _) (v := .slice q1 (x + 1) cp1) g20_19 (by kernel_rfl) (by kernel_rfl) (by kernel_rfl) (fun _ _ _ h => h) (Or.inl ⟨by rfl, ?_⟩) (by assumption) ?_
        · intro V hSw
          try dsimp only at hSw
          go_simp
        simp only [Act.put, List.setIfInBounds_toArray, List.set_cons_zero, List.set_cons_succ]
        refine wpAnyH_done (by kernel_rfl) ?_ _
        refine NoPanic.normal ?_
        clear e2 e3 e4 e5 e6 e7 e8 e9 e10 HMx hb6
        rw [unhide Hy]
        go_wp2
        go_roundw
        case rel =>
          refine ⟨x + 1, cp1, q1, by omega, by go_num, rfl, ?_, unhide Hb⟩
          rw [fv_succ, ← unhide Hv]
          exact unhide HO
        case measure =>
          have := unhide Hy
          simp [intOf]
          omega
      · obtain rfl : n = x := by omega
        have cl : ¬ (((n + 1 : Nat) : Int) ≤ (n : Int)) := by omega
        have HO := hide hown
        have Hb := hide hb
        clear hown hb
        go_wp2
        exact bodyPost_ret (v := .tuple #[.slice q n cp, .int .i64 0]) (by simp [results, Try.results12, go_sem]) rfl (PN.mk _ _ (fv_is (unhide HO)) (unhide Hb))

set_option maxHeartbeats 2000000 in
theorem same_any {W : World} {q1 q2 : Option Addr} {n c1 c2 : Nat} {f : Nat → Int} (hn : n ≤ 1048576) (h1 : Is W q1 n f) (h2 : Is W q2 n f) : Calls Try.prog 8 #[.slice q1 n c1, .slice q2 n c2] W fun e w' => e = .returned (.bool true) ∧ Below W.heap.size W w' := by
  have H1 := hide h1
  have H2 := hide h2
  have hnn : ((n : Int) != (n : Int)) = false := by simp
  clear h1 h2
  go_enter Try.func8, Try.ntmps8
  go_wp2
  go_loopw [13] (fun i wr => ∃ x : Nat, x ≤ n ∧ i = .int .i64 x ∧ Below W.heap.size W wr) (fun i _ => n - (intOf i).toNat)
  case atStart => exact ⟨0, Nat.zero_le _, rfl, Below.refl _ _⟩
  case round =>
    obtain ⟨x, hx, rfl, hb⟩ := hrel
    by_cases hlt : x < n
    · obtain ⟨a1, rfl, l1, k1⟩ := ((unhide H1).keep hb).at hlt
      obtain ⟨a2, rfl, l2, k2⟩ := ((unhide H2).keep hb).at hlt
      have d1 := k1 x hlt
      have d2 := k2 x hlt
      have q1 : (x : Int) < (n : Int) := by omega
      have q2 : (0 : Int) ≤ (x : Int) := by omega
      generalize f x = v at *
      have e1 : (v != v) = false := by simp
      clear k1 k2
      go_wp2_with fail
      go_quiet (fail)
      go_wp2
      go_roundw
      case rel => exact ⟨x + 1, by omega, by go_num, btrans hb (Joins.below_draws _ _ _)⟩
      case measure => simp [intOf]; omega
    · obtain rfl : x = n := by omega
      have cl : ¬ ((x : Int) < (x : Int)) := by omega
      go_wp2
      go_ret
      exact ⟨rfl, hb⟩

/-- what both sides answer -/
theorem spread_pair (t m : Int) : ∃ (n : Nat) (f : Nat → Int) (er : Int), n ≤ 1048576 ∧ (∀ W, AnsN 6 #[.int .i64 t, .int .i64 m] W n f er) ∧ ∀ W, AnsN 7 #[.int .i64 t, .int .i64 m] W n f er := by
  cases h : caB t m with
  | false => exact ⟨0, _, 3, by omega, fun W => spread_err t m h W, fun W => rspread_err t m h W⟩
  | true =>
    have := (caB_iff t m).1 h
    obtain ⟨T, rfl⟩ : ∃ T : Nat, t = (T : Int) := ⟨t.toNat, by omega⟩
    obtain ⟨M, rfl⟩ : ∃ M : Nat, m = (M : Int) := ⟨m.toNat, by omega⟩
    exact ⟨M, _, 0, by omega, fun W => spread_ok T M (by omega) (by omega) (by omega) W, fun W => rspread_ok T M (by omega) (by omega) (by omega) W⟩
theorem count_pair (t m p : Int) : ∃ (k er : Int), (∀ W, AnsI 9 #[.int .i64 t, .int .i64 m, .int .i64 p] W k er) ∧ ∀ W, AnsI 10 #[.int .i64 t, .int .i64 m, .int .i64 p] W k er := by
  by_cases h : caB t m = true ∧ wiB p 0 t = true
  · have := (caB_iff t m).1 h.1
    have := (wiB_iff p 0 t).1 h.2
    obtain ⟨T, rfl⟩ : ∃ T : Nat, t = (T : Int) := ⟨t.toNat, by omega⟩
    obtain ⟨M, rfl⟩ : ∃ M : Nat, m = (M : Int) := ⟨m.toNat, by omega⟩
    obtain ⟨P, rfl⟩ : ∃ P : Nat, p = (P : Int) := ⟨p.toNat, by omega⟩
    exact ⟨_, 0, fun W => count_ok T M P (by omega) (by omega) (by omega) (by omega) W, fun W => rcount_ok T M P (by omega) (by omega) (by omega) (by omega) W⟩
  · exact ⟨0, 3, fun W => count_err t m p h W, fun W => rcount_err t m p h W⟩
theorem rows_pair (a b n : Int) : ∃ (k : Nat) (f : Nat → Int) (er : Int), k ≤ 1048576 ∧ (∀ W, AnsN 11 #[.int .i64 a, .int .i64 b, .int .i64 n] W k f er) ∧ ∀ W, AnsN 12 #[.int .i64 a, .int .i64 b, .int .i64 n] W k f er := by
  cases h : roB a b n with
  | false => exact ⟨0, _, 3, by omega, fun W => rows_err a b n h W, fun W => rrows_err a b n h W⟩
  | true =>
    have := (roB_iff a b n).1 h
    obtain ⟨A, rfl⟩ : ∃ A : Nat, a = (A : Int) := ⟨a.toNat, by omega⟩
    obtain ⟨B, rfl⟩ : ∃ B : Nat, b = (B : Int) := ⟨b.toNat, by omega⟩
    obtain ⟨R, rfl⟩ : ∃ R : Nat, n = (R : Int) := ⟨n.toNat, by omega⟩
    exact ⟨R, _, 0, by omega, fun W => rows_ok A B R (by omega) (by omega) (by omega) (by omega) W, fun W => rrows_ok A B R (by omega) (by omega) (by omega) (by omega) W⟩

set_option maxRecDepth 100000 in
set_option maxHeartbeats 2000000 in
theorem spreads_any (t m p a b n : Int) (W : World) : Calls Try.prog 3 #[.int .i64 t, .int .i64 m, .int .i64 p, .int .i64 a, .int .i64 b, .int .i64 n] W fun e w' => e = .returned (.bool true) ∧ Below W.heap.size W w' := by
  obtain ⟨n1, f1, e1, l1, A1, B1⟩ := spread_pair t m
  obtain ⟨k2, e2, A2, B2⟩ := count_pair t m p
  obtain ⟨n3, f3, e3, l3, A3, B3⟩ := rows_pair a b n
  have HA1 := hide A1
  have HB1 := hide B1
  have HA2 := hide A2
  have HB2 := hide B2
  have HA3 := hide A3
  have HB3 := hide B3
  clear A1 B1 A2 B2 A3 B3
  have r1 : (e1 != e1) = false := by simp
  have r2 : (e2 != e2) = false := by simp
  have r3 : (k2 != k2) = false := by simp
  have r4 : (e3 == e3) = true := by simp
  go_enter Try.func3, Try.ntmps3
  go_wp2_with fail
  refine (unhide HA1 _).mono ?_
  rintro e w1 ⟨q1, c1, rfl, hI1, hb1⟩
  have HI1 := hide hI1
  have Hb1 := hide hb1
  clear hI1 hb1
  go_wp2_with fail
  refine (unhide HB1 _).mono ?_
  rintro e w2 ⟨q2, c2, rfl, hI2, hb2⟩
  have HS := hide (fun V hV => same_any (c1 := c1) (c2 := c2) l1 ((unhide HI1).keep (btrans hb2 hV)) (hI2.keep hV) : ∀ V, Below w2.heap.size w2 V → _)
  have Hb2 := hide (btrans (unhide Hb1) hb2)
  clear hI2 hb2 HI1 Hb1
  go_wp2_with fail
  refine (unhide HS _ (Below.refl _ _)).mono ?_
  rintro e w3 ⟨rfl, hb3⟩
  have Hb3 := hide (btrans (unhide Hb2) hb3)
  clear hb3 Hb2 HS
  go_wp2_with fail
  refine (unhide HA2 _).mono ?_
  rintro e w4 ⟨rfl, hb4⟩
  have Hb4 := hide (btrans (unhide Hb3) hb4)
  clear hb4 Hb3
  go_wp2_with fail
  refine (unhide HB2 _).mono ?_
  rintro e w5 ⟨rfl, hb5⟩
  have Hb5 := hide (btrans (unhide Hb4) hb5)
  clear hb5 Hb4
  go_wp2_with fail
  refine (unhide HA3 _).mono ?_
  rintro e w6 ⟨q3, c3, rfl, hI3, hb6⟩
  have HI3 := hide hI3
  have Hb6 := hide (btrans (unhide Hb5) hb6)
  clear hI3 hb6 Hb5
  go_wp2_with fail
  refine (unhide HB3 _).mono ?_
  rintro e w7 ⟨q4, c4, rfl, hI4, hb7⟩
  have HS := hide (same_any (c1 := c3) (c2 := c4) l3 ((unhide HI3).keep hb7) hI4)
  have Hb7 := hide (btrans (unhide Hb6) hb7)
  clear hI4 hb7 HI3 Hb6
  go_wp2_with fail
  refine (unhide HS).mono ?_
  rintro e w8 ⟨rfl, hb8⟩
  have Hb8 := hide (btrans (unhide Hb7) hb8)
  clear hb8 Hb7 HS
  go_wp2
  go_ret
  exact ⟨rfl, unhide Hb8⟩
end Go.Proofs.Ytmblnfdadpcigaa
