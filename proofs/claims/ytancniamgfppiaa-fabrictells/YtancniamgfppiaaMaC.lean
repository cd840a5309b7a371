/-
  facing, held.
-/
import Derived.Test.YtancniamgfppiaaMaB
namespace Go.Proofs.Ytancniamgfppiaa
open Go.RowKit

set_option maxRecDepth 100000 in
set_option maxHeartbeats 1000000 in
theorem held_any {B : Nat} {W : World} {m N : Nat} {s : St} {g : Mg} (k : MB B W m N s g) {b n : Nat} (hb : b < 2) (hn : n < N) : Ans 75 #[mp m, plV b n] W (.int .i64 ((s.on b n).length : Nat)) := by
  unfold Ans
  have B0 := hide (bnew W (.cells #[.int .i64 b, .int .i64 n] 75))
  have HP := hide (PB.new W b n)
  have HK := hide (k.keep (unhide B0))
  obtain ⟨q, cap, hq⟩ := (k.ndl b n hb hn).1.form
  have q1 : (n : Int) < (N : Int) := by omega
  have q2 : (0 : Int) ≤ (n : Int) := by omega
  have Hc := hide ((unhide HK).cell hb hn)
  rw [hq] at Hc
  clear hq k
  generalize (s.on b n).length = ln at *
  rcases (show b = 0 ∨ b = 1 by omega) with rfl | rfl
  all_goals
    go_enter Try.func75, Try.ntmps75
    go_wp2_with fail
    have c0 := (unhide HK).box.2.1.1
    have c1 := (unhide HK).box.2.1.2.1
    have c2 := unhide Hc
    obtain ⟨-, p0, p1⟩ := unhide HP
    generalize W.alloc (.cells #[.int .i64 _, .int .i64 n] 75) = w0 at *
    go_quiet (fail)
    go_wp2
    go_ret
    exact ⟨rfl, (unhide B0).trans ((Joins.below_draws _ _ _).mono (unhide B0).size)⟩

/-- a place in its box that may be written -/
def PW (W : World) (b : Nat) (x y : Int) : Prop := PB W b x y ∧ W.frozen? ⟨b, 0, none⟩ = false ∧ W.frozen? ⟨b, 1, none⟩ = false
theorem PW.new (W : World) (x y : Int) : PW (W.alloc (.cells #[.int .i64 x, .int .i64 y] 75)) W.heap.size x y := ⟨PB.new W x y, by simp [go_sem], by simp [go_sem]⟩
theorem g10_0 {a0 a1 a2 a3 a4 a5 a6 a7 a8 a9 : Oper} : (#[a0, a1, a2, a3, a4, a5, a6, a7, a8, a9] : Array Oper)[0]? = some a0 := rfl
theorem g10_1 {a0 a1 a2 a3 a4 a5 a6 a7 a8 a9 : Oper} : (#[a0, a1, a2, a3, a4, a5, a6, a7, a8, a9] : Array Oper)[1]? = some a1 := rfl
theorem g10_2 {a0 a1 a2 a3 a4 a5 a6 a7 a8 a9 : Oper} : (#[a0, a1, a2, a3, a4, a5, a6, a7, a8, a9] : Array Oper)[2]? = some a2 := rfl
theorem g10_3 {a0 a1 a2 a3 a4 a5 a6 a7 a8 a9 : Oper} : (#[a0, a1, a2, a3, a4, a5, a6, a7, a8, a9] : Array Oper)[3]? = some a3 := rfl
theorem g10_4 {a0 a1 a2 a3 a4 a5 a6 a7 a8 a9 : Oper} : (#[a0, a1, a2, a3, a4, a5, a6, a7, a8, a9] : Array Oper)[4]? = some a4 := rfl
theorem g10_5 {a0 a1 a2 a3 a4 a5 a6 a7 a8 a9 : Oper} : (#[a0, a1, a2, a3, a4, a5, a6, a7, a8, a9] : Array Oper)[5]? = some a5 := rfl
theorem g10_6 {a0 a1 a2 a3 a4 a5 a6 a7 a8 a9 : Oper} : (#[a0, a1, a2, a3, a4, a5, a6, a7, a8, a9] : Array Oper)[6]? = some a6 := rfl
theorem g10_7 {a0 a1 a2 a3 a4 a5 a6 a7 a8 a9 : Oper} : (#[a0, a1, a2, a3, a4, a5, a6, a7, a8, a9] : Array Oper)[7]? = some a7 := rfl
theorem g10_8 {a0 a1 a2 a3 a4 a5 a6 a7 a8 a9 : Oper} : (#[a0, a1, a2, a3, a4, a5, a6, a7, a8, a9] : Array Oper)[8]? = some a8 := rfl
theorem g10_9 {a0 a1 a2 a3 a4 a5 a6 a7 a8 a9 : Oper} : (#[a0, a1, a2, a3, a4, a5, a6, a7, a8, a9] : Array Oper)[9]? = some a9 := rfl
theorem two_new (W : World) (o : Obj) (x y : Int) : PW ((W.alloc o).alloc (.cells #[.int .i64 x, .int .i64 y] 75)) (W.heap.size + 1) x y := by
  have := PW.new (W.alloc o) x y
  simpa using this

set_option maxRecDepth 100000 in
set_option maxHeartbeats 1000000 in
theorem facing_any {B : Nat} {W : World} {m N : Nat} {s : St} {g : Mg} (k : MB B W m N s g) (hI : Iv s) (hN : N ≤ 128) {b n : Nat} (hb : b < 2) (hn : n < N) : Ans 45 #[mp m, plV b n] W (plV (fcB b) (fcN s.rack b n)) := by
  unfold Ans
  obtain ⟨-, -, -, -, r1, r2⟩ := hI
  have B0 := hide (bnew W (.cells #[.int .i64 b, .int .i64 n] 75))
  have B1 := hide (btrans (unhide B0) (bnew _ (.cells #[.int .i64 0, .int .i64 0] 75)))
  have HP1 := hide ((PB.new W b n).keep (bnew _ (.cells #[.int .i64 0, .int .i64 0] 75)))
  have HK1 := hide ((k.keep (unhide B0)).keep (bnew _ (.cells #[.int .i64 0, .int .i64 0] 75)))
  have HR1 := hide (two_new W (.cells #[.int .i64 b, .int .i64 n] 75) 0 0)
  have hlt := k.lt
  have hn1 : m ≠ W.heap.size := by omega
  have hn2 : m ≠ W.heap.size + 1 := by omega
  clear k B0
  rcases (show b = 0 ∨ b = 1 by omega) with rfl | rfl
  · have e2 : IntKind.i64.wrap ((n : Int) - s.rack) = (n : Int) - s.rack := Go.IntWalk.i64_in _ (by omega)
    have Hf := hide (show fcN s.rack 0 n = (n : Int) - s.rack from rfl)
    go_enter Try.func45, Try.ntmps45
    go_upto_region 2 with fail
    generalize (W.alloc (.cells #[.int .i64 _, .int .i64 n] 75)).alloc (.cells #[.int .i64 0, .int .i64 0] 75) = w1 at *
    have c2 := (unhide HK1).box.2.1.2.2.1
    obtain ⟨-, p0, p1⟩ := unhide HP1
    obtain ⟨⟨-, j0, j1⟩, f0, f1⟩ := unhide HR1
    go_region
    all_goals go_wp2
    all_goals
      refine bodyPost_ret (v := plV 1 ((n : Int) - s.rack)) (by simp [results, Try.results45, go_sem, j0, j1]) rfl ⟨by rw [unhide Hf]; rfl, ?_⟩
      exact ((unhide B1).trans ((bdrew _).mono (unhide B1).size)).setCell (by simp) _ |>.setCell (by simp) _
  · have e2 : IntKind.i64.wrap ((n : Int) + s.rack) = (n : Int) + s.rack := Go.IntWalk.i64_in _ (by omega)
    have Hf := hide (show fcN s.rack 1 n = (n : Int) + s.rack from rfl)
    go_enter Try.func45, Try.ntmps45
    go_upto_region 3 with fail
    generalize (W.alloc (.cells #[.int .i64 _, .int .i64 n] 75)).alloc (.cells #[.int .i64 0, .int .i64 0] 75) = w1 at *
    have c2 := (unhide HK1).box.2.1.2.2.1
    obtain ⟨-, p0, p1⟩ := unhide HP1
    obtain ⟨⟨-, j0, j1⟩, f0, f1⟩ := unhide HR1
    go_region
    all_goals go_wp2
    all_goals
      refine bodyPost_ret (v := plV 0 ((n : Int) + s.rack)) (by simp [results, Try.results45, go_sem, j0, j1]) rfl ⟨by rw [unhide Hf]; rfl, ?_⟩
      exact ((unhide B1).trans ((bdrew _).mono (unhide B1).size)).setCell (by simp) _ |>.setCell (by simp) _

set_option maxRecDepth 100000 in
set_option maxHeartbeats 1000000 in
theorem will_move {B : Nat} {W : World} {m N : Nat} {s : St} {g : Mg} (k : MB B W m N s g) (hI : Iv s) (hN : N ≤ 128) {b n : Nat} (hb : b < 2) (hn : n < N) (hf : hasB N (fcB b) (fcN s.rack b n) = true) : Ans 76 #[mp m, .int .i64 4, plV b n] W (.int .i64 ((whN s 4 b n : Nat) : Int)) := by
  unfold Ans
  obtain ⟨-, f2, f3, f4⟩ := (hasB_iff _ _ _).1 hf
  obtain ⟨fn, hfn⟩ : ∃ fn : Nat, fcN s.rack b n = fn := ⟨(fcN s.rack b n).toNat, by omega⟩
  have B0 := hide (bnew W (.cells #[.int .i64 b, .int .i64 n] 75))
  have HP := hide (PB.new W b n)
  have HK := hide (k.keep (unhide B0))
  have hfb : fcB b < 2 := by omega
  have HF := hide (fun V (hV : Below (W.alloc (.cells #[.int .i64 b, .int .i64 n] 75)).heap.size (W.alloc (.cells #[.int .i64 b, .int .i64 n] 75)) V) => facing_any ((unhide HK).keep hV) hI hN hb hn)
  have HH1 := hide (fun V (hV : Below (W.alloc (.cells #[.int .i64 b, .int .i64 n] 75)).heap.size (W.alloc (.cells #[.int .i64 b, .int .i64 n] 75)) V) => held_any ((unhide HK).keep hV) hfb (n := fn) (by omega))
  have HH2 := hide (fun V (hV : Below (W.alloc (.cells #[.int .i64 b, .int .i64 n] 75)).heap.size (W.alloc (.cells #[.int .i64 b, .int .i64 n] 75)) V) => held_any ((unhide HK).keep hV) hb hn)
  have l8 := hI.2.2.2.1 (fcB b) fn
  have l9 := hI.2.2.2.1 b n
  have Hw := hide (show whN s 4 b n = (s.on (fcB b) fn).length + (s.on b n).length by unfold whN; rw [if_neg (by omega), if_pos rfl, hfn]; rfl)
  rw [hfn] at HF
  unfold Ans at HF HH1 HH2
  generalize (s.on (fcB b) fn).length = l1 at *
  generalize (s.on b n).length = l2 at *
  have e2 : IntKind.i64.wrap ((l1 : Int) + (l2 : Int)) = (l1 : Int) + (l2 : Int) := Go.IntWalk.i64_in _ (by omega)
  clear k hfn HK hf f2 f3 f4 hI
  go_enter Try.func76, Try.ntmps76
  go_wp2_with fail
  generalize W.alloc (.cells #[.int .i64 b, .int .i64 n] 75) = w0 at *
  refine wp_region_noPanic ?_
  refine wp_region_held_drew (S := fun V => Below w0.heap.size w0 V) (by kernel_rfl) (bdrew _) ?_
  intro _
  refine wpAnyH_take (i := 0) (oi := _) (v := mp m) g10_0 (by kernel_rfl) (by kernel_rfl) (by kernel_rfl) (fun _ _ _ h => h) (Or.inl ⟨by rfl, ?_⟩) (by assumption) ?_
  · intro V hSw
    try dsimp only at hSw
    go_simp
  simp only [Act.put, List.setIfInBounds_toArray, List.set_cons_zero, List.set_cons_succ]
  refine wpAnyH_take (i := 1) (oi := _) (v := mp m) g10_1 (by kernel_rfl) (by kernel_rfl) (by kernel_rfl) (fun _ _ _ h => h) (Or.inl ⟨by rfl, ?_⟩) (by assumption) ?_
  · intro V hSw
    try dsimp only at hSw
    go_simp
  simp only [Act.put, List.setIfInBounds_toArray, List.set_cons_zero, List.set_cons_succ]
  refine wpAnyH_take (i := 2) (oi := _) (v := plV b n) g10_2 (by kernel_rfl) (by kernel_rfl) (by kernel_rfl) (fun _ _ _ h => h) (Or.inl ⟨by rfl, ?_⟩) (by assumption) ?_
  · intro V hSw
    try dsimp only at hSw
    obtain ⟨-, p0, p1⟩ := (unhide HP).keep hSw
    go_simp
  simp only [Act.put, List.setIfInBounds_toArray, List.set_cons_zero, List.set_cons_succ]
  refine wpAnyH_take (i := 5) (oi := _) (v := mp m) g10_5 (by kernel_rfl) (by kernel_rfl) (by kernel_rfl) (fun _ _ _ h => h) (Or.inl ⟨by rfl, ?_⟩) (by assumption) ?_
  · intro V hSw
    try dsimp only at hSw
    go_simp
  simp only [Act.put, List.setIfInBounds_toArray, List.set_cons_zero, List.set_cons_succ]
  refine wpAnyH_take (i := 6) (oi := _) (v := plV b n) g10_6 (by kernel_rfl) (by kernel_rfl) (by kernel_rfl) (fun _ _ _ h => h) (Or.inl ⟨by rfl, ?_⟩) (by assumption) ?_
  · intro V hSw
    try dsimp only at hSw
    obtain ⟨-, p0, p1⟩ := (unhide HP).keep hSw
    go_simp
  simp only [Act.put, List.setIfInBounds_toArray, List.set_cons_zero, List.set_cons_succ]
  refine wpAnyH_ready (rs := [3]) (by kernel_rfl) (by simp) ?_
  refine AllReadyH.cons (o := _) g10_3 (fun K hK => ?_) AllReadyH.nil
  go_simp
  refine (unhide HF _ (bdrew _)).mono ?_
  rintro e w3 ⟨rfl, hb3⟩
  refine hK.out _ _ (btrans (bdrew _) hb3) (fun _ => ?_)
  have S3 := hide (btrans (bdrew w0) hb3)
  clear hK K hb3
  refine wpAnyH_ready (rs := [4]) (by kernel_rfl) (by simp) ?_
  refine AllReadyH.cons (o := _) g10_4 (fun K hK => ?_) AllReadyH.nil
  go_simp
  refine (unhide HH1 _ (unhide S3)).mono ?_
  rintro e w4 ⟨rfl, hb4⟩
  refine hK.out _ _ (btrans (unhide S3) hb4) (fun _ => ?_)
  have S4 := hide (btrans (unhide S3) hb4)
  clear hK K hb4 S3
  refine wpAnyH_ready (rs := [7]) (by kernel_rfl) (by simp) ?_
  refine AllReadyH.cons (o := _) g10_7 (fun K hK => ?_) AllReadyH.nil
  go_simp
  refine (unhide HH2 _ (unhide S4)).mono ?_
  rintro e w7 ⟨rfl, hb7⟩
  refine hK.out _ _ (btrans (unhide S4) hb7) (fun _ => ?_)
  have S7 := hide (btrans (unhide S4) hb7)
  clear hK K hb7 S4
  refine wpAnyH_take (i := 8) (oi := _) (v := .int .i64 ((l1 : Int) + (l2 : Int))) g10_8 (by kernel_rfl) (by kernel_rfl) (by kernel_rfl) (fun _ _ _ h => h) (Or.inl ⟨by rfl, ?_⟩) (by assumption) ?_
  · intro V hSw
    try dsimp only at hSw
    go_simp
  simp only [Act.put, List.setIfInBounds_toArray, List.set_cons_zero, List.set_cons_succ]
  refine wpAnyH_take (i := 9) (oi := _) (v := .int .i64 ((l1 : Int) + (l2 : Int))) g10_9 (by kernel_rfl) (by kernel_rfl) (by kernel_rfl) (fun _ _ _ h => h) (Or.inl ⟨by rfl, ?_⟩) (by assumption) ?_
  · intro V hSw
    try dsimp only at hSw
    go_simp
  simp only [Act.put, List.setIfInBounds_toArray, List.set_cons_zero, List.set_cons_succ]
  refine wpAnyH_done (by kernel_rfl) ?_ _
  refine NoPanic.normal ?_
  go_wp2
  go_ret
  exact ⟨by rw [unhide Hw]; exact ret_int (by simp), btrans (unhide B0) (unhide S7)⟩

set_option maxRecDepth 100000 in
set_option maxHeartbeats 1000000 in
theorem will_any {B : Nat} {W : World} {m N : Nat} {s : St} {g : Mg} (k : MB B W m N s g) (hI : Iv s) (hN : N ≤ 128) {b n : Nat} (hb : b < 2) (hn : n < N) (d : Int) (hf : d = 4 → hasB N (fcB b) (fcN s.rack b n) = true) : Ans 76 #[mp m, .int .i64 d, plV b n] W (.int .i64 ((whN s d b n : Nat) : Int)) := by
  by_cases h4 : d = 4
  · subst h4
    exact will_move k hI hN hb hn (hf rfl)
  unfold Ans
  have B0 := hide (bnew W (.cells #[.int .i64 b, .int .i64 n] 75))
  have HP := hide (PB.new W b n)
  have HH2 := hide (held_any (k.keep (unhide B0)) hb hn)
  have l9 := hI.2.2.2.1 b n
  unfold Ans at HH2
  by_cases h2 : d = 2
  · subst h2
    have Hw := hide (show whN s 2 b n = (s.on b n).length + 1 by unfold whN; rw [if_pos rfl])
    generalize (s.on b n).length = l2 at *
    clear k hI hf
    go_enter Try.func76, Try.ntmps76
    go_wp2_with fail
    obtain ⟨-, p0, p1⟩ := unhide HP
    generalize W.alloc (.cells #[.int .i64 b, .int .i64 n] 75) = w0 at *
    go_wp2_with fail
    refine (unhide HH2).mono ?_
    rintro e w1 ⟨rfl, hb1⟩
    go_wp2
    go_ret
    exact ⟨by rw [unhide Hw]; exact ret_int (by simp), btrans (unhide B0) hb1⟩
  · have Hw := hide (show whN s d b n = 0 by unfold whN; rw [if_neg h2, if_neg h4])
    have g2 : (d == 2) = false := by simpa using h2
    have g4 : (d == 4) = false := by simpa using h4
    clear h2 h4 hf
    go_enter Try.func76, Try.ntmps76
    go_wp2
    go_ret
    exact ⟨by rw [unhide Hw]; rfl, unhide B0⟩
end Go.Proofs.Ytancniamgfppiaa
