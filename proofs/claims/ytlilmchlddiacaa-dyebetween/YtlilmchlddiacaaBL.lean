/-
  DyeBetween, of anything.
-/
import Derived.Test.YtlilmchlddiacaaBM
import Derived.Test.YtlilmchlddiacaaNA
namespace Go.Proofs.Ytlilmchlddiacaa
open Go.RowKit

theorem g20_0 {a0 a1 a2 a3 a4 a5 a6 a7 a8 a9 a10 a11 a12 a13 a14 a15 a16 a17 a18 a19 : Oper} : (#[a0, a1, a2, a3, a4, a5, a6, a7, a8, a9, a10, a11, a12, a13, a14, a15, a16, a17, a18, a19] : Array Oper)[0]? = some a0 := rfl
theorem g20_1 {a0 a1 a2 a3 a4 a5 a6 a7 a8 a9 a10 a11 a12 a13 a14 a15 a16 a17 a18 a19 : Oper} : (#[a0, a1, a2, a3, a4, a5, a6, a7, a8, a9, a10, a11, a12, a13, a14, a15, a16, a17, a18, a19] : Array Oper)[1]? = some a1 := rfl
theorem g20_2 {a0 a1 a2 a3 a4 a5 a6 a7 a8 a9 a10 a11 a12 a13 a14 a15 a16 a17 a18 a19 : Oper} : (#[a0, a1, a2, a3, a4, a5, a6, a7, a8, a9, a10, a11, a12, a13, a14, a15, a16, a17, a18, a19] : Array Oper)[2]? = some a2 := rfl
theorem g20_3 {a0 a1 a2 a3 a4 a5 a6 a7 a8 a9 a10 a11 a12 a13 a14 a15 a16 a17 a18 a19 : Oper} : (#[a0, a1, a2, a3, a4, a5, a6, a7, a8, a9, a10, a11, a12, a13, a14, a15, a16, a17, a18, a19] : Array Oper)[3]? = some a3 := rfl
theorem g20_4 {a0 a1 a2 a3 a4 a5 a6 a7 a8 a9 a10 a11 a12 a13 a14 a15 a16 a17 a18 a19 : Oper} : (#[a0, a1, a2, a3, a4, a5, a6, a7, a8, a9, a10, a11, a12, a13, a14, a15, a16, a17, a18, a19] : Array Oper)[4]? = some a4 := rfl
theorem g20_5 {a0 a1 a2 a3 a4 a5 a6 a7 a8 a9 a10 a11 a12 a13 a14 a15 a16 a17 a18 a19 : Oper} : (#[a0, a1, a2, a3, a4, a5, a6, a7, a8, a9, a10, a11, a12, a13, a14, a15, a16, a17, a18, a19] : Array Oper)[5]? = some a5 := rfl
theorem g20_6 {a0 a1 a2 a3 a4 a5 a6 a7 a8 a9 a10 a11 a12 a13 a14 a15 a16 a17 a18 a19 : Oper} : (#[a0, a1, a2, a3, a4, a5, a6, a7, a8, a9, a10, a11, a12, a13, a14, a15, a16, a17, a18, a19] : Array Oper)[6]? = some a6 := rfl
theorem g20_7 {a0 a1 a2 a3 a4 a5 a6 a7 a8 a9 a10 a11 a12 a13 a14 a15 a16 a17 a18 a19 : Oper} : (#[a0, a1, a2, a3, a4, a5, a6, a7, a8, a9, a10, a11, a12, a13, a14, a15, a16, a17, a18, a19] : Array Oper)[7]? = some a7 := rfl
theorem g20_8 {a0 a1 a2 a3 a4 a5 a6 a7 a8 a9 a10 a11 a12 a13 a14 a15 a16 a17 a18 a19 : Oper} : (#[a0, a1, a2, a3, a4, a5, a6, a7, a8, a9, a10, a11, a12, a13, a14, a15, a16, a17, a18, a19] : Array Oper)[8]? = some a8 := rfl
theorem g20_9 {a0 a1 a2 a3 a4 a5 a6 a7 a8 a9 a10 a11 a12 a13 a14 a15 a16 a17 a18 a19 : Oper} : (#[a0, a1, a2, a3, a4, a5, a6, a7, a8, a9, a10, a11, a12, a13, a14, a15, a16, a17, a18, a19] : Array Oper)[9]? = some a9 := rfl
theorem g20_10 {a0 a1 a2 a3 a4 a5 a6 a7 a8 a9 a10 a11 a12 a13 a14 a15 a16 a17 a18 a19 : Oper} : (#[a0, a1, a2, a3, a4, a5, a6, a7, a8, a9, a10, a11, a12, a13, a14, a15, a16, a17, a18, a19] : Array Oper)[10]? = some a10 := rfl
theorem g20_11 {a0 a1 a2 a3 a4 a5 a6 a7 a8 a9 a10 a11 a12 a13 a14 a15 a16 a17 a18 a19 : Oper} : (#[a0, a1, a2, a3, a4, a5, a6, a7, a8, a9, a10, a11, a12, a13, a14, a15, a16, a17, a18, a19] : Array Oper)[11]? = some a11 := rfl
theorem g20_12 {a0 a1 a2 a3 a4 a5 a6 a7 a8 a9 a10 a11 a12 a13 a14 a15 a16 a17 a18 a19 : Oper} : (#[a0, a1, a2, a3, a4, a5, a6, a7, a8, a9, a10, a11, a12, a13, a14, a15, a16, a17, a18, a19] : Array Oper)[12]? = some a12 := rfl
theorem g20_13 {a0 a1 a2 a3 a4 a5 a6 a7 a8 a9 a10 a11 a12 a13 a14 a15 a16 a17 a18 a19 : Oper} : (#[a0, a1, a2, a3, a4, a5, a6, a7, a8, a9, a10, a11, a12, a13, a14, a15, a16, a17, a18, a19] : Array Oper)[13]? = some a13 := rfl
theorem g20_14 {a0 a1 a2 a3 a4 a5 a6 a7 a8 a9 a10 a11 a12 a13 a14 a15 a16 a17 a18 a19 : Oper} : (#[a0, a1, a2, a3, a4, a5, a6, a7, a8, a9, a10, a11, a12, a13, a14, a15, a16, a17, a18, a19] : Array Oper)[14]? = some a14 := rfl
theorem g20_15 {a0 a1 a2 a3 a4 a5 a6 a7 a8 a9 a10 a11 a12 a13 a14 a15 a16 a17 a18 a19 : Oper} : (#[a0, a1, a2, a3, a4, a5, a6, a7, a8, a9, a10, a11, a12, a13, a14, a15, a16, a17, a18, a19] : Array Oper)[15]? = some a15 := rfl
theorem g20_16 {a0 a1 a2 a3 a4 a5 a6 a7 a8 a9 a10 a11 a12 a13 a14 a15 a16 a17 a18 a19 : Oper} : (#[a0, a1, a2, a3, a4, a5, a6, a7, a8, a9, a10, a11, a12, a13, a14, a15, a16, a17, a18, a19] : Array Oper)[16]? = some a16 := rfl
theorem g20_17 {a0 a1 a2 a3 a4 a5 a6 a7 a8 a9 a10 a11 a12 a13 a14 a15 a16 a17 a18 a19 : Oper} : (#[a0, a1, a2, a3, a4, a5, a6, a7, a8, a9, a10, a11, a12, a13, a14, a15, a16, a17, a18, a19] : Array Oper)[17]? = some a17 := rfl
theorem g20_18 {a0 a1 a2 a3 a4 a5 a6 a7 a8 a9 a10 a11 a12 a13 a14 a15 a16 a17 a18 a19 : Oper} : (#[a0, a1, a2, a3, a4, a5, a6, a7, a8, a9, a10, a11, a12, a13, a14, a15, a16, a17, a18, a19] : Array Oper)[18]? = some a18 := rfl
theorem g20_19 {a0 a1 a2 a3 a4 a5 a6 a7 a8 a9 a10 a11 a12 a13 a14 a15 a16 a17 a18 a19 : Oper} : (#[a0, a1, a2, a3, a4, a5, a6, a7, a8, a9, a10, a11, a12, a13, a14, a15, a16, a17, a18, a19] : Array Oper)[19]? = some a19 := rfl

theorem two_lohi (W : World) : ∃ V, (W.alloc (.cells #[.float .f64 4607182418800017408, .float .f64 4607182418800017408, .float .f64 4607182418800017408] 26)).alloc (.cells #[.float .f64 0, .float .f64 0, .float .f64 0] 26) = V ∧ FR V W.heap.size (fun _ => 4607182418800017408) ∧ FR V (W.heap.size + 1) (fun _ => 0) ∧ Below W.heap.size W V := two_full W (fun _ => 4607182418800017408) (fun _ => 0) 26 26
theorem FR.put3' {W : World} {b : Nat} {f : Nat → Nat} (h : FR W b f) (a0 a1 a2 : Nat) (g : Nat → Nat) (e0 : g 0 = a0) (e1 : g 1 = a1) (e2 : g 2 = a2) : ∃ V, ((W.setCell ⟨b, 0, none⟩ (.float .f64 a0)).setCell ⟨b, 1, none⟩ (.float .f64 a1)).setCell ⟨b, 2, none⟩ (.float .f64 a2) = V ∧ FR V b g ∧ Kept (fun i => i = b) W V := by
  subst e0 e1 e2
  exact h.put3 g

/-- what the second half of the law meets -/
def RestIs (W : World) (q2 : Option Addr) (n2 c2 : Nat) (y : Nat → Nat → Nat) (k : Int) : Prop :=
  k < 0 ∨ (0 ≤ k ∧ (n2 : Int) ≤ k) ∨ (∃ (kk K : Nat) (er2 : Int), k = (kk : Int) ∧ kk < n2 ∧ er2 ≠ 0 ∧ ∀ V, Below W.heap.size W V → AnsN 10 #[.slice q2 n2 c2, pvV (y kk)] V K er2) ∨
  (∃ (kk K : Nat), k = (kk : Int) ∧ kk < n2 ∧ (∀ V, Below W.heap.size W V → AnsN 10 #[.slice q2 n2 c2, pvV (y kk)] V K 0) ∧ K ≤ kk ∧ Fr (y K) (y kk) (dfF (y K) (y kk)) (sqF (y K) (y kk)) (a1F (y K) (y kk)) (zF (y K) (y kk)) ∧ FloatKind.f64.format.order (zF (y K) (y kk)) 0 = some .eq)
theorem rest_is (W : World) (q2 : Option Addr) (n2 c2 : Nat) (y : Nat → Nat → Nat) (k : Int) (hY : Dy W q2 n2 y) : RestIs W q2 n2 c2 y k := by
  by_cases h0 : k < 0
  · exact .inl h0
  · by_cases h1 : (n2 : Int) ≤ k
    · exact .inr (.inl ⟨by omega, h1⟩)
    · obtain ⟨kk, rfl⟩ : ∃ kk : Nat, k = (kk : Int) := ⟨k.toNat, by omega⟩
      have hk : kk < n2 := by omega
      obtain ⟨K, er2, h2⟩ := near_split n2 y (y kk)
      have HN : ∀ V, Below W.heap.size W V → AnsN 10 #[.slice q2 n2 c2, pvV (y kk)] V K er2 := fun V hV => nearP_any h2 c2 q2 V (hY.keep hV)
      rcases h2 with ⟨-, -, rfl⟩ | ⟨-, -, -, rfl⟩ | ⟨-, -, -, -, rfl⟩ | ⟨-, hp, h3, h4, rfl⟩
      · exact .inr (.inr (.inl ⟨kk, K, _, rfl, hk, by decide, HN⟩))
      · exact .inr (.inr (.inl ⟨kk, K, _, rfl, hk, by decide, HN⟩))
      · exact .inr (.inr (.inl ⟨kk, K, _, rfl, hk, by decide, HN⟩))
      · exact .inr (.inr (.inr ⟨kk, K, rfl, hk, HN, (near_self hk hp h3 h4).1, (fr_at (h3 K h4.1) hp).1, (near_self hk hp h3 h4).2⟩))

set_option maxRecDepth 100000 in
set_option maxHeartbeats 8000000 in
theorem between_bad (p : Nat → Nat) (er : Int) (he : er ≠ 0) (q1 : Option Addr) (n1 c1 : Nat) (q2 : Option Addr) (n2 c2 : Nat) (y : Nat → Nat → Nat) (k : Int) (W : World) (HM : ∀ V, Below W.heap.size W V → AnsM 7 #[.slice q1 n1 c1] V p er) (hY : Dy W q2 n2 y) (hR : RestIs W q2 n2 c2 y k) :
    Calls Try.prog 5 #[.slice q1 n1 c1, .slice q2 n2 c2, .int .i64 k] W fun e w' => e = .returned (.bool true) ∧ Below W.heap.size W w' := by
  have HM' := hide HM
  have HY := hide hY
  have HR := hide hR
  clear HM hY hR
  have hst := stF
  go_enter Try.func5, Try.ntmps5
  go_wp2_with fail
  refine (alive_any _).mono ?_
  rintro e w1 ⟨rfl, hb1⟩
  have Hb1 := hide hb1
  clear hb1
  go_wp2_with fail
  refine (unhide HM' _ (unhide Hb1)).mono ?_
  rintro e w2 ⟨rfl, hb2⟩
  have Hb2 := hide (btrans (unhide Hb1) hb2)
  clear hb2 Hb1 HM'
  have HX := hide (FR.new w2 p 26)
  have Hb3 := hide (bal (o := .cells #[.float .f64 (p 0), .float .f64 (p 1), .float .f64 (p 2)] 26) (unhide Hb2))
  have Hs2 := hide (unhide Hb2).size
  go_upto_region 4 with fail
  generalize w2.alloc (.cells #[.float .f64 (p 0), .float .f64 (p 1), .float .f64 (p 2)] 26) = w3 at *
  generalize w2.heap.size = n7 at *
  clear Hb2
  have e0 : (er == 0) = false := by simp; omega
  have e1 : ¬ (er = 0) := he
  have HYR := hide ((unhide HY).keep (unhide Hb3))
  have HbR := Hb3
  clear HX HY Hs2 Hb3 he
  go_upto_region 14 with fail
  rcases unhide HR with hk | ⟨hk0, hk⟩ | ⟨kk, kz, er2, rfl, hkn, he, HN⟩ | ⟨kk, kz, rfl, hkn, HN, hKk, hFr, ho⟩
  · have x1' : decide (k < 0) = true := decide_eq_true hk
    clear HR HYR
    go_wp2
    go_ret
    exact ⟨rfl, unhide HbR⟩
  · have x1 : ¬ (k < 0) := by omega
    have x1' : decide (k < 0) = false := decide_eq_false x1
    have x2' : decide ((n2 : Int) ≤ k) = true := decide_eq_true hk
    clear HR HYR
    go_wp2
    go_ret
    exact ⟨rfl, unhide HbR⟩
  · skip
    obtain ⟨ad0, oo, rfl, k0, k1, k2⟩ := (unhide HYR).at (x := kk) hkn
    have x1 : ¬ ((kk : Int) < 0) := by omega
    have x1' : decide ((kk : Int) < 0) = false := decide_eq_false x1
    have x2 : ¬ ((n2 : Int) ≤ (kk : Int)) := by omega
    have x2' : decide ((n2 : Int) ≤ (kk : Int)) = false := decide_eq_false x2
    have c3 : (kk : Int) < (n2 : Int) := by omega
    have c4 : (0 : Int) ≤ (kk : Int) := by omega
    have HN' := hide HN
    clear HN
    go_wp2_with fail
    refine (unhide HN' _ (unhide HbR)).mono ?_
    rintro e w7 ⟨rfl, hb7⟩
    have Hb7 := hide (btrans (unhide HbR) hb7)
    have e0 : (er2 != 0) = true := by simp; omega
    clear hb7 HR HYR HbR HN' k0 k1 k2
    go_wp2
    go_ret
    exact ⟨rfl, unhide Hb7⟩
  · skip
    obtain ⟨ad0, oo, rfl, k0, k1, k2⟩ := (unhide HYR).at (x := kk) hkn
    have x1 : ¬ ((kk : Int) < 0) := by omega
    have x1' : decide ((kk : Int) < 0) = false := decide_eq_false x1
    have x2 : ¬ ((n2 : Int) ≤ (kk : Int)) := by omega
    have x2' : decide ((n2 : Int) ≤ (kk : Int)) = false := decide_eq_false x2
    have c3 : (kk : Int) < (n2 : Int) := by omega
    have c4 : (0 : Int) ≤ (kk : Int) := by omega
    have HN' := hide HN
    clear HN
    go_wp2_with fail
    refine (unhide HN' _ (unhide HbR)).mono ?_
    rintro e w7 ⟨rfl, hb7⟩
    have Hb7 := hide (btrans (unhide HbR) hb7)
    have HY7 := hide ((unhide HYR).keep hb7)
    have HFr := hide hFr
    have b1 : (0 : Int) ≤ (kz : Int) := by omega
    have b1' : decide ((0 : Int) ≤ (kz : Int)) = true := decide_eq_true b1
    have b2 : (kz : Int) ≤ (kk : Int) := by omega
    have b2' : decide ((kz : Int) ≤ (kk : Int)) = true := decide_eq_true b2
    have b3 : (kz : Int) < (n2 : Int) := by omega
    clear hb7 HR HYR HbR HN' k0 k1 k2 hFr
    go_upto_region 19 with fail
    refine wp_region_noPanic ?_
    refine wp_region_held_drew (S := fun V => Below w7.drew.heap.size w7.drew V) (by kernel_rfl) (Below.refl _ _) ?_
    intro _
    have hY8 := (unhide HY7).keep (bdrew w7)
    have hb8 := btrans (unhide Hb7) (bdrew w7)
    clear HY7 Hb7
    generalize w7.drew = w8 at *
    have hbc : Below w8.heap.size w8 w8 := Below.refl _ _
    refine wpAnyH_take (i := 0) (oi := _) (v := .int .i64 (kz : Int)) g20_0 (by kernel_rfl) (by kernel_rfl) (by kernel_rfl) (fun _ _ _ h => h) (Or.inl ⟨by rfl, ?_⟩) (by assumption) ?_
    · intro V hSw
      try dsimp only at hSw
      go_simp
    simp only [Act.put, List.setIfInBounds_toArray, List.set_cons_zero, List.set_cons_succ]
    refine wpAnyH_take (i := 1) (oi := _) (v := .bool true) g20_1 (by kernel_rfl) (by kernel_rfl) (by kernel_rfl) (fun _ _ _ h => h) (Or.inl ⟨by rfl, ?_⟩) (by assumption) ?_
    · intro V hSw
      try dsimp only at hSw
      go_simp
    simp only [Act.put, List.setIfInBounds_toArray, List.set_cons_zero, List.set_cons_succ]
    refine wpAnyH_take (i := 2) (oi := _) (v := .bool true) g20_2 (by kernel_rfl) (by kernel_rfl) (by kernel_rfl) (fun _ _ _ h => h) (Or.inl ⟨by rfl, ?_⟩) (by assumption) ?_
    · intro V hSw
      try dsimp only at hSw
      go_simp
    simp only [Act.put, List.setIfInBounds_toArray, List.set_cons_zero, List.set_cons_succ]
    refine wpAnyH_take (i := 3) (oi := _) (v := .int .i64 (kz : Int)) g20_3 (by kernel_rfl) (by kernel_rfl) (by kernel_rfl) (fun _ _ _ h => h) (Or.inl ⟨by rfl, ?_⟩) (by assumption) ?_
    · intro V hSw
      try dsimp only at hSw
      go_simp
    simp only [Act.put, List.setIfInBounds_toArray, List.set_cons_zero, List.set_cons_succ]
    refine wpAnyH_take (i := 4) (oi := _) (v := .int .i64 (kk : Int)) g20_4 (by kernel_rfl) (by kernel_rfl) (by kernel_rfl) (fun _ _ _ h => h) (Or.inl ⟨by rfl, ?_⟩) (by assumption) ?_
    · intro V hSw
      try dsimp only at hSw
      go_simp
    simp only [Act.put, List.setIfInBounds_toArray, List.set_cons_zero, List.set_cons_succ]
    refine wpAnyH_take (i := 5) (oi := _) (v := .bool true) g20_5 (by kernel_rfl) (by kernel_rfl) (by kernel_rfl) (fun _ _ _ h => h) (Or.inl ⟨by rfl, ?_⟩) (by assumption) ?_
    · intro V hSw
      try dsimp only at hSw
      go_simp
    simp only [Act.put, List.setIfInBounds_toArray, List.set_cons_zero, List.set_cons_succ]
    refine wpAnyH_take (i := 6) (oi := _) (v := .bool true) g20_6 (by kernel_rfl) (by kernel_rfl) (by kernel_rfl) (fun _ _ _ h => h) (Or.inl ⟨by rfl, ?_⟩) (by assumption) ?_
    · intro V hSw
      try dsimp only at hSw
      go_simp
    simp only [Act.put, List.setIfInBounds_toArray, List.set_cons_zero, List.set_cons_succ]
    refine wpAnyH_take (i := 7) (oi := _) (v := .bool true) g20_7 (by kernel_rfl) (by kernel_rfl) (by kernel_rfl) (fun _ _ _ h => h) (Or.inl ⟨by rfl, ?_⟩) (by assumption) ?_
    · intro V hSw
      try dsimp only at hSw
      go_simp
    simp only [Act.put, List.setIfInBounds_toArray, List.set_cons_zero, List.set_cons_succ]
    refine wpAnyH_take (i := 8) (oi := _) (v := .slice (some ⟨ad0, oo, none⟩) n2 c2) g20_8 (by kernel_rfl) (by kernel_rfl) (by kernel_rfl) (fun _ _ _ h => h) (Or.inl ⟨by rfl, ?_⟩) (by assumption) ?_
    · intro V hSw
      try dsimp only at hSw
      go_simp
    simp only [Act.put, List.setIfInBounds_toArray, List.set_cons_zero, List.set_cons_succ]
    refine wpAnyH_take (i := 9) (oi := _) (v := .int .i64 (kz : Int)) g20_9 (by kernel_rfl) (by kernel_rfl) (by kernel_rfl) (fun _ _ _ h => h) (Or.inl ⟨by rfl, ?_⟩) (by assumption) ?_
    · intro V hSw
      try dsimp only at hSw
      go_simp
    simp only [Act.put, List.setIfInBounds_toArray, List.set_cons_zero, List.set_cons_succ]
    refine wpAnyH_take (i := 10) (oi := _) (v := .pointer (some ⟨ad0, oo + kz * 3, none⟩)) g20_10 (by kernel_rfl) (by kernel_rfl) (by kernel_rfl) (fun _ _ _ h => h) (Or.inl ⟨by rfl, ?_⟩) (by assumption) ?_
    · intro V hSw
      try dsimp only at hSw
      go_simp
    simp only [Act.put, List.setIfInBounds_toArray, List.set_cons_zero, List.set_cons_succ]
    refine wpAnyH_take (i := 11) (oi := _) (v := .agg #[.float .f64 (y kz 0), .float .f64 (y kz 1), .float .f64 (y kz 2)]) g20_11 (by kernel_rfl) (by kernel_rfl) (by kernel_rfl) (fun _ _ _ h => h) (Or.inl ⟨by rfl, ?_⟩) (by assumption) ?_
    · intro V hSw
      try dsimp only at hSw
      obtain ⟨_, _, hq, g0, g1, g2⟩ := (hY8.keep hSw).at (x := kz) (by omega)
      cases hq
      go_simp
    simp only [Act.put, List.setIfInBounds_toArray, List.set_cons_zero, List.set_cons_succ]
    refine wpAnyH_take (i := 12) (oi := _) (v := .slice (some ⟨ad0, oo, none⟩) n2 c2) g20_12 (by kernel_rfl) (by kernel_rfl) (by kernel_rfl) (fun _ _ _ h => h) (Or.inl ⟨by rfl, ?_⟩) (by assumption) ?_
    · intro V hSw
      try dsimp only at hSw
      go_simp
    simp only [Act.put, List.setIfInBounds_toArray, List.set_cons_zero, List.set_cons_succ]
    refine wpAnyH_take (i := 13) (oi := _) (v := .int .i64 (kk : Int)) g20_13 (by kernel_rfl) (by kernel_rfl) (by kernel_rfl) (fun _ _ _ h => h) (Or.inl ⟨by rfl, ?_⟩) (by assumption) ?_
    · intro V hSw
      try dsimp only at hSw
      go_simp
    simp only [Act.put, List.setIfInBounds_toArray, List.set_cons_zero, List.set_cons_succ]
    refine wpAnyH_take (i := 14) (oi := _) (v := .pointer (some ⟨ad0, oo + kk * 3, none⟩)) g20_14 (by kernel_rfl) (by kernel_rfl) (by kernel_rfl) (fun _ _ _ h => h) (Or.inl ⟨by rfl, ?_⟩) (by assumption) ?_
    · intro V hSw
      try dsimp only at hSw
      go_simp
    simp only [Act.put, List.setIfInBounds_toArray, List.set_cons_zero, List.set_cons_succ]
    refine wpAnyH_take (i := 15) (oi := _) (v := .agg #[.float .f64 (y kk 0), .float .f64 (y kk 1), .float .f64 (y kk 2)]) g20_15 (by kernel_rfl) (by kernel_rfl) (by kernel_rfl) (fun _ _ _ h => h) (Or.inl ⟨by rfl, ?_⟩) (by assumption) ?_
    · intro V hSw
      try dsimp only at hSw
      obtain ⟨_, _, hq, g0, g1, g2⟩ := (hY8.keep hSw).at (x := kk) (by omega)
      cases hq
      go_simp
    simp only [Act.put, List.setIfInBounds_toArray, List.set_cons_zero, List.set_cons_succ]
    refine wpAnyH_ready (rs := [16]) (by kernel_rfl) (by simp) ?_
    refine AllReadyH.cons (o := _) g20_16 (fun K hK => ?_) AllReadyH.nil
    go_simp
    refine (rfar_any (y kz) (y kk) _ _ _ _ (unhide HFr) _).mono ?_
    rintro e w9 ⟨rfl, hbq⟩
    replace hbc := btrans hbc hbq
    clear hbq
    refine hK.out _ _ (hbc) (fun _ => ?_)
    clear hK K
    refine wpAnyH_take (i := 17) (oi := _) (v := .bool true) g20_17 (by kernel_rfl) (by kernel_rfl) (by kernel_rfl) (fun _ _ _ h => h) (Or.inl ⟨by rfl, ?_⟩) (by assumption) ?_
    · intro V hSw
      try dsimp only at hSw
      go_simp
    simp only [Act.put, List.setIfInBounds_toArray, List.set_cons_zero, List.set_cons_succ]
    refine wpAnyH_take (i := 18) (oi := _) (v := .bool true) g20_18 (by kernel_rfl) (by kernel_rfl) (by kernel_rfl) (fun _ _ _ h => h) (Or.inl ⟨by rfl, ?_⟩) (by assumption) ?_
    · intro V hSw
      try dsimp only at hSw
      go_simp
    simp only [Act.put, List.setIfInBounds_toArray, List.set_cons_zero, List.set_cons_succ]
    refine wpAnyH_take (i := 19) (oi := _) (v := .bool true) g20_19 (by kernel_rfl) (by kernel_rfl) (by kernel_rfl) (fun _ _ _ h => h) (Or.inl ⟨by rfl, ?_⟩) (by assumption) ?_
    · intro V hSw
      try dsimp only at hSw
      go_simp
    simp only [Act.put, List.setIfInBounds_toArray, List.set_cons_zero, List.set_cons_succ]
    refine wpAnyH_done (by kernel_rfl) ?_ _
    refine NoPanic.normal ?_
    have Hbn := hide (btrans hb8 hbc)
    clear hY8 hb8 hbc
    go_wp2
    go_ret
    exact ⟨rfl, unhide Hbn⟩

set_option maxRecDepth 100000 in
set_option maxHeartbeats 8000000 in
theorem between_ok (q1 : Option Addr) (n1 c1 : Nat) (d : Nat → Nat → Nat) (s : Nat → Nat) (q2 : Option Addr) (n2 c2 : Nat) (y : Nat → Nat → Nat) (k : Int) (W : World) (h : DpOk n1 d s) (hD : Dp W q1 n1 d s) (hY : Dy W q2 n2 y) (hR : RestIs W q2 n2 c2 y k) :
    Calls Try.prog 5 #[.slice q1 n1 c1, .slice q2 n2 c2, .int .i64 k] W fun e w' => e = .returned (.bool true) ∧ Below W.heap.size W w' := by
  have HM : ∀ V, Below W.heap.size W V → AnsM 7 #[.slice q1 n1 c1] V (mxF d s n1) 0 := fun V hV => mix_ok n1 c1 q1 d s h V (hD.keep hV)
  have HD := hide hD
  have H := hide h
  have hn64 := h.2.1
  obtain ⟨a1, a2, hw0⟩ := bw_at h 0 (by omega)
  obtain ⟨b1, b2, hw1⟩ := bw_at h 1 (by omega)
  obtain ⟨e1, e2, hw2⟩ := bw_at h 2 (by omega)
  have HW0 := hide hw0
  have HW1 := hide hw1
  have HW2 := hide hw2
  clear hD h hw0 hw1 hw2
  generalize mxF d s n1 = p at *
  have HM' := hide HM
  have HY := hide hY
  have HR := hide hR
  clear HM hY hR
  have hst := stF
  go_enter Try.func5, Try.ntmps5
  go_wp2_with fail
  refine (alive_any _).mono ?_
  rintro e w1 ⟨rfl, hb1⟩
  have Hb1 := hide hb1
  clear hb1
  go_wp2_with fail
  refine (unhide HM' _ (unhide Hb1)).mono ?_
  rintro e w2 ⟨rfl, hb2⟩
  have Hb2 := hide (btrans (unhide Hb1) hb2)
  clear hb2 Hb1 HM'
  have HX := hide (FR.new w2 p 26)
  have Hb3 := hide (bal (o := .cells #[.float .f64 (p 0), .float .f64 (p 1), .float .f64 (p 2)] 26) (unhide Hb2))
  have Hs2 := hide (unhide Hb2).size
  go_upto_region 4 with fail
  generalize w2.alloc (.cells #[.float .f64 (p 0), .float .f64 (p 1), .float .f64 (p 2)] 26) = w3 at *
  generalize w2.heap.size = n7 at *
  clear Hb2
  obtain ⟨w4, E, hL, hH, hb4⟩ := two_lohi w3
  have HX4 := hide ((unhide HX).keep hb4)
  have HL4 := hide hL
  have HH4 := hide hH
  have Hb4 := hide (btrans (unhide Hb3) hb4)
  have Hl3 := hide (show W.heap.size ≤ n7 ∧ n7 < w3.heap.size from ⟨unhide Hs2, (unhide HX).1⟩)
  have HE := hide E
  clear hL hH hb4 HX Hb3 Hs2 E
  go_upto_region 6 with fail
  rw [unhide HE]
  clear HE
  obtain ⟨n10, hn10⟩ : ∃ n10, w3.heap.size + 1 = n10 := ⟨_, rfl⟩
  obtain ⟨n9, hn9⟩ : ∃ n9, w3.heap.size = n9 := ⟨_, rfl⟩
  have Hn := hide (show W.heap.size ≤ n9 ∧ W.heap.size ≤ n10 ∧ n9 ≠ n10 ∧ n7 ≠ n9 ∧ n7 ≠ n10 by have := unhide Hl3; omega)
  rw [hn10] at HH4 ⊢
  rw [hn9] at HL4 ⊢
  clear hn9 hn10 Hl3
  go_wp2
  go_loopw [27] (fun i wr => ∃ x : Nat, x ≤ n1 ∧ i = .int .i64 (x : Int) ∧ FR wr n7 p ∧ FR wr n9 (fun c => loF d c x) ∧ FR wr n10 (fun c => hiF d c x) ∧ Below W.heap.size W wr) (fun i _ => n1 - (intOf i).toNat)
  case atStart => exact ⟨0, by omega, rfl, unhide HX4, unhide HL4, unhide HH4, unhide Hb4⟩
  case round =>
    clear HX4 HL4 HH4 Hb4
    obtain ⟨x, hx, rfl, hX, hL, hH, hb⟩ := hrel
    by_cases hlt : x < n1
    · skip
      obtain ⟨ad0, oo, rfl, k0, k1, k2, k3⟩ := ((unhide HD).keep hb).at (x := x) hlt
      have q0 : (x : Int) < (n1 : Int) := by omega
      have q1 : (0 : Int) ≤ (x : Int) := by omega
      have hB := BD.new wr (d x) (s x) 41
      have hX3 := hX.keep (bnew wr (.cells #[.float .f64 (d x 0), .float .f64 (d x 1), .float .f64 (d x 2), .float .f64 (s x)] 41))
      have hL3 := hL.keep (bnew wr (.cells #[.float .f64 (d x 0), .float .f64 (d x 1), .float .f64 (d x 2), .float .f64 (s x)] 41))
      have hH3 := hH.keep (bnew wr (.cells #[.float .f64 (d x 0), .float .f64 (d x 1), .float .f64 (d x 2), .float .f64 (s x)] 41))
      have Hb3 := hide (bal (o := .cells #[.float .f64 (d x 0), .float .f64 (d x 1), .float .f64 (d x 2), .float .f64 (s x)] 41) hb)
      have Hn12 := hide (show n9 ≠ wr.heap.size ∧ n10 ≠ wr.heap.size by have := hL.1; have := hH.1; omega)
      clear hX hL hH hb
      go_upto_region 9 with fail
      generalize wr.alloc (.cells #[.float .f64 (d x 0), .float .f64 (d x 1), .float .f64 (d x 2), .float .f64 (s x)] 41) = w5 at *
      generalize wr.heap.size = n12 at *
      clear k0 k1 k2 k3
      obtain ⟨V1, E1, hL4, hK1⟩ := hL3.put3' (loF d 0 (x + 1)) (loF d 1 (x + 1)) (loF d 2 (x + 1)) (fun c => loF d c (x + 1)) rfl rfl rfl
      have hH4 := hH3.kept hK1 (by have := unhide Hn; omega)
      have hX4 := hX3.kept hK1 (by have := unhide Hn; omega)
      have hB4 := hB.kept hK1 (by have := unhide Hn12; omega)
      have hb4 := Kept.back (unhide Hb3) hK1 (unhide Hb3).size (fun i hi => by have := unhide Hn; omega)
      have i0 := hB.2.1
      have i1 := hB.2.2.1
      have i2 := hB.2.2.2.1
      have l0 : w5.cell? ⟨n9, 0, none⟩ = some (.float .f64 (loF d 0 x)) := (hL3.2 0 (by omega)).1
      have l1 : w5.cell? ⟨n9, 1, none⟩ = some (.float .f64 (loF d 1 x)) := (hL3.2 1 (by omega)).1
      have l2 : w5.cell? ⟨n9, 2, none⟩ = some (.float .f64 (loF d 2 x)) := (hL3.2 2 (by omega)).1
      have f0 := (hL3.2 0 (by omega)).2
      have f1 := (hL3.2 1 (by omega)).2
      have f2 := (hL3.2 2 (by omega)).2
      have m0 := min_at (unhide H) 0 (by omega) x hlt
      have m1 := min_at (unhide H) 1 (by omega) x hlt
      have m2 := min_at (unhide H) 2 (by omega) x hlt
      have HH4 := hide hH4
      have HX4 := hide hX4
      have HB4 := hide hB4
      have Hb4 := hide hb4
      have HL4 := hide hL4
      clear hH4 hX4 hB4 hb4 hL4 hK1 hB hX3 hL3 hH3 Hb3
      go_upto_region 10 with fail
      clear E1 l0 l1 l2 f0 f1 f2 m0 m1 m2 i0 i1 i2
      obtain ⟨V2, E2, hH5, hK2⟩ := (unhide HH4).put3' (hiF d 0 (x + 1)) (hiF d 1 (x + 1)) (hiF d 2 (x + 1)) (fun c => hiF d c (x + 1)) rfl rfl rfl
      have HL5 := hide ((unhide HL4).kept hK2 (by have := unhide Hn; omega))
      have HX5 := hide ((unhide HX4).kept hK2 (by have := unhide Hn; omega))
      have Hb5 := hide (Kept.back (unhide Hb4) hK2 (unhide Hb4).size (fun i hi => by have := unhide Hn; omega))
      have HH5 := hide hH5
      have i0 := (unhide HB4).2.1
      have i1 := (unhide HB4).2.2.1
      have i2 := (unhide HB4).2.2.2.1
      have l0 : V1.cell? ⟨n10, 0, none⟩ = some (.float .f64 (hiF d 0 x)) := ((unhide HH4).2 0 (by omega)).1
      have l1 : V1.cell? ⟨n10, 1, none⟩ = some (.float .f64 (hiF d 1 x)) := ((unhide HH4).2 1 (by omega)).1
      have l2 : V1.cell? ⟨n10, 2, none⟩ = some (.float .f64 (hiF d 2 x)) := ((unhide HH4).2 2 (by omega)).1
      have f0 := ((unhide HH4).2 0 (by omega)).2
      have f1 := ((unhide HH4).2 1 (by omega)).2
      have f2 := ((unhide HH4).2 2 (by omega)).2
      have m0 := max_at (unhide H) 0 (by omega) x hlt
      have m1 := max_at (unhide H) 1 (by omega) x hlt
      have m2 := max_at (unhide H) 2 (by omega) x hlt
      clear hH5 hK2 HH4 HX4 HB4 HL4 Hb4
      go_wp2
      go_roundw
      case rel => exact ⟨x + 1, by omega, by go_num, unhide HX5, unhide HL5, unhide HH5, unhide Hb5⟩
      case measure => simp [intOf]; omega
    · obtain rfl : n1 = x := by omega
      have cl : ¬ ((n1 : Int) < (n1 : Int)) := by omega
      have t0 : wr.cell? ⟨n7, 0, none⟩ = some (.float .f64 (p 0)) := (hX.2 0 (by omega)).1
      have t1 : wr.cell? ⟨n7, 1, none⟩ = some (.float .f64 (p 1)) := (hX.2 1 (by omega)).1
      have t2 : wr.cell? ⟨n7, 2, none⟩ = some (.float .f64 (p 2)) := (hX.2 2 (by omega)).1
      have l0 : wr.cell? ⟨n9, 0, none⟩ = some (.float .f64 (loF d 0 n1)) := (hL.2 0 (by omega)).1
      have l1 : wr.cell? ⟨n9, 1, none⟩ = some (.float .f64 (loF d 1 n1)) := (hL.2 1 (by omega)).1
      have l2 : wr.cell? ⟨n9, 2, none⟩ = some (.float .f64 (loF d 2 n1)) := (hL.2 2 (by omega)).1
      have u0 : wr.cell? ⟨n10, 0, none⟩ = some (.float .f64 (hiF d 0 n1)) := (hH.2 0 (by omega)).1
      have u1 : wr.cell? ⟨n10, 1, none⟩ = some (.float .f64 (hiF d 1 n1)) := (hH.2 1 (by omega)).1
      have u2 : wr.cell? ⟨n10, 2, none⟩ = some (.float .f64 (hiF d 2 n1)) := (hH.2 2 (by omega)).1
      have g0sub := (unhide HW0).sub
      have g0ge := (unhide HW0).ge
      have g0add := (unhide HW0).add
      have g0le := (unhide HW0).le
      have g1sub := (unhide HW1).sub
      have g1ge := (unhide HW1).ge
      have g1add := (unhide HW1).add
      have g1le := (unhide HW1).le
      have g2sub := (unhide HW2).sub
      have g2ge := (unhide HW2).ge
      have g2add := (unhide HW2).add
      have g2le := (unhide HW2).le
      have HYR := hide ((unhide HY).keep hb)
      have HbR := hide hb
      clear hX hL hH hb HY HW0 HW1 HW2 H HD
      go_upto_region 14 with fail
      clear t0 t1 t2 l0 l1 l2 u0 u1 u2
      clear g0sub g0ge g0add g0le
      clear g1sub g1ge g1add g1le
      clear g2sub g2ge g2add g2le
      rcases unhide HR with hk | ⟨hk0, hk⟩ | ⟨kk, kz, er2, rfl, hkn, he, HN⟩ | ⟨kk, kz, rfl, hkn, HN, hKk, hFr, ho⟩
      · have x1' : decide (k < 0) = true := decide_eq_true hk
        clear HR HYR
        go_wp2
        go_ret
        exact ⟨rfl, unhide HbR⟩
      · have x1 : ¬ (k < 0) := by omega
        have x1' : decide (k < 0) = false := decide_eq_false x1
        have x2' : decide ((n2 : Int) ≤ k) = true := decide_eq_true hk
        clear HR HYR
        go_wp2
        go_ret
        exact ⟨rfl, unhide HbR⟩
      · skip
        obtain ⟨ad0, oo, rfl, k0, k1, k2⟩ := (unhide HYR).at (x := kk) hkn
        have x1 : ¬ ((kk : Int) < 0) := by omega
        have x1' : decide ((kk : Int) < 0) = false := decide_eq_false x1
        have x2 : ¬ ((n2 : Int) ≤ (kk : Int)) := by omega
        have x2' : decide ((n2 : Int) ≤ (kk : Int)) = false := decide_eq_false x2
        have c3 : (kk : Int) < (n2 : Int) := by omega
        have c4 : (0 : Int) ≤ (kk : Int) := by omega
        have HN' := hide HN
        clear HN
        go_wp2_with fail
        refine (unhide HN' _ (unhide HbR)).mono ?_
        rintro e w7 ⟨rfl, hb7⟩
        have Hb7 := hide (btrans (unhide HbR) hb7)
        have e0 : (er2 != 0) = true := by simp; omega
        clear hb7 HR HYR HbR HN' k0 k1 k2
        go_wp2
        go_ret
        exact ⟨rfl, unhide Hb7⟩
      · skip
        obtain ⟨ad0, oo, rfl, k0, k1, k2⟩ := (unhide HYR).at (x := kk) hkn
        have x1 : ¬ ((kk : Int) < 0) := by omega
        have x1' : decide ((kk : Int) < 0) = false := decide_eq_false x1
        have x2 : ¬ ((n2 : Int) ≤ (kk : Int)) := by omega
        have x2' : decide ((n2 : Int) ≤ (kk : Int)) = false := decide_eq_false x2
        have c3 : (kk : Int) < (n2 : Int) := by omega
        have c4 : (0 : Int) ≤ (kk : Int) := by omega
        have HN' := hide HN
        clear HN
        go_wp2_with fail
        refine (unhide HN' _ (unhide HbR)).mono ?_
        rintro e w7 ⟨rfl, hb7⟩
        have Hb7 := hide (btrans (unhide HbR) hb7)
        have HY7 := hide ((unhide HYR).keep hb7)
        have HFr := hide hFr
        have b1 : (0 : Int) ≤ (kz : Int) := by omega
        have b1' : decide ((0 : Int) ≤ (kz : Int)) = true := decide_eq_true b1
        have b2 : (kz : Int) ≤ (kk : Int) := by omega
        have b2' : decide ((kz : Int) ≤ (kk : Int)) = true := decide_eq_true b2
        have b3 : (kz : Int) < (n2 : Int) := by omega
        clear hb7 HR HYR HbR HN' k0 k1 k2 hFr
        go_upto_region 19 with fail
        refine wp_region_noPanic ?_
        refine wp_region_held_drew (S := fun V => Below w7.drew.heap.size w7.drew V) (by kernel_rfl) (Below.refl _ _) ?_
        intro _
        have hY8 := (unhide HY7).keep (bdrew w7)
        have hb8 := btrans (unhide Hb7) (bdrew w7)
        clear HY7 Hb7
        generalize w7.drew = w8 at *
        have hbc : Below w8.heap.size w8 w8 := Below.refl _ _
        refine wpAnyH_take (i := 0) (oi := _) (v := .int .i64 (kz : Int)) g20_0 (by kernel_rfl) (by kernel_rfl) (by kernel_rfl) (fun _ _ _ h => h) (Or.inl ⟨by rfl, ?_⟩) (by assumption) ?_
        · intro V hSw
          try dsimp only at hSw
          go_simp
        simp only [Act.put, List.setIfInBounds_toArray, List.set_cons_zero, List.set_cons_succ]
        refine wpAnyH_take (i := 1) (oi := _) (v := .bool true) g20_1 (by kernel_rfl) (by kernel_rfl) (by kernel_rfl) (fun _ _ _ h => h) (Or.inl ⟨by rfl, ?_⟩) (by assumption) ?_
        · intro V hSw
          try dsimp only at hSw
          go_simp
        simp only [Act.put, List.setIfInBounds_toArray, List.set_cons_zero, List.set_cons_succ]
        refine wpAnyH_take (i := 2) (oi := _) (v := .bool true) g20_2 (by kernel_rfl) (by kernel_rfl) (by kernel_rfl) (fun _ _ _ h => h) (Or.inl ⟨by rfl, ?_⟩) (by assumption) ?_
        · intro V hSw
          try dsimp only at hSw
          go_simp
        simp only [Act.put, List.setIfInBounds_toArray, List.set_cons_zero, List.set_cons_succ]
        refine wpAnyH_take (i := 3) (oi := _) (v := .int .i64 (kz : Int)) g20_3 (by kernel_rfl) (by kernel_rfl) (by kernel_rfl) (fun _ _ _ h => h) (Or.inl ⟨by rfl, ?_⟩) (by assumption) ?_
        · intro V hSw
          try dsimp only at hSw
          go_simp
        simp only [Act.put, List.setIfInBounds_toArray, List.set_cons_zero, List.set_cons_succ]
        refine wpAnyH_take (i := 4) (oi := _) (v := .int .i64 (kk : Int)) g20_4 (by kernel_rfl) (by kernel_rfl) (by kernel_rfl) (fun _ _ _ h => h) (Or.inl ⟨by rfl, ?_⟩) (by assumption) ?_
        · intro V hSw
          try dsimp only at hSw
          go_simp
        simp only [Act.put, List.setIfInBounds_toArray, List.set_cons_zero, List.set_cons_succ]
        refine wpAnyH_take (i := 5) (oi := _) (v := .bool true) g20_5 (by kernel_rfl) (by kernel_rfl) (by kernel_rfl) (fun _ _ _ h => h) (Or.inl ⟨by rfl, ?_⟩) (by assumption) ?_
        · intro V hSw
          try dsimp only at hSw
          go_simp
        simp only [Act.put, List.setIfInBounds_toArray, List.set_cons_zero, List.set_cons_succ]
        refine wpAnyH_take (i := 6) (oi := _) (v := .bool true) g20_6 (by kernel_rfl) (by kernel_rfl) (by kernel_rfl) (fun _ _ _ h => h) (Or.inl ⟨by rfl, ?_⟩) (by assumption) ?_
        · intro V hSw
          try dsimp only at hSw
          go_simp
        simp only [Act.put, List.setIfInBounds_toArray, List.set_cons_zero, List.set_cons_succ]
        refine wpAnyH_take (i := 7) (oi := _) (v := .bool true) g20_7 (by kernel_rfl) (by kernel_rfl) (by kernel_rfl) (fun _ _ _ h => h) (Or.inl ⟨by rfl, ?_⟩) (by assumption) ?_
        · intro V hSw
          try dsimp only at hSw
          go_simp
        simp only [Act.put, List.setIfInBounds_toArray, List.set_cons_zero, List.set_cons_succ]
        refine wpAnyH_take (i := 8) (oi := _) (v := .slice (some ⟨ad0, oo, none⟩) n2 c2) g20_8 (by kernel_rfl) (by kernel_rfl) (by kernel_rfl) (fun _ _ _ h => h) (Or.inl ⟨by rfl, ?_⟩) (by assumption) ?_
        · intro V hSw
          try dsimp only at hSw
          go_simp
        simp only [Act.put, List.setIfInBounds_toArray, List.set_cons_zero, List.set_cons_succ]
        refine wpAnyH_take (i := 9) (oi := _) (v := .int .i64 (kz : Int)) g20_9 (by kernel_rfl) (by kernel_rfl) (by kernel_rfl) (fun _ _ _ h => h) (Or.inl ⟨by rfl, ?_⟩) (by assumption) ?_
        · intro V hSw
          try dsimp only at hSw
          go_simp
        simp only [Act.put, List.setIfInBounds_toArray, List.set_cons_zero, List.set_cons_succ]
        refine wpAnyH_take (i := 10) (oi := _) (v := .pointer (some ⟨ad0, oo + kz * 3, none⟩)) g20_10 (by kernel_rfl) (by kernel_rfl) (by kernel_rfl) (fun _ _ _ h => h) (Or.inl ⟨by rfl, ?_⟩) (by assumption) ?_
        · intro V hSw
          try dsimp only at hSw
          go_simp
        simp only [Act.put, List.setIfInBounds_toArray, List.set_cons_zero, List.set_cons_succ]
        refine wpAnyH_take (i := 11) (oi := _) (v := .agg #[.float .f64 (y kz 0), .float .f64 (y kz 1), .float .f64 (y kz 2)]) g20_11 (by kernel_rfl) (by kernel_rfl) (by kernel_rfl) (fun _ _ _ h => h) (Or.inl ⟨by rfl, ?_⟩) (by assumption) ?_
        · intro V hSw
          try dsimp only at hSw
          obtain ⟨_, _, hq, g0, g1, g2⟩ := (hY8.keep hSw).at (x := kz) (by omega)
          cases hq
          go_simp
        simp only [Act.put, List.setIfInBounds_toArray, List.set_cons_zero, List.set_cons_succ]
        refine wpAnyH_take (i := 12) (oi := _) (v := .slice (some ⟨ad0, oo, none⟩) n2 c2) g20_12 (by kernel_rfl) (by kernel_rfl) (by kernel_rfl) (fun _ _ _ h => h) (Or.inl ⟨by rfl, ?_⟩) (by assumption) ?_
        · intro V hSw
          try dsimp only at hSw
          go_simp
        simp only [Act.put, List.setIfInBounds_toArray, List.set_cons_zero, List.set_cons_succ]
        refine wpAnyH_take (i := 13) (oi := _) (v := .int .i64 (kk : Int)) g20_13 (by kernel_rfl) (by kernel_rfl) (by kernel_rfl) (fun _ _ _ h => h) (Or.inl ⟨by rfl, ?_⟩) (by assumption) ?_
        · intro V hSw
          try dsimp only at hSw
          go_simp
        simp only [Act.put, List.setIfInBounds_toArray, List.set_cons_zero, List.set_cons_succ]
        refine wpAnyH_take (i := 14) (oi := _) (v := .pointer (some ⟨ad0, oo + kk * 3, none⟩)) g20_14 (by kernel_rfl) (by kernel_rfl) (by kernel_rfl) (fun _ _ _ h => h) (Or.inl ⟨by rfl, ?_⟩) (by assumption) ?_
        · intro V hSw
          try dsimp only at hSw
          go_simp
        simp only [Act.put, List.setIfInBounds_toArray, List.set_cons_zero, List.set_cons_succ]
        refine wpAnyH_take (i := 15) (oi := _) (v := .agg #[.float .f64 (y kk 0), .float .f64 (y kk 1), .float .f64 (y kk 2)]) g20_15 (by kernel_rfl) (by kernel_rfl) (by kernel_rfl) (fun _ _ _ h => h) (Or.inl ⟨by rfl, ?_⟩) (by assumption) ?_
        · intro V hSw
          try dsimp only at hSw
          obtain ⟨_, _, hq, g0, g1, g2⟩ := (hY8.keep hSw).at (x := kk) (by omega)
          cases hq
          go_simp
        simp only [Act.put, List.setIfInBounds_toArray, List.set_cons_zero, List.set_cons_succ]
        refine wpAnyH_ready (rs := [16]) (by kernel_rfl) (by simp) ?_
        refine AllReadyH.cons (o := _) g20_16 (fun K hK => ?_) AllReadyH.nil
        go_simp
        refine (rfar_any (y kz) (y kk) _ _ _ _ (unhide HFr) _).mono ?_
        rintro e w9 ⟨rfl, hbq⟩
        replace hbc := btrans hbc hbq
        clear hbq
        refine hK.out _ _ (hbc) (fun _ => ?_)
        clear hK K
        refine wpAnyH_take (i := 17) (oi := _) (v := .bool true) g20_17 (by kernel_rfl) (by kernel_rfl) (by kernel_rfl) (fun _ _ _ h => h) (Or.inl ⟨by rfl, ?_⟩) (by assumption) ?_
        · intro V hSw
          try dsimp only at hSw
          go_simp
        simp only [Act.put, List.setIfInBounds_toArray, List.set_cons_zero, List.set_cons_succ]
        refine wpAnyH_take (i := 18) (oi := _) (v := .bool true) g20_18 (by kernel_rfl) (by kernel_rfl) (by kernel_rfl) (fun _ _ _ h => h) (Or.inl ⟨by rfl, ?_⟩) (by assumption) ?_
        · intro V hSw
          try dsimp only at hSw
          go_simp
        simp only [Act.put, List.setIfInBounds_toArray, List.set_cons_zero, List.set_cons_succ]
        refine wpAnyH_take (i := 19) (oi := _) (v := .bool true) g20_19 (by kernel_rfl) (by kernel_rfl) (by kernel_rfl) (fun _ _ _ h => h) (Or.inl ⟨by rfl, ?_⟩) (by assumption) ?_
        · intro V hSw
          try dsimp only at hSw
          go_simp
        simp only [Act.put, List.setIfInBounds_toArray, List.set_cons_zero, List.set_cons_succ]
        refine wpAnyH_done (by kernel_rfl) ?_ _
        refine NoPanic.normal ?_
        have Hbn := hide (btrans hb8 hbc)
        clear hY8 hb8 hbc
        go_wp2
        go_ret
        exact ⟨rfl, unhide Hbn⟩

theorem between_any (q1 : Option Addr) (n1 c1 : Nat) (d : Nat → Nat → Nat) (s : Nat → Nat) (q2 : Option Addr) (n2 c2 : Nat) (y : Nat → Nat → Nat) (k : Int) (W : World) (hD : Dp W q1 n1 d s) (hY : Dy W q2 n2 y) :
    Calls Try.prog 5 #[.slice q1 n1 c1, .slice q2 n2 c2, .int .i64 k] W fun e w' => e = .returned (.bool true) ∧ Below W.heap.size W w' := by
  have hR := rest_is W q2 n2 c2 y k hY
  obtain ⟨p, er, h⟩ := mix_split n1 d s
  have HM : ∀ V, Below W.heap.size W V → AnsM 7 #[.slice q1 n1 c1] V p er := fun V hV => mix_any h c1 q1 V (hD.keep hV)
  rcases h with ⟨-, -, rfl⟩ | ⟨-, -, -, rfl⟩ | ⟨h, -, -⟩
  · exact between_bad p 5 (by decide) q1 n1 c1 q2 n2 c2 y k W HM hY hR
  · exact between_bad p 3 (by decide) q1 n1 c1 q2 n2 c2 y k W HM hY hR
  · exact between_ok q1 n1 c1 d s q2 n2 c2 y k W h hD hY hR
end Go.Proofs.Ytlilmchlddiacaa
