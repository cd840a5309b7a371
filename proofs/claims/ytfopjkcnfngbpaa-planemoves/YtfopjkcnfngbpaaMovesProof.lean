/-
  PlaneMoves is proved: for every grid number, every two moves and every point the law answers true, and its arguments read as before. No condition.
-/
import Derived.Test.YtfopjkcnfngbpaaGroupProof
import Derived.Test.YtfopjkcnfngbpaaFit
import Derived.Test.YtfopjkcnfngbpaaLaw4
namespace Go.Proofs.Ytfopjkcnfngbpaa
open Go.ChangeShapes Go.WideShapes Go.ChangeAt Go.RowKit Go.Joins

/-! ### Then -/
theorem li_inj6 : ∀ t T : Fin 6, ∀ f F : Bool, (li 6 t f 1 0 = li 6 T F 1 0 ∧ li 6 t f 0 1 = li 6 T F 0 1) → t = T ∧ f = F := by decide +kernel
theorem li_inj4 : ∀ t T : Fin 4, ∀ f F : Bool, (li 4 t f 1 0 = li 4 T F 1 0 ∧ li 4 t f 0 1 = li 4 T F 0 1) → t = T ∧ f = F := by decide +kernel
theorem li_inj (g : Int) (hg : g = 4 ∨ g = 6) (t T : Nat) (f F : Bool) (ht : (t : Int) < g) (hT : (T : Int) < g) (h1 : li g t f 1 0 = li g T F 1 0) (h2 : li g t f 0 1 = li g T F 0 1) : t = T ∧ f = F := by
  rcases hg with rfl | rfl
  · have := li_inj4 ⟨t, by omega⟩ ⟨T, by omega⟩ f F ⟨h1, h2⟩
    exact ⟨by simpa using this.1, this.2⟩
  · have := li_inj6 ⟨t, by omega⟩ ⟨T, by omega⟩ f F ⟨h1, h2⟩
    exact ⟨by simpa using this.1, this.2⟩

theorem Sz.pt {g x y : Int} (h : (x = 0 ∧ y = 0) ∨ (x = 1 ∧ y = 0) ∨ (x = 0 ∧ y = 1)) : Sz g 1 x y := by unfold Sz; omega

theorem fit_any (g T : Int) (F : Bool) (ox oy : Int) (hg : g = 4 ∨ g = 6) (hT : 0 ≤ T ∧ T < g) (ho : Sz g 268435456 ox oy) :
    FitIs g ox oy (mv g T.toNat F ox oy 1 0).1 (mv g T.toNat F ox oy 1 0).2 (mv g T.toNat F ox oy 0 1).1 (mv g T.toNat F ox oy 0 1).2 T F ox oy := by
  obtain ⟨n, rfl⟩ := Int.eq_ofNat_of_zero_le hT.1
  simp only [Int.toNat_natCast]
  intro W
  refine fitting_is g n F ox oy _ _ _ _ W (by omega) (by omega) ?_
  intro t ht f
  have s1 : Sz g 268435456 1 0 := (Sz.pt (Or.inr (Or.inl ⟨rfl, rfl⟩))).mono (by decide)
  have s2 : Sz g 268435456 0 1 := (Sz.pt (Or.inr (Or.inr ⟨rfl, rfl⟩))).mono (by decide)
  refine ⟨_, _, _, _, to_any g t f ox oy 1 0 hg ⟨by omega, ht⟩ s1 ho, to_any g t f ox oy 0 1 hg ⟨by omega, ht⟩ s2 ho, ?_, ?_⟩
  · rintro ⟨rfl, rfl⟩
    exact ⟨rfl, rfl, rfl, rfl⟩
  · intro hne hall
    simp only [Int.toNat_natCast, mv_li] at hall
    obtain ⟨a1, a2, a3, a4⟩ := hall
    exact hne (li_inj g hg t n f F ht (by omega) (Prod.ext (by omega) (by omega)) (Prod.ext (by omega) (by omega)))

theorem li_origin (g : Int) (t : Nat) (f : Bool) : li g t f 0 0 = (0, 0) := by
  have := li_add g t f 0 0 0 0
  rw [show (0 : Int) + 0 = 0 by omega] at this
  have h1 := congrArg Prod.fst this
  have h2 := congrArg Prod.snd this
  simp only at h1 h2
  exact Prod.ext (by simp only; omega) (by simp only; omega)

theorem then_any (g t : Int) (f : Bool) (x y t' : Int) (f' : Bool) (x' y' : Int) (hg : g = 4 ∨ g = 6) (ht : 0 ≤ t ∧ t < g) (ht' : 0 ≤ t' ∧ t' < g) (h : Sz g 67108864 x y) (h' : Sz g 67108864 x' y') :
    ThenIs g t f x y t' f' x' y' (cT g t f t') (cF f f') (mv g t.toNat f x y x' y').1 (mv g t.toNat f x y x' y').2 := by
  have s0 : Sz g 1 0 0 := Sz.pt (Or.inl ⟨rfl, rfl⟩)
  have s1 : Sz g 1 1 0 := Sz.pt (Or.inr (Or.inl ⟨rfl, rfl⟩))
  have s2 : Sz g 1 0 1 := Sz.pt (Or.inr (Or.inr ⟨rfl, rfl⟩))
  have e0 : mv g t'.toNat f' x' y' 0 0 = (x', y') := by rw [mv_li, li_origin]; exact Prod.ext (by simp) (by simp)
  have H0 := to_any g t' f' x' y' 0 0 hg ht' (s0.mono (by decide)) (h'.mono (by decide))
  have H1 := to_any g t' f' x' y' 1 0 hg ht' (s1.mono (by decide)) (h'.mono (by decide))
  have H2 := to_any g t' f' x' y' 0 1 hg ht' (s2.mono (by decide)) (h'.mono (by decide))
  rw [e0] at H0
  have F0 := to_any g t f x y x' y' hg ht (h'.mono (by decide)) (h.mono (by decide))
  have F1 := to_any g t f x y _ _ hg ht ((s1.mv h' t'.toNat f').mono (by decide)) (h.mono (by decide))
  have F2 := to_any g t f x y _ _ hg ht ((s2.mv h' t'.toNat f').mono (by decide)) (h.mono (by decide))
  have m1 := mv_comp g t f x y t' f' x' y' 1 0 hg ht ht'
  have m2 := mv_comp g t f x y t' f' x' y' 0 1 hg ht ht'
  have Q := fit_any g (cT g t f t') (cF f f') (mv g t.toNat f x y x' y').1 (mv g t.toNat f x y x' y').2 hg (cT_range g t f t' hg) ((h'.mv h t.toNat f).mono (by decide))
  rw [m1, m2] at Q
  exact then_is g t f x y t' f' x' y' _ _ _ _ _ _ _ _ _ _ _ _ _ _ _ _ H0 H1 H2 F0 F1 F2 Q

/-! ### Apply and Compose -/
theorem rapply_any (g t : Int) (f : Bool) (bx b x y : Int) : RApplyIs g t f bx b x y (aP g t f bx b x y).1 (aP g t f bx b x y).2 (aE g t f bx b x y) := by
  have W1 := rwrong_any g t f bx b
  by_cases h : wE g t bx b = 0
  · rw [h] at W1
    obtain ⟨hg, ht, hs⟩ := wE_zero _ _ _ _ h
    cases k : sm2 x y with
    | true =>
      have k1 := e1_of g x y hg k
      refine rapply_ok g t f bx b x y _ _ _ _ _ W1 k (to_any g t f bx b x y hg ht (Sz.sm k) (Sz.sm hs)) ?_
      show _ ∨ _
      cases l : sm2 (mv g t.toNat f bx b x y).1 (mv g t.toNat f bx b x y).2 with
      | true =>
        have e : aE g t f bx b x y = 0 := by simp [aE, h, k1, l]
        have p : aP g t f bx b x y = mv g t.toNat f bx b x y := by unfold aP; rw [if_pos e]
        exact Or.inl ⟨rfl, by rw [p], by rw [p], e⟩
      | false =>
        have e : aE g t f bx b x y = 4 := by simp [aE, h, k1, l]
        have p : aP g t f bx b x y = (0, 0) := by unfold aP; rw [if_neg (by omega)]
        exact Or.inr ⟨rfl, by rw [p], by rw [p], e⟩
    | false =>
      have k1 : e1 g x y = 3 := by unfold e1; simp [okg, hg, k]
      have e : aE g t f bx b x y = 3 := by simp [aE, h, k1]
      have p : aP g t f bx b x y = (0, 0) := by unfold aP; rw [if_neg (by omega)]
      rw [e, p]
      exact rapply_err2 g t f bx b x y W1 k
  · have e : aE g t f bx b x y = wE g t bx b := by simp [aE, h]
    have p : aP g t f bx b x y = (0, 0) := by unfold aP; rw [if_neg (by omega)]
    rw [e, p]
    exact rapply_err1 g t f bx b x y _ W1 (wE_pos _ _ _ _ h)

theorem Sz.sm' {g x y : Int} (h : sm2 x y = true) : Sz g 67108864 x y := (Sz.of_sm h).mono (by decide)

theorem rcompose_any (g t : Int) (f : Bool) (x y t' : Int) (f' : Bool) (x' y' : Int) : RComposeIs g t f x y t' f' x' y' (kT g t f x y t' x' y') (kF g t f x y t' f' x' y') (kP g t f x y t' x' y').1 (kP g t f x y t' x' y').2 (kE g t f x y t' x' y') := by
  have W1 := rwrong_any g t f x y
  have W2 := rwrong_any g t' f' x' y'
  by_cases h : w2E g t x y t' x' y' = 0
  · obtain ⟨h1, h2⟩ := w2E_zero _ _ _ _ _ _ _ h
    rw [h1] at W1
    rw [h2] at W2
    obtain ⟨hg, ht, hs⟩ := wE_zero _ _ _ _ h1
    obtain ⟨_, ht', hs'⟩ := wE_zero _ _ _ _ h2
    refine rcompose_ok g t f x y t' f' x' y' _ _ _ _ _ _ _ _ _ W1 W2 (then_any g t f x y t' f' x' y' hg ht ht' (Sz.sm' hs) (Sz.sm' hs')) ?_
    show _ ∨ _
    cases l : sm2 (mv g t.toNat f x y x' y').1 (mv g t.toNat f x y x' y').2 with
    | true =>
      have e : kE g t f x y t' x' y' = 0 := by simp [kE, h, l]
      exact Or.inl ⟨rfl, by unfold kT; rw [if_pos e], by unfold kF; rw [if_pos e], by unfold kP; rw [if_pos e], by unfold kP; rw [if_pos e], e⟩
    | false =>
      have e : kE g t f x y t' x' y' = 4 := by simp [kE, h, l]
      have e' : ¬ kE g t f x y t' x' y' = 0 := by omega
      exact Or.inr ⟨rfl, by unfold kT; rw [if_neg e'], by unfold kF; rw [if_neg e'], by unfold kP; rw [if_neg e'], by unfold kP; rw [if_neg e'], e⟩
  · have e : kE g t f x y t' x' y' = w2E g t x y t' x' y' := by simp [kE, h]
    have e' : ¬ kE g t f x y t' x' y' = 0 := by omega
    rw [show kT g t f x y t' x' y' = 0 by unfold kT; rw [if_neg e'], show kF g t f x y t' f' x' y' = false by unfold kF; rw [if_neg e'], show kP g t f x y t' x' y' = (0, 0) by unfold kP; rw [if_neg e'], e]
    have hp := w2E_pos _ _ _ _ _ _ _ h
    unfold w2E at h hp ⊢
    by_cases k : wE g t x y = 0
    · rw [if_pos k] at h hp ⊢
      rw [k] at W1
      exact rcompose_err2 g t f x y t' f' x' y' _ W1 W2 hp
    · rw [if_neg k] at h hp ⊢
      exact rcompose_err1 g t f x y t' f' x' y' _ W1 hp

/-! ### Inverse -/
theorem cT_back_only (g n t : Int) (f : Bool) (hg : g = 4 ∨ g = 6) (hn : 0 ≤ n ∧ n < g) (ht : 0 ≤ t ∧ t < g) (h : cT g n f t = 0) : n = bt g t f := by
  rcases hg with rfl | rfl <;> cases f <;> simp only [cT, bt] at * <;> omega

theorem rinverse_any (g t : Int) (f : Bool) (x y : Int) : RInverseIs g t f x y (if iE g t f x y = 0 then bt g t f else 0) (if iE g t f x y = 0 then f else false) (if iE g t f x y = 0 then (iP g t f x y).1 else 0) (if iE g t f x y = 0 then (iP g t f x y).2 else 0) (iE g t f x y) := by
  have W1 := rwrong_any g t f x y
  by_cases h : wE g t x y = 0
  · rw [h] at W1
    obtain ⟨hg, ht, hs⟩ := wE_zero _ _ _ _ h
    have hb := bt_range g t f hg ht
    obtain ⟨B, hB⟩ := Int.eq_ofNat_of_zero_le hb.1
    have hBt : (bt g t f).toNat = B := by omega
    refine rinverse_ok g t f x y B (li g B f x y).1 (li g B f x y).2 _ _ _ _ _ (by omega) (by omega) W1 ?_ ?_
    · intro n hn
      have hz : Sz g 2097152 (li g n f x y).1 (li g n f x y).2 := ((Sz.of_sm hs).mi f).tu _
      have hm : mv g n f 0 0 x y = li g n f x y := by rw [mv_li]; exact Prod.ext (by simp) (by simp)
      have T := to_any g n f 0 0 x y hg ⟨by omega, hn⟩ (Sz.sm hs) (by unfold Sz; omega)
      simp only [Int.toNat_natCast] at T
      rw [hm] at T
      have hzn : Sz g 67108864 (-(li g n f x y).1) (-(li g n f x y).2) := by unfold Sz at *; refine ⟨by omega, by omega, fun e => ?_⟩; have := hz.2.2 e; omega
      have Q := then_any g n f (-(li g n f x y).1) (-(li g n f x y).2) t f x y hg ⟨by omega, hn⟩ ht hzn (Sz.sm' hs)
      simp only [Int.toNat_natCast] at Q
      have hm0 : mv g n f (-(li g n f x y).1) (-(li g n f x y).2) x y = (0, 0) := by rw [mv_li]; exact Prod.ext (by simp only; omega) (by simp only; omega)
      rw [hm0, (cT_back g t f hg ht).2.2] at Q
      unfold Sz at hz
      refine ⟨_, _, _, T, by omega, by omega, Q, ?_, ?_⟩
      · rintro rfl
        exact ⟨by rw [show ((n : Nat) : Int) = bt g t f by omega]; exact (cT_back g t f hg ht).1, rfl, rfl⟩
      · intro hne
        have r := cT_range g n f t hg
        by_cases z : cT g n f t = 0
        · have := cT_back_only g n t f hg ⟨by omega, hn⟩ ht z
          omega
        · omega
    · show _ ∨ _
      have hi : iP g t f x y = (-(li g B f x y).1, -(li g B f x y).2) := by unfold iP; rw [hBt]
      cases l : sm2 (-(li g B f x y).1) (-(li g B f x y).2) with
      | true =>
        have e : iE g t f x y = 0 := by simp [iE, h, hi, l]
        exact Or.inl ⟨rfl, by rw [if_pos e]; exact hB, by rw [if_pos e], by rw [if_pos e, hi], by rw [if_pos e, hi], e⟩
      | false =>
        have e : iE g t f x y = 4 := by simp [iE, h, hi, l]
        have e' : ¬ iE g t f x y = 0 := by omega
        exact Or.inr ⟨rfl, by rw [if_neg e'], by rw [if_neg e'], by rw [if_neg e'], by rw [if_neg e'], e⟩
  · have e : iE g t f x y = wE g t x y := by simp [iE, h]
    have e' : ¬ iE g t f x y = 0 := by omega
    rw [if_neg e', if_neg e', if_neg e', if_neg e', e]
    exact rinverse_err g t f x y _ W1 (wE_pos _ _ _ _ h)

/-! ### Order -/
def xT (g t : Int) (f : Bool) : Nat → Int
  | 0 => 0
  | n + 1 => cT g t f (xT g t f n)
def xF (f : Bool) : Nat → Bool
  | 0 => false
  | n + 1 => cF f (xF f n)
def xP (g t : Int) (f : Bool) (x y : Int) : Nat → Int × Int
  | 0 => (0, 0)
  | n + 1 => mv g t.toNat f x y (xP g t f x y n).1 (xP g t f x y n).2
theorem xT_range (g t : Int) (f : Bool) (hg : g = 4 ∨ g = 6) (n : Nat) : 0 ≤ xT g t f n ∧ xT g t f n < g := by
  cases n with
  | zero => simp only [xT]; omega
  | succ n => exact cT_range _ _ _ _ hg
theorem xP_size (g t : Int) (f : Bool) (x y : Int) (h : Sz g 2097152 x y) (n : Nat) : Sz g (n * 2097152) (xP g t f x y n).1 (xP g t f x y n).2 := by
  induction n with
  | zero => unfold Sz; simp [xP]
  | succ n ih =>
    have := ih.mv h t.toNat f
    exact this.mono (by omega)
theorem x_one (g t : Int) (f : Bool) (x y : Int) (hg : g = 4 ∨ g = 6) (ht : 0 ≤ t ∧ t < g) : xT g t f 1 = t ∧ xF f 1 = f ∧ (xP g t f x y 1).1 = x ∧ (xP g t f x y 1).2 = y := by
  refine ⟨?_, ?_, ?_, ?_⟩
  · rcases hg with rfl | rfl <;> cases f <;> simp only [xT, cT] <;> omega
  · cases f <;> rfl
  · simp only [xP, mv_li, li_origin]; omega
  · simp only [xP, mv_li, li_origin]; omega
theorem firstId_exists (a : Nat → Int) (b : Nat → Bool) (c d : Nat → Int) (N : Nat) : ∃ r, firstId a b c d N r := by
  induction N with
  | zero => exact ⟨0, Or.inr ⟨rfl, fun m h1 h2 => by omega⟩⟩
  | succ N ih =>
    obtain ⟨r, h⟩ := ih
    rcases h with ⟨n, h1, h2, h3, h4, h5⟩ | ⟨_, h2⟩
    · exact ⟨r, Or.inl ⟨n, h1, by omega, h3, h4, h5⟩⟩
    · by_cases k : isId a b c d (N + 1)
      · exact ⟨((N + 1 : Nat) : Int), Or.inl ⟨N + 1, by omega, Nat.le_refl _, rfl, k, fun m m1 m2 => h2 m m1 (by omega)⟩⟩
      · exact ⟨0, Or.inr ⟨rfl, notId_step h2 k⟩⟩

/-- on squares what is not over after four times is not after five or six -/
theorem no56 (t : Nat) (f : Bool) (x y : Int) (ht : t < 4) (h : ∀ m, 1 ≤ m → m ≤ 4 → ¬ isId (xT 4 t f) (xF f) (fun n => (xP 4 t f x y n).1) (fun n => (xP 4 t f x y n).2) m) :
    ¬ isId (xT 4 t f) (xF f) (fun n => (xP 4 t f x y n).1) (fun n => (xP 4 t f x y n).2) 5 ∧ ¬ isId (xT 4 t f) (xF f) (fun n => (xP 4 t f x y n).1) (fun n => (xP 4 t f x y n).2) 6 := by
  have a1 := h 1 (by omega) (by omega)
  have a2 := h 2 (by omega) (by omega)
  have a4 := h 4 (by omega) (by omega)
  clear h
  rcases four t ht with rfl | rfl | rfl | rfl <;> cases f <;> simp [isId, xT, xF, xP, mv, tu, mi, tq, cT, cF] at a1 a2 a4 ⊢ <;> omega

theorem orders (g t : Int) (f : Bool) (x y : Int) : ∃ r er, OrderIs 22 g t f x y r er ∧ OrderIs 23 g t f x y r er := by
  have W1 := wrong_any g t f x y
  have W2 := rwrong_any g t f x y
  by_cases h : wE g t x y = 0
  · rw [h] at W1 W2
    obtain ⟨hg, ht, hs⟩ := wE_zero _ _ _ _ h
    obtain ⟨r, R⟩ := firstId_exists (xT g t f) (xF f) (fun n => (xP g t f x y n).1) (fun n => (xP g t f x y n).2) g.toNat
    have R6 : firstId (xT g t f) (xF f) (fun n => (xP g t f x y n).1) (fun n => (xP g t f x y n).2) 6 r := by
      rcases hg with rfl | rfl
      · obtain ⟨m, rfl⟩ := Int.eq_ofNat_of_zero_le ht.1
        rcases R with ⟨n, h1, h2, h3, h4, h5⟩ | ⟨h1, h2⟩
        · exact Or.inl ⟨n, h1, by simp at h2; omega, h3, h4, h5⟩
        · have k := no56 m f x y (by omega) (fun q q1 q2 => h2 q q1 (by simpa using q2))
          refine Or.inr ⟨h1, fun q q1 q2 => ?_⟩
          by_cases q4 : q ≤ 4
          · exact h2 q q1 (by simpa using q4)
          · have : q = 5 ∨ q = 6 := by omega
            rcases this with rfl | rfl
            · exact k.1
            · exact k.2
      · exact R
    refine ⟨r, 0, ?_, ?_⟩
    · obtain ⟨gn, rfl⟩ := Int.eq_ofNat_of_zero_le (show 0 ≤ g by omega)
      refine order_ok gn t f x y (xT gn t f) (xF f) (fun n => (xP gn t f x y n).1) (fun n => (xP gn t f x y n).2) r (by omega) W1 (x_one _ t f x y hg ht) ?_ (show firstId _ _ _ _ _ _ by simpa using R)
      intro k k1 k6
      exact composedIs gn t f x y _ _ _ _ hg ht (xT_range _ t f hg k) (Sz.sm hs) ((xP_size _ t f x y (Sz.of_sm hs) k).mono (by omega))
    · refine rorder_ok g t f x y (xT g t f) (xF f) (fun n => (xP g t f x y n).1) (fun n => (xP g t f x y n).2) r W2 ⟨rfl, rfl, rfl, rfl⟩ ?_ R6
      intro k k6
      exact then_any g t f x y _ _ _ _ hg ht (xT_range _ t f hg k) (Sz.sm' hs) ((xP_size _ t f x y (Sz.of_sm hs) k).mono (by omega))
  · exact ⟨0, _, order_err g t f x y _ W1 (wE_pos _ _ _ _ h), rorder_err g t f x y _ W2 (wE_pos _ _ _ _ h)⟩

theorem moves_any (g : Int) (ft : Int) (ff : Bool) (fx fy : Int) (ht : Int) (hf : Bool) (hx hy : Int) (zx zy : Int) (w : World) :
    Calls Try.prog 4 #[.int .i64 g, .agg #[.int .i64 ft, .bool ff, .int .i64 fx, .int .i64 fy], .agg #[.int .i64 ht, .bool hf, .int .i64 hx, .int .i64 hy], .agg #[.int .i64 zx, .int .i64 zy]] w fun e w' => e = .returned (.bool true) ∧ Below w.heap.size w w' := by
  obtain ⟨r, er, O1, O2⟩ := orders g ft ff fx fy
  exact moves_walk g ft ff fx fy ht hf hx hy zx zy w _ _ _ _ _ _ _ _ _ _ _ _ _ _ _ _ (wrong_any g ft ff fx fy) (rwrong_any g ft ff fx fy) (apply_any g ft ff fx fy zx zy) (rapply_any g ft ff fx fy zx zy)
    (compose_any g ft ff fx fy ht hf hx hy) (rcompose_any g ft ff fx fy ht hf hx hy) (inverse_any g ft ff fx fy) (rinverse_any g ft ff fx fy) O1 O2

/-! ### the row -/
set_option maxRecDepth 100000 in
theorem moves_lifted (os : Os) (started : os.Started) (H : Type) (enc : TypeId × Value → H) :
    ReturnsInHanded {} Try.checked os 4 .any (Rows.planeMovesSpec.pre6 enc Try.prog Try.f4 Rows.planeMovesRow.domain false) (Rows.planeMovesSpec.post enc Try.prog Try.f4 false true false false) := by
  refine returnsInHanded_of_change (C := Try.checked) own started (by kernel_rfl) Try.func4
    (ChangeSpec.witness6 (enc := enc) (C := Try.checked) false ⟨#[], #[.int .i64 0, .agg #[.int .i64 0, .bool false, .int .i64 0, .int .i64 0], .agg #[.int .i64 0, .bool false, .int .i64 0, .int .i64 0], .agg #[.int .i64 0, .int .i64 0]], []⟩ 8 (by kernel_rfl) (by kernel_rfl) (by kernel_rfl) (by kernel_rfl)) ?_
  intro W base args ds gs before hval0 hW hcnd _
  have hval : ∀ (j : Nat) t v, Try.f4.params[j]? = some t → args[j]? = some v → Value.okWide Try.prog W .any base t v := hval0
  have hW' := hW
  obtain ⟨p, q, hA0, hV, rfl, hfz, hnd⟩ := hW
  have hA : DataW.TrodAll enc Try.prog W 0 (fun _ => true) true Try.f4.params.toList args.toList ds p := hA0
  rw [Try.params4] at hA hval
  obtain ⟨v0, v1, v2, v3, d0, d1, d2, d3, p0, p1, p2, p3, rfl, rfl, rfl, h0, h1, h2, h3⟩ := trodAll_four hA
  obtain ⟨rfl, rfl⟩ := trodVars_none hV
  obtain ⟨g, rfl, rfl, rfl, wg⟩ := open_int Try.underlying3 (hval 0 3 v0 rfl rfl) h0
  obtain ⟨ft, ff, fx, fy, rfl, rfl, rfl, wft, wfx, wfy⟩ := move_open (hval 1 31 v1 rfl rfl) h1
  obtain ⟨ht, hf, hx, hy, rfl, rfl, rfl, wht, whx, why⟩ := move_open (hval 2 31 v2 rfl rfl) h2
  obtain ⟨zx, zy, rfl, rfl, rfl, wzx, wzy⟩ := point_open (hval 3 23 v3 rfl rfl) h3
  clear hA0 hval0
  simp only [List.append_nil] at hW'
  refine (moves_any g ft ff fx fy ht hf hx hy zx zy W).mono fun e W' ⟨he, hg⟩ => ?_
  subst he
  exact ⟨_, rfl, _, _, _, [], [], [], hW', trodAll_cons_mk (shut_bool Try.underlying4 _) trodAll_mk0,
    trodAll_cons_mk (shut_int Try.underlying3 wg) (trodAll_cons_mk (move_shut wft wfx wfy) (trodAll_cons_mk (move_shut wht whx why) (trodAll_cons_mk (point_shut wzx wzy) trodAll_mk0))), rfl, hg.frame _, fun h => by cases h⟩

theorem moves_over : Rows.planeMovesRow.holds Try.pinned (OpenSpec.ofChange Rows.planeMovesSpec) :=
  OpenClaim.holds_of_wide 4 Try.f4 rfl rfl rfl rfl rfl rfl rfl ⟨rfl, rfl, rfl, rfl, rfl⟩ rfl rfl rfl rfl rfl (by kernel_rfl) Try.func4 (by kernel_rfl)
    (of_decide_eq_true (by kernel_rfl)) (by unfold Func.isWrapper; first | (rw [if_pos (by decide +kernel)]; kernel_rfl) | (rw [if_neg (by decide +kernel)]; exact ⟨rfl, rfl⟩))
    (fun os started H enc _ => moves_lifted os started H enc)

theorem moves_holds : Rows.PlaneMovesSaid := moves_over
#print axioms moves_holds
end Go.Proofs.Ytfopjkcnfngbpaa
