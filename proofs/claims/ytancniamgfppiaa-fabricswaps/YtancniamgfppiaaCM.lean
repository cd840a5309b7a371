/-
  The mathematics of FabricSwaps: loops named by their yarn, and stitches that have nothing to do with one another.
-/
import Derived.Test.YtancniamgfppiaaTM
import Derived.Test.YtancniamgfppiaaMY
import Derived.Test.YtancniamgfppiaaYA
namespace Go.Proofs.Ytancniamgfppiaa
open Go.RowKit

/-- a loop's name: its carrier, and which one of it -/
def naM (l : List (Int × List Nat)) (x : Nat) : Nat × Nat := ((carF l x).toNat, cn (eqB (carF l) (carF l x).toNat) x)
/-- a machine whose loops are named so -/
structure Cn where
  on : Nat → Nat → List (Nat × Nat)
  lps : Nat → List (List (Nat × Nat))
  rack : Int
  loose : List (Nat × Nat)
  done : Nat
theorem cn_ext {a b : Cn} (h1 : ∀ i j, a.on i j = b.on i j) (h2 : ∀ K, a.lps K = b.lps K) (h3 : a.rack = b.rack) (h4 : a.loose = b.loose) (h5 : a.done = b.done) : a = b := by
  obtain ⟨a1, a2, a3, a4, a5⟩ := a
  obtain ⟨b1, b2, b3, b4, b5⟩ := b
  obtain rfl : a1 = b1 := funext fun i => funext fun j => h1 i j
  obtain rfl : a2 = b2 := funext h2
  obtain rfl : a3 = b3 := h3
  obtain rfl : a4 = b4 := h4
  obtain rfl : a5 = b5 := h5
  rfl
def can (s : St) : Cn := ⟨fun b n => (s.on b n).map (naM s.loops), fun K => (lsF (eqB (carF s.loops) K) s.loops.length).map fun x => (thrF s.loops x).map (naM s.loops), s.rack, s.loose.map (naM s.loops), s.done⟩
def updC (f : Nat → Nat → List (Nat × Nat)) (b n : Nat) (xs : List (Nat × Nat)) : Nat → Nat → List (Nat × Nat) := fun b' n' => if b' = b ∧ n' = n then xs else f b' n'
theorem updC_same (f : Nat → Nat → List (Nat × Nat)) {b n b' n' : Nat} (xs : List (Nat × Nat)) (h : b' = b ∧ n' = n) : updC f b n xs b' n' = xs := by unfold updC; rw [if_pos h]
theorem updC_other (f : Nat → Nat → List (Nat × Nat)) {b n b' n' : Nat} (xs : List (Nat × Nat)) (h : ¬ (b' = b ∧ n' = n)) : updC f b n xs b' n' = f b' n' := by unfold updC; rw [if_neg h]
/-- what a stitch does there -/
def onC (c : Cn) (x : Sx) : Nat → Nat → List (Nat × Nat) :=
  if x.dk = 1 then updC c.on x.bed.toNat x.ndl.toNat [(x.car.toNat, (c.lps x.car.toNat).length)]
  else if x.dk = 2 then updC c.on x.bed.toNat x.ndl.toNat (c.on x.bed.toNat x.ndl.toNat ++ [(x.car.toNat, (c.lps x.car.toNat).length)])
  else if x.dk = 4 then updC (updC c.on x.bed.toNat x.ndl.toNat []) (fcB x.bed.toNat) (fcN c.rack x.bed.toNat x.ndl).toNat (c.on (fcB x.bed.toNat) (fcN c.rack x.bed.toNat x.ndl).toNat ++ c.on x.bed.toNat x.ndl.toNat)
  else if x.dk = 5 then updC c.on x.bed.toNat x.ndl.toNat []
  else c.on
def thC (c : Cn) (x : Sx) : List (Nat × Nat) := if x.dk = 1 then c.on x.bed.toNat x.ndl.toNat else []
def addC (c : Cn) (x : Sx) (K : Nat) : List (List (Nat × Nat)) := if (x.dk = 1 ∨ x.dk = 2) ∧ K = x.car.toNat then [thC c x] else []
def lsC (c : Cn) (x : Sx) : List (Nat × Nat) := if x.dk = 5 then c.on x.bed.toNat x.ndl.toNat else []
def doC (c : Cn) (x : Sx) : Cn := ⟨onC c x, fun K => c.lps K ++ addC c x K, if x.dk = 6 then x.tt else c.rack, c.loose ++ lsC c x, c.done + 1⟩

theorem naM_app (l : List (Int × List Nat)) (e : Int × List Nat) {y : Nat} (h : y < l.length) : naM (l ++ [e]) y = naM l y := by
  unfold naM
  rw [carF_app l e h]
  congr 1
  exact cn_congr (fun j hj => by unfold eqB; rw [carF_app l e (by omega)])
theorem naM_last (l : List (Int × List Nat)) (e : Int × List Nat) : naM (l ++ [e]) l.length = (e.1.toNat, cn (eqB (carF l) e.1.toNat) l.length) := by
  unfold naM
  rw [carF_last]
  congr 1
  exact cn_congr (fun j hj => by unfold eqB; rw [carF_app l e hj])
theorem map_na {l : List (Int × List Nat)} (e : Int × List Nat) {xs : List Nat} (h : ∀ y, y ∈ xs → y < l.length) : xs.map (naM (l ++ [e])) = xs.map (naM l) := List.map_congr_left (fun y hy => naM_app l e (h y hy))
theorem thrF_app (l : List (Int × List Nat)) (e : Int × List Nat) {j : Nat} (h : j < l.length) : thrF (l ++ [e]) j = thrF l j := by
  unfold thrF
  rw [List.getD_eq_getElem?_getD, List.getD_eq_getElem?_getD, List.getElem?_append_left h]
theorem thrF_last (l : List (Int × List Nat)) (e : Int × List Nat) : thrF (l ++ [e]) l.length = e.2 := by
  unfold thrF
  rw [List.getD_eq_getElem?_getD, List.getElem?_append_right (Nat.le_refl _), Nat.sub_self]
  rfl
theorem thr_in {s : St} (h : Bd s) {j : Nat} (hj : j < s.loops.length) : ∀ y, y ∈ thrF s.loops j → y < s.loops.length := by
  intro y hy
  rw [← thrF_at hj] at hy
  exact (h.thr _ (List.getElem_mem hj)).1 y hy
/-- the loops' part where one is made -/
theorem lps_app {s : St} (h : Bd s) (e : Int × List Nat) (h0 : 0 ≤ e.1) (he : ∀ y, y ∈ e.2 → y < s.loops.length) (K : Nat) :
    (lsF (eqB (carF (s.loops ++ [e])) K) (s.loops ++ [e]).length).map (fun x => (thrF (s.loops ++ [e]) x).map (naM (s.loops ++ [e]))) = (can s).lps K ++ (if K = e.1.toNat then [e.2.map (naM s.loops)] else []) := by
  have hl : (s.loops ++ [e]).length = s.loops.length + 1 := by simp
  rw [hl]
  simp only [lsF]
  rw [lsF_congr (q := eqB (carF s.loops) K) (fun j hj => by unfold eqB; rw [carF_app _ _ hj]), List.map_append]
  congr 1
  · refine List.map_congr_left (fun x hx => ?_)
    have hx := (lsF_mem hx).1
    rw [thrF_app _ _ hx]
    exact map_na e (thr_in h hx)
  · by_cases hk : K = e.1.toNat
    · rw [if_pos hk, if_pos (by unfold eqB; rw [carF_last]; simp; omega)]
      simp only [List.map_cons, List.map_nil]
      rw [thrF_last, map_na e he]
    · rw [if_neg hk, if_neg (by unfold eqB; rw [carF_last]; simp; omega)]
      rfl
theorem upd_map (g : Nat → Nat × Nat) (f : Nat → Nat → List Nat) (b n : Nat) (xs : List Nat) (b' n' : Nat) : (upd f b n xs b' n').map g = updC (fun i j => (f i j).map g) b n (xs.map g) b' n' := by
  unfold upd updC
  split <;> rfl
theorem can_on (s : St) (b n : Nat) : (can s).on b n = (s.on b n).map (naM s.loops) := rfl
theorem can_len (s : St) (K : Nat) : ((can s).lps K).length = cn (eqB (carF s.loops) K) s.loops.length := by
  show (List.map _ _).length = _
  rw [List.length_map, lsF_len]
theorem upd_in {s : St} (h : Bd s) {b n : Nat} {xs : List Nat} (e : Int × List Nat) (b' n' : Nat) : (upd s.on b n xs b' n').map (naM (s.loops ++ [e])) = updC (can s).on b n (xs.map (naM (s.loops ++ [e]))) b' n' := by
  rw [upd_map]
  unfold updC
  split
  · rfl
  · exact map_na e (fun y hy => h.on b' n' y hy)
/-- what a stitch does, of names -/
theorem can_do {N : Nat} {s : St} {x : Sx} (h : Bd s) (hw : wrE N s x = 0) : can (doS s x) = doC (can s) x := by
  obtain ⟨d1, d2, d3, d6, dn⟩ := wrE_zero hw
  unfold doS cnt doX
  by_cases e1 : x.dk = 1
  · obtain ⟨b, n, -, -, -, -, hc, -⟩ := dn (by omega)
    obtain ⟨k0, -⟩ := hc (by rw [e1]; rfl)
    have hon : ∀ y, y ∈ s.on x.bed.toNat x.ndl.toNat → y < s.loops.length := fun y hy => h.on _ _ y hy
    rw [if_pos e1]
    refine cn_ext (fun i j => ?_) (fun K => ?_) ?_ ?_ rfl
    · show (upd s.on x.bed.toNat x.ndl.toNat [s.loops.length] i j).map (naM (s.loops ++ [(x.car, s.on x.bed.toNat x.ndl.toNat)])) = onC (can s) x i j
      rw [upd_in h]
      unfold onC
      rw [if_pos e1]
      simp only [List.map_cons, List.map_nil]
      rw [naM_last, can_len]
    · show List.map _ _ = (can s).lps K ++ addC (can s) x K
      rw [lps_app h _ k0 hon]
      unfold addC thC
      by_cases hk : K = x.car.toNat
      · rw [if_pos hk, if_pos ⟨.inl e1, hk⟩, if_pos e1]; rfl
      · rw [if_neg hk, if_neg (fun q => hk q.2)]
    · show s.rack = if x.dk = 6 then x.tt else s.rack
      rw [if_neg (by omega)]
    · show s.loose.map _ = s.loose.map _ ++ lsC (can s) x
      unfold lsC
      rw [if_neg (by omega), List.append_nil]
      exact map_na _ (fun y hy => h.loose y hy)
  rw [if_neg e1]
  by_cases e2 : x.dk = 2
  · obtain ⟨b, n, -, -, -, -, hc, -⟩ := dn (by omega)
    obtain ⟨k0, -⟩ := hc (by rw [e2]; rfl)
    rw [if_pos e2]
    refine cn_ext (fun i j => ?_) (fun K => ?_) ?_ ?_ rfl
    · show (upd s.on x.bed.toNat x.ndl.toNat (s.on x.bed.toNat x.ndl.toNat ++ [s.loops.length]) i j).map (naM (s.loops ++ [(x.car, [])])) = onC (can s) x i j
      rw [upd_in h]
      unfold onC
      rw [if_neg e1, if_pos e2]
      simp only [List.map_append, List.map_cons, List.map_nil]
      rw [naM_last, can_len, map_na _ (fun y hy => h.on _ _ y hy)]
      rfl
    · show List.map _ _ = (can s).lps K ++ addC (can s) x K
      rw [lps_app h _ k0 (fun y hy => by simp at hy)]
      unfold addC thC
      by_cases hk : K = x.car.toNat
      · rw [if_pos hk, if_pos ⟨.inr e2, hk⟩, if_neg e1]; rfl
      · rw [if_neg hk, if_neg (fun q => hk q.2)]
    · show s.rack = if x.dk = 6 then x.tt else s.rack
      rw [if_neg (by omega)]
    · show s.loose.map _ = s.loose.map _ ++ lsC (can s) x
      unfold lsC
      rw [if_neg (by omega), List.append_nil]
      exact map_na _ (fun y hy => h.loose y hy)
  rw [if_neg e2]
  have hadd : ∀ K, (can s).lps K ++ addC (can s) x K = (can s).lps K := fun K => by
    unfold addC
    rw [if_neg (fun q => q.1.elim e1 e2), List.append_nil]
  by_cases e4 : x.dk = 4
  · rw [if_pos e4]
    refine cn_ext (fun i j => ?_) (fun K => (hadd K).symm) ?_ ?_ rfl
    · show (upd (upd s.on x.bed.toNat x.ndl.toNat []) (fcB x.bed.toNat) (fcN s.rack x.bed.toNat x.ndl).toNat (s.on (fcB x.bed.toNat) (fcN s.rack x.bed.toNat x.ndl).toNat ++ s.on x.bed.toNat x.ndl.toNat) i j).map (naM s.loops) = onC (can s) x i j
      unfold onC
      have hf : (fun i j => (upd s.on x.bed.toNat x.ndl.toNat [] i j).map (naM s.loops)) = updC (can s).on x.bed.toNat x.ndl.toNat [] := funext fun i => funext fun j => upd_map _ _ _ _ _ _ _
      rw [if_neg e1, if_neg e2, if_pos e4, upd_map, hf, List.map_append]
      rfl
    · show s.rack = if x.dk = 6 then x.tt else s.rack
      rw [if_neg (by omega)]
    · show s.loose.map _ = s.loose.map _ ++ lsC (can s) x
      unfold lsC
      rw [if_neg (by omega), List.append_nil]
  rw [if_neg e4]
  by_cases e5 : x.dk = 5
  · rw [if_pos e5]
    refine cn_ext (fun i j => ?_) (fun K => (hadd K).symm) ?_ ?_ rfl
    · show (upd s.on x.bed.toNat x.ndl.toNat [] i j).map (naM s.loops) = onC (can s) x i j
      unfold onC
      rw [if_neg e1, if_neg e2, if_neg e4, if_pos e5, upd_map]
      rfl
    · show s.rack = if x.dk = 6 then x.tt else s.rack
      rw [if_neg (by omega)]
    · show (s.loose ++ s.on x.bed.toNat x.ndl.toNat).map _ = s.loose.map _ ++ lsC (can s) x
      unfold lsC
      rw [if_pos e5, List.map_append]
      rfl
  rw [if_neg e5]
  have hon : onC (can s) x = (can s).on := by
    unfold onC
    rw [if_neg e1, if_neg e2, if_neg e4, if_neg e5]
  have hlse : (can s).loose ++ lsC (can s) x = (can s).loose := by
    unfold lsC
    rw [if_neg e5, List.append_nil]
  by_cases e6 : x.dk = 6
  · rw [if_pos e6]
    refine cn_ext (fun i j => ?_) (fun K => (hadd K).symm) ?_ hlse.symm rfl
    · show (can s).on i j = onC (can s) x i j
      rw [hon]
    · show x.tt = if x.dk = 6 then x.tt else s.rack
      rw [if_pos e6]
  · rw [if_neg e6]
    refine cn_ext (fun i j => ?_) (fun K => (hadd K).symm) ?_ hlse.symm rfl
    · show (can s).on i j = onC (can s) x i j
      rw [hon]
    · show s.rack = if x.dk = 6 then x.tt else s.rack
      rw [if_neg e6]

/-- the same but for the order of what is loose -/
structure Cq (a b : Cn) : Prop where
  on : a.on = b.on
  lps : a.lps = b.lps
  rack : a.rack = b.rack
  lse : a.loose.Perm b.loose
  dn : a.done = b.done
theorem Cq.do {a b : Cn} (h : Cq a b) (x : Sx) : Cq (doC a x) (doC b x) := by
  obtain ⟨a1, a2, a3, a4, a5⟩ := a
  obtain ⟨b1, b2, b3, b4, b5⟩ := b
  obtain ⟨h1, h2, h3, h4, h5⟩ := h
  dsimp only at h1 h2 h3 h4 h5
  subst h1 h2 h3 h5
  exact ⟨rfl, rfl, rfl, h4.append (List.Perm.refl _), rfl⟩

/-- with which needles a stitch has to do -/
def tcP (r : Int) (x : Sx) (b n : Nat) : Prop := x.dk ≠ 3 ∧ ((b = x.bed.toNat ∧ n = x.ndl.toNat) ∨ (x.dk = 4 ∧ b = fcB x.bed.toNat ∧ n = (fcN r x.bed.toNat x.ndl).toNat))
theorem on_far {c : Cn} {x : Sx} {b n : Nat} (h : ¬ tcP c.rack x b n) : onC c x b n = c.on b n := by
  have h1 : x.dk ≠ 3 → ¬ (b = x.bed.toNat ∧ n = x.ndl.toNat) := fun q e => h ⟨q, .inl e⟩
  unfold onC
  by_cases e1 : x.dk = 1
  · rw [if_pos e1]; exact updC_other _ _ (h1 (by omega))
  rw [if_neg e1]
  by_cases e2 : x.dk = 2
  · rw [if_pos e2]; exact updC_other _ _ (h1 (by omega))
  rw [if_neg e2]
  by_cases e4 : x.dk = 4
  · rw [if_pos e4, updC_other _ _ (fun e => h ⟨by omega, .inr ⟨e4, e⟩⟩)]
    exact updC_other _ _ (h1 (by omega))
  rw [if_neg e4]
  by_cases e5 : x.dk = 5
  · rw [if_pos e5]; exact updC_other _ _ (h1 (by omega))
  rw [if_neg e5]
theorem on_near {c d : Cn} {x : Sx} (hr : d.rack = c.rack) (ho : ∀ b n, tcP c.rack x b n → d.on b n = c.on b n) (hl : x.dk = 1 ∨ x.dk = 2 → (d.lps x.car.toNat).length = (c.lps x.car.toNat).length) {b n : Nat} (h : tcP c.rack x b n) : onC d x b n = onC c x b n := by
  have h0 : x.dk ≠ 3 → d.on x.bed.toNat x.ndl.toNat = c.on x.bed.toNat x.ndl.toNat := fun q => ho _ _ ⟨q, .inl ⟨rfl, rfl⟩⟩
  have hb := ho b n h
  unfold onC
  by_cases e1 : x.dk = 1
  · rw [if_pos e1, if_pos e1, hl (.inl e1)]
    unfold updC
    split
    · rfl
    · exact hb
  rw [if_neg e1, if_neg e1]
  by_cases e2 : x.dk = 2
  · rw [if_pos e2, if_pos e2, hl (.inr e2), h0 (by omega)]
    unfold updC
    split
    · rfl
    · exact hb
  rw [if_neg e2, if_neg e2]
  by_cases e4 : x.dk = 4
  · rw [if_pos e4, if_pos e4, hr, h0 (by omega), ho _ _ ⟨by omega, .inr ⟨e4, rfl, rfl⟩⟩]
    unfold updC
    split
    · rfl
    · split
      · rfl
      · exact hb
  rw [if_neg e4, if_neg e4]
  by_cases e5 : x.dk = 5
  · rw [if_pos e5, if_pos e5]
    unfold updC
    split
    · rfl
    · exact hb
  rw [if_neg e5, if_neg e5]
  exact hb
/-- two that have nothing to do with one another -/
structure Ap (r : Int) (x y : Sx) : Prop where
  nx : x.dk ≠ 6
  ny : y.dk ≠ 6
  car : (x.dk = 1 ∨ x.dk = 2) → (y.dk = 1 ∨ y.dk = 2) → x.car.toNat ≠ y.car.toNat
  ndl : ∀ b n, tcP r x b n → ¬ tcP r y b n
theorem Ap.symm {r : Int} {x y : Sx} (h : Ap r x y) : Ap r y x := ⟨h.ny, h.nx, fun a b e => h.car b a e.symm, fun b n q p => h.ndl b n p q⟩
theorem do_on_far {c : Cn} {x y : Sx} (h : Ap c.rack x y) : (doC c x).rack = c.rack ∧ (∀ b n, tcP c.rack y b n → (doC c x).on b n = c.on b n) ∧ (y.dk = 1 ∨ y.dk = 2 → ((doC c x).lps y.car.toNat) = (c.lps y.car.toNat)) := by
  refine ⟨if_neg h.nx, fun b n q => on_far (fun p => h.ndl b n p q), fun q => ?_⟩
  show c.lps _ ++ addC c x _ = _
  unfold addC
  rw [if_neg (fun p => h.car p.1 q p.2.symm), List.append_nil]
theorem th_near {c : Cn} {x y : Sx} (h : Ap c.rack x y) (K : Nat) : addC (doC c x) y K = addC c y K ∧ lsC (doC c x) y = lsC c y := by
  obtain ⟨-, ho, -⟩ := do_on_far h
  have h0 : y.dk ≠ 3 → (doC c x).on y.bed.toNat y.ndl.toNat = c.on y.bed.toNat y.ndl.toNat := fun q => ho _ _ ⟨q, .inl ⟨rfl, rfl⟩⟩
  have e1 : thC (doC c x) y = thC c y := by
    unfold thC
    by_cases e : y.dk = 1
    · rw [if_pos e, if_pos e]; exact h0 (by omega)
    · rw [if_neg e, if_neg e]
  unfold addC lsC
  rw [e1]
  refine ⟨rfl, ?_⟩
  by_cases e : y.dk = 5
  · rw [if_pos e, if_pos e]; exact h0 (by omega)
  · rw [if_neg e, if_neg e]
theorem do_two {c : Cn} {x y : Sx} (h : Ap c.rack x y) (b n : Nat) : (doC (doC c x) y).on b n = (doC (doC c y) x).on b n := by
  obtain ⟨r1, o1, l1⟩ := do_on_far h
  obtain ⟨r2, o2, l2⟩ := do_on_far h.symm
  show onC (doC c x) y b n = onC (doC c y) x b n
  by_cases ty : tcP c.rack y b n
  · have tx : ¬ tcP c.rack x b n := fun p => h.ndl b n p ty
    rw [on_near r1 o1 (fun q => by rw [l1 q]) ty, on_far (c := doC c y) (by rw [r2]; exact tx)]
    rfl
  · rw [on_far (c := doC c x) (by rw [r1]; exact ty)]
    by_cases tx : tcP c.rack x b n
    · rw [on_near r2 o2 (fun q => by rw [l2 q]) tx]
      rfl
    · rw [on_far (c := doC c y) (by rw [r2]; exact tx)]
      show onC c x b n = onC c y b n
      rw [on_far tx, on_far ty]
theorem do_swap {c : Cn} {x y : Sx} (h : Ap c.rack x y) : Cq (doC (doC c x) y) (doC (doC c y) x) where
  on := funext fun b => funext fun n => do_two h b n
  lps := funext fun K => by
    show (c.lps K ++ addC c x K) ++ addC (doC c x) y K = (c.lps K ++ addC c y K) ++ addC (doC c y) x K
    rw [(th_near h K).1, (th_near h.symm K).1, List.append_assoc, List.append_assoc]
    congr 1
    by_cases ex : (x.dk = 1 ∨ x.dk = 2) ∧ K = x.car.toNat
    · have ey : ¬ ((y.dk = 1 ∨ y.dk = 2) ∧ K = y.car.toNat) := fun q => h.car ex.1 q.1 (ex.2.symm.trans q.2)
      rw [show addC c y K = [] from if_neg ey, List.append_nil, List.nil_append]
    · rw [show addC c x K = [] from if_neg ex, List.append_nil, List.nil_append]
  rack := by
    show (if y.dk = 6 then _ else if x.dk = 6 then _ else _) = (if x.dk = 6 then _ else if y.dk = 6 then _ else _)
    rw [if_neg h.ny, if_neg h.nx, if_neg h.nx, if_neg h.ny]
  lse := by
    show ((c.loose ++ lsC c x) ++ lsC (doC c x) y).Perm ((c.loose ++ lsC c y) ++ lsC (doC c y) x)
    rw [(th_near h 0).2, (th_near h.symm 0).2, List.append_assoc, List.append_assoc]
    exact (List.Perm.refl _).append List.perm_append_comm
  dn := rfl

/-- a stitch is refused for the needles it has to do with, the rack and the count alone -/
theorem wrE_len {N : Nat} {s s' : St} {x : Sx} (ho : ∀ b n, tcP s.rack x b n → (s'.on b n).length = (s.on b n).length) (hr : s'.rack = s.rack) (h1 : s.done < 4096) (h2 : s'.done < 4096) : wrE N s' x = wrE N s x := by
  unfold wrE
  by_cases k1 : x.dk < 1 ∨ 6 < x.dk
  · rw [if_pos k1, if_pos k1]
  rw [if_neg k1, if_neg k1, if_neg (show ¬ 4096 ≤ s'.done by omega), if_neg (show ¬ 4096 ≤ s.done by omega)]
  by_cases k6 : x.dk = 6
  · rw [if_pos k6, if_pos k6]
  rw [if_neg k6, if_neg k6]
  cases k3 : hasB N x.bed x.ndl with
  | false => rw [if_pos rfl, if_pos rfl]
  | true =>
    rw [if_neg (show ¬ (true = false) by decide), if_neg (show ¬ (true = false) by decide)]
    by_cases k4 : usB x.dk = true ∧ (x.car < 0 ∨ 8 ≤ x.car)
    · rw [if_pos k4, if_pos k4]
    rw [if_neg k4, if_neg k4]
    have hh := (hasB_iff _ _ _).1 k3
    have hn : ((x.ndl.toNat : Nat) : Int) = x.ndl := by omega
    by_cases e3 : x.dk = 3
    · unfold wnE whN
      rw [e3]
      simp [neB]
    have ho0 := ho x.bed.toNat x.ndl.toNat ⟨e3, .inl ⟨rfl, rfl⟩⟩
    unfold wnE whN
    rw [hr, ho0]
    by_cases e4 : x.dk = 4
    · rw [hn, ho _ _ ⟨e3, .inr ⟨e4, rfl, rfl⟩⟩]
    · simp only [e4, false_and, if_false]

/-- by names, what has been made -/
def ofL (L : Nat → List (List (Nat × Nat))) : Nat → Nat
  | 0 => 0
  | K + 1 => ofL L K + (L K).length
def nmC (c : Cn) (p : Nat × Nat) : Nat := ofL c.lps p.1 + p.2
def flC (c : Cn) : Nat → List (Int × List Nat)
  | 0 => []
  | M + 1 => flC c M ++ (c.lps M).map fun th => ((M : Int), th.map (nmC c))
def reC (N : Nat) (c : Cn) : Kn := ⟨flC c 8, (List.range N).map fun j => (c.on 0 j).map (nmC c), (List.range N).map fun j => (c.on 1 j).map (nmC c), soL (c.loose.map (nmC c)), c.rack⟩
theorem ofL_ix (s : St) (K : Nat) : ofL (can s).lps K = (ixL (carF s.loops) s.loops.length K).length := by
  induction K with
  | zero => rfl
  | succ K ih =>
    show ofL (can s).lps K + ((can s).lps K).length = _
    simp only [ixL, List.length_append]
    rw [ih, can_len, lsF_len]
theorem nmC_na (s : St) (x : Nat) : nmC (can s) (naM s.loops x) = nm (carF s.loops) s.loops.length x := by
  unfold nmC nm
  rw [ofL_ix]
  rfl
theorem map_nmC (s : St) (xs : List Nat) : (xs.map (naM s.loops)).map (nmC (can s)) = xs.map (nm (carF s.loops) s.loops.length) := by
  rw [List.map_map]
  exact List.map_congr_left (fun x _ => nmC_na s x)
theorem kn_ext {a b : Kn} (h1 : a.loops = b.loops) (h2 : a.front = b.front) (h3 : a.back = b.back) (h4 : a.loose = b.loose) (h5 : a.rack = b.rack) : a = b := by
  cases a
  cases b
  dsimp only at h1 h2 h3 h4 h5
  subst h1 h2 h3 h4 h5
  rfl
theorem re_can (N : Nat) (s : St) : reN (tell N s) = reC N (can s) := by
  have h1 : ∀ M, (ixL (carF s.loops) s.loops.length M).map (fun x => (carF s.loops x, (thrF s.loops x).map (nm (carF s.loops) s.loops.length))) = flC (can s) M := by
    intro M
    induction M with
    | zero => rfl
    | succ M ih =>
      simp only [ixL, flC, List.map_append, ih]
      congr 1
      show _ = ((lsF (eqB (carF s.loops) M) s.loops.length).map fun x => (thrF s.loops x).map (naM s.loops)).map _
      rw [List.map_map]
      refine List.map_congr_left (fun x hx => ?_)
      have := (lsF_mem hx).2
      have hc : carF s.loops x = (M : Int) := by simpa [eqB] using this
      show (carF s.loops x, _) = ((M : Int), List.map (nmC (can s)) (List.map (naM s.loops) (thrF s.loops x)))
      rw [map_nmC, hc]
  have h2 : ∀ i, ((List.range N).map (s.on i)).map (fun l => l.map (nm (carF s.loops) s.loops.length)) = (List.range N).map fun j => ((can s).on i j).map (nmC (can s)) := by
    intro i
    rw [List.map_map]
    refine List.map_congr_left (fun j _ => ?_)
    show (s.on i j).map _ = ((s.on i j).map (naM s.loops)).map _
    rw [map_nmC]
  refine kn_ext (h1 8) (h2 0) (h2 1) ?_ rfl
  show soL (s.loose.map _) = soL ((s.loose.map (naM s.loops)).map _)
  rw [map_nmC]
  rfl
theorem nmC_eq {a b : Cn} (h : a.lps = b.lps) : nmC a = nmC b := by
  funext p
  unfold nmC
  rw [h]
theorem flC_eq {a b : Cn} (h : a.lps = b.lps) (M : Nat) : flC a M = flC b M := by
  induction M with
  | zero => rfl
  | succ M ih =>
    simp only [flC]
    rw [ih, h, nmC_eq h]
theorem re_cq {N : Nat} {a b : Cn} (h : Cq a b) : reC N a = reC N b := by
  have e := nmC_eq h.lps
  refine kn_ext (flC_eq h.lps 8) ?_ ?_ ?_ h.rack
  · show (List.range N).map (fun j => (a.on 0 j).map (nmC a)) = (List.range N).map (fun j => (b.on 0 j).map (nmC b))
    rw [h.on, e]
  · show (List.range N).map (fun j => (a.on 1 j).map (nmC a)) = (List.range N).map (fun j => (b.on 1 j).map (nmC b))
    rw [h.on, e]
  · show soL (a.loose.map (nmC a)) = soL (b.loose.map (nmC b))
    rw [e]
    exact so_perm (h.lse.map _)

theorem okR_two (N : Nat) (l m : List Sx) : ∀ s, okR N s (l ++ m) ↔ okR N s l ∧ okR N (enR s l) m := by
  induction l with
  | nil => intro s; simp [okR, enR]
  | cons y l ih =>
    intro s
    simp only [List.cons_append, okR, enR, ih, and_assoc]
theorem enR_two (l m : List Sx) : ∀ s, enR s (l ++ m) = enR (enR s l) m := by
  induction l with
  | nil => intro s; rfl
  | cons y l ih =>
    intro s
    simp only [List.cons_append, enR, ih]
theorem Bd.run {N : Nat} (l : List Sx) : ∀ s, Bd s → okR N s l → Bd (enR s l) := by
  induction l with
  | nil => intro s h _; exact h
  | cons y l ih => intro s h ho; exact ih _ (h.next ho.1) ho.2
theorem cq_len {s s' : St} (h : Cq (can s) (can s')) (b n : Nat) : (s'.on b n).length = (s.on b n).length := by
  have := congrArg List.length (congrFun (congrFun h.on b) n)
  rw [can_on, can_on, List.length_map, List.length_map] at this
  exact this.symm
/-- what comes behind does the same -/
theorem cq_run {N : Nat} (l : List Sx) : ∀ s s', Bd s → Bd s' → Cq (can s) (can s') → okR N s l → okR N s' l ∧ Cq (can (enR s l)) (can (enR s' l)) := by
  induction l with
  | nil => intro s s' _ _ h _; exact ⟨trivial, h⟩
  | cons x l ih =>
    intro s s' hb hb' h ho
    have hd := (wrE_zero ho.1).2.2.1
    have hdn : s.done = s'.done := h.dn
    have hw : wrE N s' x = 0 := by rw [wrE_len (s := s) (fun b n _ => cq_len h b n) h.rack.symm hd (by omega)]; exact ho.1
    have hc : Cq (can (doS s x)) (can (doS s' x)) := by rw [can_do hb ho.1, can_do hb' hw]; exact h.do x
    have := ih _ _ (hb.next ho.1) (hb'.next hw) hc ho.2
    exact ⟨⟨hw, this.1⟩, this.2⟩
theorem do_far_len {N : Nat} {s : St} {x y : Sx} (hb : Bd s) (hx : wrE N s x = 0) (h : Ap s.rack x y) : ∀ b n, tcP s.rack y b n → ((doS s x).on b n).length = (s.on b n).length := by
  intro b n q
  have := congrArg (fun c : Cn => (c.on b n).length) (can_do hb hx)
  rw [(do_on_far (c := can s) h).2.1 b n q, can_on, can_on, List.length_map, List.length_map] at this
  exact this
theorem do_rack_same {s : St} {x : Sx} (h : x.dk ≠ 6) : (doS s x).rack = s.rack := by rw [do_rack_is, if_neg h]
theorem do_done (s : St) (x : Sx) : (doS s x).done = s.done + 1 := by
  unfold doS cnt doX
  by_cases e1 : x.dk = 1
  · rw [if_pos e1]
  rw [if_neg e1]
  by_cases e2 : x.dk = 2
  · rw [if_pos e2]
  rw [if_neg e2]
  by_cases e4 : x.dk = 4
  · rw [if_pos e4]
  rw [if_neg e4]
  by_cases e5 : x.dk = 5
  · rw [if_pos e5]
  rw [if_neg e5]
  by_cases e6 : x.dk = 6
  · rw [if_pos e6]
  · rw [if_neg e6]
/-- two that have nothing to do with one another come in either order -/
theorem swap_two {N : Nat} {s : St} {x y : Sx} (hb : Bd s) (h : Ap s.rack x y) (hx : wrE N s x = 0) (hy : wrE N (doS s x) y = 0) : wrE N s y = 0 ∧ wrE N (doS s y) x = 0 ∧ Cq (can (doS (doS s x) y)) (can (doS (doS s y) x)) := by
  have d1 := (wrE_zero hx).2.2.1
  have d2 := (wrE_zero hy).2.2.1
  rw [do_done] at d2
  have y0 : wrE N s y = 0 := by
    rw [← hy]
    exact (wrE_len (do_far_len hb hx h) (do_rack_same h.nx) d1 (by rw [do_done]; exact d2)).symm
  have x0 : wrE N (doS s y) x = 0 := by
    rw [wrE_len (do_far_len hb y0 h.symm) (do_rack_same h.ny) d1 (by rw [do_done]; exact d2)]
    exact hx
  refine ⟨y0, x0, ?_⟩
  rw [can_do (hb.next hx) hy, can_do hb hx, can_do (hb.next y0) x0, can_do hb y0]
  exact do_swap h
theorem swap_list {N : Nat} {l m : List Sx} {x y : Sx} (h : okR N s0 (l ++ x :: y :: m)) (ha : Ap (enR s0 l).rack x y) : okR N s0 (l ++ y :: x :: m) ∧ Cq (can (enR s0 (l ++ x :: y :: m))) (can (enR s0 (l ++ y :: x :: m))) := by
  obtain ⟨h1, h2, h3, h4⟩ := (okR_two N l (x :: y :: m) s0).1 h
  have hb := Bd.run l s0 Bd.zero h1
  obtain ⟨a1, a2, a3⟩ := swap_two hb ha h2 h3
  have := cq_run m _ _ ((hb.next h2).next h3) ((hb.next a1).next a2) a3 h4
  refine ⟨(okR_two N l (y :: x :: m) s0).2 ⟨h1, a1, a2, this.1⟩, ?_⟩
  rw [enR_two, enR_two]
  exact this.2

/-- the rack that there is -/
def rkF (g : Nat → Sx) : Nat → Int
  | 0 => 0
  | i + 1 => if (g i).dk = 6 then (g i).tt else rkF g i
theorem rk_run (g : Nat → Sx) (i : Nat) : (enR s0 (lsG g i)).rack = rkF g i := by
  induction i with
  | zero => rfl
  | succ i ih =>
    rw [lsG_succ, enR_app, do_rack_is, ih]
    rfl
/-- a needle that a stitch touches is among its needles -/
theorem tc_mem {N : Nat} {r : Int} {x : Sx} {b n : Nat} (hN : N ≤ 128) (hv : ∃ b n : Nat, x.bed = b ∧ x.ndl = n ∧ b < 2 ∧ n < N ∧ (x.dk = 4 → hasB N (fcB b) (fcN r b n) = true)) (h : tcP r x b n) : ((b : Int), (n : Int)) ∈ ndL x r := by
  obtain ⟨b0, n0, e1, e2, hb, hn, h4⟩ := hv
  obtain ⟨k3, hc⟩ := h
  have eb : x.bed.toNat = b0 := by omega
  have en : x.ndl.toNat = n0 := by omega
  rw [eb, en] at hc
  unfold ndL
  rw [if_neg k3]
  rcases hc with ⟨rfl, rfl⟩ | ⟨q, rfl, rfl⟩
  · by_cases q : x.dk = 4
    · rw [if_pos q, e1, e2]; simp
    · rw [if_neg q, e1, e2]; simp
  · rw [if_pos q, e1, e2]
    have hh := (hasB_iff _ _ _).1 (h4 q)
    have : (((fcB b0 : Nat) : Int), (((fcN r b0 (n0 : Int)).toNat : Nat) : Int)) = fcI (b0 : Int) (n0 : Int) r := by
      unfold fcI fcB fcN
      unfold fcN at hh
      by_cases z : b0 = 0
      · subst z
        simp only [if_true] at hh ⊢
        rw [if_pos (by rfl)]
        have : wrap64 ((n0 : Int) - r) = (n0 : Int) - r := by unfold wrap64; omega
        rw [this]
        exact Prod.ext rfl (by dsimp only; omega)
      · rw [if_neg z] at hh
        rw [if_neg z, if_neg z, if_neg (by omega)]
        have : wrap64 ((n0 : Int) + r) = (n0 : Int) + r := by unfold wrap64; omega
        rw [this]
        exact Prod.ext rfl (by dsimp only; omega)
    rw [e2] at *
    rw [this]
    simp
theorem mem_mt {a b : List (Int × Int)} {p : Int × Int} (h1 : p ∈ a) (h2 : p ∈ b) : mtB a b = true := by
  unfold mtB
  rw [List.any_eq_true]
  refine ⟨p, h1, ?_⟩
  rw [List.any_eq_true]
  exact ⟨p, h2, by simp⟩
theorem val_of {N : Nat} {s : St} {x : Sx} (h : wrE N s x = 0) (h6 : x.dk ≠ 6) : (∃ b n : Nat, x.bed = b ∧ x.ndl = n ∧ b < 2 ∧ n < N ∧ (x.dk = 4 → hasB N (fcB b) (fcN s.rack b n) = true)) ∧ (x.dk = 1 ∨ x.dk = 2 → 0 ≤ x.car) := by
  obtain ⟨-, -, -, -, dn⟩ := wrE_zero h
  obtain ⟨b, n, e1, e2, hb, hn, hc, hz⟩ := dn h6
  refine ⟨⟨b, n, e1, e2, hb, hn, (wnE_zero hz).1⟩, fun q => (hc ?_).1⟩
  rcases q with q | q <;> (rw [q]; rfl)
/-- what May allows -/
theorem may_ap {N : Nat} {s : St} {x y : Sx} (hN : N ≤ 128) (hx : wrE N s x = 0) (hy : wrE N (doS s x) y = 0) (hm : mayB x y s.rack = true) : Ap s.rack x y := by
  unfold mayB at hm
  simp only [Bool.and_eq_true, Bool.not_eq_true', Bool.or_eq_false_iff] at hm
  obtain ⟨⟨m1, m2⟩, m3, m4⟩ := hm
  have n1 : x.dk ≠ 6 := by simpa [rkB] using m1
  have n2 : y.dk ≠ 6 := by simpa [rkB] using m2
  have vx := val_of hx n1
  have vy := val_of hy n2
  rw [do_rack_same n1] at vy
  refine ⟨n1, n2, fun a b e => ?_, fun b n p q => ?_⟩
  · have c1 := vx.2 a
    have c2 := vy.2 b
    have e3 : x.car = y.car := by omega
    have k1 : mkB x = true := by unfold mkB; rcases a with a | a <;> simp [a]
    have k2 : mkB y = true := by unfold mkB; rcases b with b | b <;> simp [b]
    rw [k1, k2, e3] at m3
    simp at m3
  · have := mem_mt (tc_mem hN vx.1 p) (tc_mem hN vy.1 q)
    rw [this] at m4
    cases m4

/-- two neighbours exchanged -/
def swF (g : Nat → Sx) (i : Nat) : Nat → Sx := fun j => if j = i then g (i + 1) else if j = i + 1 then g i else g j
theorem lsG_split {g : Nat → Sx} {n i : Nat} (h : i + 1 < n) : lsG g n = lsG g i ++ g i :: g (i + 1) :: (lsG g n).drop (i + 2) := by
  have e1 : (lsG g n).take i = lsG g i := by
    unfold lsG
    rw [← List.map_take, List.take_range, Nat.min_eq_left (by omega)]
  rw [← e1, ← lsG_drop (show i + 1 < n from h), ← lsG_drop (by omega), List.take_append_drop]
theorem lsG_congr {g h : Nat → Sx} {n : Nat} (e : ∀ j, j < n → g j = h j) : lsG g n = lsG h n := by
  unfold lsG
  exact List.map_congr_left (fun j hj => e j (by simpa using hj))
theorem lsG_swap {g : Nat → Sx} {n i : Nat} (h : i + 1 < n) : lsG (swF g i) n = lsG g i ++ g (i + 1) :: g i :: (lsG g n).drop (i + 2) := by
  have e1 : lsG (swF g i) i = lsG g i := lsG_congr (fun j hj => by unfold swF; rw [if_neg (by omega), if_neg (by omega)])
  have e2 : swF g i i = g (i + 1) := by unfold swF; rw [if_pos rfl]
  have e3 : swF g i (i + 1) = g i := by unfold swF; rw [if_neg (by omega), if_pos rfl]
  have e4 : (lsG (swF g i) n).drop (i + 2) = (lsG g n).drop (i + 2) := by
    apply List.ext_getElem?
    intro j
    rw [List.getElem?_drop, List.getElem?_drop]
    unfold lsG
    rw [List.getElem?_map, List.getElem?_map]
    rcases Nat.lt_or_ge (i + 2 + j) n with d | d
    · rw [List.getElem?_range d]
      show some (swF g i (i + 2 + j)) = some (g (i + 2 + j))
      unfold swF
      rw [if_neg (by omega), if_neg (by omega)]
    · rw [List.getElem?_eq_none (by simpa using d)]
      rfl
  have := lsG_split (g := swF g i) h
  rw [e1, e2, e3, e4] at this
  exact this
/-- one exchange -/
theorem swap_ok {N : Nat} {g : Nat → Sx} {n i : Nat} (hN : N ≤ 128) (h : ∀ k, k < n → erS N g k = 0) (hi : i + 1 < n) (hm : mayB (g i) (g (i + 1)) (rkF g i) = true) : (∀ k, k < n → erS N (swF g i) k = 0) ∧ reN (tell N (knS N (swF g i) n)) = reN (tell N (knS N g n)) := by
  have h1 := (kn_list N g n).1.1 h
  rw [lsG_split hi] at h1
  obtain ⟨o1, o2, o3, o4⟩ := (okR_two N _ _ s0).1 h1
  have ha : Ap (enR s0 (lsG g i)).rack (g i) (g (i + 1)) := may_ap hN o2 o3 (by rw [rk_run]; exact hm)
  have hs := swap_list h1 ha
  have k1 := kn_list N (swF g i) n
  rw [lsG_swap hi] at k1
  have h2 := k1.1.2 hs.1
  refine ⟨h2, ?_⟩
  have k2 := (kn_list N g n).2 h
  rw [lsG_split hi] at k2
  rw [k1.2 h2, k2, re_can, re_can]
  exact (re_cq hs.2).symm
end Go.Proofs.Ytancniamgfppiaa
