/-
  The mathematics of passes: ways to stand, passes, how far it is, the first of the shortest lists; mirrored.
-/
import Derived.Test.YtpdknodnlamphaaBase
namespace Go.Proofs.Ytpdknodnlamphaa

def gt (l : List Int) (i : Nat) : Int := l.getD i 0
def tl (n : Nat) (f : Nat → Int) : List Int := (List.range n).map f
@[simp] theorem tl_len (n : Nat) (f : Nat → Int) : (tl n f).length = n := by simp [tl]
theorem gt_tl {n i : Nat} (f : Nat → Int) (h : i < n) : gt (tl n f) i = f i := by simp [gt, tl, List.getD, List.getElem?_range h]
theorem gt_out {l : List Int} {i : Nat} (h : l.length ≤ i) : gt l i = 0 := by simp [gt, List.getD, List.getElem?_eq_none h]
theorem list_ext {l m : List Int} (hl : l.length = m.length) (h : ∀ i, i < l.length → gt l i = gt m i) : l = m := by
  refine List.ext_getElem hl fun i h1 h2 => ?_
  have := h i h1
  simpa [gt, List.getD, List.getElem?_eq_getElem h1, List.getElem?_eq_getElem h2] using this
theorem tl_gt (l : List Int) : tl l.length (gt l) = l := list_ext (by simp) (fun i hi => gt_tl _ (by simpa using hi))
theorem tl_congr {n : Nat} {f g : Nat → Int} (h : ∀ i, i < n → f i = g i) : tl n f = tl n g := list_ext (by simp) fun i hi => by
  have hi : i < n := by simpa using hi
  rw [gt_tl f hi, gt_tl g hi, h i hi]

/-- loops may stand so -/
def Stn (n : Nat) (t : Nat → Int) (sl : Int) (f : Nat → Int) : Prop :=
  ∀ i, i < n → (0 ≤ f i ∧ f i ≤ 11) ∧ (0 < i → f (i - 1) ≤ f i ∧ f i - f (i - 1) ≤ sl ∧ (f i = f (i - 1) → t i = t (i - 1)))
theorem Stn.congr {n : Nat} {t t' : Nat → Int} {sl : Int} {f g : Nat → Int} (ht : ∀ i, i < n → t i = t' i) (hf : ∀ i, i < n → f i = g i) (h : Stn n t sl f) : Stn n t' sl g := by
  intro i hi
  obtain ⟨h1, h2⟩ := h i hi
  rw [hf i hi] at h1
  refine ⟨h1, fun h0 => ?_⟩
  have := h2 h0
  rw [hf i hi, hf (i - 1) (by omega), ht i hi, ht (i - 1) (by omega)] at this
  exact this

/-- what is to be done: so many loops, where to, and how far apart they may be -/
structure Pz where
  n : Nat
  t : Nat → Int
  sl : Int
def Pz.E (z : Pz) : List Int := tl z.n z.t
abbrev Ps := Int × Nat
def okP (n : Nat) (p : Ps) : Prop := (-2 ≤ p.1 ∧ p.1 ≤ 2 ∧ p.1 ≠ 0) ∧ 1 ≤ p.2 ∧ p.2 < 2 ^ n
def OkS (z : Pz) (l : List Int) : Prop := l.length = z.n ∧ Stn z.n z.t z.sl (gt l)
/-- behind a pass -/
def bh (l : List Int) (p : Ps) : List Int := tl l.length fun i => gt l i + if p.2.testBit i then p.1 else 0
@[simp] theorem bh_len (l : List Int) (p : Ps) : (bh l p).length = l.length := by simp [bh]
theorem bh_gt {l : List Int} {p : Ps} {i : Nat} (h : i < l.length) : gt (bh l p) i = gt l i + if p.2.testBit i then p.1 else 0 := gt_tl _ h
theorem bh_back (l : List Int) (p : Ps) : bh (bh l p) (-p.1, p.2) = l := by
  refine list_ext (by simp) fun i hi => ?_
  have hi : i < l.length := by simpa using hi
  rw [bh_gt (by simpa using hi), bh_gt hi]
  split <;> omega
theorem okP_back {n : Nat} {p : Ps} (h : okP n p) : okP n (-p.1, p.2) := by unfold okP at *; dsimp only at *; omega

/-- so many passes lead to where loops stand so, from where they are to go -/
def rc (z : Pz) : Nat → List Int → Prop
  | 0, l => l = z.E
  | k + 1, l => ∃ m p, rc z k m ∧ okP z.n p ∧ l = bh m p ∧ OkS z l
def dst (z : Pz) (k : Nat) (l : List Int) : Prop := rc z k l ∧ ∀ j, j < k → ¬ rc z j l
theorem dst_unique {z : Pz} {k j : Nat} {l : List Int} (h : dst z k l) (h' : dst z j l) : k = j := by
  rcases Nat.lt_trichotomy k j with q | q | q
  · exact absurd h.1 (h'.2 k q)
  · exact q
  · exact absurd h'.1 (h.2 j q)
theorem rc_dst {z : Pz} {k : Nat} {l : List Int} (h : rc z k l) : ∃ j, j ≤ k ∧ dst z j l := by
  induction k using Nat.strongRecOn with
  | _ k ih =>
    by_cases hx : ∃ j, j < k ∧ rc z j l
    · obtain ⟨j, hj, hr⟩ := hx
      obtain ⟨i, hi, hd⟩ := ih j hj hr
      exact ⟨i, by omega, hd⟩
    · exact ⟨k, Nat.le_refl _, h, fun j hj hr => hx ⟨j, hj, hr⟩⟩
theorem rc_ok {z : Pz} (hE : OkS z z.E) {k : Nat} {l : List Int} (h : rc z k l) : OkS z l := by
  cases k with
  | zero => rw [show l = z.E from h]; exact hE
  | succ k => obtain ⟨_, _, _, _, _, h⟩ := h; exact h
theorem rc_next {z : Pz} {k : Nat} {m : List Int} {p : Ps} (h : rc z k m) (hp : okP z.n p) (hs : OkS z (bh m p)) : rc z (k + 1) (bh m p) := ⟨m, p, h, hp, rfl, hs⟩
/-- passes go back as they go there -/
theorem rc_prev {z : Pz} {k : Nat} {l : List Int} {p : Ps} (h : rc z k (bh l p)) (hp : okP z.n p) (hs : OkS z l) : rc z (k + 1) l :=
  ⟨bh l p, (-p.1, p.2), h, okP_back hp, (bh_back l p).symm, hs⟩
theorem dst_next {z : Pz} {k j : Nat} {l : List Int} {p : Ps} (h : dst z k l) (hp : okP z.n p) (hs : OkS z l) (hj : rc z j (bh l p)) : k ≤ j + 1 := by
  rcases Nat.lt_or_ge (j + 1) k with q | q
  · exact absurd (rc_prev hj hp hs) (h.2 _ q)
  · exact q

/-- passes do it -/
def Does (z : Pz) : List Int → List Ps → Prop
  | l, [] => l = z.E
  | l, p :: r => okP z.n p ∧ OkS z (bh l p) ∧ Does z (bh l p) r
theorem does_rc {z : Pz} : ∀ {r : List Ps} {l : List Int}, OkS z l → Does z l r → rc z r.length l
  | [], _, _, h => h
  | _ :: _, _, hs, ⟨hp, hb, h⟩ => rc_prev (does_rc hb h) hp hs
theorem does_least {z : Pz} {k : Nat} {l : List Int} {r : List Ps} (hs : OkS z l) (hd : dst z k l) (h : Does z l r) : k ≤ r.length := by
  rcases Nat.lt_or_ge r.length k with q | q
  · exact absurd (does_rc hs h) (hd.2 _ q)
  · exact q

/-- all passes, in their order -/
def rowP (n : Nat) (b : Int) : List Ps := if b = 0 then [] else (List.range (2 ^ n - 1)).map fun w => (b, w + 1)
def upP (n : Nat) : Nat → List Ps
  | 0 => []
  | k + 1 => upP n k ++ rowP n ((k : Int) - 2)
def allP (n : Nat) : List Ps := upP n 5
theorem mem_rowP {n : Nat} {b : Int} {p : Ps} : p ∈ rowP n b ↔ p.1 = b ∧ b ≠ 0 ∧ 1 ≤ p.2 ∧ p.2 < 2 ^ n := by
  unfold rowP
  have hp := Nat.two_pow_pos n
  split
  · rename_i h; simp [h]
  · rename_i h
    rw [List.mem_map]
    constructor
    · rintro ⟨w, hw, rfl⟩
      have := List.mem_range.1 hw
      exact ⟨rfl, h, by dsimp only; omega, by dsimp only; omega⟩
    · rintro ⟨rfl, _, h1, h2⟩
      exact ⟨p.2 - 1, List.mem_range.2 (by omega), Prod.ext rfl (by dsimp only; omega)⟩
theorem mem_upP {n k : Nat} {p : Ps} : p ∈ upP n k ↔ (-2 ≤ p.1 ∧ p.1 < (k : Int) - 2 ∧ p.1 ≠ 0) ∧ 1 ≤ p.2 ∧ p.2 < 2 ^ n := by
  induction k with
  | zero => simp [upP]; omega
  | succ k ih =>
    rw [upP, List.mem_append, ih, mem_rowP]
    constructor
    · rintro (h | h)
      · obtain ⟨h, h'⟩ := h; exact ⟨by omega, h'⟩
      · obtain ⟨h1, h2, h'⟩ := h; exact ⟨by omega, h'⟩
    · rintro ⟨h, h'⟩
      by_cases e : p.1 = (k : Int) - 2
      · exact .inr ⟨e, by omega, h'⟩
      · exact .inl ⟨by omega, h'⟩
theorem mem_allP {n : Nat} {p : Ps} : p ∈ allP n ↔ okP n p := by
  unfold allP okP
  rw [mem_upP]
  constructor
  · rintro ⟨h, h'⟩; exact ⟨by omega, h'⟩
  · rintro ⟨h, h'⟩; exact ⟨by omega, h'⟩

/-- the passes that may be done where loops stand so -/
noncomputable def fromP (z : Pz) (l : List Int) : List Ps := (allP z.n).filter fun p => @decide (OkS z (bh l p)) (Classical.propDecidable _)
theorem mem_fromP {z : Pz} {l : List Int} {p : Ps} : p ∈ fromP z l ↔ okP z.n p ∧ OkS z (bh l p) := by simp [fromP, mem_allP]
/-- the first pass behind which it is so far -/
noncomputable def pick (z : Pz) (k : Nat) (l : List Int) : Ps := ((fromP z l).find? fun p => @decide (dst z k (bh l p)) (Classical.propDecidable _)).getD (0, 0)
theorem pick_ok {z : Pz} (hE : OkS z z.E) {k : Nat} {l : List Int} (hd : dst z (k + 1) l) : okP z.n (pick z k l) ∧ OkS z (bh l (pick z k l)) ∧ dst z k (bh l (pick z k l)) := by
  obtain ⟨m, p, hm, hp, rfl, hs⟩ := hd.1
  have hmo := rc_ok hE hm
  have e := bh_back m p
  have hd2 : dst z k m := by
    obtain ⟨j, hj, hdj⟩ := rc_dst hm
    have := hd.2 (j + 1)
    by_cases q : j = k
    · exact q ▸ hdj
    · exact absurd (rc_next hdj.1 hp hs) (this (by omega))
  have hex : ((fromP z (bh m p)).find? fun q => @decide (dst z k (bh (bh m p) q)) (Classical.propDecidable _)).isSome := by
    rw [List.find?_isSome]
    exact ⟨(-p.1, p.2), mem_fromP.2 ⟨okP_back hp, by rw [e]; exact hmo⟩, by rw [e]; simpa using hd2⟩
  obtain ⟨q, hq⟩ := Option.isSome_iff_exists.1 hex
  have h1 := List.mem_of_find?_eq_some hq
  have h2 := List.find?_some hq
  have e2 : pick z k (bh m p) = q := by unfold pick; rw [hq]; rfl
  rw [e2]
  obtain ⟨h3, h4⟩ := mem_fromP.1 h1
  exact ⟨h3, h4, by simpa using h2⟩
theorem pick_first {z : Pz} {k : Nat} {l : List Int} {pre : List Ps} {p : Ps} (hpre : pre ++ [p] <+: fromP z l) (hn : ∀ q ∈ pre, ¬ dst z k (bh l q)) (hp : dst z k (bh l p)) : pick z k l = p := by
  obtain ⟨post, e⟩ := hpre
  unfold pick
  rw [← e, List.append_assoc, List.find?_append]
  have : (pre.find? fun q => @decide (dst z k (bh l q)) (Classical.propDecidable _)) = none := by
    rw [List.find?_eq_none]
    intro q hq
    simpa using hn q hq
  rw [this]
  simp [hp]
theorem pick_some {z : Pz} (hE : OkS z z.E) {k : Nat} {l : List Int} (hd : dst z (k + 1) l) : ∃ q ∈ fromP z l, dst z k (bh l q) := by
  obtain ⟨h1, h2, h3⟩ := pick_ok hE hd
  exact ⟨_, mem_fromP.2 ⟨h1, h2⟩, h3⟩
/-- the list that comes first of the shortest -/
noncomputable def plan (z : Pz) : Nat → List Int → List Ps
  | 0, _ => []
  | k + 1, l => pick z k l :: plan z k (bh l (pick z k l))
theorem plan_len (z : Pz) : ∀ (k : Nat) (l : List Int), (plan z k l).length = k
  | 0, _ => rfl
  | k + 1, l => by simp [plan, plan_len z k]
theorem plan_does {z : Pz} (hE : OkS z z.E) : ∀ {k : Nat} {l : List Int}, dst z k l → Does z l (plan z k l)
  | 0, _, hd => hd.1
  | _ + 1, _, hd => ⟨(pick_ok hE hd).1, (pick_ok hE hd).2.1, plan_does hE (pick_ok hE hd).2.2⟩
/-- where loops stand behind the first passes of the list -/
noncomputable def planAt (z : Pz) : Nat → List Int → Nat → List Int
  | _, l, 0 => l
  | 0, l, _ + 1 => l
  | k + 1, l, i + 1 => planAt z k (bh l (pick z k l)) i
theorem planAt_dst {z : Pz} (hE : OkS z z.E) : ∀ {i k : Nat} {l : List Int}, i ≤ k → dst z k l → dst z (k - i) (planAt z k l i)
  | 0, k, _, _, h => by cases k <;> exact h
  | i + 1, 0, _, h, _ => by omega
  | i + 1, k + 1, l, h, hd => by
    have := planAt_dst hE (i := i) (k := k) (by omega) (pick_ok hE hd).2.2
    rw [show k + 1 - (i + 1) = k - i by omega]
    exact this
theorem planAt_step {z : Pz} : ∀ {i k : Nat} {l : List Int}, i < k → planAt z k l (i + 1) = bh (planAt z k l i) (pick z (k - i - 1) (planAt z k l i)) ∧ (plan z k l)[i]? = some (pick z (k - i - 1) (planAt z k l i))
  | 0, k + 1, l, _ => by
    constructor
    · cases k <;> simp [planAt]
    · simp [planAt, plan]
  | i + 1, k + 1, l, h => by
    have := planAt_step (z := z) (i := i) (k := k) (l := bh l (pick z k l)) (by omega)
    rw [show k + 1 - (i + 1) - 1 = k - i - 1 by omega]
    exact ⟨this.1, by rw [plan, List.getElem?_cons_succ]; exact this.2⟩

/-! ### mirrored -/
theorem bits_back : ∀ n, n < 6 → ∀ w, w < 2 ^ n → ∃ v, v < 2 ^ n ∧ (1 ≤ w → 1 ≤ v) ∧ ∀ i, i < n → v.testBit i = w.testBit (n - 1 - i) := by decide +kernel
def Pz.mir (z : Pz) : Pz := ⟨z.n, fun i => 11 - z.t (z.n - 1 - i), z.sl⟩
def mirL (n : Nat) (l : List Int) : List Int := tl n fun i => 11 - gt l (n - 1 - i)
theorem mirL_gt {n i : Nat} (l : List Int) (h : i < n) : gt (mirL n l) i = 11 - gt l (n - 1 - i) := gt_tl _ h
theorem stn_mir {n : Nat} {t f : Nat → Int} {sl : Int} (h : Stn n t sl f) : Stn n (fun i => 11 - t (n - 1 - i)) sl (fun i => 11 - f (n - 1 - i)) := by
  intro i hi
  have h1 := (h (n - 1 - i) (by omega)).1
  refine ⟨by dsimp only; omega, fun h0 => ?_⟩
  have h2 := (h (n - 1 - (i - 1)) (by omega)).2 (by omega)
  rw [show n - 1 - (i - 1) - 1 = n - 1 - i by omega] at h2
  dsimp only
  obtain ⟨a, b, c⟩ := h2
  exact ⟨by omega, by omega, fun e => by have := c (by omega); omega⟩
theorem okS_mir {z : Pz} {l : List Int} (h : OkS z l) : OkS z.mir (mirL z.n l) :=
  ⟨by simp [mirL, Pz.mir], (stn_mir h.2).congr (fun _ _ => rfl) (fun i hi => (mirL_gt l hi).symm)⟩
theorem E_mir (z : Pz) : z.mir.E = mirL z.n z.E := tl_congr (fun i hi => by
  have hi : i < z.n := hi
  show 11 - z.t (z.n - 1 - i) = 11 - gt z.E (z.n - 1 - i)
  rw [Pz.E, gt_tl _ (by omega)])
theorem rc_mir {z : Pz} (hn : z.n < 6) : ∀ {k : Nat} {l : List Int}, (hE : OkS z z.E) → rc z k l → rc z.mir k (mirL z.n l)
  | 0, l, _, h => by rw [show l = z.E from h]; exact (E_mir z).symm
  | k + 1, l, hE, ⟨m, p, hm, hp, e, hs⟩ => by
    obtain ⟨v, hv, h1, hb⟩ := bits_back z.n hn p.2 hp.2.2
    have hml : m.length = z.n := (rc_ok hE hm).1
    refine ⟨mirL z.n m, (-p.1, v), rc_mir hn hE hm, ?_, ?_, okS_mir hs⟩
    · obtain ⟨a, b, c⟩ := hp
      exact ⟨by dsimp only; omega, h1 b, hv⟩
    · subst e
      refine list_ext (by simp [mirL]) fun i hi => ?_
      have hi : i < z.n := by simpa [mirL] using hi
      rw [mirL_gt _ hi, bh_gt (by omega), bh_gt (by simpa [mirL] using hi), mirL_gt _ hi]
      dsimp only
      rw [hb i hi]
      split <;> omega
theorem mir_mir {n : Nat} {l : List Int} (h : l.length = n) : mirL n (mirL n l) = l := by
  refine list_ext (by simp [mirL, h]) fun i hi => ?_
  have hi : i < n := by simpa [mirL] using hi
  rw [mirL_gt _ hi, mirL_gt _ (by omega), show n - 1 - (n - 1 - i) = i by omega]
  omega
theorem rc_same {z y : Pz} (hn : z.n = y.n) (hs : z.sl = y.sl) (ht : ∀ i, i < z.n → z.t i = y.t i) : ∀ {k : Nat} {l : List Int}, rc z k l → rc y k l
  | 0, l, h => by rw [show l = z.E from h]; show tl z.n z.t = tl y.n y.t; rw [← hn]; exact tl_congr ht
  | k + 1, l, ⟨m, p, hm, hp, e, ho⟩ => ⟨m, p, rc_same hn hs ht hm, hn ▸ hp, e, ho.1.trans hn, by
    have := Stn.congr ht (fun _ _ => rfl) ho.2
    rw [← hn, ← hs]; exact this⟩
theorem rc_mir_iff {z : Pz} (hn : z.n < 6) (hE : OkS z z.E) {k : Nat} {l : List Int} (hl : l.length = z.n) : rc z.mir k (mirL z.n l) ↔ rc z k l := by
  refine ⟨fun h => ?_, rc_mir hn hE⟩
  have h2 := rc_mir (z := z.mir) hn (by rw [E_mir]; exact okS_mir hE) h
  rw [show z.mir.n = z.n from rfl, mir_mir hl] at h2
  exact rc_same (z := z.mir.mir) (y := z) rfl rfl (fun i hi => by
    have hi : i < z.n := hi
    show 11 - (11 - z.t (z.n - 1 - (z.n - 1 - i))) = z.t i
    rw [show z.n - 1 - (z.n - 1 - i) = i by omega]; omega) h2
theorem dst_mir {z : Pz} (hn : z.n < 6) (hE : OkS z z.E) {k : Nat} {l : List Int} (hl : l.length = z.n) (h : dst z k l) : dst z.mir k (mirL z.n l) :=
  ⟨(rc_mir_iff hn hE hl).2 h.1, fun j hj hr => h.2 j hj ((rc_mir_iff hn hE hl).1 hr)⟩
end Go.Proofs.Ytpdknodnlamphaa
