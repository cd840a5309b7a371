/-
  The mathematics of coloured threads: what follows from colours that some threads have, and which threads come first.
-/
import Derived.Test.YtbmgjoocpbikkaaRows
namespace Go.Proofs.Ytbmgjoocpbikkaa

/-- a picture as threads see it: how many there are, which of them cross, and what is seen there -/
structure Pic where
  n : Nat
  X : Nat → Nat → Prop
  c : Nat → Nat → Int
/-- crossing is mutual, of threads that there are, and shows a colour -/
structure Pic.Ok (P : Pic) : Prop where
  sym : ∀ s t, P.X s t → P.X t s
  csym : ∀ s t, P.X s t → P.c s t = P.c t s
  lt : ∀ s t, P.X s t → s < P.n
  col : ∀ s t, P.X s t → 0 ≤ P.c s t ∧ P.c s t ≤ 61
/-- these colours show it -/
def Good (P : Pic) (f : Nat → Int) : Prop := ∀ s t, P.X s t → f s = P.c s t ∨ f t = P.c s t
/-- each thread has a colour -/
def Tot (P : Pic) (f : Nat → Int) : Prop := ∀ s, s < P.n → 0 ≤ f s ∧ f s ≤ 61
/-- what has a colour keeps it -/
def Ext (P : Pic) (g f : Nat → Int) : Prop := ∀ s, s < P.n → g s ≠ -1 → f s = g s
/-- nothing more follows -/
def Cl (P : Pic) (g : Nat → Int) : Prop := ∀ s t, P.X s t → g s ≠ -1 → P.c s t ≠ g s → g t = P.c s t
/-- what has a colour has one that is -/
def InR (P : Pic) (g : Nat → Int) : Prop := ∀ s, s < P.n → g s = -1 ∨ (0 ≤ g s ∧ g s ≤ 61)
def put (g : Nat → Int) (t : Nat) (k : Int) : Nat → Int := fun s => if s = t then k else g s
theorem put_same (g : Nat → Int) (t : Nat) (k : Int) : put g t k t = k := by simp [put]
theorem put_ne (g : Nat → Int) {t s : Nat} (k : Int) (h : s ≠ t) : put g t k s = g s := by simp [put, h]
theorem Ext.refl (P : Pic) (g : Nat → Int) : Ext P g g := fun _ _ _ => rfl
theorem Ext.trans {P : Pic} {a b d : Nat → Int} (h : Ext P a b) (k : Ext P b d) : Ext P a d := fun s hs hn => by
  have e := h s hs hn
  rw [k s hs (by rw [e]; exact hn), e]
theorem Ext.put {P : Pic} {g : Nat → Int} {t : Nat} (k : Int) (hg : g t = -1) : Ext P g (put g t k) := fun s _ hn => put_ne g k (by intro e; subst e; exact hn hg)
theorem InR.put {P : Pic} {g : Nat → Int} (h : InR P g) (t : Nat) {k : Int} (h0 : 0 ≤ k) (h1 : k ≤ 61) : InR P (put g t k) := fun s hs => by
  by_cases e : s = t
  · subst e; rw [put_same]; exact .inr ⟨h0, h1⟩
  · rw [put_ne g k e]; exact h s hs
theorem ext_put {P : Pic} {g f : Nat → Int} {t : Nat} {k : Int} (h : Ext P g f) (hk : f t = k) : Ext P (put g t k) f := fun s hs hn => by
  by_cases e : s = t
  · subst e; rw [put_same, hk]
  · rw [put_ne g k e] at hn ⊢; exact h s hs hn

/-- how many have no colour -/
def un (g : Nat → Int) : Nat → Nat
  | 0 => 0
  | m + 1 => un g m + if g m = -1 then 1 else 0
theorem un_le {g f : Nat → Int} (m : Nat) (h : ∀ s, s < m → g s ≠ -1 → f s ≠ -1) : un f m ≤ un g m := by
  induction m with
  | zero => exact Nat.le_refl _
  | succ m ih =>
    have := ih (fun s hs => h s (by omega))
    have := h m (by omega)
    simp only [un]
    split <;> split <;> omega
theorem un_lt {g f : Nat → Int} {m t : Nat} (h : ∀ s, s < m → g s ≠ -1 → f s ≠ -1) (ht : t < m) (h0 : g t = -1) (h1 : f t ≠ -1) : un f m < un g m := by
  induction m with
  | zero => omega
  | succ m ih =>
    by_cases e : t = m
    · subst e
      have := un_le t (fun s hs => h s (by omega))
      simp only [un, h0, h1, if_true, if_false]
      omega
    · have := ih (fun s hs => h s (by omega)) (by omega)
      have := h m (by omega)
      simp only [un]
      split <;> split <;> omega
theorem Ext.un_le {P : Pic} {g f : Nat → Int} (h : Ext P g f) : un f P.n ≤ un g P.n := Ytbmgjoocpbikkaa.un_le _ (fun s hs hn => by rw [h s hs hn]; exact hn)
theorem Ext.un_lt {P : Pic} {g f : Nat → Int} {t : Nat} (h : Ext P g f) (ht : t < P.n) (h0 : g t = -1) (h1 : f t ≠ -1) : un f P.n < un g P.n :=
  Ytbmgjoocpbikkaa.un_lt (fun s hs hn => by rw [h s hs hn]; exact hn) ht h0 h1
theorem un_max (g : Nat → Int) (m : Nat) : un g m ≤ m := by
  induction m with
  | zero => exact Nat.le_refl _
  | succ m ih => simp only [un]; split <;> omega

/-- a thread was given a colour, and others those that come of it -/
def Gv (P : Pic) (g : Nat → Int) (t : Nat) (k : Int) (g' : Nat → Int) : Prop :=
  Ext P g g' ∧ g' t = k ∧ (∀ s u, P.X s u → g s = -1 → g' s ≠ -1 → P.c s u ≠ g' s → g' u = P.c s u) ∧
  (∀ f, Tot P f → Good P f → Ext P g f → f t = k → Ext P g' f) ∧ InR P g'
/-- it can't have it -/
def Nv (P : Pic) (g : Nat → Int) (t : Nat) (k : Int) : Prop := ∀ f, Tot P f → Good P f → Ext P g f → f t ≠ k
theorem gv_old {P : Pic} {g : Nat → Int} {t : Nat} {k : Int} (hR : InR P g) (h : g t = k) : Gv P g t k g := ⟨Ext.refl P g, h, fun _ _ _ h0 h1 => absurd h0 h1, fun _ _ _ h _ => h, hR⟩
theorem nv_old {P : Pic} {g : Nat → Int} {t : Nat} {k : Int} (ht : t < P.n) (h0 : g t ≠ -1) (h : g t ≠ k) : Nv P g t k := fun f _ _ hE e => h (by rw [← hE t ht h0, e])
/-- while those that cross it are gone through, up to o -/
def GL (P : Pic) (g : Nat → Int) (t : Nat) (k : Int) (o : Nat) (G : Nat → Int) : Prop :=
  Ext P g G ∧ G t = k ∧ (∀ s u, P.X s u → s ≠ t → g s = -1 → G s ≠ -1 → P.c s u ≠ G s → G u = P.c s u) ∧
  (∀ u, P.X t u → u < o → P.c t u ≠ k → G u = P.c t u) ∧
  (∀ f, Tot P f → Good P f → Ext P g f → f t = k → Ext P G f) ∧ InR P G
theorem GL.start {P : Pic} {g : Nat → Int} {t : Nat} {k : Int} {a : Nat} (hg : g t = -1) (hR : InR P g) (h0 : 0 ≤ k) (h1 : k ≤ 61) (ha : ∀ u, P.X t u → a ≤ u) : GL P g t k a (put g t k) :=
  ⟨Ext.put k hg, put_same g t k, fun s u _ hs e0 e1 => absurd (by rw [put_ne g k hs]; exact e0) e1, fun u hu hl => by have := ha u hu; omega, fun f _ _ hE hk => ext_put hE hk, hR.put t h0 h1⟩
theorem GL.skip {P : Pic} {g G : Nat → Int} {t : Nat} {k : Int} {o : Nat} (h : GL P g t k o G) (hc : P.c t o = k) : GL P g t k (o + 1) G :=
  ⟨h.1, h.2.1, h.2.2.1, fun u hu hl hk => by
    by_cases e : u = o
    · subst e; exact absurd hc hk
    · exact h.2.2.2.1 u hu (by omega) hk, h.2.2.2.2⟩
theorem GL.step {P : Pic} {g G G' : Nat → Int} {t : Nat} {k : Int} {o : Nat} (ok : P.Ok) (h : GL P g t k o G) (hk1 : k ≠ -1) (hx : P.X t o) (hc : P.c t o ≠ k) (hG : Gv P G o (P.c t o) G') : GL P g t k (o + 1) G' := by
  obtain ⟨a1, a2, a3, a4, a5, a6⟩ := h
  obtain ⟨b1, b2, b3, b4, b5⟩ := hG
  have kp : ∀ s, s < P.n → G s ≠ -1 → G' s = G s := b1
  refine ⟨a1.trans b1, by rw [kp t (ok.lt t o hx) (by rw [a2]; exact hk1), a2], ?_, ?_, ?_, b5⟩
  · intro s u hsu hs e0 e1 e2
    by_cases q : G s = -1
    · exact b3 s u hsu q e1 e2
    · have e := kp s (ok.lt s u hsu) q
      rw [e] at e2
      have r := a3 s u hsu hs e0 q e2
      have := ok.col s u hsu
      rw [kp u (ok.lt u s (ok.sym s u hsu)) (by rw [r]; omega), r]
  · intro u hu hl hk
    by_cases e : u = o
    · subst e; exact b2
    · have r := a4 u hu (by omega) hk
      have := ok.col t u hu
      rw [kp u (ok.lt u t (ok.sym t u hu)) (by rw [r]; omega), r]
  · intro f hT hf hE hk
    refine b4 f hT hf (a5 f hT hf hE hk) ?_
    rcases hf t o hx with r | r
    · exact absurd (by rw [← r, hk]) hc
    · exact r
theorem GL.fail {P : Pic} {g G : Nat → Int} {t : Nat} {k : Int} {o : Nat} (h : GL P g t k o G) (hx : P.X t o) (hc : P.c t o ≠ k) (hG : Nv P G o (P.c t o)) : Nv P g t k := by
  intro f hT hf hE hk
  refine hG f hT hf (h.2.2.2.2.1 f hT hf hE hk) ?_
  rcases hf t o hx with r | r
  · exact absurd (by rw [← r, hk]) hc
  · exact r
theorem GL.done {P : Pic} {g G : Nat → Int} {t : Nat} {k : Int} {o : Nat} (h : GL P g t k o G) (ho : ∀ u, P.X t u → u < o) : Gv P g t k G := by
  obtain ⟨a1, a2, a3, a4, a5, a6⟩ := h
  refine ⟨a1, a2, ?_, a5, a6⟩
  intro s u hsu e0 e1 e2
  by_cases e : s = t
  · subst e
    rw [a2] at e2
    exact a4 u hsu (ho u hsu) e2
  · exact a3 s u hsu e e0 e1 e2

/-- one thread more has a colour, with all that comes of it -/
def Step (P : Pic) (g : Nat → Int) (t : Nat) (k : Int) (g' : Nat → Int) : Prop :=
  Ext P g g' ∧ g' t = k ∧ Cl P g' ∧ InR P g' ∧ (∀ f, Tot P f → Good P f → Ext P g f → f t = k → Ext P g' f)
theorem Gv.toStep {P : Pic} {g g' : Nat → Int} {t : Nat} {k : Int} (ok : P.Ok) (h : Gv P g t k g') (hc : Cl P g) : Step P g t k g' := by
  obtain ⟨b1, b2, b3, b4, b5⟩ := h
  refine ⟨b1, b2, ?_, b5, b4⟩
  intro s u hsu e1 e2
  by_cases q : g s = -1
  · exact b3 s u hsu q e1 e2
  · have e := b1 s (ok.lt s u hsu) q
    rw [e] at e2
    have r := hc s u hsu q e2
    have := ok.col s u hsu
    rw [b1 u (ok.lt u s (ok.sym s u hsu)) (by rw [r]; omega), r]

/-- these colours come first, or others that have what is known -/
def Lx (P : Pic) (g f : Nat → Int) : Prop := Ext P g f ∨ ∃ i, i < P.n ∧ g i ≠ -1 ∧ g i < f i ∧ ∀ j, j < i → g j ≠ -1 ∧ g j = f j
/-- while thread by thread is given its least colour -/
def Inv (P : Pic) (i : Nat) (g : Nat → Int) : Prop := Cl P g ∧ InR P g ∧ (∀ s, s < i → g s ≠ -1) ∧ ∀ f, Tot P f → Good P f → Lx P g f
theorem Inv.start (P : Pic) (g : Nat → Int) (h : ∀ s, s < P.n → g s = -1) (ok : P.Ok) : Inv P 0 g :=
  ⟨fun s t hx hn => absurd (h s (ok.lt s t hx)) hn, fun s hs => .inl (h s hs), fun s hs => absurd hs (Nat.not_lt_zero s), fun _ _ _ => .inl fun s hs hn => absurd (h s hs) hn⟩
theorem Inv.skip {P : Pic} {i : Nat} {g : Nat → Int} (h : Inv P i g) (hi : g i ≠ -1) : Inv P (i + 1) g :=
  ⟨h.1, h.2.1, fun s hs => by
    by_cases e : s = i
    · subst e; exact hi
    · exact h.2.2.1 s (by omega), h.2.2.2⟩
theorem Inv.step {P : Pic} {i : Nat} {g g' : Nat → Int} {k : Int} (h : Inv P i g) (hi : i < P.n) (h0 : 0 ≤ k) (hs : Step P g i k g') (hl : ∀ m, 0 ≤ m → m < k → Nv P g i m) : Inv P (i + 1) g' := by
  obtain ⟨a1, a2, a3, a4⟩ := h
  obtain ⟨b1, b2, b3, b4, b5⟩ := hs
  refine ⟨b3, b4, ?_, ?_⟩
  · intro s hs
    by_cases e : s = i
    · subst e; rw [b2]; omega
    · have := a3 s (by omega)
      rw [b1 s (by omega) this]; exact this
  · intro f hT hf
    rcases a4 f hT hf with r | ⟨j, j1, j2, j3, j4⟩
    · by_cases e : f i = k
      · exact .inl (b5 f hT hf r e)
      · refine .inr ⟨i, hi, by rw [b2]; omega, ?_, ?_⟩
        · have := (hT i hi).1
          rw [b2]
          by_cases q : f i < k
          · exact absurd rfl (hl (f i) this q f hT hf r)
          · omega
        · intro j hj
          have := a3 j hj
          have e1 := b1 j (by omega) this
          exact ⟨by rw [e1]; exact this, by rw [e1, r j (by omega) this]⟩
    · refine .inr ⟨j, j1, ?_, ?_, ?_⟩
      · rw [b1 j j1 j2]; exact j2
      · rw [b1 j j1 j2]; exact j3
      · intro l hl
        obtain ⟨e1, e2⟩ := j4 l hl
        rw [b1 l (by omega) e1]; exact ⟨e1, e2⟩
/-- what nothing hangs on may be as it likes -/
theorem merge {P : Pic} {g f : Nat → Int} (ok : P.Ok) (hc : Cl P g) (hR : InR P g) (hT : Tot P f) (hf : Good P f) :
    Tot P (fun s => if g s = -1 then f s else g s) ∧ Good P (fun s => if g s = -1 then f s else g s) ∧ Ext P g (fun s => if g s = -1 then f s else g s) := by
  refine ⟨?_, ?_, ?_⟩
  · intro s hs
    by_cases e : g s = -1
    · simp only [e, if_true]; exact hT s hs
    · simp only [e, if_false]
      rcases hR s hs with r | r
      · exact absurd r e
      · exact r
  · intro s t hx
    have cs := ok.col s t hx
    by_cases e : g s = -1
    · by_cases e2 : g t = -1
      · simp only [e, e2, if_true]; exact hf s t hx
      · simp only [e, e2, if_true, if_false]
        by_cases q : P.c t s = g t
        · right; rw [ok.csym s t hx, q]
        · have := hc t s (ok.sym s t hx) e2 q
          rw [← ok.csym s t hx] at this
          omega
    · simp only [e, if_false]
      by_cases q : P.c s t = g s
      · left; exact q.symm
      · have := hc s t hx e q
        right
        rw [if_neg (by rw [this]; omega), this]
  · intro s _ hn
    simp only [hn, if_false]
/-- no colour serves: no threads show it -/
theorem Inv.none {P : Pic} {i : Nat} {g : Nat → Int} (ok : P.Ok) (h : Inv P i g) (hi : i < P.n) (hl : ∀ m, 0 ≤ m → m ≤ 61 → Nv P g i m) : ∀ f, Tot P f → ¬ Good P f := by
  intro f hT hf
  obtain ⟨m1, m2, m3⟩ := merge ok h.1 h.2.1 hT hf
  have := m1 i hi
  exact hl _ this.1 this.2 _ m1 m2 m3 rfl
/-- these threads come first -/
def First (P : Pic) (g : Nat → Int) : Prop := Tot P g ∧ Good P g ∧ ∀ f, Tot P f → Good P f → (∀ s, s < P.n → f s = g s) ∨ ∃ i, i < P.n ∧ g i < f i ∧ ∀ j, j < i → g j = f j
theorem Inv.first {P : Pic} {g : Nat → Int} (ok : P.Ok) (h : Inv P P.n g) : First P g := by
  obtain ⟨a1, a2, a3, a4⟩ := h
  refine ⟨?_, ?_, ?_⟩
  · intro s hs
    rcases a2 s hs with r | r
    · exact absurd r (a3 s hs)
    · exact r
  · intro s t hx
    by_cases q : P.c s t = g s
    · exact .inl q.symm
    · exact .inr (a1 s t hx (a3 s (ok.lt s t hx)) q)
  · intro f hT hf
    rcases a4 f hT hf with r | ⟨i, i1, _, i3, i4⟩
    · exact .inl fun s hs => r s hs (a3 s hs)
    · exact .inr ⟨i, i1, i3, fun j hj => (i4 j hj).2⟩
theorem First.one {P : Pic} {g f : Nat → Int} (h : First P g) (k : First P f) : ∀ s, s < P.n → g s = f s := by
  rcases h.2.2 f k.1 k.2.1 with r | ⟨i, i1, i2, i3⟩
  · exact fun s hs => (r s hs).symm
  · rcases k.2.2 g h.1 h.2.1 with r | ⟨j, j1, j2, j3⟩
    · exact r
    · exfalso
      rcases Nat.lt_trichotomy i j with q | q | q
      · have := j3 i q; omega
      · subst q; omega
      · have := i3 j q; omega

/-- what follows has come, and nothing more follows -/
def Fw (P : Pic) (g G : Nat → Int) : Prop := Ext P g G ∧ Cl P G ∧ InR P G ∧ ∀ f, Tot P f → Good P f → Ext P g f → Ext P G f
theorem Fw.toStep {P : Pic} {g G : Nat → Int} {t : Nat} {k : Int} (h : Fw P (put g t k) G) (ht : t < P.n) (hg : g t = -1) (hk : k ≠ -1) : Step P g t k G :=
  ⟨(Ext.put k hg).trans h.1, by rw [h.1 t ht (by rw [put_same]; exact hk), put_same], h.2.1, h.2.2.1, fun f hT hf hE e => h.2.2.2 f hT hf (ext_put hE e)⟩
/-- nothing can come of it -/
def Nf (P : Pic) (g : Nat → Int) : Prop := ∀ f, Tot P f → Good P f → ¬ Ext P g f
theorem Nf.nv {P : Pic} {g : Nat → Int} {t : Nat} {k : Int} (h : Nf P (put g t k)) : Nv P g t k := fun f hT hf hE e => h f hT hf (ext_put hE e)

/-- a chart of squares: ends, then picks -/
def pic (w h : Nat) (px : Nat → Int) : Pic where
  n := w + h
  X := fun s t => (s < w ∧ w ≤ t ∧ t < w + h) ∨ (t < w ∧ w ≤ s ∧ s < w + h)
  c := fun s t => px ((max s t - w) * w + min s t)
theorem place_lt {w h x y : Nat} (hx : x < w) (hy : y < h) : y * w + x < w * h := by
  have h1 : (y + 1) * w ≤ h * w := Nat.mul_le_mul_right w (by omega)
  have h2 : (y + 1) * w = y * w + w := Nat.succ_mul y w
  rw [Nat.mul_comm w h]; omega
theorem pic_ok {w h : Nat} {px : Nat → Int} (hp : ∀ k, k < w * h → 0 ≤ px k ∧ px k ≤ 61) : (pic w h px).Ok where
  sym := fun s t hx => hx.elim .inr .inl
  csym := fun s t _ => by show px _ = px _; rw [Nat.max_comm, Nat.min_comm]
  lt := fun s t hx => by show s < w + h; rcases hx with hx | hx <;> omega
  col := fun s t hx => by
    refine hp _ ?_
    rcases hx with hx | hx
    · rw [Nat.max_eq_right (by omega), Nat.min_eq_left (by omega)]; exact place_lt hx.1 (by omega)
    · rw [Nat.max_eq_left (by omega), Nat.min_eq_right (by omega)]; exact place_lt hx.1 (by omega)
/-- row by row: each cell is its end's colour or its pick's -/
def Shows (w h : Nat) (px f : Nat → Int) : Prop := ∀ y x, y < h → x < w → f x = px (y * w + x) ∨ f (w + y) = px (y * w + x)
theorem shows_iff (w h : Nat) (px f : Nat → Int) : Good (pic w h px) f ↔ Shows w h px f := by
  have key : ∀ y x, x < w → (pic w h px).c x (w + y) = px (y * w + x) := fun y x hx => by
    show px _ = px _
    rw [Nat.max_eq_right (by omega), Nat.min_eq_left (by omega), Nat.add_sub_cancel_left]
  have key2 : ∀ y x, x < w → (pic w h px).c (w + y) x = px (y * w + x) := fun y x hx => by
    show px _ = px _
    rw [Nat.max_eq_left (by omega), Nat.min_eq_right (by omega), Nat.add_sub_cancel_left]
  constructor
  · intro hg y x hy hx
    have := hg x (w + y) (.inl ⟨hx, by omega, by omega⟩)
    rw [key y x hx] at this
    exact this
  · intro hs s t hx
    rcases hx with ⟨a, b, d⟩ | ⟨a, b, d⟩
    · obtain ⟨y, rfl⟩ : ∃ y, t = w + y := ⟨t - w, by omega⟩
      rw [key y s a]
      exact hs y s (by omega) a
    · obtain ⟨y, rfl⟩ : ∃ y, s = w + y := ⟨s - w, by omega⟩
      rw [key2 y t a]
      exact (hs y t (by omega) a).symm
end Go.Proofs.Ytbmgjoocpbikkaa
