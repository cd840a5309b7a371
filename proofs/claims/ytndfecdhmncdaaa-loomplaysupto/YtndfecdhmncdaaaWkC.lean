/-
  The workshop as one fact of memory; tell.
-/
import Derived.Test.YtndfecdhmncdaaaWkB
namespace Go.Proofs.Ytndfecdhmncdaaa
open Go.RowKit

def lnO (w : Nat) : Option Nat → Nat
  | none => 0
  | some _ => w
def biO (f : Nat → Bool) (w : Nat) : Option Nat → List Value
  | none => []
  | some y => bitsV (fun x => f (y * w + x)) w
/-- the rows that were beaten -/
def RL (B : Nat) (W : World) (f : Nat → Bool) (w : Nat) (rs : List (Option Nat)) (xs : List Value) : Prop :=
  xs.length = rs.length ∧ ∀ (k : Nat) (o : Option Nat), rs[k]? = some o → ∃ v, xs[k]? = some v ∧ W.ownsRow B 4 1 v (lnO w o) (biO f w o)
/-- blocks of the workshop's types -/
def mt (W : World) (i : Nat) : Prop := Tg W i 68 ∨ Tg W i 76 ∨ Tg W i 48 ∨ Tg W i 2 ∨ Tg W i 22
/-- all is as it was but for the workshop -/
def KB (B : Nat) (W V : World) : Prop := Kept (fun i => B ≤ i ∧ mt W i) W V
theorem KB.refl (B : Nat) (W : World) : KB B W W := Kept.refl _ _
theorem KB.keep {B : Nat} {W V : World} (h : Below W.heap.size W V) : KB B W V := Kept.of h
theorem KB.of {B : Nat} {S : Nat → Prop} {W V : World} (h : Kept S W V) (k : ∀ i, S i → B ≤ i ∧ mt W i) : KB B W V := h.more (fun i q => .inl (k i q))
theorem tg_block {W V : World} {i : Nat} {t : TypeId} (e : V.heap[i]? = W.heap[i]?) : Tg V i t ↔ Tg W i t := by unfold Tg; rw [e]
theorem KB.trans {B : Nat} {W V U : World} (h : KB B W V) (k : KB B V U) : KB B W U :=
  ⟨k.1.trans h.1, k.2.1.trans h.2.1, k.2.2.1.trans h.2.2.1, Nat.le_trans h.size k.size, fun i hi hn => by
    have e := h.2.2.2.2 i hi hn
    rw [← e]
    exact k.2.2.2.2 i (Nat.lt_of_lt_of_le hi h.size) (fun q => hn ⟨q.1, by
      have := q.2
      unfold mt at this ⊢
      simpa only [tg_block e] using this⟩)⟩
theorem tg_not {W : World} {i : Nat} {t u : TypeId} (h : Tg W i t) (hn : t ≠ u) : ¬ Tg W i u := fun k => absurd rfl (h.ne k hn)
theorem mt_not {W : World} {i : Nat} {t : TypeId} (h : Tg W i t) (h1 : t ≠ 68) (h2 : t ≠ 76) (h3 : t ≠ 48) (h4 : t ≠ 2) (h5 : t ≠ 22) : ¬ mt W i := by
  rintro (q | q | q | q | q)
  · exact tg_not h h1 q
  · exact tg_not h h2 q
  · exact tg_not h h3 q
  · exact tg_not h h4 q
  · exact tg_not h h5 q
theorem KB.own4 {B C : Nat} {W V : World} {v : Value} {n : Nat} {xs : List Value} (k : KB B W V) (h : W.ownsRow C 4 1 v n xs) : V.ownsRow C 4 1 v n xs :=
  own_kept h k (fun i q t => mt_not t (by decide) (by decide) (by decide) (by decide) (by decide) q.2)
theorem KB.rl {B : Nat} {W V : World} {f : Nat → Bool} {w : Nat} {rs : List (Option Nat)} {xs : List Value} (k : KB B W V) (h : RL B W f w rs xs) : RL B V f w rs xs :=
  ⟨h.1, fun j o hj => by obtain ⟨v, hv, ho⟩ := h.2 j o hj; exact ⟨v, hv, k.own4 ho⟩⟩
theorem KB.back {B : Nat} {W0 W V : World} (h : Below B W0 W) (k : KB B W V) (hB : B ≤ W.heap.size) : Below B W0 V := Kept.back h k hB (fun _ q => q.1)

/-- a loom in its workshop, in memory -/
def WF (B : Nat) (W : World) (S L D q w h n : Nat) (f : Nat → Bool) (p : Option Addr) (cap : Nat) (x : WSt) : Prop :=
  ∃ rq rn rc tq tn tc xs, SB W S L x.2.1 x.2.2.1 x.2.2.2.1 rq rn rc tq tn tc x.2.2.2.2.2.2 ∧ LM W L w h p n cap D q 2 2 x.1 ∧ W.ownsRow B 4 1 (.slice rq rn rc) (lnO w x.2.2.2.2.1) (biO f w x.2.2.2.2.1) ∧ tn = x.2.2.2.2.2.1.length ∧ W.ownsRow B 22 1 (.slice tq tn tc) tn xs ∧ RL B W f w x.2.2.2.2.2.1 xs ∧ W.ownsRow B 4 1 (.slice p n cap) n (bitsV f n)
/-- where it lies -/
def At4 (B S L D q : Nat) : Prop := B ≤ S ∧ B ≤ L ∧ B ≤ D ∧ B ≤ q

theorem own22 {B : Nat} {Z : Nat → Prop} {W V : World} {v : Value} {n : Nat} {xs : List Value} (h : W.ownsRow B 22 1 v n xs) (k : Kept Z W V) (hZ : ∀ i, Z i → ∃ t, t ≠ 22 ∧ Tg W i t) : V.ownsRow B 22 1 v n xs :=
  own_kept h k (fun i q t => by obtain ⟨u, hu, hT⟩ := hZ i q; exact tg_not hT hu t)
theorem wf_four {W : World} {S L D q w h n cap nw cw : Nat} {p : Option Addr} {s : LS} {td : Int} {up th : Bool} {rq : Option Addr} {rn rc : Nat} {tq : Option Addr} {tn tc : Nat} {bad : Bool} (k : SB W S L td up th rq rn rc tq tn tc bad) (m : LM W L w h p n cap D q nw cw s) : ∀ i, (i = S ∨ i = L ∨ i = D ∨ i = q) → ∃ t, (t = 68 ∨ t = 76 ∨ t = 48 ∨ t = 2) ∧ Tg W i t := by
  rintro i (rfl | rfl | rfl | rfl)
  · exact ⟨68, .inl rfl, k.1.2⟩
  · exact ⟨76, .inr (.inl rfl), m.1.1.2⟩
  · exact ⟨48, .inr (.inr (.inl rfl)), m.2.1.2.2.2.2.2⟩
  · exact ⟨2, .inr (.inr (.inr rfl)), m.2.2.1.2⟩
theorem four_kb {B : Nat} {W V : World} {S L D q w h n cap nw cw : Nat} {p : Option Addr} {s : LS} {td : Int} {up th : Bool} {rq : Option Addr} {rn rc : Nat} {tq : Option Addr} {tn tc : Nat} {bad : Bool} (k : SB W S L td up th rq rn rc tq tn tc bad) (m : LM W L w h p n cap D q nw cw s) (a : At4 B S L D q) (e : Kept (fun i => i = S ∨ i = L ∨ i = D ∨ i = q) W V) : KB B W V :=
  KB.of e (fun i hi => ⟨by rcases hi with rfl | rfl | rfl | rfl; exact a.1; exact a.2.1; exact a.2.2.1; exact a.2.2.2, by
    obtain ⟨t, ht, hT⟩ := wf_four k m i hi
    rcases ht with rfl | rfl | rfl | rfl
    · exact .inl hT
    · exact .inr (.inl hT)
    · exact .inr (.inr (.inl hT))
    · exact .inr (.inr (.inr (.inl hT)))⟩)

/-- the workshop's other parts stay -/
theorem wf_rest {B : Nat} {W V : World} {S L D q w h n cap : Nat} {f : Nat → Bool} {p : Option Addr} {s : LS} {td : Int} {up th : Bool} {rq : Option Addr} {rn rc : Nat} {tq : Option Addr} {tn tc : Nat} {bad : Bool} {ro : Option Nat} {rs : List (Option Nat)} {xs : List Value} (k : SB W S L td up th rq rn rc tq tn tc bad) (m : LM W L w h p n cap D q 2 2 s) (a : At4 B S L D q) (e : Kept (fun i => i = S ∨ i = L ∨ i = D ∨ i = q) W V)
    (r1 : W.ownsRow B 4 1 (.slice rq rn rc) (lnO w ro) (biO f w ro)) (r3 : W.ownsRow B 22 1 (.slice tq tn tc) tn xs) (r4 : RL B W f w rs xs) (r5 : W.ownsRow B 4 1 (.slice p n cap) n (bitsV f n)) :
    V.ownsRow B 4 1 (.slice rq rn rc) (lnO w ro) (biO f w ro) ∧ V.ownsRow B 22 1 (.slice tq tn tc) tn xs ∧ RL B V f w rs xs ∧ V.ownsRow B 4 1 (.slice p n cap) n (bitsV f n) := by
  have kb := four_kb k m a e
  refine ⟨kb.own4 r1, own22 r3 e (fun i hi => ?_), kb.rl r4, kb.own4 r5⟩
  obtain ⟨t, ht, hT⟩ := wf_four k m i hi
  exact ⟨t, by rcases ht with rfl | rfl | rfl | rfl <;> decide, hT⟩

def TellIs (B : Nat) (W : World) (S L D q w h n : Nat) (f : Nat → Bool) (p : Option Addr) (cap : Nat) (ev : Int) (x : WSt) : Prop :=
  Calls Try.prog 23 #[.pointer (some ⟨S, 0, none⟩), .int .i64 ev] W fun e w' => e = .returned (.tuple #[]) ∧ WF B w' S L D q w h n f p cap x ∧ KB B W w'
theorem nxD_or (h wv : Nat) (sp : Bool) (st : Int) : nxD h wv sp st = 4 ∨ nxD h wv sp st = 1 := by
  unfold nxD
  split
  · exact .inl rfl
  · split
    · exact .inl rfl
    · exact .inr rfl
def okD (r : Int × Int × LS) : Prop := r.2.1 ≠ 0 ∨ r.1 = 0 ∨ r.1 = 1 ∨ r.1 = 2 ∨ r.1 = 3 ∨ r.1 = 4
theorem okD_ite {c : Prop} [Decidable c] {a b : Int × Int × LS} (ha : okD a) (hb : okD b) : okD (if c then a else b) := by
  by_cases h : c
  · rw [if_pos h]; exact ha
  · rw [if_neg h]; exact hb
theorem okD_0 (er : Int) (s : LS) : okD (0, er, s) := .inr (.inl rfl)
theorem okD_1 (s : LS) : okD (1, 0, s) := .inr (.inr (.inl rfl))
theorem okD_2 (s : LS) : okD (2, 0, s) := .inr (.inr (.inr (.inl rfl)))
theorem okD_3 (s : LS) : okD (3, 0, s) := .inr (.inr (.inr (.inr (.inl rfl))))
theorem okD_4 (s : LS) : okD (4, 0, s) := .inr (.inr (.inr (.inr (.inr rfl))))
theorem okD_n (h wv : Nat) (sp : Bool) (st : Int) (s : LS) : okD (nxD h wv sp st, 0, s) := by
  rcases nxD_or h wv sp st with e | e <;> rw [e]
  · exact okD_4 s
  · exact okD_1 s
theorem doS_ds (h : Nat) (ev : Int) (s : LS) : okD (doS h ev s) := by
  obtain ⟨st, wv, sp, dd, g, lf⟩ := s
  rw [doS]
  exact okD_ite (okD_0 _ _) (okD_ite (okD_0 _ _) (okD_ite (okD_1 _) (okD_ite (okD_2 _) (okD_ite (okD_ite (okD_0 _ _) (okD_3 _)) (okD_ite (okD_4 _) (okD_ite (okD_1 _) (okD_ite (okD_ite (okD_0 _ _) (okD_n _ _ _ _ _)) (okD_ite (okD_0 _ _) (okD_ite (okD_ite (okD_0 _ _) (okD_n _ _ _ _ _)) (okD_ite (okD_0 _ _) (okD_0 _ _)))))))))))

theorem tell_any {B : Nat} {W : World} {S L D q w h n : Nat} {f : Nat → Bool} {p : Option Addr} {cap : Nat} {x : WSt} (ev : Int) (k : WF B W S L D q w h n f p cap x) (a : At4 B S L D q) (hw : x.1.2.1 ≤ 64) (hm : x.1.2.2.2.2.2 ≤ 9223372036854775807) : TellIs B W S L D q w h n f p cap ev (tellS h ev x) := by
  obtain ⟨s, td, up, th, ro, rs, bad⟩ := x
  obtain ⟨rq, rn, rc, tq, tn, tc, xs, k, m, r1, r2, r3, r4, r5⟩ := k
  dsimp only at k m r1 r2 r3 r4 hw hm
  have hd := do_any ev m (Nat.le_refl 2) hw hm
  have fin : ∀ (s' : LS) (td' : Int) (up' th' bad' : Bool), (Calls Try.prog 23 #[.pointer (some ⟨S, 0, none⟩), .int .i64 ev] W fun e w' => TellPost W S L w h p n cap D q 2 2 rq rn rc tq tn tc s' td' up' th' bad' e w') → TellIs B W S L D q w h n f p cap ev (s', td', up', th', ro, rs, bad') := by
    intro s' td' up' th' bad' c
    refine c.mono fun e w' q => ?_
    obtain ⟨q1, q2, q3, q4⟩ := q
    obtain ⟨t1, t3, t4, t5⟩ := wf_rest k m a q4 r1 r3 r4 r5
    exact ⟨q1, ⟨rq, rn, rc, tq, tn, tc, xs, q2, q3, t1, r2, t3, t4, t5⟩, four_kb k m a q4⟩
  have hds := doS_ds h ev s
  unfold okD at hds
  rw [tellS]
  generalize doS h ev s = r at *
  obtain ⟨ds, er, s'⟩ := r
  dsimp only at hds ⊢
  by_cases c : er ≠ 0 ∨ ds = 0
  · rw [if_pos c]
    by_cases c2 : er = 0
    · obtain rfl : ds = 0 := by rcases c with c | c; exact absurd c2 c; exact c
      subst c2
      exact fin _ _ _ _ _ (tell_nil k m hd)
    · exact fin _ _ _ _ _ (tell_err k m hd c2)
  · rw [if_neg c]
    obtain ⟨rfl, c3⟩ : er = 0 ∧ ds ≠ 0 := by simpa using c
    rcases hds with e | e | rfl | rfl | rfl | rfl
    · exact absurd rfl e
    · exact absurd e c3
    · rw [if_pos rfl]; exact fin _ _ _ _ _ (tell_lift k m hd)
    · rw [if_neg (by decide), if_pos rfl]; exact fin _ _ _ _ _ (tell_throw k m hd)
    · rw [if_neg (by decide), if_neg (by decide), if_pos rfl]; exact fin _ _ _ _ _ (tell_beat k m hd)
    · rw [if_neg (by decide), if_neg (by decide), if_neg (by decide)]; exact fin _ _ _ _ _ (tell_halt k m hd)
end Go.Proofs.Ytndfecdhmncdaaa
