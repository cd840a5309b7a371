/-
  DraftWeaves: the mathematics and the law's walk.
-/
import Derived.Test.YtfbggbalnfbbgaaDrI
namespace Go.Proofs.Ytfbggbalnfbbgaa
open Go.RowKit Go.Shelf

theorem any_pick (a k : Nat) (g : Nat → Bool) (ha : a < k) : (List.range k).any (fun i => ((a : Int) == (i : Int)) && g i) = g a := by
  cases hg : g a with
  | true => exact List.any_eq_true.2 ⟨a, List.mem_range.2 ha, by simp [hg]⟩
  | false =>
    refine List.any_eq_false.2 fun i _ => ?_
    by_cases e : a = i
    · subst e; simp [hg]
    · have : ((a : Int) == (i : Int)) = false := by simp; omega
      rw [this]; simp
theorem any_pick' (a k : Nat) (g : Nat → Bool) (ha : a < k) : (List.range k).any (fun i => g i && ((a : Int) == (i : Int))) = g a := by
  rw [← any_pick a k g ha]
  congr 1
  funext i
  exact Bool.and_comm _ _
theorem anyR_congr {k : Nat} {g g' : Nat → Bool} (h : ∀ i, i < k → g i = g' i) : (List.range k).any g = (List.range k).any g' := by
  induction k with
  | zero => rfl
  | succ k ih => rw [List.range_succ, List.any_append, List.any_append, ih (fun i hi => h i (by omega))]; simp [h k (by omega)]
/-- what is woven is a product -/
theorem weave_at (f : Nat → Bool) (w h n1 n2 : Nat) (t1 t2 : Nat → Nat) (h1 : ∀ k, k < n1 → t1 k < w) (h2 : ∀ k, k < n2 → t2 k < h) (y x : Nat) (hy : y < n2) (hx : x < n1) :
    prF (prF (mdF (fun y x => (t2 y : Int) == (x : Int)) h) (mdF (fun y x => f (y * w + x)) w) h w) (mdF (fun y x => (t1 x : Int) == (y : Int)) n1) w n1 (y * n1 + x) = f (t2 y * w + t1 x) := by
  rw [prF_at _ _ _ _ _ _ hx]
  unfold prB
  rw [← any_pick' (t1 x) w (fun s => f (t2 y * w + s)) (h1 x hx)]
  refine anyR_congr fun s hs => ?_
  rw [prF_at _ _ _ _ _ _ hs, mdF_at _ _ _ _ hx]
  congr 1
  unfold prB
  rw [← any_pick (t2 y) h (fun k => f (k * w + s)) (h2 y hy)]
  refine anyR_congr fun k hk => ?_
  rw [mdF_at _ _ _ _ hk, mdF_at _ _ _ _ hs]
theorem weave_all (f : Nat → Bool) (w h n1 n2 : Nat) (t1 t2 : Nat → Nat) (h1 : ∀ k, k < n1 → t1 k < w) (h2 : ∀ k, k < n2 → t2 k < h) (j : Nat) (hj : j < n1 * n2) :
    prF (prF (mdF (fun y x => (t2 y : Int) == (x : Int)) h) (mdF (fun y x => f (y * w + x)) w) h w) (mdF (fun y x => (t1 x : Int) == (y : Int)) n1) w n1 j = ddF f w t1 t2 n1 j := by
  have hn : 0 < n1 := by rcases Nat.eq_zero_or_pos n1 with e | e; (· rw [e, Nat.zero_mul] at hj; omega); exact e
  have hx := Nat.mod_lt j hn
  have hy : j / n1 < n2 := Nat.div_lt_of_lt_mul hj
  have e : j = j / n1 * n1 + j % n1 := by rw [Nat.mul_comm]; exact (Nat.div_add_mod j n1).symm
  have := weave_at f w h n1 n2 t1 t2 h1 h2 (j / n1) (j % n1) hy hx
  rw [← e] at this
  rw [this]; rfl

def WeaveIs (F : Nat) (q1 : Option Addr) (n1 c1 : Nat) (w h : Int) (p : Option Addr) (n cap : Nat) (q2 : Option Addr) (n2 c2 : Nat) (W : World) : Prop :=
  Calls Try.prog F #[dr q1 n1 c1 w h p n cap q2 n2 c2] W fun e V => e = .returned (.bool true) ∧ Below W.heap.size W V

set_option maxRecDepth 100000 in
set_option maxHeartbeats 2000000 in
theorem weave_err (q1 : Option Addr) (n1 c1 : Nat) (f1 : Nat → Int) (w h : Int) (p : Option Addr) (n cap : Nat) (q2 : Option Addr) (n2 c2 : Nat) (f2 : Nat → Int) (W : World) (h1 : Is W q1 n1 f1) (h2 : Is W q2 n2 f2) (er : Int) (her : dE n1 f1 w h n n2 f2 = er) (hp : 1 ≤ er) : WeaveIs 4 q1 n1 c1 w h p n cap q2 n2 c2 W := by
  have B0 := bal (o := .cells #[.slice q1 n1 c1, .int .i64 w, .int .i64 h, .slice p n cap, .slice q2 n2 c2] 27) (Below.refl W.heap.size W)
  have O0 := OwnR.new W q1 n1 c1 w h p n cap q2 n2 c2
  have HB := hide B0
  have HO := hide O0
  have hp' : (er != 0) = true := by simp; omega
  have H8 := hide (fun V (hV : Below W.heap.size W V) => draw_err q1 n1 c1 f1 w h p n cap q2 n2 c2 f2 V (h1.keep hV) (h2.keep hV) er her hp)
  have H14 := hide (fun V (hV : Below W.heap.size W V) => chain_err q1 n1 c1 f1 w h p n cap q2 n2 c2 f2 V (h1.keep hV) (h2.keep hV) er her hp)
  clear B0 O0 h1 h2 her
  unfold WeaveIs
  go_enter Try.func4, Try.ntmps4
  go_wp2_with fail
  refine (dalive_any _).mono ?_
  rintro e w1 ⟨rfl, hb⟩
  have S1 := hide (btrans (unhide HB) hb)
  have O1 := hide ((unhide HO).keep hb)
  have o1 := (unhide O1).2
  clear hb HB HO
  go_wp2_with fail
  clear o1
  refine (unhide H8 _ (unhide S1)).mono ?_
  rintro e w2 ⟨rfl, hb⟩
  have bb := bal (o := .cells #[.int .i64 0, .int .i64 0, .slice none 0 0] 25) (Below.refl w2.heap.size w2)
  have hb' := hb.trans (bb.mono hb.size)
  have S2 := hide (btrans (unhide S1) hb')
  have O2 := hide ((unhide O1).keep hb')
  have o1 := (unhide O2).2
  clear hb bb hb' S1 O1
  go_wp2_with fail
  clear o1
  generalize w2.alloc (.cells #[.int .i64 0, .int .i64 0, .slice none 0 0] 25) = w3 at *
  refine (unhide H14 _ (unhide S2)).mono ?_
  rintro e w4 ⟨rfl, hb⟩
  have S4 := hide (bal (o := .cells #[.int .i64 0, .int .i64 0, .slice none 0 0] 25) (bal (o := .cells #[.int .i64 0, .int .i64 0, .slice none 0 0] 25) (bal (o := .cells #[.int .i64 0, .int .i64 0, .slice none 0 0] 25) (btrans (unhide S2) hb))))
  clear hb S2
  have hee : (er != er) = false := by simp
  have hee2 : (er == er) = true := by simp
  go_wp2
  go_ret
  exact ⟨rfl, unhide S4⟩

set_option maxRecDepth 100000 in
set_option maxHeartbeats 2000000 in
theorem weave_ok {W : World} {q1 n1 c1 t1 p n cap f q2 n2 c2 t2} {w h : Nat} (r : Rd W q1 n1 t1 w h p n cap f q2 n2 t2) : WeaveIs 4 q1 n1 c1 w h p n cap q2 n2 c2 W := by
  have B0 := bal (o := .cells #[.slice q1 n1 c1, .int .i64 w, .int .i64 h, .slice p n cap, .slice q2 n2 c2] 27) (Below.refl W.heap.size W)
  have O0 := OwnR.new W q1 n1 c1 w h p n cap q2 n2 c2
  obtain ⟨m, hm⟩ : ∃ m, m = n1 * n2 := ⟨_, rfl⟩
  obtain ⟨ma, hma⟩ : ∃ m, m = h * n2 := ⟨_, rfl⟩
  obtain ⟨mc, hmc⟩ : ∃ m, m = n1 * w := ⟨_, rfl⟩
  obtain ⟨mx, hmx⟩ : ∃ m, m = w * n2 := ⟨_, rfl⟩
  have HB := hide B0
  have HO := hide O0
  have HR := hide r
  have H8 := hide (fun V (hV : Below W.heap.size W V) => draw_ok (c1 := c1) (c2 := c2) (r.keep hV) m hm)
  have H14 := hide (fun V (hV : Below W.heap.size W V) => chain_ok (c1 := c1) (c2 := c2) (r.keep hV) ma mc hma hmc)
  have Hm := hide hm
  have Hmx := hide hmx
  clear B0 O0 r hm hma hmc hmx
  unfold WeaveIs
  go_enter Try.func4, Try.ntmps4
  go_wp2_with fail
  refine (dalive_any _).mono ?_
  rintro e w1 ⟨rfl, hb⟩
  have S1 := hide (btrans (unhide HB) hb)
  have O1 := hide ((unhide HO).keep hb)
  have o1 := (unhide O1).2
  clear hb HB HO
  go_wp2_with fail
  clear o1
  refine (unhide H8 _ (unhide S1)).mono ?_
  rintro e w2 ⟨qd, cd, rfl, hr, hb⟩
  have bb := bal (o := .cells #[.int .i64 n1, .int .i64 n2, .slice qd m cd] 25) (Below.refl w2.heap.size w2)
  have hb' := hb.trans (bb.mono hb.size)
  have S2 := hide (btrans (unhide S1) hb')
  have O2 := hide ((unhide O1).keep hb')
  have D2 := hide (Tb.new hr.1)
  have o1 := (unhide O2).2
  clear hb bb hb' S1 O1 hr
  go_wp2_with fail
  clear o1
  generalize w2.alloc (.cells #[.int .i64 n1, .int .i64 n2, .slice qd m cd] 25) = w3 at *
  generalize w2.heap.size = bd at *
  refine (unhide H14 _ (unhide S2)).mono ?_
  rintro e w4 ⟨qa, ca, qb, cb, qc, cc, rfl, ra, rb, rc, hb⟩
  have bb := bal (o := .cells #[.int .i64 n1, .int .i64 w, .slice qc mc cc] 25) (bal (o := .cells #[.int .i64 w, .int .i64 h, .slice qb n cb] 25) (bal (o := .cells #[.int .i64 h, .int .i64 n2, .slice qa ma ca] 25) (Below.refl w4.heap.size w4)))
  have hb' := hb.trans (bb.mono hb.size)
  have S4 := hide (btrans (unhide S2) hb')
  have D4 := hide ((unhide D2).keep hb')
  have A4 := hide (((Tb.new ra.1).keep (bal (o := .cells #[.int .i64 w, .int .i64 h, .slice qb n cb] 25) (Below.refl _ _))).keep (bal (o := .cells #[.int .i64 n1, .int .i64 w, .slice qc mc cc] 25) (Below.refl _ _)))
  have B4 := (Tb.new (rb.1.keep (bal (o := .cells #[.int .i64 h, .int .i64 n2, .slice qa ma ca] 25) (Below.refl _ _)))).keep (bal (o := .cells #[.int .i64 n1, .int .i64 w, .slice qc mc cc] 25) (Below.refl _ _))
  have C4 := Tb.new ((rc.1.keep (bal (o := .cells #[.int .i64 h, .int .i64 n2, .slice qa ma ca] 25) (Below.refl _ _))).keep (bal (o := .cells #[.int .i64 w, .int .i64 h, .slice qb n cb] 25) (Below.refl _ _)))
  simp only [World.size_alloc] at B4 C4
  have HB4 := hide B4
  have HC4 := hide C4
  clear hb bb hb' S2 D2 B4 C4 ra rb rc O2
  go_upto_if 31 with fail
  generalize ((w4.alloc (.cells #[.int .i64 h, .int .i64 n2, .slice qa ma ca] 25)).alloc (.cells #[.int .i64 w, .int .i64 h, .slice qb n cb] 25)).alloc (.cells #[.int .i64 n1, .int .i64 w, .slice qc mc cc] 25) = w5 at *
  generalize w4.heap.size = ba at *
  have a1 := (unhide A4).1.2
  have b1 := (unhide HB4).1.2
  have HP := hide (prod_ok (unhide A4).2 (unhide HB4).2 mx (unhide Hmx))
  go_wp2_with fail
  clear a1 b1
  refine (unhide HP).mono ?_
  rintro e w6 ⟨qx, rfl, rx, hb⟩
  have bb := bal (o := .cells #[.int .i64 w, .int .i64 n2, .slice (some ⟨qx, 0, none⟩) mx mx] 25) (Below.refl w6.heap.size w6)
  have hb' := hb.trans (bb.mono hb.size)
  have S6 := hide (btrans (unhide S4) hb')
  have D6 := hide ((unhide D4).keep hb')
  have C6 := hide ((unhide HC4).keep hb')
  have X6 := hide (Tb.new rx)
  clear hb bb hb' S4 D4 A4 HB4 HC4 rx HP
  go_upto_if 42 with fail
  generalize w6.alloc (.cells #[.int .i64 w, .int .i64 n2, .slice (some ⟨qx, 0, none⟩) mx mx] 25) = w7 at *
  generalize w6.heap.size = bx at *
  have x1 := (unhide X6).1.2
  have c1' := (unhide C6).1.2
  have HP := hide (prod_ok (unhide X6).2 (unhide C6).2 m (unhide Hm))
  go_wp2_with fail
  clear x1 c1'
  refine (unhide HP).mono ?_
  rintro e w8 ⟨qy, rfl, ry, hb⟩
  have bb := bal (o := .cells #[.int .i64 n1, .int .i64 n2, .slice (some ⟨qy, 0, none⟩) m m] 25) (Below.refl w8.heap.size w8)
  have hb' := hb.trans (bb.mono hb.size)
  have S8 := hide (btrans (unhide S6) hb')
  have D8 := hide ((unhide D6).keep hb')
  have Y8 := hide (Tb.new ry)
  clear hb bb hb' S6 D6 C6 X6 ry HP
  have d1 := (unhide D8).1.2
  have y1 := (unhide Y8).1.2
  go_wp2_with fail
  clear d1 y1
  refine (same_ok (unhide Y8).2 (unhide D8).2 (fun j hj => ?_)).mono ?_
  · rw [unhide Hm] at hj
    exact weave_all f w h n1 n2 t1 t2 (unhide HR).2.1.2.2.2 (unhide HR).2.2.2.2.2 j hj
  · rintro e w9 ⟨rfl, hb⟩
    have S9 := hide (btrans (unhide S8) hb)
    go_wp2
    go_ret
    exact ⟨rfl, unhide S9⟩

theorem weave_any (q1 : Option Addr) (n1 c1 : Nat) (f1 : Nat → Int) (w h : Int) (p : Option Addr) (n cap : Nat) (f : Nat → Bool) (q2 : Option Addr) (n2 c2 : Nat) (f2 : Nat → Int) (W : World) (h1 : Is W q1 n1 f1) (hf : Bs W p n cap f) (h2 : Is W q2 n2 f2) : WeaveIs 4 q1 n1 c1 w h p n cap q2 n2 c2 W := by
  by_cases e : dE n1 f1 w h n n2 f2 = 0
  · obtain ⟨w', h', t1, t2, rfl, rfl, k1, k2, k3, m1, m2, m3, m4, b1, b2⟩ := dE_zero e
    exact weave_ok ⟨⟨k1, k2, k3, hf⟩, ⟨m1, m2, h1.congr fun k hk => (b1 k hk).1, fun k hk => (b1 k hk).2⟩, ⟨m3, m4, h2.congr fun k hk => (b2 k hk).1, fun k hk => (b2 k hk).2⟩⟩
  · exact weave_err q1 n1 c1 f1 w h p n cap q2 n2 c2 f2 W h1 h2 _ rfl (dE_pos e)
end Go.Proofs.Ytfbggbalnfbbgaa
