/-
  Fewest.
-/
import Derived.Test.YtfbggbalnfbbgaaDrF
namespace Go.Proofs.Ytfbggbalnfbbgaa
open Go.RowKit Go.Shelf

/-- a draft's box that may be written -/
def OwnV (W : World) (b : Nat) (q1 : Option Addr) (n1 c1 : Nat) (w h : Int) (p : Option Addr) (n cap : Nat) (q2 : Option Addr) (n2 c2 : Nat) : Prop :=
  OwnR W b q1 n1 c1 w h p n cap q2 n2 c2 ∧ W.frozen? ⟨b, 0, none⟩ = false ∧ W.frozen? ⟨b, 1, none⟩ = false ∧ W.frozen? ⟨b, 2, none⟩ = false ∧ W.frozen? ⟨b, 3, none⟩ = false ∧ W.frozen? ⟨b, 4, none⟩ = false
theorem OwnV.new (W : World) (q1 : Option Addr) (n1 c1 : Nat) (w h : Int) (p : Option Addr) (n cap : Nat) (q2 : Option Addr) (n2 c2 : Nat) :
    OwnV (W.alloc (.cells #[.slice q1 n1 c1, .int .i64 w, .int .i64 h, .slice p n cap, .slice q2 n2 c2] 27)) W.heap.size q1 n1 c1 w h p n cap q2 n2 c2 :=
  ⟨OwnR.new W q1 n1 c1 w h p n cap q2 n2 c2, by simp [go_sem], by simp [go_sem], by simp [go_sem], by simp [go_sem], by simp [go_sem]⟩
theorem OwnV.grown {a c : World} {row : Option Nat} {b : Nat} {q1 : Option Addr} {n1 c1 : Nat} {w h : Int} {p : Option Addr} {n cap : Nat} {q2 : Option Addr} {n2 c2 : Nat} (k : OwnV a b q1 n1 c1 w h p n cap q2 n2 c2) (hg : a.grownBy c row) (hne : some b ≠ row) : OwnV c b q1 n1 c1 w h p n cap q2 n2 c2 :=
  ⟨k.1.grown hg hne, gfroz hg k.1.1 hne k.2.1, gfroz hg k.1.1 hne k.2.2.1, gfroz hg k.1.1 hne k.2.2.2.1, gfroz hg k.1.1 hne k.2.2.2.2.1, gfroz hg k.1.1 hne k.2.2.2.2.2⟩
theorem OwnV.keep {W V : World} {b : Nat} {q1 : Option Addr} {n1 c1 : Nat} {w h : Int} {p : Option Addr} {n cap : Nat} {q2 : Option Addr} {n2 c2 : Nat} (k : OwnV W b q1 n1 c1 w h p n cap q2 n2 c2) (hb : Below W.heap.size W V) : OwnV V b q1 n1 c1 w h p n cap q2 n2 c2 := k.grown (gbelow none hb) (by simp)
abbrev put5 (V : World) (B : Nat) (v0 v1 v2 v3 v4 : Value) : World := ((((V.setCell ⟨B, 0, none⟩ v0).setCell ⟨B, 1, none⟩ v1).setCell ⟨B, 2, none⟩ v2).setCell ⟨B, 3, none⟩ v3).setCell ⟨B, 4, none⟩ v4
theorem gput5 {W : World} (b : Nat) (v0 v1 v2 v3 v4 : Value) : W.grownBy (put5 W b v0 v1 v2 v3 v4) (some b) := gset (gset (gset (gset (gset (World.grownBy.refl _ _) 0 v0) 1 v1) 2 v2) 3 v3) 4 v4
theorem bput5 {W V : World} {b : Nat} (h : Below W.heap.size W V) (hb : W.heap.size ≤ b) (v0 v1 v2 v3 v4 : Value) : Below W.heap.size W (put5 V b v0 v1 v2 v3 v4) := bset (bset (bset (bset (bset h hb) hb) hb) hb) hb
theorem OwnV.put {W : World} {b : Nat} {q1 : Option Addr} {n1 c1 : Nat} {w h : Int} {p : Option Addr} {n cap : Nat} {q2 : Option Addr} {n2 c2 : Nat} (k : OwnV W b q1 n1 c1 w h p n cap q2 n2 c2) (q1' : Option Addr) (n1' c1' : Nat) (w' h' : Int) (p' : Option Addr) (n' cap' : Nat) (q2' : Option Addr) (n2' c2' : Nat) :
    OwnV (put5 W b (.slice q1' n1' c1') (.int .i64 w') (.int .i64 h') (.slice p' n' cap') (.slice q2' n2' c2')) b q1' n1' c1' w' h' p' n' cap' q2' n2' c2' := by
  obtain ⟨⟨h0, h1, h2, h3, h4, h5⟩, f0, f1, f2, f3, f4⟩ := k
  refine ⟨⟨by simpa using h0, by simp [go_sem, h1], by simp [go_sem, h2], by simp [go_sem, h3], by simp [go_sem, h4], by simp [go_sem, h5]⟩, ?_, ?_, ?_, ?_, ?_⟩
  all_goals
    rw [World.frozen?_setCell, World.frozen?_setCell, World.frozen?_setCell, World.frozen?_setCell, World.frozen?_setCell]
    first | exact f0 | exact f1 | exact f2 | exact f3 | exact f4
theorem Is.grown {W V : World} {q : Option Addr} {n b : Nat} {f : Nat → Int} (h : Is W q n f) (hg : W.grownBy V (some b)) (ho : Off q n b) : Is V q n f := by
  rcases h with h | ⟨c, o, e, hl, hk⟩
  · exact .inl h
  · by_cases h0 : n = 0
    · exact .inl h0
    · refine .inr ⟨c, o, e, Nat.lt_of_lt_of_le hl hg.size, fun k hkn => gcell hg hl ?_ (hk k hkn)⟩
      rcases ho with h1 | h1
      · omega
      · exact some_ne (h1 ⟨c, o, none⟩ e)
/-- thread numbers that lie in no block below s -/
def ThO (V : World) (s : Nat) (q : Option Addr) (n : Nat) (t : Nat → Nat) (b : Nat) : Prop := Th V q n t b ∧ ∀ j, j < s → Off q n j
theorem ThO.keep {W V : World} {s : Nat} {q : Option Addr} {n : Nat} {t : Nat → Nat} {b : Nat} (h : ThO W s q n t b) (hb : Below W.heap.size W V) : ThO V s q n t b := ⟨h.1.keep hb, h.2⟩
theorem ThO.grown {W V : World} {s : Nat} {q : Option Addr} {n : Nat} {t : Nat → Nat} {b c : Nat} (h : ThO W s q n t b) (hg : W.grownBy V (some c)) (hc : c < s) : ThO V s q n t b := ⟨⟨h.1.1, h.1.2.1, h.1.2.2.1.grown hg (h.2 c hc), h.1.2.2.2⟩, h.2⟩
theorem ThO.mono {W : World} {s s' : Nat} {q : Option Addr} {n : Nat} {t : Nat → Nat} {b : Nat} (h : ThO W s q n t b) (hs : s' ≤ s) : ThO W s' q n t b := ⟨h.1, fun j hj => h.2 j (by omega)⟩

theorem fw_facts (W : World) (w h : Int) (p : Option Addr) (n cap : Nat) : ∃ w0,
    (W.alloc (.cells #[.int .i64 w, .int .i64 h, .slice p n cap] 25)).alloc (.cells #[.slice none 0 0, .int .i64 0, .int .i64 0, .slice none 0 0, .slice none 0 0] 27) = w0 ∧
    OwnM w0 W.heap.size w h p n cap ∧ OwnV w0 (W.heap.size + 1) none 0 0 0 0 none 0 0 none 0 0 ∧ Below W.heap.size W w0 := by
  have O := (OwnM.new W w h p n cap 25).alloc (.cells #[.slice none 0 0, .int .i64 0, .int .i64 0, .slice none 0 0, .slice none 0 0] 27)
  have A := OwnV.new (W.alloc (.cells #[.int .i64 w, .int .i64 h, .slice p n cap] 25)) none 0 0 0 0 none 0 0 none 0 0
  simp only [World.size_alloc] at A
  exact ⟨_, rfl, O, A, bal (bal (Below.refl _ _))⟩

/-- a call that answers a draft without anything, and an error -/
def FewErr (F : Nat) (w h : Int) (p : Option Addr) (n cap : Nat) (W : World) (er : Int) : Prop :=
  Calls Try.prog F #[tr w h p n cap] W fun e V => e = .returned (.tuple #[dr none 0 0 0 0 none 0 0 none 0 0, .int .i64 er]) ∧ Below W.heap.size W V

set_option maxHeartbeats 1000000 in
theorem few_err (w h : Int) (p : Option Addr) (n cap : Nat) (W : World) (er : Int) (her : wE w h n = er) (hp : 1 ≤ er) : FewErr 11 w h p n cap W er := by
  obtain ⟨w0, E0, M, A, B0⟩ := fw_facts W w h p n cap
  have HT := hide (turned_err w h p n cap w0 er her hp)
  have hp' : (er != 0) = true := by simp; omega
  have HE := hide E0
  have HA := hide A
  have HB := hide B0
  have m1 := M.2
  have Hm := hide M
  clear her A B0 E0 m1 M
  unfold FewErr
  go_enter Try.func11, Try.ntmps11
  go_wp2_with fail
  rw [unhide HE]
  clear HE
  refine (unhide HT).mono ?_
  rintro e w1 ⟨rfl, hb⟩
  have S := hide (bal (o := .cells #[.int .i64 0, .int .i64 0, .slice none 0 0] 25) (btrans (unhide HB) hb))
  have A1 := hide (((unhide HA).keep hb).keep (bal (o := .cells #[.int .i64 0, .int .i64 0, .slice none 0 0] 25) (Below.refl _ _)))
  clear hb HB HA
  go_upto_if 17 with fail
  generalize w1.alloc (.cells #[.int .i64 0, .int .i64 0, .slice none 0 0] 25) = w2 at *
  obtain ⟨⟨hl, a0, a1, a2, a3, a4⟩, f0, f1, f2, f3, f4⟩ := unhide A1
  go_wp2
  exact bodyPost_ret (v := .tuple #[dr none 0 0 0 0 none 0 0 none 0 0, .int .i64 er]) (by simp [results, Try.results11, go_sem, a0, a1, a2, a3, a4]) rfl ⟨rfl, bput5 (unhide S) (by omega) _ _ _ _ _⟩

set_option maxHeartbeats 1000000 in
theorem few_none (w h : Nat) (p : Option Addr) (n cap : Nat) (f : Nat → Bool) (W : World) (r : Rt W w h p n cap f) (hn : n = 0) : FewErr 11 w h p n cap W 5 := by
  obtain ⟨w0, E0, M, A, B0⟩ := fw_facts W w h p n cap
  have HT := hide (turned_new (r.keep B0))
  subst hn
  have HE := hide E0
  have HA := hide A
  have HB := hide B0
  have Hm := hide M
  clear A B0 E0 M r
  unfold FewErr
  go_enter Try.func11, Try.ntmps11
  go_wp2_with fail
  rw [unhide HE]
  clear HE
  refine (unhide HT).mono ?_
  rintro e w1 ⟨q, cp, rfl, -, hb⟩
  have S := hide (bal (o := .cells #[.int .i64 h, .int .i64 w, .slice q 0 cp] 25) (btrans (unhide HB) hb))
  have A1 := hide (((unhide HA).keep hb).keep (bal (o := .cells #[.int .i64 h, .int .i64 w, .slice q 0 cp] 25) (Below.refl _ _)))
  have M1 := hide (((unhide Hm).keep hb).keep (bal (o := .cells #[.int .i64 h, .int .i64 w, .slice q 0 cp] 25) (Below.refl _ _)))
  clear hb HB HA Hm
  go_upto_if 17 with fail
  generalize w1.alloc (.cells #[.int .i64 h, .int .i64 w, .slice q 0 cp] 25) = w2 at *
  obtain ⟨⟨hl, a0, a1, a2, a3, a4⟩, f0, f1, f2, f3, f4⟩ := unhide A1
  have m1 := (unhide M1).2
  go_wp2
  exact bodyPost_ret (v := .tuple #[dr none 0 0 0 0 none 0 0 none 0 0, .int .i64 5]) (by simp [results, Try.results11, go_sem, a0, a1, a2, a3, a4]) rfl ⟨rfl, bput5 (unhide S) (by omega) _ _ _ _ _⟩
end Go.Proofs.Ytfbggbalnfbbgaa
