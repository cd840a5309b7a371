/-
  Right drafts; the functions that are handed to made.
-/
import Derived.Test.YtfbggbalnfbbgaaDrB
namespace Go.Proofs.Ytfbggbalnfbbgaa
open Go.RowKit Go.Shelf

theorem Is.congr {W : World} {q : Option Addr} {n : Nat} {f g : Nat → Int} (h : Is W q n f) (e : ∀ k, k < n → f k = g k) : Is W q n g := by
  rcases h with h | ⟨b, o, e1, hl, hk⟩
  · exact .inl h
  · exact .inr ⟨b, o, e1, hl, fun k hkn => by rw [← e k hkn]; exact hk k hkn⟩
theorem Is.at {W : World} {q : Option Addr} {n k : Nat} {f : Nat → Int} (h : Is W q n f) (hk : k < n) : ∃ b o, q = some ⟨b, o, none⟩ ∧ b < W.heap.size ∧ W.cell? ⟨b, o + k, none⟩ = some (.int .i64 (f k)) := by
  rcases h with h | ⟨b, o, e1, hl, hc⟩
  · omega
  · exact ⟨b, o, e1, hl, hc k hk⟩
/-- numbers below a bound, as a thread list has them -/
def Th (W : World) (q : Option Addr) (n : Nat) (t : Nat → Nat) (b : Nat) : Prop := 1 ≤ n ∧ n ≤ 64 ∧ Is W q n (fun k => ((t k : Nat) : Int)) ∧ ∀ k, k < n → t k < b
theorem Th.keep {W V : World} {q : Option Addr} {n : Nat} {t : Nat → Nat} {b : Nat} (h : Th W q n t b) (hb : Below W.heap.size W V) : Th V q n t b := ⟨h.1, h.2.1, h.2.2.1.keep hb, h.2.2.2⟩
/-- a right draft -/
def Rd (W : World) (q1 : Option Addr) (n1 : Nat) (t1 : Nat → Nat) (w h : Nat) (p : Option Addr) (n cap : Nat) (f : Nat → Bool) (q2 : Option Addr) (n2 : Nat) (t2 : Nat → Nat) : Prop := Rt W w h p n cap f ∧ Th W q1 n1 t1 w ∧ Th W q2 n2 t2 h
theorem Rd.keep {W V : World} {q1 : Option Addr} {n1 : Nat} {t1 : Nat → Nat} {w h : Nat} {p : Option Addr} {n cap : Nat} {f : Nat → Bool} {q2 : Option Addr} {n2 : Nat} {t2 : Nat → Nat} (r : Rd W q1 n1 t1 w h p n cap f q2 n2 t2) (hb : Below W.heap.size W V) : Rd V q1 n1 t1 w h p n cap f q2 n2 t2 := ⟨r.1.keep hb, r.2.1.keep hb, r.2.2.keep hb⟩

set_option maxRecDepth 100000 in
set_option maxHeartbeats 2000000 in
theorem fn24_any {W : World} {b q1 n1 c1 t1 w h p n cap f q2 n2 c2 t2} (O : OwnR W b q1 n1 c1 (w : Nat) (h : Nat) p n cap q2 n2 c2) (r : Rd W q1 n1 t1 w h p n cap f q2 n2 t2) (y x : Nat) (hy : y < n2) (hx : x < n1) :
    Calls Try.prog 24 #[.int .i64 y, .int .i64 x, .pointer (some ⟨b, 0, none⟩)] W fun e V => e = .returned (.bool (f (t2 y * w + t1 x))) ∧ Below W.heap.size W V := by
  obtain ⟨a1, o1, rfl, l1, k1⟩ := r.2.1.2.2.1.at hx
  obtain ⟨a2, o2, rfl, l2, k2⟩ := r.2.2.2.2.1.at hy
  have HH := hide (fun V (hV : Below W.heap.size W V) => holds_any (r.1.keep hV) (t2 y) (t1 x) (r.2.2.2.2.2 y hy) (r.2.1.2.2.2 x hx))
  obtain ⟨hbl, u0, u1, u2, u3, u4⟩ := O
  have q1 : (x : Int) < (n1 : Int) := by omega
  have q2 : (y : Int) < (n2 : Int) := by omega
  have q3 : (0 : Int) ≤ (x : Int) := by omega
  have q4 : (0 : Int) ≤ (y : Int) := by omega
  have hn1 : n1 ≤ 64 := r.2.1.2.1
  have hn2 : n2 ≤ 64 := r.2.2.2.1
  generalize f (t2 y * w + t1 x) = v at *
  generalize t2 y = ty at *
  generalize t1 x = tx at *
  have Hld := hide (show ∀ V, Below W.heap.size W V → V.cell? ⟨b, 0, none⟩ = some (.slice (some ⟨a1, o1, none⟩) n1 c1) ∧ V.cell? ⟨b, 1, none⟩ = some (.int .i64 w) ∧ V.cell? ⟨b, 2, none⟩ = some (.int .i64 h) ∧ V.cell? ⟨b, 3, none⟩ = some (.slice p n cap) ∧ V.cell? ⟨b, 4, none⟩ = some (.slice (some ⟨a2, o2, none⟩) n2 c2) ∧ V.cell? ⟨a2, o2 + y, none⟩ = some (.int .i64 ty) ∧ V.cell? ⟨a1, o1 + x, none⟩ = some (.int .i64 tx) from fun V hV => ⟨keepC hV hbl u0, keepC hV hbl u1, keepC hV hbl u2, keepC hV hbl u3, keepC hV hbl u4, keepC hV l2 k2, keepC hV l1 k1⟩)
  clear r u0 u1 u2 u3 u4 k1 k2
  go_enter Try.func24, Try.ntmps24
  go_wp2_with fail
  have hb3 := True.intro
  go_region_held3 (fun V => Below W.heap.size W V ∧ V.cell? ⟨b, 0, none⟩ = some (.slice (some ⟨a1, o1, none⟩) n1 c1) ∧ V.cell? ⟨b, 1, none⟩ = some (.int .i64 w) ∧ V.cell? ⟨b, 2, none⟩ = some (.int .i64 h) ∧ V.cell? ⟨b, 3, none⟩ = some (.slice p n cap) ∧ V.cell? ⟨b, 4, none⟩ = some (.slice (some ⟨a2, o2, none⟩) n2 c2) ∧ V.cell? ⟨a2, o2 + y, none⟩ = some (.int .i64 ty) ∧ V.cell? ⟨a1, o1 + x, none⟩ = some (.int .i64 tx))
    (first
      | (exact ⟨Below.drew (Below.refl _ _), unhide Hld _ (Below.drew (Below.refl _ _))⟩)
      | (exact ⟨hb3, unhide Hld _ hb3⟩))
    (first
      | (go_at_call 25; refine (unhide HH _ (Below.drew (Below.refl _ _))).mono ?_; rintro e w10 ⟨rfl, hb⟩; have hb3 := btrans (Below.drew (Below.refl _ _)) hb))
  go_wp2
  go_ret
  exact ⟨rfl, hb3⟩

set_option maxHeartbeats 1000000 in
theorem fn35_any {W : World} {b q1 n1 c1 w h p n cap q2 n2 c2 t2 k} (O : OwnR W b q1 n1 c1 w h p n cap q2 n2 c2) (r : Th W q2 n2 t2 k) (y x : Nat) (hy : y < n2) :
    Calls Try.prog 35 #[.int .i64 y, .int .i64 x, .pointer (some ⟨b, 0, none⟩)] W fun e V => e = .returned (.bool ((t2 y : Int) == (x : Int))) ∧ Below W.heap.size W V := by
  obtain ⟨a2, o2, rfl, l2, k2⟩ := r.2.2.1.at hy
  obtain ⟨hbl, u0, u1, u2, u3, u4⟩ := O
  have q2 : (y : Int) < (n2 : Int) := by omega
  have q4 : (0 : Int) ≤ (y : Int) := by omega
  have hn2 : n2 ≤ 64 := r.2.1
  generalize t2 y = ty at *
  clear r
  go_enter Try.func35, Try.ntmps35
  go_wp2
  go_ret
  exact ⟨rfl, Below.refl _ _⟩

set_option maxHeartbeats 1000000 in
theorem fn37_any {W : World} {b q1 n1 c1 t1 w h p n cap q2 n2 c2 k} (O : OwnR W b q1 n1 c1 w h p n cap q2 n2 c2) (r : Th W q1 n1 t1 k) (y x : Nat) (hx : x < n1) :
    Calls Try.prog 37 #[.int .i64 y, .int .i64 x, .pointer (some ⟨b, 0, none⟩)] W fun e V => e = .returned (.bool ((t1 x : Int) == (y : Int))) ∧ Below W.heap.size W V := by
  obtain ⟨a2, o2, rfl, l2, k2⟩ := r.2.2.1.at hx
  obtain ⟨hbl, u0, u1, u2, u3, u4⟩ := O
  have q2 : (x : Int) < (n1 : Int) := by omega
  have q4 : (0 : Int) ≤ (x : Int) := by omega
  have hn2 : n1 ≤ 64 := r.2.1
  generalize t1 x = ty at *
  clear r
  go_enter Try.func37, Try.ntmps37
  go_wp2
  go_ret
  exact ⟨rfl, Below.refl _ _⟩

set_option maxHeartbeats 1000000 in
theorem fn36_any {W : World} {b q1 n1 c1 p n cap f q2 n2 c2} {w h : Nat} (O : OwnR W b q1 n1 c1 w h p n cap q2 n2 c2) (r : Rt W w h p n cap f) (y x : Nat) (hy : y < h) (hx : x < w) :
    Calls Try.prog 36 #[.int .i64 y, .int .i64 x, .pointer (some ⟨b, 0, none⟩)] W fun e V => e = .returned (.bool (f (y * w + x))) ∧ Below W.heap.size W V := by
  obtain ⟨hbl, u0, u1, u2, u3, u4⟩ := O
  have HH := hide (holds_any r y x hy hx)
  clear r
  generalize f (y * w + x) = v at *
  go_enter Try.func36, Try.ntmps36
  go_wp2_with fail
  refine (unhide HH).mono ?_
  rintro e V ⟨rfl, hb⟩
  go_wp2
  go_ret
  exact ⟨rfl, hb⟩

/-- a slice in a box -/
def Sb (W : World) (b : Nat) (q : Option Addr) (n c : Nat) : Prop := b < W.heap.size ∧ W.cell? ⟨b, 0, none⟩ = some (.slice q n c)
theorem Sb.keep {W V : World} {b : Nat} {q : Option Addr} {n c : Nat} (k : Sb W b q n c) (hb : Below W.heap.size W V) : Sb V b q n c := ⟨Nat.lt_of_lt_of_le k.1 hb.size, keepC hb k.1 k.2⟩

set_option maxRecDepth 100000 in
set_option maxHeartbeats 2000000 in
theorem fn30_any {W : World} {b0 b1 b2 p n cap f qp np cp tp qe ne ce te} {w h : Nat} (O : Tb W b0 w h p n cap f) (P : Sb W b1 qp np cp) (E : Sb W b2 qe ne ce) (rp : Th W qp np tp h) (re : Th W qe ne te w) (y x : Nat) (hy : y < np) (hx : x < ne) :
    Calls Try.prog 30 #[.int .i64 y, .int .i64 x, .pointer (some ⟨b0, 0, none⟩), .pointer (some ⟨b1, 0, none⟩), .pointer (some ⟨b2, 0, none⟩)] W fun e V => e = .returned (.bool (f (tp y * w + te x))) ∧ Below W.heap.size W V := by
  obtain ⟨a1, o1, rfl, l1, k1⟩ := re.2.2.1.at hx
  obtain ⟨a2, o2, rfl, l2, k2⟩ := rp.2.2.1.at hy
  have HH := hide (fun V (hV : Below W.heap.size W V) => holds_any (O.2.keep hV) (tp y) (te x) (rp.2.2.2 y hy) (re.2.2.2 x hx))
  obtain ⟨hbl, u0, u1, u2⟩ := O.1
  obtain ⟨hpl, pc⟩ := P
  obtain ⟨hel, ec⟩ := E
  have q1 : (x : Int) < (ne : Int) := by omega
  have q2 : (y : Int) < (np : Int) := by omega
  have q3 : (0 : Int) ≤ (x : Int) := by omega
  have q4 : (0 : Int) ≤ (y : Int) := by omega
  have hn1 : ne ≤ 64 := re.2.1
  have hn2 : np ≤ 64 := rp.2.1
  generalize f (tp y * w + te x) = v at *
  generalize tp y = ty at *
  generalize te x = tx at *
  have Hld := hide (show ∀ V, Below W.heap.size W V → V.cell? ⟨b0, 0, none⟩ = some (.int .i64 w) ∧ V.cell? ⟨b0, 1, none⟩ = some (.int .i64 h) ∧ V.cell? ⟨b0, 2, none⟩ = some (.slice p n cap) ∧ V.cell? ⟨b1, 0, none⟩ = some (.slice (some ⟨a2, o2, none⟩) np cp) ∧ V.cell? ⟨b2, 0, none⟩ = some (.slice (some ⟨a1, o1, none⟩) ne ce) ∧ V.cell? ⟨a2, o2 + y, none⟩ = some (.int .i64 ty) ∧ V.cell? ⟨a1, o1 + x, none⟩ = some (.int .i64 tx) from fun V hV => ⟨keepC hV hbl u0, keepC hV hbl u1, keepC hV hbl u2, keepC hV hpl pc, keepC hV hel ec, keepC hV l2 k2, keepC hV l1 k1⟩)
  clear O rp re u0 u1 u2 pc ec k1 k2
  go_enter Try.func30, Try.ntmps30
  go_wp2_with fail
  have hb3 := True.intro
  go_region_held3 (fun V => Below W.heap.size W V ∧ V.cell? ⟨b0, 0, none⟩ = some (.int .i64 w) ∧ V.cell? ⟨b0, 1, none⟩ = some (.int .i64 h) ∧ V.cell? ⟨b0, 2, none⟩ = some (.slice p n cap) ∧ V.cell? ⟨b1, 0, none⟩ = some (.slice (some ⟨a2, o2, none⟩) np cp) ∧ V.cell? ⟨b2, 0, none⟩ = some (.slice (some ⟨a1, o1, none⟩) ne ce) ∧ V.cell? ⟨a2, o2 + y, none⟩ = some (.int .i64 ty) ∧ V.cell? ⟨a1, o1 + x, none⟩ = some (.int .i64 tx))
    (first
      | (exact ⟨Below.drew (Below.refl _ _), unhide Hld _ (Below.drew (Below.refl _ _))⟩)
      | (exact ⟨hb3, unhide Hld _ hb3⟩))
    (first
      | (go_at_call 25; refine (unhide HH _ (Below.drew (Below.refl _ _))).mono ?_; rintro e w10 ⟨rfl, hb⟩; have hb3 := btrans (Below.drew (Below.refl _ _)) hb))
  go_wp2
  go_ret
  exact ⟨rfl, hb3⟩

theorem dE_right {W : World} {q1 n1 t1 p n cap f q2 n2 t2} {w h : Nat} (r : Rd W q1 n1 t1 w h p n cap f q2 n2 t2) : dE n1 (fun k => (t1 k : Nat)) w h n n2 (fun k => (t2 k : Nat)) = 0 := by
  have e1 := wE_right w h n r.1.1 r.1.2.1 r.1.2.2.1
  have e2 : ic n1 = true := (ic_iff n1).2 ⟨r.2.1.1, r.2.1.2.1⟩
  have e3 : ic n2 = true := (ic_iff n2).2 ⟨r.2.2.1, r.2.2.2.1⟩
  have e4 : bl (fun k => ((t1 k : Nat) : Int)) n1 w = true := (bl_iff _ _ _).2 fun k hk => by have := r.2.1.2.2.2 k hk; omega
  have e5 : bl (fun k => ((t2 k : Nat) : Int)) n2 h = true := (bl_iff _ _ _).2 fun k hk => by have := r.2.2.2.2.2 k hk; omega
  simp [dE, e1, e2, e3, e4, e5]
theorem dE_zero {n1 n n2 : Nat} {f1 f2 : Nat → Int} {w h : Int} (he : dE n1 f1 w h n n2 f2 = 0) : ∃ (w' h' : Nat) (t1 t2 : Nat → Nat), w = w' ∧ h = h' ∧ w' ≤ 64 ∧ h' ≤ 64 ∧ n = w' * h' ∧ 1 ≤ n1 ∧ n1 ≤ 64 ∧ 1 ≤ n2 ∧ n2 ≤ 64 ∧ (∀ k, k < n1 → f1 k = (t1 k : Nat) ∧ t1 k < w') ∧ (∀ k, k < n2 → f2 k = (t2 k : Nat) ∧ t2 k < h') := by
  unfold dE at he
  by_cases e : wE w h n = 0
  · rw [if_pos e] at he
    obtain ⟨w', h', rfl, rfl, k1, k2, k3⟩ := wE_zero _ _ _ e
    cases m : ic n1 && ic n2 with
    | false => rw [m] at he; simp at he
    | true =>
      rw [m, if_pos rfl] at he
      simp at m
      cases b : bl f1 n1 w' && bl f2 n2 h' with
      | false => rw [b] at he; simp at he
      | true =>
        simp at b
        have m1 := (ic_iff _).1 m.1
        have m2 := (ic_iff _).1 m.2
        have b1 := (bl_iff _ _ _).1 b.1
        have b2 := (bl_iff _ _ _).1 b.2
        exact ⟨w', h', fun k => (f1 k).toNat, fun k => (f2 k).toNat, rfl, rfl, k1, k2, k3, m1.1, m1.2, m2.1, m2.2, fun k hk => (by have := b1 k hk; dsimp only; omega), fun k hk => (by have := b2 k hk; dsimp only; omega)⟩
  · rw [if_neg e] at he; exact absurd he e
theorem dE_pos {n1 n n2 : Nat} {f1 f2 : Nat → Int} {w h : Int} (he : dE n1 f1 w h n n2 f2 ≠ 0) : 1 ≤ dE n1 f1 w h n n2 f2 := by
  unfold dE at *
  by_cases e : wE w h n = 0
  · rw [if_pos e] at *
    split
    · split
      · rename_i a b; rw [if_pos a, if_pos b] at he; exact absurd rfl he
      · omega
    · omega
  · rw [if_neg e]; exact wE_pos _ _ _ e
end Go.Proofs.Ytfbggbalnfbbgaa
