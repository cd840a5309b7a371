/-
  within, areaOf, meets, meetsOne of package lay; between of the reference.
-/
import Derived.Test.YtkhmdgppkjafoaaPA
namespace Go.Proofs.Ytkhmdgppkjafoaa
open Go.RowKit

/-- does what is so long, begun there, end by the limit? -/
def wiB (f l m : Int) : Bool := decide (0 ≤ f ∧ f < m ∧ l ≤ m - f)
set_option maxHeartbeats 1000000 in
theorem within_any (f l m : Int) (hm : m ≤ 9223372036854775807) (W : World) : Calls Try.prog 16 #[.int .i64 f, .int .i64 l, .int .i64 m] W fun e V => e = .returned (.bool (wiB f l m)) ∧ V = W := by
  by_cases h1 : 0 ≤ f
  · have h1' : decide (0 ≤ f) = true := decide_eq_true h1
    by_cases h2 : f < m
    · have h2' : decide (f < m) = true := decide_eq_true h2
      have He := hide (show wiB f l m = decide (l ≤ m - f) by unfold wiB; simp [h1, h2])
      obtain ⟨s, hs⟩ : ∃ s, m - f = s := ⟨_, rfl⟩
      have hs1 : 0 ≤ s ∧ s ≤ 9223372036854775807 := by omega
      rw [hs] at He
      go_enter Try.func16, Try.ntmps16
      go_wp2
      go_ret
      exact ⟨ret_bool (unhide He).symm, rfl⟩
    · have h2' : decide (f < m) = false := decide_eq_false h2
      have He := hide (show wiB f l m = false by unfold wiB; simp [h2])
      go_enter Try.func16, Try.ntmps16
      go_wp2
      go_ret
      exact ⟨ret_bool (unhide He).symm, rfl⟩
  · have h1' : decide (0 ≤ f) = false := decide_eq_false h1
    have He := hide (show wiB f l m = false by unfold wiB; simp [h1])
    go_enter Try.func16, Try.ntmps16
    go_wp2
    go_ret
    exact ⟨ret_bool (unhide He).symm, rfl⟩

abbrev pV (a b : Int) : Value := .agg #[.int .i64 a, .int .i64 b]
abbrev arV (l r o t : Int) : Value := .agg #[.int .i64 l, .int .i64 r, .int .i64 o, .int .i64 t]
set_option maxHeartbeats 1000000 in
theorem areaOf_any (a b x y r t : Int) (e1 : x + a = r) (e2 : y + b = t) (h1 : 0 ≤ r ∧ r ≤ 9223372036854775807) (h2 : 0 ≤ t ∧ t ≤ 9223372036854775807) (W : World) : Calls Try.prog 17 #[pV a b, pV x y] W fun e V => e = .returned (arV x r y t) ∧ Below W.heap.size W V := by
  unfold pV arV
  have Hb := hide (bal (o := .cells #[.int .i64 x, .int .i64 y] 35) (bnew W (.cells #[.int .i64 a, .int .i64 b] 33)))
  go_enter Try.func17, Try.ntmps17
  go_wp2
  exact bodyPost_ret (v := arV x r y t) (by simp [results, Try.results17, go_sem]) rfl ⟨rfl, bal (unhide Hb)⟩

/-- do two areas meet? -/
def mtB (l r o t l' r' o' t' : Int) : Bool := decide (l < r' ∧ l' < r ∧ o < t' ∧ o' < t)
set_option maxHeartbeats 2000000 in
theorem meets_any (l r o t l' r' o' t' : Int) (W : World) : Calls Try.prog 23 #[arV l r o t, arV l' r' o' t'] W fun e V => e = .returned (.bool (mtB l r o t l' r' o' t')) ∧ Below W.heap.size W V := by
  unfold arV
  by_cases h1 : l < r'
  · have h1' : decide (l < r') = true := decide_eq_true h1
    by_cases h2 : l' < r
    · have h2' : decide (l' < r) = true := decide_eq_true h2
      by_cases h3 : o < t'
      · have h3' : decide (o < t') = true := decide_eq_true h3
        have He := hide (show mtB l r o t l' r' o' t' = decide (o' < t) by unfold mtB; simp [h1, h2, h3])
        go_enter Try.func23, Try.ntmps23
        go_wp2
        go_ret
        exact ⟨ret_bool (unhide He).symm, bal (bnew _ _)⟩
      · have h3' : decide (o < t') = false := decide_eq_false h3
        have He := hide (show mtB l r o t l' r' o' t' = false by unfold mtB; simp [h3])
        go_enter Try.func23, Try.ntmps23
        go_wp2
        go_ret
        exact ⟨ret_bool (unhide He).symm, bal (bnew _ _)⟩
    · have h2' : decide (l' < r) = false := decide_eq_false h2
      have He := hide (show mtB l r o t l' r' o' t' = false by unfold mtB; simp [h2])
      go_enter Try.func23, Try.ntmps23
      go_wp2
      go_ret
      exact ⟨ret_bool (unhide He).symm, bal (bnew _ _)⟩
  · have h1' : decide (l < r') = false := decide_eq_false h1
    have He := hide (show mtB l r o t l' r' o' t' = false by unfold mtB; simp [h1])
    go_enter Try.func23, Try.ntmps23
    go_wp2
    go_ret
    exact ⟨ret_bool (unhide He).symm, bal (bnew _ _)⟩

/-- do two stretches have a place in common? -/
def btB (a n b m : Int) : Bool := decide (a < b + m ∧ b < a + n)
set_option maxHeartbeats 1000000 in
theorem between_any (a n b m : Int) (ha : 0 ≤ a ∧ a ≤ 9223372036854775807) (hb : 0 ≤ b ∧ b ≤ 9223372036854775807) (hn : 1 ≤ n) (hm : 1 ≤ m) (W : World) : Calls Try.prog 19 #[.int .i64 a, .int .i64 n, .int .i64 b, .int .i64 m] W fun e V => e = .returned (.bool (btB a n b m)) ∧ V = W := by
  by_cases h1 : a ≤ b
  · obtain ⟨s, hs⟩ : ∃ s, b - a = s := ⟨_, rfl⟩
    have hs1 : 0 ≤ s ∧ s ≤ 9223372036854775807 := by omega
    have He := hide (show btB a n b m = decide (s < n) by unfold btB; rw [decide_eq_decide]; omega)
    go_enter Try.func19, Try.ntmps19
    go_wp2
    go_ret
    exact ⟨ret_bool (unhide He).symm, rfl⟩
  · obtain ⟨s, hs⟩ : ∃ s, a - b = s := ⟨_, rfl⟩
    have hs1 : 0 ≤ s ∧ s ≤ 9223372036854775807 := by omega
    have He := hide (show btB a n b m = decide (s < m) by unfold btB; rw [decide_eq_decide]; omega)
    go_enter Try.func19, Try.ntmps19
    go_wp2
    go_ret
    exact ⟨ret_bool (unhide He).symm, rfl⟩

/-- areas in a row that may be written -/
def AR (W : World) (g n : Nat) (l r o t : Nat → Int) : Prop := g < W.heap.size ∧ ∀ k, k < n → (W.cell? ⟨g, k * 4, none⟩ = some (.int .i64 (l k)) ∧ W.cell? ⟨g, k * 4 + 1, none⟩ = some (.int .i64 (r k)) ∧ W.cell? ⟨g, k * 4 + 2, none⟩ = some (.int .i64 (o k)) ∧ W.cell? ⟨g, k * 4 + 3, none⟩ = some (.int .i64 (t k)))
theorem AR.keep {W V : World} {g n : Nat} {l r o t : Nat → Int} (h : AR W g n l r o t) (hb : Below W.heap.size W V) : AR V g n l r o t :=
  ⟨Nat.lt_of_lt_of_le h.1 hb.size, fun k hk => ⟨keepC hb h.1 (h.2 k hk).1, keepC hb h.1 (h.2 k hk).2.1, keepC hb h.1 (h.2 k hk).2.2.1, keepC hb h.1 (h.2 k hk).2.2.2⟩⟩
/-- an area in its box -/
def B4 (W : World) (g : Nat) (l r o t : Int) : Prop := g < W.heap.size ∧ W.cell? ⟨g, 0, none⟩ = some (.int .i64 l) ∧ W.cell? ⟨g, 1, none⟩ = some (.int .i64 r) ∧ W.cell? ⟨g, 2, none⟩ = some (.int .i64 o) ∧ W.cell? ⟨g, 3, none⟩ = some (.int .i64 t)
theorem B4.keep {W V : World} {g : Nat} {l r o t : Int} (h : B4 W g l r o t) (hb : Below W.heap.size W V) : B4 V g l r o t :=
  ⟨Nat.lt_of_lt_of_le h.1 hb.size, keepC hb h.1 h.2.1, keepC hb h.1 h.2.2.1, keepC hb h.1 h.2.2.2.1, keepC hb h.1 h.2.2.2.2⟩
theorem B4.new (W : World) (l r o t : Int) (ty : TypeId) : B4 (W.alloc (.cells #[.int .i64 l, .int .i64 r, .int .i64 o, .int .i64 t] ty)) W.heap.size l r o t :=
  ⟨by simp, by simp [go_sem], by simp [go_sem], by simp [go_sem], by simp [go_sem]⟩

/-- does an area meet one of the first n? -/
def m1B (l r o t : Int) (n : Nat) (l' r' o' t' : Nat → Int) : Bool := !decide (∀ j, j < n → ¬ (l < r' j ∧ l' j < r ∧ o < t' j ∧ o' j < t))
set_option maxRecDepth 100000 in
set_option maxHeartbeats 4000000 in
theorem meetsOne_any (l r o t : Int) (g n cap : Nat) (l' r' o' t' : Nat → Int) (hn : n ≤ 256) (W : World) (hA : AR W g n l' r' o' t') : Calls Try.prog 18 #[arV l r o t, .slice (some ⟨g, 0, none⟩) n cap] W fun e V => e = .returned (.bool (m1B l r o t n l' r' o' t')) ∧ Below W.heap.size W V := by
  unfold arV
  have HM := hide (fun l' r' o' t' V => meets_any l r o t l' r' o' t' V)
  have HA := hide (hA.keep (bnew W (.cells #[.int .i64 l, .int .i64 r, .int .i64 o, .int .i64 t] 48)))
  have HB := hide (B4.new W l r o t 48)
  have Hb := hide (bnew W (.cells #[.int .i64 l, .int .i64 r, .int .i64 o, .int .i64 t] 48))
  clear hA
  go_enter Try.func18, Try.ntmps18
  go_upto_region 1 with fail
  generalize W.alloc (.cells #[.int .i64 l, .int .i64 r, .int .i64 o, .int .i64 t] 48) = w1 at *
  obtain ⟨n2, hn2⟩ : ∃ n2, n2 = W.heap.size := ⟨_, rfl⟩
  rw [← hn2] at HB
  rw [← hn2]
  have Hn2 := hide hn2
  clear hn2
  go_wp2
  go_loopw [9] (fun i wr => ∃ x : Nat, x ≤ n ∧ i = .int .i64 (x : Int) ∧ Hid (∀ j, j < x → ¬ (l < r' j ∧ l' j < r ∧ o < t' j ∧ o' j < t)) ∧ Below w1.heap.size w1 wr) (fun i _ => n - (intOf i).toNat)
  case atStart => exact ⟨0, by omega, rfl, hide (fun k hk => by omega), Below.refl _ _⟩
  case round =>
    obtain ⟨x, hx, rfl, Hs, hb⟩ := hrel
    by_cases hlt : x < n
    · obtain ⟨k0, k1, k2, k3⟩ := ((unhide HA).keep hb).2 x hlt
      have q0 : (x : Int) < (n : Int) := by omega
      have q1 : (0 : Int) ≤ (x : Int) := by omega
      have HB1 := hide (((unhide HB).keep hb).keep (bnew wr (.cells #[.int .i64 (l' x), .int .i64 (r' x), .int .i64 (o' x), .int .i64 (t' x)] 48)))
      have HB2 := hide (B4.new wr (l' x) (r' x) (o' x) (t' x) 48)
      have Hb1 := hide (bal (o := .cells #[.int .i64 (l' x), .int .i64 (r' x), .int .i64 (o' x), .int .i64 (t' x)] 48) hb)
      have Hyes := hide (show (l < r' x ∧ l' x < r ∧ o < t' x ∧ o' x < t) → m1B l r o t n l' r' o' t' = true from fun h => by
        unfold m1B
        rw [decide_eq_false (fun q => q x hlt h)]
        rfl)
      have Hno := hide (show ¬ (l < r' x ∧ l' x < r ∧ o < t' x ∧ o' x < t) → ∀ j, j < x + 1 → ¬ (l < r' j ∧ l' j < r ∧ o < t' j ∧ o' j < t) from fun h j hj => by
        by_cases e : j = x
        · rw [e]; exact h
        · exact unhide Hs j (by omega))
      clear hb
      generalize l' x = ul at *
      generalize r' x = ur at *
      generalize o' x = uo at *
      generalize t' x = ut at *
      go_upto_region 4 with fail
      generalize wr.alloc (.cells #[.int .i64 ul, .int .i64 ur, .int .i64 uo, .int .i64 ut] 48) = w3 at *
      generalize wr.heap.size = n6 at *
      clear k0 k1 k2 k3
      obtain ⟨-, i0, i1, i2, i3⟩ := unhide HB1
      obtain ⟨-, j0, j1, j2, j3⟩ := unhide HB2
      go_wp2_with fail
      refine (unhide HM _ _ _ _ _).mono ?_
      rintro e w4 ⟨rfl, hb4⟩
      have Hb4 := hide (btrans (unhide Hb1) hb4)
      clear hb4 Hb1 i0 i1 i2 i3 j0 j1 j2 j3 HB1 HB2
      by_cases c : l < ur ∧ ul < r ∧ o < ut ∧ uo < t
      · rw [show mtB l r o t ul ur uo ut = true from decide_eq_true c]
        have He := hide (unhide Hyes c)
        clear c
        go_wp2
        go_ret
        exact ⟨ret_bool (unhide He).symm, btrans (unhide Hb) (unhide Hb4)⟩
      · rw [show mtB l r o t ul ur uo ut = false from decide_eq_false c]
        have He := hide (unhide Hno c)
        clear c
        go_wp2
        go_roundw
        case rel => exact ⟨x + 1, by omega, by go_num, hide (unhide He), unhide Hb4⟩
        case measure => simp [intOf]; omega
    · obtain rfl : n = x := by omega
      have cl : ¬ ((n : Int) < (n : Int)) := by omega
      have He := hide (show m1B l r o t n l' r' o' t' = false by unfold m1B; rw [decide_eq_true (unhide Hs)]; rfl)
      have Hb5 := hide (btrans (unhide Hb) hb)
      clear hb
      go_wp2
      go_ret
      exact ⟨ret_bool (unhide He).symm, unhide Hb5⟩
end Go.Proofs.Ytkhmdgppkjafoaa
