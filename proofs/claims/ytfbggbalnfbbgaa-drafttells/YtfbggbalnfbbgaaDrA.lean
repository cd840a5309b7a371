/-
  Package draft: drafts and their boxes; isCount, allBelow, holds, and what is wrong with a draft, of both sides.
-/
import Derived.Test.YtfbggbalnfbbgaaLTell
namespace Go.Proofs.Ytfbggbalnfbbgaa
open Go.RowKit Go.Shelf

/-- a draft, as the calls take it -/
abbrev dr (q1 : Option Addr) (n1 c1 : Nat) (w h : Int) (p : Option Addr) (n cap : Nat) (q2 : Option Addr) (n2 c2 : Nat) : Value := .agg #[.slice q1 n1 c1, .int .i64 w, .int .i64 h, .slice p n cap, .slice q2 n2 c2]
/-- whole numbers that lie in a slice -/
def Is (W : World) (q : Option Addr) (n : Nat) (f : Nat → Int) : Prop := n = 0 ∨ ∃ b o, q = some ⟨b, o, none⟩ ∧ b < W.heap.size ∧ ∀ k, k < n → W.cell? ⟨b, o + k, none⟩ = some (.int .i64 (f k))
theorem Is.keep {W V : World} {q : Option Addr} {n : Nat} {f : Nat → Int} (h : Is W q n f) (hb : Below W.heap.size W V) : Is V q n f := by
  rcases h with h | ⟨b, o, e, hl, hk⟩
  · exact .inl h
  · exact .inr ⟨b, o, e, Nat.lt_of_lt_of_le hl hb.size, fun k hkn => keepC hb hl (hk k hkn)⟩
theorem Ns.is {W : World} {q : Option Addr} {n : Nat} {f : Nat → Nat} (h : Ns W q n f) : Is W q n (fun k => (f k : Nat)) := by
  rcases h with h | ⟨b, e, hl, hk⟩
  · exact .inl h
  · exact .inr ⟨b, 0, e, hl, fun k hkn => by rw [Nat.zero_add]; exact hk k hkn⟩
theorem IRow.is {W : World} {q n : Nat} {f : Nat → Nat} (h : IRow W q n f) : Is W (some ⟨q, 0, none⟩) n (fun k => (f k : Nat)) :=
  .inr ⟨q, 0, rfl, h.1, fun k hkn => by rw [Nat.zero_add]; exact (h.2 k hkn).1⟩
/-- a draft in a box -/
def OwnR (W : World) (b : Nat) (q1 : Option Addr) (n1 c1 : Nat) (w h : Int) (p : Option Addr) (n cap : Nat) (q2 : Option Addr) (n2 c2 : Nat) : Prop :=
  b < W.heap.size ∧ W.cell? ⟨b, 0, none⟩ = some (.slice q1 n1 c1) ∧ W.cell? ⟨b, 1, none⟩ = some (.int .i64 w) ∧ W.cell? ⟨b, 2, none⟩ = some (.int .i64 h) ∧ W.cell? ⟨b, 3, none⟩ = some (.slice p n cap) ∧ W.cell? ⟨b, 4, none⟩ = some (.slice q2 n2 c2)
theorem OwnR.keep {W V : World} {b : Nat} {q1 : Option Addr} {n1 c1 : Nat} {w h : Int} {p : Option Addr} {n cap : Nat} {q2 : Option Addr} {n2 c2 : Nat} (k : OwnR W b q1 n1 c1 w h p n cap q2 n2 c2) (hb : Below W.heap.size W V) : OwnR V b q1 n1 c1 w h p n cap q2 n2 c2 :=
  ⟨Nat.lt_of_lt_of_le k.1 hb.size, keepC hb k.1 k.2.1, keepC hb k.1 k.2.2.1, keepC hb k.1 k.2.2.2.1, keepC hb k.1 k.2.2.2.2.1, keepC hb k.1 k.2.2.2.2.2⟩
theorem OwnR.new (W : World) (q1 : Option Addr) (n1 c1 : Nat) (w h : Int) (p : Option Addr) (n cap : Nat) (q2 : Option Addr) (n2 c2 : Nat) :
    OwnR (W.alloc (.cells #[.slice q1 n1 c1, .int .i64 w, .int .i64 h, .slice p n cap, .slice q2 n2 c2] 27)) W.heap.size q1 n1 c1 w h p n cap q2 n2 c2 :=
  ⟨by simp, by simp [go_sem], by simp [go_sem], by simp [go_sem], by simp [go_sem], by simp [go_sem]⟩

/-- how many threads there may be -/
def ic (n : Nat) : Bool := decide (0 < (n : Int)) && decide ((n : Int) ≤ 64)
theorem ic_iff (n : Nat) : ic n = true ↔ 1 ≤ n ∧ n ≤ 64 := by simp [ic]; omega
/-- numbers from 0 on below a bound -/
def bl (f : Nat → Int) (n : Nat) (b : Int) : Bool := (List.range n).all fun k => decide (0 ≤ f k) && decide (f k < b)
theorem bl_iff (f : Nat → Int) (n : Nat) (b : Int) : bl f n b = true ↔ ∀ k, k < n → 0 ≤ f k ∧ f k < b := by simp [bl]
theorem bl_false (f : Nat → Int) (n : Nat) (b : Int) (k : Nat) (hk : k < n) (h : ¬ (0 ≤ f k ∧ f k < b)) : bl f n b = false := by
  cases e : bl f n b with
  | false => rfl
  | true => exact absurd ((bl_iff f n b).1 e k hk) h
/-- what is wrong with a draft -/
def dE (n1 : Nat) (f1 : Nat → Int) (w h : Int) (n : Nat) (n2 : Nat) (f2 : Nat → Int) : Int :=
  if wE w h n = 0 then (if ic n1 && ic n2 then (if bl f1 n1 w && bl f2 n2 h then 0 else 8) else 5) else wE w h n

set_option maxHeartbeats 400000 in
theorem count_any (n : Nat) (W : World) : Calls Try.prog 20 #[.int .i64 n] W fun e w' => e = .returned (.bool (ic n)) ∧ w' = W := by
  by_cases h : 0 < (n : Int)
  · go_enter Try.func20, Try.ntmps20
    go_wp2
    go_ret
    exact ⟨by simp [ic]; omega, rfl⟩
  · have h' : decide (0 < (n : Int)) = false := by simpa using h
    go_enter Try.func20, Try.ntmps20
    go_wp2
    go_ret
    exact ⟨by simp [ic]; omega, rfl⟩

set_option maxHeartbeats 1000000 in
theorem below_any (q : Option Addr) (n c : Nat) (f : Nat → Int) (b : Int) (W : World) (hn : n ≤ 64) (hq : Is W q n f) :
    Calls Try.prog 21 #[.slice q n c, .int .i64 b] W fun e w' => e = .returned (.bool (bl f n b)) ∧ Below W.heap.size W w' := by
  have HQ := hide hq
  clear hq
  go_enter Try.func21, Try.ntmps21
  go_wp2
  go_loopw [9] (fun i wr => ∃ x : Nat, x ≤ n ∧ i = .int .i64 x ∧ (∀ j, j < x → 0 ≤ f j ∧ f j < b) ∧ Below W.heap.size W wr) (fun i _ => n - (intOf i).toNat)
  case atStart => exact ⟨0, Nat.zero_le _, rfl, fun j hj => by omega, Below.refl _ _⟩
  case round =>
    obtain ⟨x, hx, rfl, he, hbel⟩ := hrel
    have He := hide he
    clear he
    by_cases hlt : x < n
    · obtain ⟨a, o, rfl, l1, k1⟩ : ∃ a o, q = some ⟨a, o, none⟩ ∧ a < wr.heap.size ∧ ∀ k, k < n → wr.cell? ⟨a, o + k, none⟩ = some (.int .i64 (f k)) := by
        rcases (unhide HQ).keep hbel with h0 | h1
        · omega
        · exact h1
      have d1 := k1 x hlt
      have q1 : (x : Int) < (n : Int) := by omega
      have q2 : (0 : Int) ≤ (x : Int) := by omega
      clear k1
      by_cases hneg : f x < 0
      · have Hz := hide (bl_false f n b x hlt (by omega))
        go_wp2
        go_ret
        exact ⟨ret_bool (unhide Hz).symm, hbel⟩
      · have hneg' : decide (f x < 0) = false := by simpa using hneg
        by_cases hge : b ≤ f x
        · have Hz := hide (bl_false f n b x hlt (by omega))
          go_wp2
          go_ret
          exact ⟨ret_bool (unhide Hz).symm, hbel⟩
        · go_wp2
          go_roundw
          case rel => exact ⟨x + 1, by omega, by go_num, fun j hj => (by
            by_cases e : j = x
            · subst e; omega
            · exact unhide He j (by omega)), hbel⟩
          case measure => simp [intOf]; omega
    · obtain rfl : x = n := by omega
      have cl : ¬ ((x : Int) < (x : Int)) := by omega
      have Hz := hide ((bl_iff f x b).2 (unhide He))
      go_wp2
      go_ret
      exact ⟨ret_bool (unhide Hz).symm, hbel⟩

set_option maxHeartbeats 1000000 in
theorem holds_any {W : World} {w h : Nat} {p : Option Addr} {n cap : Nat} {f : Nat → Bool} (r : Rt W w h p n cap f) (y x : Nat) (hy : y < h) (hx : x < w) :
    Calls Try.prog 25 #[tr w h p n cap, .int .i64 y, .int .i64 x] W fun e w' => e = .returned (.bool (f (y * w + x))) ∧ Below W.heap.size W w' := by
  have hw := r.1
  have hh := r.2.1
  have hk : y * w + x < n := by rw [r.2.2.1]; exact row_lt hx hy
  have r' := r.2.2.2.keep (bal (o := .cells #[.int .i64 w, .int .i64 h, .slice p n cap] 25) (Below.refl W.heap.size W))
  obtain ⟨b, o, rfl, hb, hc⟩ := bs_at r' hk
  have hn4 : n ≤ 4096 := by rw [r.2.2.1]; exact Nat.mul_le_mul hw hh
  obtain ⟨yw, hyw⟩ : ∃ yw : Nat, yw = y * w := ⟨_, rfl⟩
  rw [← hyw] at hk hc ⊢
  have e3 : wrap64 ((y : Int) * (w : Int)) = (yw : Int) := by
    rw [hyw, ← Int.natCast_mul]
    exact Go.IntWalk.wrap64_in _ (by omega)
  obtain ⟨k, hk2⟩ : ∃ k : Nat, k = yw + x := ⟨_, rfl⟩
  rw [← hk2] at hk hc ⊢
  have e4 : (yw : Int) + (x : Int) = (k : Int) := by omega
  have hkn : (k : Int) < (n : Int) := by omega
  have hk0 : (0 : Int) ≤ (k : Int) := by omega
  have q1 : (yw : Int) ≤ 4096 := by omega
  have q2 : (0 : Int) ≤ (yw : Int) := by omega
  have q3 : (x : Int) ≤ 64 := by omega
  clear r r' hyw hk2
  go_enter Try.func25, Try.ntmps25
  go_wp2
  go_ret
  exact ⟨rfl, bal (Below.refl _ _)⟩


/-- Wrong of a draft, either side -/
def DWrongIs (F : Nat) (q1 : Option Addr) (n1 c1 : Nat) (w h : Int) (p : Option Addr) (n cap : Nat) (q2 : Option Addr) (n2 c2 : Nat) (W : World) (er : Int) : Prop := Calls Try.prog F #[dr q1 n1 c1 w h p n cap q2 n2 c2] W fun e w' => e = .returned (.int .i64 er) ∧ Below W.heap.size W w'

set_option maxHeartbeats 1000000 in
theorem dwrong_tie (q1 : Option Addr) (n1 c1 : Nat) (w h : Int) (p : Option Addr) (n cap : Nat) (q2 : Option Addr) (n2 c2 : Nat) (W : World) (er : Int) (her : wE w h n = er) (hp : 1 ≤ er) : DWrongIs 6 q1 n1 c1 w h p n cap q2 n2 c2 W er := by
  have HW := hide (fun W => wrong_any w h p n cap W)
  rw [her] at HW
  have hp' : (er != 0) = true := by simp; omega
  have O := OwnR.new W q1 n1 c1 w h p n cap q2 n2 c2
  have HB := hide (bal (o := .cells #[.slice q1 n1 c1, .int .i64 w, .int .i64 h, .slice p n cap, .slice q2 n2 c2] 27) (Below.refl W.heap.size W))
  clear her
  unfold DWrongIs
  go_enter Try.func6, Try.ntmps6
  go_wp2_with fail
  refine (unhide HW _).mono ?_
  rintro e w1 ⟨rfl, hb⟩
  have S := hide (btrans (unhide HB) hb)
  clear hb HB O
  go_wp2
  go_ret
  exact ⟨rfl, unhide S⟩

set_option maxHeartbeats 1000000 in
theorem dwrong_many (q1 : Option Addr) (n1 c1 : Nat) (w h : Int) (p : Option Addr) (n cap : Nat) (q2 : Option Addr) (n2 c2 : Nat) (W : World) (her : wE w h n = 0) (hm : (ic n1 && ic n2) = false) : DWrongIs 6 q1 n1 c1 w h p n cap q2 n2 c2 W 5 := by
  have HW := hide (fun W => wrong_any w h p n cap W)
  rw [her] at HW
  have O := hide (OwnR.new W q1 n1 c1 w h p n cap q2 n2 c2)
  have HB := hide (bal (o := .cells #[.slice q1 n1 c1, .int .i64 w, .int .i64 h, .slice p n cap, .slice q2 n2 c2] 27) (Below.refl W.heap.size W))
  have H1 := hide (fun W => count_any n1 W)
  have H2 := hide (fun W => count_any n2 W)
  clear her
  generalize ic n1 = b1 at *
  generalize ic n2 = b2 at *
  unfold DWrongIs
  go_enter Try.func6, Try.ntmps6
  go_wp2_with fail
  refine (unhide HW _).mono ?_
  rintro e w1 ⟨rfl, hb⟩
  have S := hide (btrans (unhide HB) hb)
  have O1 := ((unhide O).keep hb).2
  clear hb HB O
  cases b1
  · go_wp2_with fail
    refine (unhide H1 _).mono ?_
    rintro e w2 ⟨rfl, rfl⟩
    go_wp2
    go_ret
    exact ⟨rfl, unhide S⟩
  · have hm2 : b2 = false := by simpa using hm
    subst hm2
    go_wp2_with fail
    refine (unhide H1 _).mono ?_
    rintro e w2 ⟨rfl, rfl⟩
    go_wp2_with fail
    refine (unhide H2 _).mono ?_
    rintro e w2 ⟨rfl, rfl⟩
    go_wp2
    go_ret
    exact ⟨rfl, unhide S⟩

set_option maxHeartbeats 1000000 in
theorem dwrong_fit (q1 : Option Addr) (n1 c1 : Nat) (f1 : Nat → Int) (w h : Int) (p : Option Addr) (n cap : Nat) (q2 : Option Addr) (n2 c2 : Nat) (f2 : Nat → Int) (W : World) (h1 : Is W q1 n1 f1) (h2 : Is W q2 n2 f2) (her : wE w h n = 0) (m1 : ic n1 = true) (m2 : ic n2 = true) (er : Int) (he : (if bl f1 n1 w && bl f2 n2 h then 0 else 8) = er) : DWrongIs 6 q1 n1 c1 w h p n cap q2 n2 c2 W er := by
  have HW := hide (fun W => wrong_any w h p n cap W)
  rw [her] at HW
  have O := hide (OwnR.new W q1 n1 c1 w h p n cap q2 n2 c2)
  have HB := hide (bal (o := .cells #[.slice q1 n1 c1, .int .i64 w, .int .i64 h, .slice p n cap, .slice q2 n2 c2] 27) (Below.refl W.heap.size W))
  have H1 := hide (fun W => count_any n1 W)
  have H2 := hide (fun W => count_any n2 W)
  have K1 := hide (fun V (hV : Below W.heap.size W V) => below_any q1 n1 c1 f1 w V ((ic_iff n1).1 m1).2 (h1.keep hV))
  have K2 := hide (fun V (hV : Below W.heap.size W V) => below_any q2 n2 c2 f2 h V ((ic_iff n2).1 m2).2 (h2.keep hV))
  have He := hide he
  rw [m1] at H1
  rw [m2] at H2
  clear her m1 m2 he h1 h2
  generalize bl f1 n1 w = b1 at *
  generalize bl f2 n2 h = b2 at *
  unfold DWrongIs
  go_enter Try.func6, Try.ntmps6
  go_wp2_with fail
  refine (unhide HW _).mono ?_
  rintro e w1 ⟨rfl, hb⟩
  have S := hide (btrans (unhide HB) hb)
  have O0 := hide ((unhide O).keep hb)
  have O1 := (unhide O0).2
  clear hb HB O
  go_wp2_with fail
  refine (unhide H1 _).mono ?_
  rintro e w2 ⟨rfl, rfl⟩
  go_wp2_with fail
  refine (unhide H2 _).mono ?_
  rintro e w2 ⟨rfl, rfl⟩
  go_wp2_with fail
  clear O1
  refine (unhide K1 _ (unhide S)).mono ?_
  rintro e w2 ⟨rfl, hb⟩
  have S2 := hide (btrans (unhide S) hb)
  have O2 := ((unhide O0).keep hb).2
  clear hb
  cases b1
  · go_wp2
    go_ret
    exact ⟨ret_int (by rw [← unhide He]; rfl), unhide S2⟩
  · go_wp2_with fail
    clear O2
    refine (unhide K2 _ (unhide S2)).mono ?_
    rintro e w3 ⟨rfl, hb⟩
    have S3 := hide (btrans (unhide S2) hb)
    clear hb
    cases b2
    · go_wp2
      go_ret
      exact ⟨ret_int (by rw [← unhide He]; rfl), unhide S3⟩
    · go_wp2
      go_ret
      exact ⟨ret_int (by rw [← unhide He]; rfl), unhide S3⟩

theorem dwrong_any (q1 : Option Addr) (n1 c1 : Nat) (f1 : Nat → Int) (w h : Int) (p : Option Addr) (n cap : Nat) (q2 : Option Addr) (n2 c2 : Nat) (f2 : Nat → Int) (W : World) (h1 : Is W q1 n1 f1) (h2 : Is W q2 n2 f2) : DWrongIs 6 q1 n1 c1 w h p n cap q2 n2 c2 W (dE n1 f1 w h n n2 f2) := by
  unfold dE
  by_cases e : wE w h n = 0
  · rw [if_pos e]
    cases m : ic n1 && ic n2 with
    | false => exact dwrong_many q1 n1 c1 w h p n cap q2 n2 c2 W e m
    | true =>
      simp at m
      exact dwrong_fit q1 n1 c1 f1 w h p n cap q2 n2 c2 f2 W h1 h2 e m.1 m.2 _ rfl
  · rw [if_neg e]
    exact dwrong_tie q1 n1 c1 w h p n cap q2 n2 c2 W _ rfl (wE_pos _ _ _ e)
end Go.Proofs.Ytfbggbalnfbbgaa
