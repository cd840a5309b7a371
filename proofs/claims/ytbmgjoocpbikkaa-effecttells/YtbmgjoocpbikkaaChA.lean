/-
  First walks: what sideWithin and Wrong of package chart, and Wrong of the reference, answer, at every chart.
-/
import Derived.Test.YtbmgjoocpbikkaaBase
namespace Go.Proofs.Ytbmgjoocpbikkaa.Ch
open Go.RowKit

/-- a side that may be -/
def sw (n : Int) : Bool := decide (1 ≤ n) && decide (n ≤ 64)
theorem sw_iff (n : Int) : sw n = true ↔ 1 ≤ n ∧ n ≤ 64 := by simp [sw]
def okg (g : Int) : Bool := decide (g = 4) || decide (g = 6)

set_option maxHeartbeats 400000 in
theorem side_any (n : Int) (w : World) : Calls Try.prog 38 #[.int .i64 n] w fun e w' => e = .returned (.bool (sw n)) ∧ w' = w := by
  by_cases h : 1 ≤ n
  · go_enter Try.func38, Try.ntmps38
    go_wp2
    go_ret
    exact ⟨by simp [sw, h], rfl⟩
  · have h' : decide (1 ≤ n) = false := by simp; omega
    go_enter Try.func38, Try.ntmps38
    go_wp2
    go_ret
    exact ⟨by simp [sw, h'], rfl⟩

/-- all colours of a row are colours -/
def allin (px : Nat → Int) : Nat → Bool
  | 0 => true
  | k + 1 => allin px k && (decide (0 ≤ px k) && decide (px k ≤ 61))
theorem allin_false (px : Nat → Int) (k n : Nat) (h : k < n) (hk : (decide (0 ≤ px k) && decide (px k ≤ 61)) = false) : allin px n = false := by
  induction n with
  | zero => omega
  | succ n ih =>
    by_cases e : k = n
    · subst e; simp [allin, hk]
    · simp [allin, ih (by omega)]
theorem allin_get (px : Nat → Int) (n : Nat) (h : allin px n = true) (k : Nat) (hk : k < n) : 0 ≤ px k ∧ px k ≤ 61 := by
  induction n with
  | zero => omega
  | succ n ih =>
    simp [allin] at h
    by_cases e : k = n
    · subst e; exact h.2
    · exact ih h.1 (by omega)

/-- a chart, as the calls take it -/
abbrev ch (g w h : Int) (p : Option Addr) (n cap : Nat) : Value := .agg #[.int .i64 g, .int .i64 w, .int .i64 h, .slice p n cap]
/-- a row of colours in a world -/
def Row (W : World) (b o n : Nat) (px : Nat → Int) : Prop := b < W.heap.size ∧ ∀ k, k < n → W.cell? ⟨b, o + k, none⟩ = some (.int .i64 (px k))
theorem Row.keep {W w1 : World} {b o n : Nat} {px : Nat → Int} (h : Row W b o n px) (hb : Below W.heap.size W w1) : Row w1 b o n px :=
  ⟨by have := hb.size; have := h.1; omega, fun k hk => by rw [hb.cell (p := ⟨b, o + k, none⟩) h.1]; exact h.2 k hk⟩
def wE (g w h : Int) (n : Nat) (px : Nat → Int) : Int := if okg g then (if sw w && sw h then (if (n : Int) = w * h then (if allin px n then 0 else 3) else 8) else 3) else 1

def WrongIs (F : Nat) (g w h : Int) (p : Option Addr) (n cap : Nat) (W : World) (er : Int) : Prop := Calls Try.prog F #[ch g w h p n cap] W fun e w' => e = .returned (.int .i64 er) ∧ Below W.heap.size W w'

set_option maxHeartbeats 1000000 in
theorem wrong_kind (g w h : Int) (p : Option Addr) (n cap : Nat) (W : World) (hk : okg g = false) : WrongIs 34 g w h p n cap W 1 := by
  have h4 : (g != 4) = true := by simp [okg] at hk ⊢; omega
  have h6 : (g != 6) = true := by simp [okg] at hk ⊢; omega
  clear hk
  unfold WrongIs
  go_enter Try.func34, Try.ntmps34
  go_wp2
  go_ret
  exact ⟨rfl, bal (Below.refl _ _)⟩

set_option maxHeartbeats 1000000 in
theorem wrong_side (g w h : Int) (p : Option Addr) (n cap : Nat) (W : World) (hk : g = 4 ∨ g = 6) (hs : (sw w && sw h) = false) : WrongIs 34 g w h p n cap W 3 := by
  unfold WrongIs
  rcases hk with rfl | rfl
  all_goals
    cases h1 : sw w with
    | false =>
      go_enter Try.func34, Try.ntmps34
      go_wp2_with (go_at_call 38; refine (side_any _ _).mono ?_; rintro e w' ⟨rfl, rfl⟩)
      go_ret
      exact ⟨rfl, bal (Below.refl _ _)⟩
    | true =>
      have h2 : sw h = false := by simpa [h1] using hs
      clear hs
      go_enter Try.func34, Try.ntmps34
      go_wp2_with (go_at_call 38; refine (side_any _ _).mono ?_; rintro e w' ⟨rfl, rfl⟩)
      go_ret
      exact ⟨rfl, bal (Below.refl _ _)⟩

theorem area (w h : Int) (h1 : sw w = true) (h2 : sw h = true) : 1 ≤ w * h ∧ w * h ≤ 4096 := by
  have b1 := (sw_iff w).1 h1
  have b2 := (sw_iff h).1 h2
  have c1 := Int.mul_le_mul (a := w) (b := h) (c := 64) (d := 64) (by omega) (by omega) (by omega) (by omega)
  have c2 := Int.mul_le_mul (a := 1) (b := 1) (c := w) (d := h) (by omega) (by omega) (by omega) (by omega)
  omega

set_option maxHeartbeats 1000000 in
theorem wrong_fit (g w h : Int) (p : Option Addr) (n cap : Nat) (W : World) (hk : g = 4 ∨ g = 6) (h1 : sw w = true) (h2 : sw h = true) (hn : (n : Int) ≠ w * h) : WrongIs 34 g w h p n cap W 8 := by
  unfold WrongIs
  have hm := area w h h1 h2
  have hn' : ((n : Int) != w * h) = true := by simp [hn]
  clear hn
  rcases hk with rfl | rfl
  all_goals
    go_enter Try.func34, Try.ntmps34
    go_wp2_with (go_at_call 38; refine (side_any _ _).mono ?_; rintro e w' ⟨rfl, rfl⟩)
    go_ret
    exact ⟨rfl, bal (Below.refl _ _)⟩

set_option maxHeartbeats 2000000 in
theorem wrong_cells (g w h : Int) (b o n cap : Nat) (px : Nat → Int) (W : World) (hk : g = 4 ∨ g = 6) (h1 : sw w = true) (h2 : sw h = true) (hn : (n : Int) = w * h) (hr : Row W b o n px) (er : Int) (Her : Hid ((if allin px n then 0 else 3) = er)) : WrongIs 34 g w h (some ⟨b, o, none⟩) n cap W er := by
  unfold WrongIs
  have hm := area w h h1 h2
  have hn4 : n ≤ 4096 := by omega
  have hn' : ((n : Int) != w * h) = false := by simp [hn]
  have Hr := hide hr
  clear hn hr
  rcases hk with rfl | rfl
  all_goals
    go_enter Try.func34, Try.ntmps34
    go_wp2_with (go_at_call 38; refine (side_any _ _).mono ?_; rintro e w' ⟨rfl, rfl⟩)
    go_loopw [38] (fun i w1 => ∃ k : Nat, k ≤ n ∧ i = .int .i64 k ∧ allin px k = true ∧ Below W.heap.size W w1) (fun i _ => n - (intOf i).toNat)
    case atStart => exact ⟨0, Nat.zero_le _, rfl, rfl, bal (Below.refl _ _)⟩
    case round =>
      obtain ⟨k, hk, rfl, hall, hbel⟩ := hrel
      have Hall := hide hall
      clear hall hn'
      by_cases hlt : k < n
      · have cx := ((unhide Hr).keep hbel).2 k hlt
        cases e1 : decide (0 ≤ px k) && decide (px k ≤ 61) with
        | false =>
          have hf := hide (allin_false px k n hlt e1)
          by_cases l1 : px k < 0
          · go_wp2
            go_ret
            exact ⟨ret_int (by rw [← unhide Her, unhide hf]; rfl), hbel⟩
          · have l2 : 62 ≤ px k := by simp at e1; omega
            have l3 : 61 < px k := by omega
            have l4 : decide (px k < 0) = false := by simp; omega
            go_wp2
            go_ret
            exact ⟨ret_int (by rw [← unhide Her, unhide hf]; rfl), hbel⟩
        | true =>
          have ht := hide (show allin px (k + 1) = true by simp [allin, unhide Hall]; simpa using e1)
          have l1 : ¬ px k < 0 := by simp at e1; omega
          have l2 : ¬ 62 ≤ px k := by simp at e1; omega
          have l3 : ¬ 61 < px k := by simp at e1; omega
          clear e1
          go_wp2
          go_roundw
          case rel => exact ⟨k + 1, by omega, by go_num, unhide ht, hbel⟩
          case measure => simp [intOf]; omega
      · have e : k = n := by omega
        subst e
        have cl : ¬ ((k : Int) < (k : Int)) := by omega
        go_wp2
        go_ret
        exact ⟨ret_int (by rw [← unhide Her, unhide Hall]; rfl), hbel⟩

set_option maxHeartbeats 1000000 in
theorem rwrong_kind (g w h : Int) (p : Option Addr) (n cap : Nat) (W : World) (hk : okg g = false) : WrongIs 26 g w h p n cap W 1 := by
  have h4 : (g != 4) = true := by simp [okg] at hk ⊢; omega
  have h6 : (g != 6) = true := by simp [okg] at hk ⊢; omega
  clear hk
  unfold WrongIs
  go_enter Try.func26, Try.ntmps26
  go_wp2
  go_ret
  exact ⟨rfl, bal (Below.refl _ _)⟩

set_option maxHeartbeats 1000000 in
theorem rwrong_side (g w h : Int) (p : Option Addr) (n cap : Nat) (W : World) (hk : g = 4 ∨ g = 6) (hs : (sw w && sw h) = false) : WrongIs 26 g w h p n cap W 3 := by
  unfold WrongIs
  have q : w < 1 ∨ (¬ w < 1 ∧ 64 < w) ∨ (¬ w < 1 ∧ ¬ 64 < w ∧ h < 1) ∨ (¬ w < 1 ∧ ¬ 64 < w ∧ ¬ h < 1 ∧ 64 < h) := by
    have : ¬ (sw w = true ∧ sw h = true) := by simp at hs; simpa using hs
    rw [sw_iff, sw_iff] at this
    omega
  clear hs
  rcases q with q | ⟨q1, q⟩ | ⟨q1, q2, q⟩ | ⟨q1, q2, q3, q⟩
  all_goals
    rcases hk with rfl | rfl
    all_goals
      go_enter Try.func26, Try.ntmps26
      go_wp2
      go_ret
      exact ⟨rfl, bal (Below.refl _ _)⟩

set_option maxHeartbeats 1000000 in
theorem rwrong_fit (g w h : Int) (p : Option Addr) (n cap : Nat) (W : World) (hk : g = 4 ∨ g = 6) (h1 : sw w = true) (h2 : sw h = true) (hn : (n : Int) ≠ w * h) : WrongIs 26 g w h p n cap W 8 := by
  unfold WrongIs
  have hm := area w h h1 h2
  have b1 := (sw_iff w).1 h1
  have b2 := (sw_iff h).1 h2
  have hn' : ((n : Int) != w * h) = true := by simp [hn]
  clear hn
  rcases hk with rfl | rfl
  all_goals
    go_enter Try.func26, Try.ntmps26
    go_wp2
    go_ret
    exact ⟨rfl, bal (Below.refl _ _)⟩

set_option maxHeartbeats 2000000 in
theorem rwrong_cells (g w h : Int) (b o n cap : Nat) (px : Nat → Int) (W : World) (hk : g = 4 ∨ g = 6) (h1 : sw w = true) (h2 : sw h = true) (hn : (n : Int) = w * h) (hr : Row W b o n px) (er : Int) (Her : Hid ((if allin px n then 0 else 3) = er)) : WrongIs 26 g w h (some ⟨b, o, none⟩) n cap W er := by
  unfold WrongIs
  have hm := area w h h1 h2
  have b1 := (sw_iff w).1 h1
  have b2 := (sw_iff h).1 h2
  have hn4 : n ≤ 4096 := by omega
  have hn' : ((n : Int) != w * h) = false := by simp [hn]
  have Hr := hide hr
  clear hn hr
  rcases hk with rfl | rfl
  all_goals
    go_enter Try.func26, Try.ntmps26
    go_wp2
    go_loopw [43] (fun i w1 => ∃ k : Nat, k ≤ n ∧ i = .int .i64 k ∧ allin px k = true ∧ Below W.heap.size W w1) (fun i _ => n - (intOf i).toNat)
    case atStart => exact ⟨0, Nat.zero_le _, rfl, rfl, bal (Below.refl _ _)⟩
    case round =>
      obtain ⟨k, hk, rfl, hall, hbel⟩ := hrel
      have Hall := hide hall
      clear hall hn'
      by_cases hlt : k < n
      · have cx := ((unhide Hr).keep hbel).2 k hlt
        cases e1 : decide (0 ≤ px k) && decide (px k ≤ 61) with
        | false =>
          have hf := hide (allin_false px k n hlt e1)
          by_cases l1 : px k < 0
          · go_wp2
            go_ret
            exact ⟨ret_int (by rw [← unhide Her, unhide hf]; rfl), hbel⟩
          · have l2 : 62 ≤ px k := by simp at e1; omega
            have l3 : 61 < px k := by omega
            have l4 : decide (px k < 0) = false := by simp; omega
            go_wp2
            go_ret
            exact ⟨ret_int (by rw [← unhide Her, unhide hf]; rfl), hbel⟩
        | true =>
          have ht := hide (show allin px (k + 1) = true by simp [allin, unhide Hall]; simpa using e1)
          have l1 : ¬ px k < 0 := by simp at e1; omega
          have l2 : ¬ 62 ≤ px k := by simp at e1; omega
          have l3 : ¬ 61 < px k := by simp at e1; omega
          clear e1
          go_wp2
          go_roundw
          case rel => exact ⟨k + 1, by omega, by go_num, unhide ht, hbel⟩
          case measure => simp [intOf]; omega
      · have e : k = n := by omega
        subst e
        have cl : ¬ ((k : Int) < (k : Int)) := by omega
        go_wp2
        go_ret
        exact ⟨ret_int (by rw [← unhide Her, unhide Hall]; rfl), hbel⟩

/-- what a slice's cells must be where it is not too short: they are read only then -/
def Cells (W : World) (p : Option Addr) (n : Nat) (px : Nat → Int) : Prop := n = 0 ∨ ∃ b o, p = some ⟨b, o, none⟩ ∧ Row W b o n px
theorem Cells.keep {W w1 : World} {p : Option Addr} {n : Nat} {px : Nat → Int} (h : Cells W p n px) (hb : Below W.heap.size W w1) : Cells w1 p n px := by
  rcases h with h | ⟨b, o, e, r⟩
  · exact Or.inl h
  · exact Or.inr ⟨b, o, e, r.keep hb⟩

theorem okg_iff (g : Int) : okg g = true ↔ g = 4 ∨ g = 6 := by simp [okg]
theorem wrong_any (g w h : Int) (p : Option Addr) (n cap : Nat) (px : Nat → Int) (W : World) (hc : Cells W p n px) : WrongIs 34 g w h p n cap W (wE g w h n px) := by
  unfold wE
  cases a : okg g with
  | false => simpa using wrong_kind g w h p n cap W a
  | true =>
    cases s : sw w && sw h with
    | false => simpa using wrong_side g w h p n cap W ((okg_iff g).1 a) s
    | true =>
      simp at s
      by_cases e : (n : Int) = w * h
      · have := area w h s.1 s.2
        rcases hc with hc | ⟨b, o, rfl, r⟩
        · omega
        · simpa [e] using wrong_cells g w h b o n cap px W ((okg_iff g).1 a) s.1 s.2 e r _ rfl
      · simpa [e] using wrong_fit g w h p n cap W ((okg_iff g).1 a) s.1 s.2 e
theorem rwrong_any (g w h : Int) (p : Option Addr) (n cap : Nat) (px : Nat → Int) (W : World) (hc : Cells W p n px) : WrongIs 26 g w h p n cap W (wE g w h n px) := by
  unfold wE
  cases a : okg g with
  | false => simpa using rwrong_kind g w h p n cap W a
  | true =>
    cases s : sw w && sw h with
    | false => simpa using rwrong_side g w h p n cap W ((okg_iff g).1 a) s
    | true =>
      simp at s
      by_cases e : (n : Int) = w * h
      · have := area w h s.1 s.2
        rcases hc with hc | ⟨b, o, rfl, r⟩
        · omega
        · simpa [e] using rwrong_cells g w h b o n cap px W ((okg_iff g).1 a) s.1 s.2 e r _ rfl
      · simpa [e] using rwrong_fit g w h p n cap W ((okg_iff g).1 a) s.1 s.2 e
/-- a right chart -/
theorem wE_zero (g w h : Int) (p : Option Addr) (n : Nat) (px : Nat → Int) (W : World) (hc : Cells W p n px) (he : wE g w h n px = 0) : (g = 4 ∨ g = 6) ∧ (1 ≤ w ∧ w ≤ 64) ∧ (1 ≤ h ∧ h ≤ 64) ∧ (n : Int) = w * h ∧ allin px n = true ∧ ∃ b o, p = some ⟨b, o, none⟩ ∧ Row W b o n px := by
  unfold wE at he
  split at he
  · rename_i a
    split at he
    · rename_i s
      simp at s
      split at he
      · rename_i e
        split at he
        · rename_i al
          have := area w h s.1 s.2
          refine ⟨(okg_iff g).1 a, (sw_iff w).1 s.1, (sw_iff h).1 s.2, e, al, ?_⟩
          rcases hc with hc | hc
          · omega
          · exact hc
        · omega
      · omega
    · omega
  · omega
theorem wE_pos (g w h : Int) (n : Nat) (px : Nat → Int) (he : wE g w h n px ≠ 0) : 1 ≤ wE g w h n px := by
  unfold wE at *
  repeat' split
  all_goals simp_all

end Go.Proofs.Ytbmgjoocpbikkaa.Ch
