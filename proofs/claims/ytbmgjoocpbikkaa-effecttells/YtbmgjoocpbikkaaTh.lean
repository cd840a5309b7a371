/-
  Threads: how they lie in a box; what is wrong with them.
-/
import Derived.Test.YtbmgjoocpbikkaaTrA
namespace Go.Proofs.Ytbmgjoocpbikkaa
open Go.RowKit

/-- threads, as the calls take them -/
abbrev sg (p : Option Addr) (n c : Nat) (q : Option Addr) (m d : Nat) : Value := .agg #[.slice p n c, .slice q m d]
/-- threads in a box -/
def OwnS (W : World) (b : Nat) (p : Option Addr) (n c : Nat) (q : Option Addr) (m d : Nat) : Prop := b < W.heap.size ∧ W.cell? ⟨b, 0, none⟩ = some (.slice p n c) ∧ W.cell? ⟨b, 1, none⟩ = some (.slice q m d)
theorem OwnS.keep {W V : World} {b : Nat} {p : Option Addr} {n c : Nat} {q : Option Addr} {m d : Nat} (k : OwnS W b p n c q m d) (hb : Below W.heap.size W V) : OwnS V b p n c q m d :=
  ⟨Nat.lt_of_lt_of_le k.1 hb.size, keepC hb k.1 k.2.1, keepC hb k.1 k.2.2⟩
theorem OwnS.new (W : World) (p : Option Addr) (n c : Nat) (q : Option Addr) (m d : Nat) (t : TypeId) : OwnS (W.alloc (.cells #[.slice p n c, .slice q m d] t)) W.heap.size p n c q m d :=
  ⟨by simp, by simp [go_sem], by simp [go_sem]⟩
/-- a chart in a box -/
def OwnC (W : World) (b : Nat) (g w h : Int) (p : Option Addr) (n cap : Nat) : Prop := b < W.heap.size ∧ W.cell? ⟨b, 0, none⟩ = some (.int .i64 g) ∧ W.cell? ⟨b, 1, none⟩ = some (.int .i64 w) ∧ W.cell? ⟨b, 2, none⟩ = some (.int .i64 h) ∧ W.cell? ⟨b, 3, none⟩ = some (.slice p n cap)
theorem OwnC.keep {W V : World} {b : Nat} {g w h : Int} {p : Option Addr} {n cap : Nat} (k : OwnC W b g w h p n cap) (hb : Below W.heap.size W V) : OwnC V b g w h p n cap :=
  ⟨Nat.lt_of_lt_of_le k.1 hb.size, keepC hb k.1 k.2.1, keepC hb k.1 k.2.2.1, keepC hb k.1 k.2.2.2.1, keepC hb k.1 k.2.2.2.2⟩
theorem OwnC.new (W : World) (g w h : Int) (p : Option Addr) (n cap : Nat) (t : TypeId) : OwnC (W.alloc (.cells #[.int .i64 g, .int .i64 w, .int .i64 h, .slice p n cap] t)) W.heap.size g w h p n cap :=
  ⟨by simp, by simp [go_sem], by simp [go_sem], by simp [go_sem], by simp [go_sem]⟩
theorem is_but {S : Nat → Prop} {W V : World} {q : Option Addr} {n : Nat} {f : Nat → Int} (h : T.Is W q n f) (k : Kept S W V) (hS : ∀ a, q = some a → ¬ S a.block) : T.Is V q n f := by
  rcases h with h | ⟨b, o, e, hl, hc⟩
  · exact .inl h
  · exact .inr ⟨b, o, e, Nat.lt_of_lt_of_le hl k.size, fun j hj => k.cell hl (hS _ e) (hc j hj)⟩

/-- a colour that is none -/
theorem nocolour_any (n : Int) (w : World) : Calls Try.prog 31 #[.int .i64 n] w fun e w' => e = .returned (.bool (!(decide (0 ≤ n) && decide (n ≤ 61)))) ∧ w' = w := by
  by_cases h : n < 0
  · go_enter Try.func31, Try.ntmps31
    go_wp2
    go_ret
    exact ⟨ret_bool (by simp; omega), rfl⟩
  · have h' : decide (n < 0) = false := by simp; omega
    have h2 : decide (62 ≤ n) = (!(decide (0 ≤ n) && decide (n ≤ 61))) := by
      have : decide (0 ≤ n) = true := by simp; omega
      rw [this]; by_cases q : 62 ≤ n <;> simp [q] <;> omega
    go_enter Try.func31, Try.ntmps31
    go_wp2
    go_ret
    exact ⟨rfl, rfl⟩

set_option maxHeartbeats 1000000 in
theorem index_any (p : Option Addr) (n cap : Nat) (px : Nat → Int) (hn : n ≤ 64) (W : World) (h : T.Is W p n px) : Calls Try.prog 37 #[.slice p n cap, .func (.func 31) #[] #[]] W fun e w' => ∃ i : Int, e = .returned (.int .i64 i) ∧ decide (0 ≤ i) = !Ch.allin px n ∧ Below W.heap.size W w' := by
  have H := hide h
  clear h
  go_enter Try.func37, Try.ntmps37
  go_wp2
  go_loopw [8] (fun i wr => ∃ k : Nat, k ≤ n ∧ i = .int .i64 k ∧ Ch.allin px k = true ∧ Below W.heap.size W wr) (fun i _ => n - (intOf i).toNat)
  case atStart => exact ⟨0, Nat.zero_le _, rfl, rfl, Below.refl _ _⟩
  case round =>
    obtain ⟨k, hk, rfl, hall, hb⟩ := hrel
    have Hall := hide hall
    clear hall
    by_cases hlt : k < n
    · obtain ⟨b, o, rfl, hl, hc⟩ := ((unhide H).keep hb).at hlt
      have q1 : (k : Int) < (n : Int) := by omega
      have Hs := hide (show Ch.allin px (k + 1) = (decide (0 ≤ px k) && decide (px k ≤ 61)) by simp [Ch.allin, unhide Hall])
      have Hf := hide (fun e => Ch.allin_false px k n hlt e)
      have Hc := hide (nocolour_any (px k))
      generalize px k = c at *
      cases e1 : (decide (0 ≤ c) && decide (c ≤ 61)) with
      | false =>
        rw [e1] at Hs Hc
        have Hg := hide (unhide Hf e1)
        clear e1 Hf
        go_wp2_with (go_at_call 31; refine (unhide Hc _).mono ?_; rintro e w' ⟨rfl, rfl⟩)
        go_ret
        exact ⟨(k : Int), rfl, by rw [unhide Hg]; simp, hb⟩
      | true =>
        rw [e1] at Hs Hc
        clear e1 Hf
        go_wp2_with (go_at_call 31; refine (unhide Hc _).mono ?_; rintro e w' ⟨rfl, rfl⟩)
        go_roundw
        case rel => exact ⟨k + 1, by omega, by go_num, unhide Hs, hb⟩
        case measure => simp [intOf]; omega
    · obtain rfl : k = n := by omega
      have cl : ¬ ((k : Int) < (k : Int)) := by omega
      go_wp2
      go_ret
      exact ⟨-1, rfl, by rw [unhide Hall]; rfl, hb⟩

theorem contains_any (p : Option Addr) (n cap : Nat) (px : Nat → Int) (hn : n ≤ 64) (W : World) (h : T.Is W p n px) : Calls Try.prog 30 #[.slice p n cap, .func (.func 31) #[] #[]] W fun e w' => e = .returned (.bool (!Ch.allin px n)) ∧ Below W.heap.size W w' := by
  have H := hide (index_any p n cap px hn W h)
  clear h
  generalize Ch.allin px n = a at *
  go_enter Try.func30, Try.ntmps30
  go_wp2_with (go_at_call 37; refine (unhide H).mono ?_; rintro e w' ⟨i, rfl, hi, hb⟩)
  go_ret
  exact ⟨rfl, hb⟩

theorem side_any (n : Int) (w : World) : Calls Try.prog 29 #[.int .i64 n] w fun e w' => e = .returned (.bool (Ch.sw n)) ∧ w' = w := by
  by_cases h : 1 ≤ n
  · go_enter Try.func29, Try.ntmps29
    go_wp2
    go_ret
    exact ⟨by simp [Ch.sw, h], rfl⟩
  · have h' : decide (1 ≤ n) = false := by simp; omega
    go_enter Try.func29, Try.ntmps29
    go_wp2
    go_ret
    exact ⟨by simp [Ch.sw, h'], rfl⟩

/-- what is wrong with threads -/
def sE (n m : Nat) (f g : Nat → Int) : Int := if Ch.sw n && Ch.sw m then (if Ch.allin f n && Ch.allin g m then 0 else 3) else 5
/-- a call that answers a number, and makes memory alone -/
abbrev ErIs (W : World) (er : Int) : Ending → World → Prop := fun e w' => e = .returned (.int .i64 er) ∧ Below W.heap.size W w'

set_option maxHeartbeats 1000000 in
theorem threads_many (p : Option Addr) (n c : Nat) (q : Option Addr) (m d : Nat) (W : World) (hs : (Ch.sw n && Ch.sw m) = false) : Calls Try.prog 16 #[sg p n c q m d] W (ErIs W 5) := by
  cases h1 : Ch.sw n with
  | false =>
    go_enter Try.func16, Try.ntmps16
    go_wp2_with (go_at_call 29; refine (side_any _ _).mono ?_; rintro e w' ⟨rfl, rfl⟩)
    go_ret
    exact ⟨rfl, bal (Below.refl _ _)⟩
  | true =>
    have h2 : Ch.sw m = false := by simpa [h1] using hs
    clear hs
    go_enter Try.func16, Try.ntmps16
    go_wp2_with (go_at_call 29; refine (side_any _ _).mono ?_; rintro e w' ⟨rfl, rfl⟩)
    go_ret
    exact ⟨rfl, bal (Below.refl _ _)⟩

set_option maxHeartbeats 1000000 in
theorem threads_few (p : Option Addr) (n c : Nat) (q : Option Addr) (m d : Nat) (f g : Nat → Int) (W : World) (h1 : Ch.sw n = true) (h2 : Ch.sw m = true) (hp : T.Is W p n f) (hq : T.Is W q m g) (er : Int) (Her : Hid ((if Ch.allin f n && Ch.allin g m then 0 else 3) = er)) : Calls Try.prog 16 #[sg p n c q m d] W (ErIs W er) := by
  have n1 := (Ch.sw_iff n).1 h1
  have n2 := (Ch.sw_iff m).1 h2
  have hn : n ≤ 64 := by omega
  have hm : m ≤ 64 := by omega
  clear n1 n2
  have B0 := hide (bal (o := .cells #[.slice p n c, .slice q m d] 24) (Below.refl W.heap.size W))
  have O0 := hide (OwnS.new W p n c q m d 24)
  have Hp := hide (fun V (hb : Below W.heap.size W V) => contains_any p n c f hn V (hp.keep hb))
  have Hq := hide (fun V (hb : Below W.heap.size W V) => contains_any q m d g hm V (hq.keep hb))
  clear hp hq hn hm
  generalize Ch.allin f n = a at *
  generalize Ch.allin g m = z at *
  go_enter Try.func16, Try.ntmps16
  cases a
  · go_wp2_with (first | (go_at_call 29; refine (side_any _ _).mono ?_; rintro e w' ⟨rfl, rfl⟩) | (go_at_call 30; refine (unhide Hp _ (unhide B0)).mono ?_; rintro e w' ⟨rfl, hb⟩))
    go_ret
    exact ⟨ret_int (by rw [← unhide Her]; rfl), btrans (unhide B0) hb⟩
  · cases z
    all_goals
      go_wp2_with (first | (go_at_call 29; refine (side_any _ _).mono ?_; rintro e w' ⟨rfl, rfl⟩) | (go_at_call_of 30 (Value.slice p n c); refine (unhide Hp _ (unhide B0)).mono ?_; rintro e w' ⟨rfl, hb⟩; have hc := ((unhide O0).keep hb).2.2; have hb2 := btrans (unhide B0) hb) | (go_at_call_of 30 (Value.slice q m d); refine (unhide Hq _ hb2).mono ?_; rintro e w2 ⟨rfl, hb3⟩))
      go_ret
      exact ⟨ret_int (by rw [← unhide Her]; rfl), btrans hb2 hb3⟩

theorem threads_any (p : Option Addr) (n c : Nat) (q : Option Addr) (m d : Nat) (f g : Nat → Int) (W : World) (hp : T.Is W p n f) (hq : T.Is W q m g) : Calls Try.prog 16 #[sg p n c q m d] W (ErIs W (sE n m f g)) := by
  unfold sE
  cases s : Ch.sw n && Ch.sw m with
  | false => simpa using threads_many p n c q m d W s
  | true =>
    simp at s
    exact threads_few p n c q m d f g W s.1 s.2 hp hq _ (hide (by simp))

set_option maxHeartbeats 1000000 in
theorem colours_any (p : Option Addr) (n cap : Nat) (px : Nat → Int) (hn : n ≤ 64) (W : World) (h : T.Is W p n px) : Calls Try.prog 33 #[.slice p n cap] W fun e w' => e = .returned (.bool (Ch.allin px n)) ∧ Below W.heap.size W w' := by
  have H := hide h
  clear h
  go_enter Try.func33, Try.ntmps33
  go_wp2
  go_loopw [7] (fun i wr => ∃ k : Nat, k ≤ n ∧ i = .int .i64 k ∧ Ch.allin px k = true ∧ Below W.heap.size W wr) (fun i _ => n - (intOf i).toNat)
  case atStart => exact ⟨0, Nat.zero_le _, rfl, rfl, Below.refl _ _⟩
  case round =>
    obtain ⟨k, hk, rfl, hall, hb⟩ := hrel
    have Hall := hide hall
    clear hall
    by_cases hlt : k < n
    · obtain ⟨b, o, rfl, hl, hc⟩ := ((unhide H).keep hb).at hlt
      have q1 : (k : Int) < (n : Int) := by omega
      have Hs := hide (show Ch.allin px (k + 1) = (decide (0 ≤ px k) && decide (px k ≤ 61)) by simp [Ch.allin, unhide Hall])
      have Hf := hide (fun e => Ch.allin_false px k n hlt e)
      generalize px k = c at *
      cases e1 : (decide (0 ≤ c) && decide (c ≤ 61)) with
      | false =>
        rw [e1] at Hs
        have Hg := hide (unhide Hf e1)
        by_cases l1 : c < 0
        · clear e1 Hf
          go_wp2
          go_ret
          exact ⟨ret_bool (unhide Hg).symm, hb⟩
        · have l3 : 61 < c := by simp at e1; omega
          have l4 : decide (c < 0) = false := by simp; omega
          clear e1 Hf
          go_wp2
          go_ret
          exact ⟨ret_bool (unhide Hg).symm, hb⟩
      | true =>
        rw [e1] at Hs
        have l1 : ¬ c < 0 := by simp at e1; omega
        have l3 : ¬ 61 < c := by simp at e1; omega
        clear e1 Hf
        go_wp2
        go_roundw
        case rel => exact ⟨k + 1, by omega, by go_num, unhide Hs, hb⟩
        case measure => simp [intOf]; omega
    · obtain rfl : k = n := by omega
      have cl : ¬ ((k : Int) < (k : Int)) := by omega
      go_wp2
      go_ret
      exact ⟨ret_bool (unhide Hall).symm, hb⟩

set_option maxHeartbeats 1000000 in
theorem rthreads_many (p : Option Addr) (n c : Nat) (q : Option Addr) (m d : Nat) (W : World) (hs : (Ch.sw n && Ch.sw m) = false) : Calls Try.prog 19 #[sg p n c q m d] W (ErIs W 5) := by
  have q0 : (n : Int) < 1 ∨ (¬ (n : Int) < 1 ∧ 64 < (n : Int)) ∨ (¬ (n : Int) < 1 ∧ ¬ 64 < (n : Int) ∧ (m : Int) < 1) ∨ (¬ (n : Int) < 1 ∧ ¬ 64 < (n : Int) ∧ ¬ (m : Int) < 1 ∧ 64 < (m : Int)) := by
    have : ¬ (Ch.sw n = true ∧ Ch.sw m = true) := by simp at hs; simpa using hs
    rw [Ch.sw_iff, Ch.sw_iff] at this
    omega
  clear hs
  rcases q0 with q0 | ⟨q1, q0⟩ | ⟨q1, q2, q0⟩ | ⟨q1, q2, q3, q0⟩
  all_goals
    go_enter Try.func19, Try.ntmps19
    go_wp2
    go_ret
    exact ⟨rfl, bal (Below.refl _ _)⟩

set_option maxHeartbeats 1000000 in
theorem rthreads_few (p : Option Addr) (n c : Nat) (q : Option Addr) (m d : Nat) (f g : Nat → Int) (W : World) (h1 : Ch.sw n = true) (h2 : Ch.sw m = true) (hp : T.Is W p n f) (hq : T.Is W q m g) (er : Int) (Her : Hid ((if Ch.allin f n && Ch.allin g m then 0 else 3) = er)) : Calls Try.prog 19 #[sg p n c q m d] W (ErIs W er) := by
  have n1 := (Ch.sw_iff n).1 h1
  have n2 := (Ch.sw_iff m).1 h2
  have hn : n ≤ 64 := by omega
  have hm : m ≤ 64 := by omega
  have k1 : ¬ (n : Int) < 1 := by omega
  have k2 : ¬ 64 < (n : Int) := by omega
  have k3 : ¬ (m : Int) < 1 := by omega
  have k4 : ¬ 64 < (m : Int) := by omega
  clear n1 n2 h1 h2
  have B0 := hide (bal (o := .cells #[.slice p n c, .slice q m d] 24) (Below.refl W.heap.size W))
  have O0 := hide (OwnS.new W p n c q m d 24)
  have Hp := hide (fun V (hb : Below W.heap.size W V) => colours_any p n c f hn V (hp.keep hb))
  have Hq := hide (fun V (hb : Below W.heap.size W V) => colours_any q m d g hm V (hq.keep hb))
  clear hp hq hn hm
  generalize Ch.allin f n = a at *
  generalize Ch.allin g m = z at *
  go_enter Try.func19, Try.ntmps19
  cases a
  · go_wp2_with (go_at_call 33; refine (unhide Hp _ (unhide B0)).mono ?_; rintro e w' ⟨rfl, hb⟩)
    go_ret
    exact ⟨ret_int (by rw [← unhide Her]; rfl), btrans (unhide B0) hb⟩
  · cases z
    all_goals
      go_wp2_with (first | (go_at_call_of 33 (Value.slice p n c); refine (unhide Hp _ (unhide B0)).mono ?_; rintro e w' ⟨rfl, hb⟩; have hc := ((unhide O0).keep hb).2.2; have hb2 := btrans (unhide B0) hb) | (go_at_call_of 33 (Value.slice q m d); refine (unhide Hq _ hb2).mono ?_; rintro e w2 ⟨rfl, hb3⟩))
      go_ret
      exact ⟨ret_int (by rw [← unhide Her]; rfl), btrans hb2 hb3⟩

theorem rthreads_any (p : Option Addr) (n c : Nat) (q : Option Addr) (m d : Nat) (f g : Nat → Int) (W : World) (hp : T.Is W p n f) (hq : T.Is W q m g) : Calls Try.prog 19 #[sg p n c q m d] W (ErIs W (sE n m f g)) := by
  unfold sE
  cases s : Ch.sw n && Ch.sw m with
  | false => simpa using rthreads_many p n c q m d W s
  | true =>
    simp at s
    exact rthreads_few p n c q m d f g W s.1 s.2 hp hq _ (hide (by simp))

/-- right threads -/
theorem sE_zero {n m : Nat} {f g : Nat → Int} (h : sE n m f g = 0) : (1 ≤ n ∧ n ≤ 64) ∧ (1 ≤ m ∧ m ≤ 64) ∧ (∀ k, k < n → 0 ≤ f k ∧ f k ≤ 61) ∧ ∀ k, k < m → 0 ≤ g k ∧ g k ≤ 61 := by
  unfold sE at h
  split at h
  · rename_i s
    simp at s
    have b1 := (Ch.sw_iff n).1 s.1
    have b2 := (Ch.sw_iff m).1 s.2
    split at h
    · rename_i a
      simp at a
      exact ⟨by omega, by omega, Ch.allin_get f n a.1, Ch.allin_get g m a.2⟩
    · omega
  · omega
end Go.Proofs.Ytbmgjoocpbikkaa
