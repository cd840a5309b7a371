/-
  The first walks of package plane's leaves: what partWithin, within, wrongPoints, product and mirrored answer, at every input.
-/
import Derived.Test.YtpcajcgafmmlkaaDoorRows
import Derived.WalkKit
import Derived.WalkSpells
import Derived.WalkLawsBesides
namespace Go.Proofs.YtpcajcgafmmlkaaDoor
open Go.RowKit

theorem bcell {W w1 : World} (hb : Below W.heap.size W w1) : (∀ b o, b < W.heap.size → w1.cell? ⟨b, o, none⟩ = W.cell? ⟨b, o, none⟩) ∧ (∀ b o, b < W.heap.size → w1.frozen? ⟨b, o, none⟩ = W.frozen? ⟨b, o, none⟩) :=
  ⟨fun b o h => hb.cell (p := ⟨b, o, none⟩) h, fun b o h => hb.frozen (p := ⟨b, o, none⟩) h⟩

theorem hide {p : Prop} (h : p) : Hid p := h
theorem unhide {p : Prop} (h : Hid p) : p := h

theorem ret_bool {a b : Bool} (h : a = b) : Ending.returned (.bool a) = .returned (.bool b) := by rw [h]
theorem ret_int {a b : Int} (h : a = b) : Ending.returned (.int .i64 a) = .returned (.int .i64 b) := by rw [h]

def sm (n : Int) : Bool := decide (-1048576 ≤ n) && decide (n ≤ 1048576)

set_option maxHeartbeats 400000 in
theorem part_any (n : Int) (w : World) :
    Calls Tryd.prog 83 #[.int .i64 n] w fun e w' => e = .returned (.bool (sm n)) ∧ w' = w := by
  by_cases h : -1048576 ≤ n
  · go_enter Tryd.func83, Tryd.ntmps83
    go_wp2
    go_ret
    refine ⟨?_, rfl⟩
    simp [sm, h]
  · go_enter Tryd.func83, Tryd.ntmps83
    go_wp2
    go_ret
    refine ⟨?_, rfl⟩
    have h' : decide (-1048576 ≤ n) = false := by simp; omega
    simp [sm, h']


theorem bal {W w1 : World} {o : Obj} (h : Below W.heap.size W w1) : Below W.heap.size W (w1.alloc o) := h.alloc h.size o
theorem bset {W w1 : World} {p : Addr} {u : Value} (h : Below W.heap.size W w1) (hp : W.heap.size ≤ p.block) : Below W.heap.size W (w1.setCell p u) := h.setCell hp u
theorem btrans {W w1 w2 : World} (h : Below W.heap.size W w1) (k : Below w1.heap.size w1 w2) : Below W.heap.size W w2 := h.trans (k.mono h.size)

/-- all points of a row keep to the bounds -/
def allsm (px py : Nat → Int) : Nat → Bool
  | 0 => true
  | k + 1 => allsm px py k && (sm (px k) && sm (py k))

theorem allsm_false (px py : Nat → Int) (k n : Nat) (h : k < n) (hk : (sm (px k) && sm (py k)) = false) : allsm px py n = false := by
  induction n with
  | zero => omega
  | succ n ih =>
    by_cases e : k = n
    · subst e; simp [allsm, hk]
    · simp [allsm, ih (by omega)]

set_option maxHeartbeats 400000 in
theorem within_any (b n cap : Nat) (px py : Nat → Int) (w : World) (hn : n ≤ 1000) (hb : b < w.heap.size)
    (hx : ∀ k, k < n → w.cell? ⟨b, k * 2, none⟩ = some (.int .i64 (px k))) (hy : ∀ k, k < n → w.cell? ⟨b, k * 2 + 1, none⟩ = some (.int .i64 (py k))) :
    Calls Tryd.prog 75 #[.slice (some ⟨b, 0, none⟩) n cap] w fun e w' => e = .returned (.bool (allsm px py n)) ∧ Below w.heap.size w w' := by
  go_enter Tryd.func75, Tryd.ntmps75
  go_wp2
  go_loopw [7] (fun i w1 => ∃ k : Nat, k ≤ n ∧ i = .int .i64 k ∧ allsm px py k = true ∧ Below w.heap.size w w1) (fun i _ => n - (intOf i).toNat)
  case atStart => exact ⟨0, Nat.zero_le _, rfl, rfl, Below.refl _ _⟩
  case round =>
    obtain ⟨k, hk, rfl, hall, hbel⟩ := hrel
    have Hall := hide hall
    clear hall
    by_cases hlt : k < n
    · have cx : wr.cell? ⟨b, k * 2, none⟩ = some (.int .i64 (px k)) := by rw [hbel.cell (p := ⟨b, k * 2, none⟩) hb]; exact hx k hlt
      have cy : wr.cell? ⟨b, k * 2 + 1, none⟩ = some (.int .i64 (py k)) := by rw [hbel.cell (p := ⟨b, k * 2 + 1, none⟩) hb]; exact hy k hlt
      clear hx hy
      cases h1 : sm (px k) with
      | false =>
        have hf := hide (allsm_false px py k n hlt (by simp [h1]))
        go_wp2_with (go_at_call 83; refine (part_any _ _).mono ?_; rintro e w' ⟨rfl, rfl⟩)
        go_ret
        exact ⟨ret_bool (unhide hf).symm, bal hbel⟩
      | true =>
        cases h2 : sm (py k) with
        | false =>
          have hf := hide (allsm_false px py k n hlt (by simp [h2]))
          go_wp2_with (go_at_call 83; refine (part_any _ _).mono ?_; rintro e w' ⟨rfl, rfl⟩)
          go_ret
          exact ⟨ret_bool (unhide hf).symm, bal hbel⟩
        | true =>
          have ht : allsm px py (k + 1) = true := by simp [allsm, unhide Hall, h1, h2]
          have Ht := hide ht
          clear ht
          go_wp2_with (go_at_call 83; refine (part_any _ _).mono ?_; rintro e w' ⟨rfl, rfl⟩)
          go_roundw
          case rel => exact ⟨k + 1, by omega, by go_num, unhide Ht, bal hbel⟩
          case measure => simp [intOf]; omega
    · have e : k = n := by omega
      subst e
      have cl : ¬ ((k : Int) < (k : Int)) := by omega
      go_wp2
      go_ret
      exact ⟨ret_bool (unhide Hall).symm, hbel⟩

/-- a grid that is none, or points beyond the bounds -/
def wp (g : Int) (px py : Nat → Int) (n : Nat) : Int := if g = 4 ∨ g = 6 then (if allsm px py n = true then 0 else 3) else 1

set_option maxHeartbeats 400000 in
theorem wrongPoints_any (g : Int) (b n cap : Nat) (px py : Nat → Int) (w : World) (hn : n ≤ 1000) (hb : b < w.heap.size)
    (hx : ∀ k, k < n → w.cell? ⟨b, k * 2, none⟩ = some (.int .i64 (px k))) (hy : ∀ k, k < n → w.cell? ⟨b, k * 2 + 1, none⟩ = some (.int .i64 (py k))) :
    Calls Tryd.prog 64 #[.int .i64 g, .slice (some ⟨b, 0, none⟩) n cap] w fun e w' => e = .returned (.int .i64 (wp g px py n)) ∧ Below w.heap.size w w' := by
  have H := fun W (e : W = w) => within_any b n cap px py W hn (by rw [e]; exact hb) (by rw [e]; exact hx) (by rw [e]; exact hy)
  clear hx hy
  have H' := hide (H w rfl)
  clear H
  by_cases h : g = 4 ∨ g = 6
  · cases ha : allsm px py n with
    | true =>
      have hv := hide (show wp g px py n = 0 by simp [wp, h, ha])
      rcases h with h | h
      all_goals
        subst h
        go_enter Tryd.func64, Tryd.ntmps64
        go_wp2_with (go_at_call 75; refine (unhide H').mono ?_; rintro e w' ⟨rfl, hb1⟩)
        go_ret
        exact ⟨ret_int (unhide hv).symm, hb1⟩
    | false =>
      have hv := hide (show wp g px py n = 3 by simp [wp, h, ha])
      rcases h with h | h
      all_goals
        subst h
        go_enter Tryd.func64, Tryd.ntmps64
        go_wp2_with (go_at_call 75; refine (unhide H').mono ?_; rintro e w' ⟨rfl, hb1⟩)
        go_ret
        exact ⟨ret_int (unhide hv).symm, hb1⟩
  · have hv := hide (show wp g px py n = 1 by simp [wp, h])
    have h4 : (g != 4) = true := by simp; omega
    have h6 : (g != 6) = true := by simp; omega
    clear h
    go_enter Tryd.func64, Tryd.ntmps64
    go_wp2
    go_ret
    exact ⟨ret_int (unhide hv).symm, Below.refl _ _⟩

def okg (g : Int) : Bool := decide (g = 4) || decide (g = 6)
def sm2 (x y : Int) : Bool := sm x && sm y
def e1 (g ax ay : Int) : Int := if okg g then (if sm2 ax ay then 0 else 3) else 1
def e2 (g ax ay bx b : Int) : Int := if okg g then (if sm2 ax ay && sm2 bx b then 0 else 3) else 1

def two (a b : Int) : Nat → Int
  | 0 => a
  | _ => b

theorem wrongPoints1 (g ax ay : Int) (b cap : Nat) (w : World) (hb : b < w.heap.size)
    (h0 : w.cell? ⟨b, 0, none⟩ = some (.int .i64 ax)) (h1 : w.cell? ⟨b, 1, none⟩ = some (.int .i64 ay)) :
    Calls Tryd.prog 64 #[.int .i64 g, .slice (some ⟨b, 0, none⟩) 1 cap] w fun e w' => e = .returned (.int .i64 (e1 g ax ay)) ∧ Below w.heap.size w w' := by
  have e : wp g (fun _ => ax) (fun _ => ay) 1 = e1 g ax ay := by simp [wp, e1, okg, sm2, allsm]
  have h := wrongPoints_any g b 1 cap (fun _ => ax) (fun _ => ay) w (by omega) hb (fun k hk => by have : k = 0 := by omega
                                                                                                  subst this; exact h0) (fun k hk => by have : k = 0 := by omega
                                                                                                                                        subst this; exact h1)
  rw [e] at h
  exact h

theorem wrongPoints2 (g ax ay bx b' : Int) (b cap : Nat) (w : World) (hb : b < w.heap.size)
    (h0 : w.cell? ⟨b, 0, none⟩ = some (.int .i64 ax)) (h1 : w.cell? ⟨b, 1, none⟩ = some (.int .i64 ay)) (h2 : w.cell? ⟨b, 2, none⟩ = some (.int .i64 bx)) (h3 : w.cell? ⟨b, 3, none⟩ = some (.int .i64 b')) :
    Calls Tryd.prog 64 #[.int .i64 g, .slice (some ⟨b, 0, none⟩) 2 cap] w fun e w' => e = .returned (.int .i64 (e2 g ax ay bx b')) ∧ Below w.heap.size w w' := by
  have e : wp g (two ax bx) (two ay b') 2 = e2 g ax ay bx b' := by simp [wp, e2, okg, sm2, allsm, two]
  have h := wrongPoints_any g b 2 cap (two ax bx) (two ay b') w (by omega) hb
    (fun k hk => by
      have : k = 0 ∨ k = 1 := by omega
      rcases this with rfl | rfl
      · exact h0
      · exact h2)
    (fun k hk => by
      have : k = 0 ∨ k = 1 := by omega
      rcases this with rfl | rfl
      · exact h1
      · exact h3)
  rw [e] at h
  exact h

theorem within1 (ax ay : Int) (b cap : Nat) (w : World) (hb : b < w.heap.size)
    (h0 : w.cell? ⟨b, 0, none⟩ = some (.int .i64 ax)) (h1 : w.cell? ⟨b, 1, none⟩ = some (.int .i64 ay)) :
    Calls Tryd.prog 75 #[.slice (some ⟨b, 0, none⟩) 1 cap] w fun e w' => e = .returned (.bool (sm2 ax ay)) ∧ Below w.heap.size w w' := by
  have e : allsm (fun _ => ax) (fun _ => ay) 1 = sm2 ax ay := by simp [sm2, allsm]
  have h := within_any b 1 cap (fun _ => ax) (fun _ => ay) w (by omega) hb (fun k hk => by have : k = 0 := by omega
                                                                                           subst this; exact h0) (fun k hk => by have : k = 0 := by omega
                                                                                                                                 subst this; exact h1)
  rw [e] at h
  exact h

set_option maxHeartbeats 400000 in
theorem bounded_ok (x y : Int) (w : World) (h : sm2 x y = true) :
    Calls Tryd.prog 65 #[.agg #[.int .i64 x, .int .i64 y]] w fun e w' => e = .returned (.tuple #[.agg #[.int .i64 x, .int .i64 y], .int .i64 0]) ∧ Below w.heap.size w w' := by
  go_enter Tryd.func65, Tryd.ntmps65
  go_wp2_with fail
  refine (within1 x y _ _ _ ?_ ?_ ?_).mono ?_
  · simp
  · simp [go_sem]
  · simp [go_sem]
  rintro e w1 ⟨rfl, hb⟩
  obtain ⟨hc, hf⟩ := bcell hb
  have hz : w.heap.size + 3 ≤ w1.heap.size := by have := hb.size; simp at this; omega
  go_wp2
  exact bodyPost_ret (v := .tuple #[.agg #[.int .i64 x, .int .i64 y], .int .i64 0]) (by simp [results, Tryd.results65, go_sem, hc]) rfl ⟨rfl, bset (bset (btrans (bal (bal (bal (Below.refl _ _)))) hb) (by simp)) (by simp)⟩

set_option maxHeartbeats 400000 in
theorem bounded_much (x y : Int) (w : World) (h : sm2 x y = false) :
    Calls Tryd.prog 65 #[.agg #[.int .i64 x, .int .i64 y]] w fun e w' => e = .returned (.tuple #[.agg #[.int .i64 0, .int .i64 0], .int .i64 4]) ∧ Below w.heap.size w w' := by
  go_enter Tryd.func65, Tryd.ntmps65
  go_wp2_with fail
  refine (within1 x y _ _ _ ?_ ?_ ?_).mono ?_
  · simp
  · simp [go_sem]
  · simp [go_sem]
  rintro e w1 ⟨rfl, hb⟩
  obtain ⟨hc, hf⟩ := bcell hb
  have hz : w.heap.size + 3 ≤ w1.heap.size := by have := hb.size; simp at this; omega
  go_wp2
  exact bodyPost_ret (v := .tuple #[.agg #[.int .i64 0, .int .i64 0], .int .i64 4]) (by simp [results, Tryd.results65, go_sem, hc]) rfl ⟨rfl, bset (bset (btrans (bal (bal (bal (Below.refl _ _)))) hb) (by simp)) (by simp)⟩

end Go.Proofs.YtpcajcgafmmlkaaDoor
