/-
  The reference: Share, SameNumbers, Dots where something is wrong.
-/
import Derived.Test.YtlilmchlddiacaaDC
import Derived.Test.YtlilmchlddiacaaDF
namespace Go.Proofs.Ytlilmchlddiacaa
open Go.RowKit

/-- the four shares -/
def shF (l : Int) (k : Int) : Int := if k = 0 then sx 7 l else if k = 1 then sx 3 l else if k = 2 then sx 5 l else sr l
theorem share_nums (l : Int) (h : -1000000000 ≤ l ∧ l ≤ 1000000000) : ∃ r7 r3 r5 r1 : Int, r7 = sx 7 l ∧ r3 = sx 3 l ∧ r5 = sx 5 l ∧ r1 = sr l ∧ Int.tdiv (l * 7) 16 = r7 ∧ Int.tdiv (l * 3) 16 = r3 ∧ Int.tdiv (l * 5) 16 = r5 ∧ l - r7 - r3 - r5 = r1 ∧
    (-1000000000 ≤ r7 ∧ r7 ≤ 1000000000) ∧ (-1000000000 ≤ r3 ∧ r3 ≤ 1000000000) ∧ (-1000000000 ≤ r5 ∧ r5 ≤ 1000000000) ∧ (-1000000000 ≤ r1 ∧ r1 ≤ 1000000000) := by
  have := sx_bd h
  exact ⟨_, _, _, _, rfl, rfl, rfl, rfl, by rw [Int.mul_comm]; rfl, by rw [Int.mul_comm]; rfl, by rw [Int.mul_comm]; rfl, rfl, this.1, this.2.1, this.2.2.1, this.2.2.2⟩
set_option maxRecDepth 100000 in
set_option maxHeartbeats 1000000 in
theorem share29_0 (l : Int) (h : -1000000000 ≤ l ∧ l ≤ 1000000000) (W : World) : Calls Try.prog 29 #[.int .i64 l, .int .i64 0] W fun e w' => e = .returned (.int .i64 (sx 7 l)) ∧ Below W.heap.size W w' := by
  obtain ⟨r7, r3, r5, r1, h7, h3, h5, h1, e7, e3, e5, e1, ⟨b1, b2⟩, ⟨b3, b4⟩, ⟨b5, b6⟩, ⟨b7, b8⟩⟩ := share_nums l h
  rw [← h7]
  obtain ⟨l1, l2⟩ := h
  clear h7 h3 h5 h1
  have HB := hide (bnew W (.cells #[.int .i64 r7, .int .i64 r3, .int .i64 r5, .int .i64 r1] 3))
  go_enter Try.func29, Try.ntmps29
  go_wp2
  go_ret
  exact ⟨rfl, unhide HB⟩
set_option maxRecDepth 100000 in
set_option maxHeartbeats 1000000 in
theorem share29_1 (l : Int) (h : -1000000000 ≤ l ∧ l ≤ 1000000000) (W : World) : Calls Try.prog 29 #[.int .i64 l, .int .i64 1] W fun e w' => e = .returned (.int .i64 (sx 3 l)) ∧ Below W.heap.size W w' := by
  obtain ⟨r7, r3, r5, r1, h7, h3, h5, h1, e7, e3, e5, e1, ⟨b1, b2⟩, ⟨b3, b4⟩, ⟨b5, b6⟩, ⟨b7, b8⟩⟩ := share_nums l h
  rw [← h3]
  obtain ⟨l1, l2⟩ := h
  clear h7 h3 h5 h1
  have HB := hide (bnew W (.cells #[.int .i64 r7, .int .i64 r3, .int .i64 r5, .int .i64 r1] 3))
  go_enter Try.func29, Try.ntmps29
  go_wp2
  go_ret
  exact ⟨rfl, unhide HB⟩
set_option maxRecDepth 100000 in
set_option maxHeartbeats 1000000 in
theorem share29_2 (l : Int) (h : -1000000000 ≤ l ∧ l ≤ 1000000000) (W : World) : Calls Try.prog 29 #[.int .i64 l, .int .i64 2] W fun e w' => e = .returned (.int .i64 (sx 5 l)) ∧ Below W.heap.size W w' := by
  obtain ⟨r7, r3, r5, r1, h7, h3, h5, h1, e7, e3, e5, e1, ⟨b1, b2⟩, ⟨b3, b4⟩, ⟨b5, b6⟩, ⟨b7, b8⟩⟩ := share_nums l h
  rw [← h5]
  obtain ⟨l1, l2⟩ := h
  clear h7 h3 h5 h1
  have HB := hide (bnew W (.cells #[.int .i64 r7, .int .i64 r3, .int .i64 r5, .int .i64 r1] 3))
  go_enter Try.func29, Try.ntmps29
  go_wp2
  go_ret
  exact ⟨rfl, unhide HB⟩
set_option maxRecDepth 100000 in
set_option maxHeartbeats 1000000 in
theorem share29_3 (l : Int) (h : -1000000000 ≤ l ∧ l ≤ 1000000000) (W : World) : Calls Try.prog 29 #[.int .i64 l, .int .i64 3] W fun e w' => e = .returned (.int .i64 (sr l)) ∧ Below W.heap.size W w' := by
  obtain ⟨r7, r3, r5, r1, h7, h3, h5, h1, e7, e3, e5, e1, ⟨b1, b2⟩, ⟨b3, b4⟩, ⟨b5, b6⟩, ⟨b7, b8⟩⟩ := share_nums l h
  rw [← h1]
  obtain ⟨l1, l2⟩ := h
  clear h7 h3 h5 h1
  have HB := hide (bnew W (.cells #[.int .i64 r7, .int .i64 r3, .int .i64 r5, .int .i64 r1] 3))
  go_enter Try.func29, Try.ntmps29
  go_wp2
  go_ret
  exact ⟨rfl, unhide HB⟩

set_option maxHeartbeats 1000000 in
theorem same_any {W : World} {q1 q2 : Option Addr} {n c1 c2 : Nat} {f : Nat → Int} (hn : n ≤ 1048576) (h1 : Is W q1 n f) (h2 : Is W q2 n f) : Calls Try.prog 14 #[.slice q1 n c1, .slice q2 n c2] W fun e w' => e = .returned (.bool true) ∧ Below W.heap.size W w' := by
  have H1 := hide h1
  have H2 := hide h2
  have hnn : ((n : Int) != (n : Int)) = false := by simp
  clear h1 h2
  go_enter Try.func14, Try.ntmps14
  go_wp2
  go_loopw [13] (fun i wr => ∃ x : Nat, x ≤ n ∧ i = .int .i64 x ∧ Below W.heap.size W wr) (fun i _ => n - (intOf i).toNat)
  case atStart => exact ⟨0, Nat.zero_le _, rfl, Below.refl _ _⟩
  case round =>
    obtain ⟨x, hx, rfl, hb⟩ := hrel
    by_cases hlt : x < n
    · obtain ⟨a1, o1, rfl, l1, k1⟩ := ((unhide H1).keep hb).at hlt
      obtain ⟨a2, o2, rfl, l2, k2⟩ := ((unhide H2).keep hb).at hlt
      have d1 := k1 x hlt
      have d2 := k2 x hlt
      have q1 : (x : Int) < (n : Int) := by omega
      have q2 : (0 : Int) ≤ (x : Int) := by omega
      generalize f x = v at *
      have e1 : (v != v) = false := by simp
      clear k1 k2
      go_wp2_with fail
      go_quiet (fail)
      go_wp2
      go_roundw
      case rel => exact ⟨x + 1, by omega, by go_num, btrans hb (Joins.below_draws _ _ _)⟩
      case measure => simp [intOf]; omega
    · obtain rfl : x = n := by omega
      have cl : ¬ ((x : Int) < (x : Int)) := by omega
      go_wp2
      go_ret
      exact ⟨rfl, hb⟩

set_option maxRecDepth 100000 in
set_option maxHeartbeats 1000000 in
theorem rdots_fit (w : Int) (n cap : Nat) (q : Option Addr) (h : ¬ FitP w n) (W : World) : AnsD 13 #[.int .i64 w, .slice q n cap] W 0 (fun _ => 0) 0 8 := by
  unfold AnsD
  have Hr := hide (PD.mk (W := W) (V := W) (f := fun _ => 0) (lost := 0) (er := 8) none 0 (.inl rfl) (Below.refl _ _))
  unfold FitP at h
  by_cases c1 : w < 1
  · have c1' : decide (w < 1) = true := decide_eq_true c1
    clear h
    go_enter Try.func13, Try.ntmps13
    go_wp2
    exact bodyPost_ret (v := .tuple #[.slice none 0 0, .int .i64 0, .int .i64 8]) (by simp [results, Try.results13, go_sem]) rfl (unhide Hr)
  · have c1' : decide (w < 1) = false := decide_eq_false c1
    by_cases c2 : 4096 < w
    · have c2' : decide (4096 < w) = true := decide_eq_true c2
      clear h
      go_enter Try.func13, Try.ntmps13
      go_wp2
      exact bodyPost_ret (v := .tuple #[.slice none 0 0, .int .i64 0, .int .i64 8]) (by simp [results, Try.results13, go_sem]) rfl (unhide Hr)
    · have c2' : decide (4096 < w) = false := decide_eq_false c2
      by_cases c3 : 65536 < (n : Int)
      · have c3' : decide (65536 < (n : Int)) = true := decide_eq_true c3
        clear h
        go_enter Try.func13, Try.ntmps13
        go_wp2
        exact bodyPost_ret (v := .tuple #[.slice none 0 0, .int .i64 0, .int .i64 8]) (by simp [results, Try.results13, go_sem]) rfl (unhide Hr)
      · have c3' : decide (65536 < (n : Int)) = false := decide_eq_false c3
        obtain ⟨w', rfl⟩ : ∃ w' : Nat, w = (w' : Int) := ⟨w.toNat, by omega⟩
        obtain ⟨r, hr⟩ : ∃ r : Nat, (n : Int) % (w' : Int) = (r : Int) := ⟨n % w', by simp⟩
        have hr2 : r ≠ 0 := fun e => h ⟨by omega, by omega, by omega, by rw [hr, e]; rfl⟩
        have c4 : ((r : Int) != 0) = true := by simp; omega
        have c5 : ((w' : Int) == 0) = false := by simp; omega
        have c6 : ¬ (r : Int) = 0 := by omega
        have c7 : (0 : Int) ≤ (n : Int) := by omega
        clear h hr2
        go_enter Try.func13, Try.ntmps13
        go_wp2
        exact bodyPost_ret (v := .tuple #[.slice none 0 0, .int .i64 0, .int .i64 8]) (by simp [results, Try.results13, go_sem]) rfl (unhide Hr)

set_option maxRecDepth 100000 in
set_option maxHeartbeats 2000000 in
theorem rdots_bad (w n k cap : Nat) (q : Option Addr) (g : Nat → Int) (hw : 0 < w) (hw2 : w ≤ 4096) (hn : n ≤ 65536) (hd : n % w = 0) (hk : k < n) (hg : ∀ j, j < k → grB (g j)) (hbad : ¬ grB (g k)) (W : World) (hI : Is W q n g) : AnsD 13 #[.int .i64 w, .slice q n cap] W 0 (fun _ => 0) 0 3 := by
  unfold AnsD
  have c1 : ¬ ((w : Int) < 1) := by omega
  have c1' : decide ((w : Int) < 1) = false := decide_eq_false c1
  have c2 : ¬ (4096 < (w : Int)) := by omega
  have c2' : decide (4096 < (w : Int)) = false := decide_eq_false c2
  have c3 : ¬ (65536 < (n : Int)) := by omega
  have c3' : decide (65536 < (n : Int)) = false := decide_eq_false c3
  have c4 : (n : Int) % (w : Int) = 0 := by omega
  have c5 : ((w : Int) == 0) = false := by simp; omega
  have HI := hide hI
  have HG := hide hg
  have HB := hide hbad
  clear hI hg hbad
  go_enter Try.func13, Try.ntmps13
  go_wp2
  clear c4
  go_loopw [39] (fun i wr => ∃ x : Nat, x ≤ k ∧ i = .int .i64 x ∧ wr = W) (fun i _ => n - (intOf i).toNat)
  case atStart => exact ⟨0, Nat.zero_le _, rfl, rfl⟩
  case round =>
    obtain ⟨x, hx, rfl, rfl⟩ := hrel
    by_cases hlt : x < k
    · obtain ⟨ad0, oo, rfl, hl, hk⟩ := (unhide HI).at (x := x) (by omega)
      have kx := hk x (by omega)
      obtain ⟨g1, g2⟩ := unhide HG x (by omega)
      generalize g x = gx at *
      have q0 : (x : Int) < (n : Int) := by omega
      have q1 : (0 : Int) ≤ (x : Int) := by omega
      have r1 : ¬ (gx < 0) := by omega
      have r1' : decide (gx < 0) = false := decide_eq_false r1
      have r2 : ¬ (255 < gx) := by omega
      have r2' : decide (255 < gx) = false := decide_eq_false r2
      clear hk
      go_wp2
      go_roundw
      case rel => exact ⟨x + 1, by omega, by go_num, trivial⟩
      case measure => simp [intOf]; omega
    · obtain rfl : k = x := by omega
      obtain ⟨ad0, oo, rfl, hl, hk0⟩ := (unhide HI).at (x := k) hk
      have kx := hk0 k hk
      have q0 : (k : Int) < (n : Int) := by omega
      have q1 : (0 : Int) ≤ (k : Int) := by omega
      have hg0 := unhide HB
      have Hr := hide (PD.mk (W := wr) (V := wr) (f := fun _ => 0) (lost := 0) (er := 3) none 0 (.inl rfl) (Below.refl _ _))
      unfold grB at hg0
      clear hk0 HB
      generalize g k = gx at *
      by_cases r1 : gx < 0
      · have r1' : decide (gx < 0) = true := decide_eq_true r1
        clear hg0
        go_wp2
        exact bodyPost_ret (v := .tuple #[.slice none 0 0, .int .i64 0, .int .i64 3]) (by simp [results, Try.results13, go_sem]) rfl (unhide Hr)
      · have r1' : decide (gx < 0) = false := decide_eq_false r1
        have r2 : 255 < gx := by omega
        have r2' : decide (255 < gx) = true := decide_eq_true r2
        clear hg0
        go_wp2
        exact bodyPost_ret (v := .tuple #[.slice none 0 0, .int .i64 0, .int .i64 3]) (by simp [results, Try.results13, go_sem]) rfl (unhide Hr)
end Go.Proofs.Ytlilmchlddiacaa
