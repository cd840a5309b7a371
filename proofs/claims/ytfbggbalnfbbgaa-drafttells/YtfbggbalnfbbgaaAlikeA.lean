/-
  slices.Equal, slices.IndexFunc and the function that Alike hands it.
-/
import Derived.Test.YtfbggbalnfbbgaaProdC
namespace Go.Proofs.Ytfbggbalnfbbgaa
open Go.RowKit Go.Shelf

/-- two rows are alike -/
def eqN (f g : Nat → Bool) (n : Nat) : Bool := (List.range n).all fun x => f x == g x
theorem eqN_succ (f g : Nat → Bool) (n : Nat) : eqN f g (n + 1) = (eqN f g n && f n == g n) := by simp [eqN, List.range_succ]
theorem eqN_false (f g : Nat → Bool) (n x : Nat) (h : x < n) (e : (f x == g x) = false) : eqN f g n = false := by
  unfold eqN
  rw [List.all_eq_false]
  exact ⟨x, by simpa using h, by simp [e]⟩

set_option maxHeartbeats 1000000 in
theorem equal_any (p1 p2 : Option Addr) (n c1 c2 : Nat) (f g : Nat → Bool) (W : World) (hn : n ≤ 64) (h1 : Bs W p1 n c1 f) (h2 : Bs W p2 n c2 g) :
    Calls Try.prog 46 #[.slice p1 n c1, .slice p2 n c2] W fun e w' => e = .returned (.bool (eqN f g n)) ∧ Below W.heap.size W w' := by
  have H1 := hide h1
  have H2 := hide h2
  have hnn : ((n : Int) != (n : Int)) = false := by simp
  clear h1 h2
  go_enter Try.func46, Try.ntmps46
  go_wp2
  go_loopw [13] (fun i wr => ∃ x : Nat, x ≤ n ∧ i = .int .i64 x ∧ eqN f g x = true ∧ Below W.heap.size W wr) (fun i _ => n - (intOf i).toNat)
  case atStart => exact ⟨0, Nat.zero_le _, rfl, rfl, Below.refl _ _⟩
  case round =>
    obtain ⟨x, hx, rfl, he, hb⟩ := hrel
    have He := hide he
    clear he
    by_cases hlt : x < n
    · obtain ⟨b1, o1, rfl, l1, k1⟩ : ∃ b o, p1 = some ⟨b, o, none⟩ ∧ b < wr.heap.size ∧ ∀ k, k < n → wr.cell? ⟨b, o + k, none⟩ = some (.bool (f k)) := by
        rcases ((unhide H1).keep hb).2 with h0 | h1
        · omega
        · exact h1
      obtain ⟨b2, o2, rfl, l2, k2⟩ : ∃ b o, p2 = some ⟨b, o, none⟩ ∧ b < wr.heap.size ∧ ∀ k, k < n → wr.cell? ⟨b, o + k, none⟩ = some (.bool (g k)) := by
        rcases ((unhide H2).keep hb).2 with h0 | h1
        · omega
        · exact h1
      have d1 := k1 x hlt
      have d2 := k2 x hlt
      have q1 : (x : Int) < (n : Int) := by omega
      have q2 : (0 : Int) ≤ (x : Int) := by omega
      clear k1 k2
      cases hv : (f x == g x) with
      | false =>
        have Hf := hide (eqN_false f g n x hlt hv)
        have hv' : (f x != g x) = true := by rw [bne, hv]; rfl
        clear hv
        generalize f x = a at *
        generalize g x = c at *
        have n1 : ((true : Bool) != false) = true := rfl
        have n2 : ((false : Bool) != true) = true := rfl
        cases a <;> cases c
        · cases hv'
        · clear hv'
          go_wp2_with fail
          go_quiet (fail)
          go_wp2
          go_ret
          exact ⟨ret_bool (unhide Hf).symm, btrans hb (Joins.below_draws _ _ _)⟩
        · clear hv'
          go_wp2_with fail
          go_quiet (fail)
          go_wp2
          go_ret
          exact ⟨ret_bool (unhide Hf).symm, btrans hb (Joins.below_draws _ _ _)⟩
        · cases hv'
      | true =>
        have Hf := hide (show eqN f g (x + 1) = true by rw [eqN_succ, unhide He, hv]; rfl)
        have hv' : (f x != g x) = false := by rw [bne, hv]; rfl
        clear hv
        generalize f x = a at *
        generalize g x = c at *
        cases a <;> cases c
        · clear hv'
          go_wp2_with fail
          go_quiet (fail)
          go_wp2
          go_roundw
          case rel => exact ⟨x + 1, by omega, by go_num, unhide Hf, btrans hb (Joins.below_draws _ _ _)⟩
          case measure => simp [intOf]; omega
        · cases hv'
        · cases hv'
        · clear hv'
          go_wp2_with fail
          go_quiet (fail)
          go_wp2
          go_roundw
          case rel => exact ⟨x + 1, by omega, by go_num, unhide Hf, btrans hb (Joins.below_draws _ _ _)⟩
          case measure => simp [intOf]; omega
    · obtain rfl : x = n := by omega
      have cl : ¬ ((x : Int) < (x : Int)) := by omega
      go_wp2
      go_ret
      exact ⟨ret_bool (unhide He).symm, hb⟩

set_option maxHeartbeats 1000000 in
theorem same_row_any (p1 p2 : Option Addr) (n c1 c2 Br : Nat) (f g : Nat → Bool) (W : World) (hn : n ≤ 64) (h1 : Bs W p1 n c1 f) (h2 : Bs W p2 n c2 g) (hr : W.cell? ⟨Br, 0, none⟩ = some (.slice p2 n c2)) :
    Calls Try.prog 45 #[.slice p1 n c1, .pointer (some ⟨Br, 0, none⟩)] W fun e w' => e = .returned (.bool (eqN f g n)) ∧ Below W.heap.size W w' := by
  have HE := hide (equal_any p1 p2 n c1 c2 f g W hn h1 h2)
  clear h1 h2
  go_enter Try.func45, Try.ntmps45
  go_wp2_with fail
  refine (unhide HE).mono ?_
  rintro e w1 ⟨rfl, hb⟩
  go_wp2
  go_ret
  exact ⟨rfl, hb⟩

/-- the first place at which something holds, or -1 -/
def ixI (U : List Nat) (P : Nat → Bool) : Int := if U.any P then ((U.findIdx P : Nat) : Int) else -1
theorem ixI_yes (U : List Nat) (P : Nat → Bool) (i : Nat) (hi : i < U.length) (h : P U[i] = true) (hb : ∀ j (hj : j < i), P U[j] = false) : ixI U P = i := by
  have : U.any P = true := List.any_eq_true.2 ⟨U[i], List.getElem_mem hi, h⟩
  rw [ixI, if_pos this, (List.findIdx_eq hi).2 ⟨h, hb⟩]
theorem ixI_no (U : List Nat) (P : Nat → Bool) (hb : ∀ j (hj : j < U.length), P U[j] = false) : ixI U P = -1 := by
  have : ¬ U.any P = true := by
    rw [List.any_eq_true]
    rintro ⟨x, hx, e⟩
    obtain ⟨j, hj, rfl⟩ := List.getElem_of_mem hx
    rw [hb j hj] at e
    cases e
  rw [ixI, if_neg this]

set_option maxHeartbeats 1000000 in
theorem index_func_any (U : List Nat) (P : Nat → Bool) (E : Nat → Value) (b cu Br : Nat) (W : World) (hU : U.length ≤ 64) (hE : ∀ u, ∃ r n c, E u = .slice r n c) (hb : b < W.heap.size) (hc : ∀ j (hj : j < U.length), W.cell? ⟨b, j, none⟩ = some (E U[j]))
    (hP : ∀ u ∈ U, ∀ V, Below W.heap.size W V → Calls Try.prog 45 #[E u, .pointer (some ⟨Br, 0, none⟩)] V fun e w' => e = .returned (.bool (P u)) ∧ Below V.heap.size V w') :
    Calls Try.prog 44 #[.slice (some ⟨b, 0, none⟩) U.length cu, .func (.func 45) #[] #[.pointer (some ⟨Br, 0, none⟩)]] W fun e w' => e = .returned (.int .i64 (ixI U P)) ∧ Below W.heap.size W w' := by
  have Hc := hide hc
  have HP := hide hP
  have eg := enters_of Try.func45 (by kernel_rfl) rfl
  have Heg := hide eg
  clear hc hP eg
  go_enter Try.func44, Try.ntmps44
  go_wp2
  go_loopw [8] (fun i wr => ∃ x : Nat, x ≤ U.length ∧ i = .int .i64 x ∧ (∀ j (hj : j < x) (hj2 : j < U.length), P U[j] = false) ∧ Below W.heap.size W wr) (fun i _ => U.length - (intOf i).toNat)
  case atStart => exact ⟨0, Nat.zero_le _, rfl, fun j hj => by omega, Below.refl _ _⟩
  case round =>
    obtain ⟨x, hx, rfl, he, hbel⟩ := hrel
    have He := hide he
    clear he
    by_cases hlt : x < U.length
    · have d1 : wr.cell? ⟨b, x, none⟩ = some (E U[x]) := keepC hbel hb (unhide Hc x hlt)
      have HPx := hide (unhide HP U[x] (List.getElem_mem hlt) wr hbel)
      have q1 : (x : Int) < (U.length : Int) := by omega
      have q2 : (0 : Int) ≤ (x : Int) := by omega
      obtain ⟨r, n, c, hE'⟩ := hE U[x]
      rw [hE'] at d1 HPx
      have HE := hide hE'
      clear hE'
      have Hin := hide hlt
      generalize hpv : P U[x] = v at *
      have Hpv := hide hpv
      clear hpv
      go_wp2_with fail
      refine (unhide HPx).mono ?_
      rintro e w1 ⟨rfl, hb1⟩
      have hb2 := btrans hbel hb1
      clear hb1 d1
      cases v with
      | true =>
        have Hz := hide (ixI_yes U P x hlt (unhide Hpv) (fun j hj => unhide He j hj (by omega)))
        go_wp2
        go_ret
        exact ⟨ret_int (unhide Hz).symm, hb2⟩
      | false =>
        go_wp2
        go_roundw
        case rel => exact ⟨x + 1, by omega, by go_num, fun j hj hj2 => (by
          by_cases e : j = x
          · subst e; exact unhide Hpv
          · exact unhide He j (by omega) hj2), hb2⟩
        case measure => simp [intOf]; omega
    · obtain rfl : x = U.length := by omega
      have cl : ¬ ((U.length : Int) < (U.length : Int)) := by omega
      have Hz := hide (ixI_no U P (fun j hj => unhide He j hj hj))
      go_wp2
      go_ret
      exact ⟨ret_int (unhide Hz).symm, hbel⟩
end Go.Proofs.Ytfbggbalnfbbgaa
