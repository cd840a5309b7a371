/-
  join and Product of package truth.
-/
import Derived.Test.YtfbggbalnfbbgaaTurnB
namespace Go.Proofs.Ytfbggbalnfbbgaa
open Go.RowKit Go.Shelf

/-- what holds in one row is made hold in another one -/
def joF (G f : Nat → Bool) (oo x j : Nat) : Bool := if oo ≤ j ∧ j < oo + x then G j || f (j - oo) else G j
theorem joF_zero (G f : Nat → Bool) (oo : Nat) : joF G f oo 0 = G := by
  funext j; unfold joF; rw [if_neg (by omega)]
theorem joF_at (G f : Nat → Bool) (oo x : Nat) : joF G f oo x (oo + x) = G (oo + x) := by
  unfold joF; rw [if_neg (by omega)]
theorem joF_succ (G f : Nat → Bool) (oo x : Nat) : (fun j => if j = oo + x then (G (oo + x) || f x) else joF G f oo x j) = joF G f oo (x + 1) := by
  funext j
  by_cases e : j = oo + x
  · subst e
    rw [if_pos rfl]
    unfold joF
    rw [if_pos (by omega), Nat.add_sub_cancel_left]
  · rw [if_neg e]
    unfold joF
    congr 1
    apply propext
    omega

set_option maxHeartbeats 1000000 in
theorem join_any (q N : Nat) (pi po : Option Addr) (n ci co oo : Nat) (G f : Nat → Bool) (W : World) (hG : BRow W q N G) (hn : n ≤ 64) (hi : n = 0 ∨ pi = some ⟨q, oo, none⟩) (hN : oo + n ≤ N) (hf : Bs W po n co f) (ho : Off po n q) :
    Calls Try.prog 42 #[.slice pi n ci, .slice po n co] W fun e w' => (∃ v, e = .returned v) ∧ BRow w' q N (joF G f oo n) ∧ W.grownBy w' (some q) := by
  have Hf := hide hf
  have Ho := hide ho
  have HG := hide hG
  have Hi := hide hi
  clear hf ho hG hi
  go_enter Try.func42, Try.ntmps42
  go_wp2
  go_loopw [8] (fun i wr => ∃ x : Nat, x ≤ n ∧ i = .int .i64 x ∧ BRow wr q N (joF G f oo x) ∧ W.grownBy wr (some q)) (fun i _ => n - (intOf i).toNat)
  case atStart => exact ⟨0, Nat.zero_le _, rfl, by rw [joF_zero]; exact unhide HG, World.grownBy.refl _ _⟩
  case round =>
    obtain ⟨x, hx, rfl, hR, hg⟩ := hrel
    by_cases hlt : x < n
    · have hb1 := (unhide Hf).grown hg (unhide Ho)
      obtain ⟨b, o, rfl, hbl, hc⟩ : ∃ b o, po = some ⟨b, o, none⟩ ∧ b < wr.heap.size ∧ ∀ k, k < n → wr.cell? ⟨b, o + k, none⟩ = some (.bool (f k)) := by
        rcases hb1.2 with h0 | h1
        · omega
        · exact h1
      obtain rfl : pi = some ⟨q, oo, none⟩ := by
        rcases unhide Hi with h0 | h1
        · omega
        · exact h1
      have c1 := hc x hlt
      have c2 := (hR.2 (oo + x) (by omega)).1
      have c3 := (hR.2 (oo + x) (by omega)).2
      rw [joF_at] at c2
      have HS := hide (show ∀ v, (G (oo + x) || f x) = v → BRow (wr.setCell ⟨q, oo + x, none⟩ (.bool v)) q N (joF G f oo (x + 1)) from fun v hv => by
        rw [← joF_succ, hv]; exact hR.set _ v)
      have HG2 := hide (show ∀ v, W.grownBy (wr.setCell ⟨q, oo + x, none⟩ (.bool v)) (some q) from fun v => gset hg _ _)
      have q1 : (x : Int) < (n : Int) := by omega
      have q2 : (0 : Int) ≤ (x : Int) := by omega
      clear hR hg hc hb1
      generalize G (oo + x) = g at *
      generalize f x = v at *
      cases g with
      | true =>
        go_wp2
        go_roundw
        case rel => exact ⟨x + 1, by omega, by go_num, unhide HS _ rfl, unhide HG2 _⟩
        case measure => simp [intOf]; omega
      | false =>
        go_wp2
        go_roundw
        case rel => exact ⟨x + 1, by omega, by go_num, unhide HS _ rfl, unhide HG2 _⟩
        case measure => simp [intOf]; omega
    · obtain rfl : x = n := by omega
      have cl : ¬ ((x : Int) < (x : Int)) := by omega
      have HR := hide hR
      have Hg := hide hg
      clear hR hg
      go_wp2
      go_end0
      exact ⟨⟨_, rfl⟩, unhide HR, unhide Hg⟩

/-- the product of truths -/
def prF (a b : Nat → Bool) (wa wb : Nat) (j : Nat) : Bool := (List.range wa).any fun k => a (j / wb * wa + k) && b (k * wb + j % wb)
def prG (a b : Nat → Bool) (wa wb h : Nat) (l : List (Fin h)) (j : Nat) : Bool := (l.map (·.1)).contains (j / wb) && prF a b wa wb j
def prH (a b : Nat → Bool) (wa wb h : Nat) (l : List (Fin h)) (y k : Nat) (j : Nat) : Bool := prG a b wa wb h l j || (j / wb == y && (List.range k).any fun k' => a (y * wa + k') && b (k' * wb + j % wb))
theorem prH_zero (a b : Nat → Bool) (wa wb h : Nat) (l : List (Fin h)) (y : Nat) : prH a b wa wb h l y 0 = prG a b wa wb h l := by
  funext j; simp [prH]
theorem prH_full (a b : Nat → Bool) (wa wb h : Nat) (l : List (Fin h)) (y : Fin h) : prH a b wa wb h l y.1 wa = prG a b wa wb h (l ++ [y]) := by
  funext j
  unfold prH prG
  rw [List.map_append, List.contains_eq_any_beq, List.contains_eq_any_beq, List.any_append]
  have e0 : ((j / wb == y.1 && (List.range wa).any fun k' => a (y.1 * wa + k') && b (k' * wb + j % wb)) : Bool) = (j / wb == y.1 && prF a b wa wb j) := by
    by_cases e : j / wb = y.1
    · unfold prF; rw [← e]
    · have : (j / wb == y.1) = false := by simp [e]
      rw [this]; rfl
  rw [e0]
  simp only [List.map_cons, List.map_nil, List.any_cons, List.any_nil, Bool.or_false]
  generalize (List.map (fun x : Fin h => x.1) l).any (fun x => j / wb == x) = X
  generalize prF a b wa wb j = Y
  generalize (j / wb == y.1) = Z
  cases X <;> cases Y <;> cases Z <;> rfl
theorem prH_no (a b : Nat → Bool) (wa wb h : Nat) (l : List (Fin h)) (y k : Nat) (hk : a (y * wa + k) = false) : prH a b wa wb h l y (k + 1) = prH a b wa wb h l y k := by
  funext j
  unfold prH
  rw [List.range_succ, List.any_append]
  simp [hk]
theorem prH_yes (a b : Nat → Bool) (wa wb h : Nat) (l : List (Fin h)) (y k : Nat) (hk : a (y * wa + k) = true) (j : Nat) (hwb : 0 < wb) : joF (prH a b wa wb h l y k) (fun x => b (k * wb + x)) (y * wb) wb j = prH a b wa wb h l y (k + 1) j := by
  have e : (y * wb ≤ j ∧ j < y * wb + wb) ↔ j / wb = y := by
    have h1 := Nat.div_add_mod j wb
    have h2 := Nat.mod_lt j hwb
    rw [Nat.mul_comm] at h1
    constructor
    · rintro ⟨h3, h4⟩
      rw [Nat.div_eq_iff hwb]
      omega
    · rintro rfl
      omega
  unfold joF
  by_cases c : j / wb = y
  · rw [if_pos (e.2 c)]
    have hm : j - y * wb = j % wb := by
      have h1 := Nat.div_add_mod j wb
      rw [c, Nat.mul_comm] at h1
      omega
    rw [hm]
    unfold prH
    rw [List.range_succ, List.any_append]
    simp [hk, c, Bool.or_assoc]
  · rw [if_neg (fun q => c (e.1 q))]
    have c' : (j / wb == y) = false := by simp [c]
    unfold prH
    rw [c']
    rfl
end Go.Proofs.Ytfbggbalnfbbgaa
