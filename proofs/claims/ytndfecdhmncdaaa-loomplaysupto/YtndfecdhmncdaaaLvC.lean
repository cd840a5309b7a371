/-
  Are these the first rows?
-/
import Derived.Test.YtndfecdhmncdaaaLvB
import Derived.Test.YtndfecdhmncdaaaWkE
namespace Go.Proofs.Ytndfecdhmncdaaa
open Go.RowKit

theorem first_nums {w h y cap n : Nat} (hn : n = w * h) (hw : w ≤ 64) (hh : h ≤ 64) (hy : y < h) (hc : n ≤ cap) : ∃ l : Nat, l = y * w ∧ l + w ≤ cap ∧ l ≤ 4096 ∧ wrap64 ((y : Int) * (w : Int)) = (l : Int) ∧ wrap64 (((y : Int) + 1) * (w : Int)) = (l : Int) + (w : Int) := by
  have h1 : y * w + w ≤ n := by
    have := Nat.mul_le_mul_right w (show y + 1 ≤ h by omega)
    rw [mul_step, Nat.mul_comm h w] at this
    omega
  have h2 : y * w ≤ 4096 := Nat.mul_le_mul (show y ≤ 64 by omega) hw
  refine ⟨y * w, rfl, by omega, h2, ?_, ?_⟩
  · rw [← Int.natCast_mul]
    exact Go.IntWalk.wrap64_in _ (by omega)
  · rw [show ((y : Int) + 1) = ((y + 1 : Nat) : Int) from rfl, ← Int.natCast_mul, mul_step, Int.natCast_add]
    exact Go.IntWalk.wrap64_in _ (by omega)

theorem rl_at {B : Nat} {W : World} {f : Nat → Bool} {w y : Nat} {rs : List (Option Nat)} {xs : List Value} (h : RL B W f w rs xs) (hr : rs = (List.range rs.length).map some) (hy : y < rs.length) : ∃ q c, xs[y]? = some (.slice q w c) ∧ W.ownsRow B 4 1 (.slice q w c) w (bitsV (fun x => f (y * w + x)) w) := by
  have e : rs[y]? = some (some y) := by
    rw [hr, List.getElem?_map, List.getElem?_range (by simpa using hy)]
    rfl
  obtain ⟨v, hv, ho⟩ := h.2 y (some y) e
  obtain ⟨q, c, rfl⟩ := own_form ho
  exact ⟨q, c, hv, ho⟩

set_option maxRecDepth 100000 in
set_option maxHeartbeats 2000000 in
theorem first_any' {W : World} {w h : Nat} {p : Option Addr} {n cap : Nat} {f : Nat → Bool} (hm : Rt W w h p n cap f) (hn0 : 0 < n) {B : Nat} {tq : Option Addr} {tn tc : Nat} {xs : List Value} {rs : List (Option Nat)} (ho : W.ownsRow B 22 1 (.slice tq tn tc) tn xs) (htn : tn = rs.length) (hR : RL B W f w rs xs) (hr : rs = (List.range rs.length).map some) (hle : tn ≤ h) :
    Calls Try.prog 11 #[tr w h p n cap, .slice tq tn tc] W fun e w' => e = .returned (.bool true) ∧ Below W.heap.size W w' := by
  obtain ⟨hw6, hh6, hnn, hBs⟩ := hm
  have hw0 : 0 < w := by rcases Nat.eq_zero_or_pos w with e | e; subst e; rw [Nat.zero_mul] at hnn; omega; exact e
  have HO := hide (OwnM.new W w h p n cap 24)
  have B0 := hide (bal (o := .cells #[.int .i64 w, .int .i64 h, .slice p n cap] 24) (Below.refl W.heap.size W))
  have HRow := hide (fun V (hV : Below W.heap.size W V) y (hy : y < tn) => (show ∃ q c, (V.ownsRow B 22 1 (.slice tq tn tc) tn xs) ∧ xs[y]? = some (.slice q w c) ∧ Bs V q w c (fun x => f (y * w + x)) from by
    obtain ⟨q, c, h1, h2⟩ := rl_at (y := y) hR hr (by omega)
    exact ⟨q, c, own_keep ho hV, h1, own_bs (own_keep h2 hV)⟩))
  have HNum := hide (fun y (hy : y < h) => first_nums hnn hw6 hh6 hy hBs.1)
  have HBr := hide (fun V (hV : Below W.heap.size W V) y (hy : y < h) => (hBs.keep hV).row hnn hy hw0)
  have c1 : ¬ ((h : Int) < (tn : Int)) := by omega
  clear hnn hBs ho htn hR hr
  obtain ⟨b0, hb0⟩ : ∃ b, b = W.heap.size := ⟨_, rfl⟩
  rw [← hb0] at HO
  go_enter Try.func11, Try.ntmps11
  go_wp2_with fail
  rw [← hb0]
  generalize W.alloc (.cells #[.int .i64 w, .int .i64 h, .slice p n cap] 24) = w0 at *
  have Hb0 := hide hb0
  clear hb0
  obtain ⟨-, k1, k2, k3⟩ := unhide HO
  go_wp2
  go_loopw [14] (fun i wr => ∃ y : Nat, y ≤ tn ∧ i = .int .i64 y ∧ Below w0.heap.size w0 wr) (fun i _ => tn - (intOf i).toNat)
  case atStart => exact ⟨0, Nat.zero_le _, rfl, Below.refl _ _⟩
  case round =>
    clear k1 k2 k3
    obtain ⟨y, hy, rfl, hb⟩ := hrel
    have Hb := hide hb
    by_cases hlt : y < tn
    · have q0 : (y : Int) < (tn : Int) := by omega
      have q1 : (0 : Int) ≤ (y : Int) := by omega
      have HbW := hide (btrans (unhide B0) hb)
      obtain ⟨-, k1, k2, k3⟩ := (unhide HO).keep hb
      obtain ⟨q, c, hO, hx, hB⟩ := unhide HRow _ (unhide HbW) y hlt
      obtain ⟨g, tc', hg⟩ := own_slice hO (by omega)
      simp only [Value.slice.injEq] at hg
      obtain ⟨rfl, -, rfl⟩ := hg
      have hcell := hO.cellAt (g := g) y (by omega)
      rw [hx] at hcell
      obtain ⟨l, hl, l1, l2, e1, e2⟩ := unhide HNum y (by omega)
      have hB2 := unhide HBr _ (unhide HbW) y (by omega)
      rw [← hl] at hB hB2
      have HS := hide (same_bits hB hB2 (fun _ _ => rfl) (by omega))
      have j1 : (l : Int) + (w : Int) ≤ (cap : Int) := by omega
      have j0 : (0 : Int) ≤ (l : Int) := by omega
      have j2 : (0 : Int) ≤ (l : Int) + (w : Int) := by omega
      have j3 : (l : Int) ≤ (l : Int) + (w : Int) := by omega
      have j4 : ((l : Int) + (w : Int)).toNat - l = w := by omega
      have hcl : ¬ cap = l := by omega
      clear hl hB hB2 hO hx hb
      go_wp2_with fail
      refine (unhide HS).mono ?_
      rintro e w3 ⟨rfl, hb3⟩
      have S3 := hide (btrans (unhide Hb) hb3)
      clear hb3
      go_wp2
      go_roundw
      case rel => exact ⟨y + 1, by omega, by go_num, unhide S3⟩
      case measure => simp [intOf]; omega
    · obtain rfl : tn = y := by omega
      have cl : ¬ ((tn : Int) < (tn : Int)) := by omega
      go_wp2
      go_ret
      exact ⟨rfl, btrans (unhide B0) hb⟩
end Go.Proofs.Ytndfecdhmncdaaa
