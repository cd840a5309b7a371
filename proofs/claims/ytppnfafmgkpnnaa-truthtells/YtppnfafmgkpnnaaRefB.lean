/-
  The reference: run, Longest.
-/
import Derived.Test.YtppnfafmgkpnnaaRefA
namespace Go.Proofs.Ytppnfafmgkpnnaa
open Go.RowKit Go.Shelf

theorem rnF_eq (so : Nat → Bool) (n x k : Nat) (hk : k ≤ 65) (h : ∀ i, i < k → so ((x + i) % n) = true) (he : k = 65 ∨ so ((x + k) % n) = false) : rnF so n x 65 = k := by
  have h1 := rnF_ge so n x 65 k hk h
  have h2 := rnF_le so n x 65
  rcases he with e | e
  · omega
  · refine Nat.le_antisymm (Nat.le_of_not_lt fun c => ?_) h1
    rw [rnF_run so n x 65 k c] at e
    cases e

set_option maxRecDepth 100000 in
set_option maxHeartbeats 2000000 in
theorem run_ok {W : World} {w h : Nat} {p : Option Addr} {n cap : Nat} {f : Nat → Bool} (r : Rt W w h p n cap f) (y x : Nat) (v : Bool) (hy : y < h) (hx : x < w) :
    Calls Try.prog 33 #[tr w h p n cap, .int .i64 y, .int .i64 x, .bool v] W fun e w' => e = .returned (.int .i64 (rnF (soF (fun x => f (y * w + x)) v) w x 65 : Nat)) ∧ Below W.heap.size W w' := by
  have hw := r.1
  have T0 := hide (Tb.new r)
  have B0 := hide (bal (o := .cells #[.int .i64 w, .int .i64 h, .slice p n cap] 24) (Below.refl W.heap.size W))
  have hw0 : w ≠ 0 := by omega
  clear r
  go_enter Try.func33, Try.ntmps33
  go_wp2
  generalize W.alloc (.cells #[.int .i64 w, .int .i64 h, .slice p n cap] 24) = w0 at *
  go_loopw [9] (fun c wr => ∃ k : Nat, k ≤ 65 ∧ c = .int .i64 k ∧ (∀ i, i < k → soF (fun x => f (y * w + x)) v ((x + i) % w) = true) ∧ Below w0.heap.size w0 wr) (fun c _ => 65 - (intOf c).toNat)
  case atStart => exact ⟨0, Nat.zero_le _, rfl, fun i hi => by omega, Below.refl _ _⟩
  case round =>
    obtain ⟨k, hk, rfl, he, hb⟩ := hrel
    have He := hide he
    clear he
    by_cases hlt : k < 65
    · have q1 : (k : Int) < 65 := by omega
      obtain ⟨t, ht⟩ : ∃ t, t = (x + k) % w := ⟨_, rfl⟩
      have htw : t < w := by rw [ht]; exact Nat.mod_lt _ (by omega)
      have e6 : ((x : Int) + (k : Int)).tmod (w : Int) = (t : Int) := by rw [ht, Int.tmod_eq_emod_of_nonneg (by omega), Int.natCast_emod]; rfl
      have He6 := hide e6
      have e5 := hide (show IntKind.i64.wrap ((x : Int) + (k : Int)) = (x : Int) + (k : Int) from (Go.IntWalk.i64_left _).trans (Go.IntWalk.wrap64_in _ (by omega)))
      clear e6
      have Hbt := hide (show ∀ V, Below wr.heap.size wr V → Calls Try.prog 24 #[tr w h p n cap, .int .i64 y, .int .i64 t] V fun e w' => e = .returned (.bool (f (y * w + t))) ∧ Below V.heap.size V w' from fun V hV => bit_ok ((unhide T0).2.keep (btrans hb hV)) y t hy htw)
      have Hld := hide (show ∀ V, Below wr.heap.size wr V → V.cell? ⟨W.heap.size, 0, none⟩ = some (.int .i64 w) ∧ V.cell? ⟨W.heap.size, 1, none⟩ = some (.int .i64 h) ∧ V.cell? ⟨W.heap.size, 2, none⟩ = some (.slice p n cap) from fun V hV => ((unhide T0).1.keep (btrans hb hV)).2)
      have Hyes := hide (show (f (y * w + t) == v) = true → ∀ i, i < k + 1 → soF (fun x => f (y * w + x)) v ((x + i) % w) = true from fun e i hi => by
        by_cases c : i = k
        · subst c; rw [← ht]; exact e
        · exact unhide He i (by omega))
      have Hno := hide (show (f (y * w + t) == v) = false → rnF (soF (fun x => f (y * w + x)) v) w x 65 = k from fun e => rnF_eq _ w x k hk (unhide He) (.inr (by rw [← ht]; exact e)))
      generalize f (y * w + t) = a at *
      have Hb := hide hb
      have Hlt := hide hlt
      have q2 : (x : Int) ≤ 64 := by omega
      have q3 : (0 : Int) ≤ (x : Int) := by omega
      have q4 : (0 : Int) ≤ (k : Int) := by omega
      clear hb hlt ht
      go_wp2_with fail
      have hb2 := True.intro
      go_region_held3 (fun V => Below wr.heap.size wr V ∧ V.cell? ⟨W.heap.size, 0, none⟩ = some (.int .i64 w) ∧ V.cell? ⟨W.heap.size, 1, none⟩ = some (.int .i64 h) ∧ V.cell? ⟨W.heap.size, 2, none⟩ = some (.slice p n cap))
        (first
          | (exact ⟨Below.drew (Below.refl _ _), unhide Hld _ (Below.drew (Below.refl _ _))⟩)
          | (exact ⟨hb2, unhide Hld _ hb2⟩))
        (first | (go_at_call 24; rw [unhide e5, unhide He6]; refine (unhide Hbt _ (Below.drew (Below.refl _ _))).mono ?_; rintro e w10 ⟨rfl, hb⟩; have hb2 := btrans (Below.drew (Below.refl wr.heap.size wr)) hb))
      have S5 := hide (btrans (unhide Hb) hb2)
      have hlt := unhide Hlt
      clear hb hb2 Hbt Hld
      cases a <;> cases v
      · go_wp2
        go_roundw
        case rel => exact ⟨k + 1, by omega, by go_num, unhide Hyes rfl, unhide S5⟩
        case measure => simp [intOf]; omega
      · have Sf := hide (btrans (unhide B0) (unhide S5))
        go_wp2
        go_ret
        exact ⟨ret_int (by rw [unhide Hno rfl]), unhide Sf⟩
      · have Sf := hide (btrans (unhide B0) (unhide S5))
        go_wp2
        go_ret
        exact ⟨ret_int (by rw [unhide Hno rfl]), unhide Sf⟩
      · go_wp2
        go_roundw
        case rel => exact ⟨k + 1, by omega, by go_num, unhide Hyes rfl, unhide S5⟩
        case measure => simp [intOf]; omega
    · obtain rfl : k = 65 := by omega
      have Hz := hide (rnF_eq _ w x 65 (Nat.le_refl _) (unhide He) (.inl rfl))
      have Sf := hide (btrans (unhide B0) hb)
      have Hb := hide hb
      clear hb
      go_wp2_with fail
      go_quiet (fail)
      go_wp2
      go_ret
      exact ⟨ret_int (by rw [unhide Hz]), btrans (unhide Sf) (Joins.below_draws _ _ _)⟩

set_option maxRecDepth 100000 in
set_option maxHeartbeats 2000000 in
theorem rlongest_ok {W : World} {w h : Nat} {p : Option Addr} {n cap : Nat} {f : Nat → Bool} (v : Bool) (r : Rt W w h p n cap f) (hw1 : 0 < w) :
    Calls Try.prog 30 #[tr w h p n cap, .bool v] W fun e w' => e = .returned (.int .i64 (lgM f v w h : Nat)) ∧ Below W.heap.size W w' := by
  have hw := r.1
  have hh := r.2.1
  have T0 := hide (Tb.new r)
  have B0 := hide (bal (o := .cells #[.int .i64 w, .int .i64 h, .slice p n cap] 24) (Below.refl W.heap.size W))
  obtain ⟨R, hR⟩ : ∃ R : Nat → Nat → Nat, R = fun y x => rnF (soF (fun x => f (y * w + x)) v) w x 65 := ⟨_, rfl⟩
  obtain ⟨G, hG⟩ : ∃ G : Nat → Nat, G = fun y => mxN (R y) w := ⟨_, rfl⟩
  have Hz := hide (show mxN G h = lgM f v w h from mxN_congr fun y _ => by rw [hG, hR]; exact lgI_ref _ w hw1 hw)
  have HR := hide (show ∀ V y x, Tb V W.heap.size w h p n cap f → y < h → x < w → Calls Try.prog 33 #[tr w h p n cap, .int .i64 y, .int .i64 x, .bool v] V fun e w' => e = .returned (.int .i64 (R y x : Nat)) ∧ Below V.heap.size V w' from fun V y x hV hy hx => by rw [hR]; exact run_ok hV.2 y x v hy hx)
  have HG := hide hG
  have hRle : ∀ y x, R y x ≤ 65 := fun y x => by rw [hR]; exact rnF_le _ _ _ _
  have hGle : ∀ y, G y ≤ 65 := fun y => by rw [hG]; exact mxN_bound _ _ _ fun x _ => hRle y x
  clear r hR hG
  go_enter Try.func30, Try.ntmps30
  go_wp2
  generalize W.alloc (.cells #[.int .i64 w, .int .i64 h, .slice p n cap] 24) = w0 at *
  go_loopw [5, 6] (fun d c wr => ∃ y : Nat, y ≤ h ∧ c = .int .i64 y ∧ d = .int .i64 (mxN G y : Nat) ∧ Below w0.heap.size w0 wr) (fun _ c _ => h - (intOf c).toNat)
  case atStart => exact ⟨0, Nat.zero_le _, rfl, rfl, Below.refl _ _⟩
  case round =>
    obtain ⟨y, hy, rfl, rfl, hb⟩ := hrel
    have m1 := ((unhide T0).1.keep hb).2
    have g1 : mxN G y ≤ 65 := mxN_bound _ _ _ fun j _ => hGle j
    by_cases hlt : y < h
    · have q1 : (y : Int) < (h : Int) := by omega
      have Hg := hide (show mxN G (y + 1) = max (mxN G y) (mxN (R y) w) by rw [unhide HG]; rfl)
      generalize mxN G y = D at *
      go_wp2
      obtain ⟨wo, rfl⟩ : ∃ wo : World, wo = wr := ⟨_, rfl⟩
      clear m1
      go_loopw [5, 7] (fun d c wr => ∃ x : Nat, x ≤ w ∧ c = .int .i64 x ∧ d = .int .i64 (max D (mxN (R y) x) : Nat) ∧ Below w0.heap.size w0 wr) (fun _ c _ => w - (intOf c).toNat)
      case atStart => exact ⟨0, Nat.zero_le _, rfl, by simp [mxN], hb⟩
      case round =>
        clear hb
        obtain ⟨x, hx, rfl, rfl, hb⟩ := hrel
        have m1 := ((unhide T0).1.keep hb).2
        have g2 : mxN (R y) x ≤ 65 := mxN_bound _ _ _ fun j _ => hRle y j
        by_cases hlx : x < w
        · have q2 : (x : Int) < (w : Int) := by omega
          have Hru := hide (unhide HR wr y x ((unhide T0).keep hb) hlt hlx)
          have Hs := hide (show max D (mxN (R y) (x + 1)) = max (max D (mxN (R y) x)) (R y x) by rw [show mxN (R y) (x + 1) = max (mxN (R y) x) (R y x) from rfl, Nat.max_assoc])
          have g3 := hRle y x
          generalize max D (mxN (R y) x) = M at *
          generalize R y x = T at *
          have Hb := hide hb
          clear hb
          go_wp2_with fail
          clear m1
          refine (unhide Hru).mono ?_
          rintro e w1 ⟨rfl, hb⟩
          have S5 := hide (btrans (unhide Hb) hb)
          clear hb
          by_cases hc : (M : Int) < (T : Int)
          · have Hm := hide (show max M T = T by omega)
            go_wp2
            go_roundw
            case rel => exact ⟨x + 1, by omega, by go_num, by rw [unhide Hs, unhide Hm], unhide S5⟩
            case measure => simp [intOf]; omega
          · have Hm := hide (show max M T = M by omega)
            have hc' : decide ((M : Int) < (T : Int)) = false := by simp; omega
            go_wp2
            go_roundw
            case rel => exact ⟨x + 1, by omega, by go_num, by rw [unhide Hs, unhide Hm], unhide S5⟩
            case measure => simp [intOf]; omega
        · obtain rfl : x = w := by omega
          have cl : ¬ ((x : Int) < (x : Int)) := by omega
          go_wp2
          go_roundw
          case rel => exact ⟨y + 1, by omega, by go_num, by rw [unhide Hg], hb⟩
          case measure => simp [intOf]; omega
    · obtain rfl : y = h := by omega
      have cl : ¬ ((y : Int) < (y : Int)) := by omega
      have Sf := hide (btrans (unhide B0) hb)
      go_wp2
      go_ret
      exact ⟨ret_int (by rw [unhide Hz]), unhide Sf⟩
end Go.Proofs.Ytppnfafmgkpnnaa
