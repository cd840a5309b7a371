/-
  Right truths; Turned, Product and Alike of them in one form; Same; alive.
-/
import Derived.Test.YtpefcpbkdofblaaAlikeC
namespace Go.Proofs.Ytpefcpbkdofblaa
open Go.RowKit Go.Shelf

/-- truths that are right -/
def Rt (W : World) (w h : Nat) (p : Option Addr) (n cap : Nat) (f : Nat → Bool) : Prop := w ≤ 64 ∧ h ≤ 64 ∧ n = w * h ∧ Bs W p n cap f
theorem Rt.keep {W V : World} {w h : Nat} {p : Option Addr} {n cap : Nat} {f : Nat → Bool} (r : Rt W w h p n cap f) (hb : Below W.heap.size W V) : Rt V w h p n cap f := ⟨r.1, r.2.1, r.2.2.1, r.2.2.2.keep hb⟩
theorem BRow.bs {W : World} {q n : Nat} {f : Nat → Bool} (h : BRow W q n f) : Bs W (some ⟨q, 0, none⟩) n n f :=
  ⟨Nat.le_refl _, .inr ⟨q, 0, rfl, h.1, fun k hk => by rw [Nat.zero_add]; exact (h.2 k hk).1⟩⟩
/-- right truths in a box -/
def Tb (W : World) (b w h : Nat) (p : Option Addr) (n cap : Nat) (f : Nat → Bool) : Prop := OwnM W b w h p n cap ∧ Rt W w h p n cap f
theorem Tb.keep {W V : World} {b w h : Nat} {p : Option Addr} {n cap : Nat} {f : Nat → Bool} (r : Tb W b w h p n cap f) (hb : Below W.heap.size W V) : Tb V b w h p n cap f := ⟨r.1.keep hb, r.2.keep hb⟩
theorem Tb.new {V : World} {w h : Nat} {p : Option Addr} {n cap : Nat} {f : Nat → Bool} (r : Rt V w h p n cap f) : Tb (V.alloc (.cells #[.int .i64 w, .int .i64 h, .slice p n cap] 25)) V.heap.size w h p n cap f :=
  ⟨OwnM.new V w h p n cap 25, r.keep (bal (Below.refl _ _))⟩

theorem wE_zero (w h : Int) (n : Nat) (he : wE w h n = 0) : ∃ w' h' : Nat, w = w' ∧ h = h' ∧ w' ≤ 64 ∧ h' ≤ 64 ∧ n = w' * h' := by
  unfold wE at he
  split at he
  · rename_i s
    simp at s
    have b1 := (sd_iff w).1 s.1
    have b2 := (sd_iff h).1 s.2
    obtain ⟨w', rfl⟩ := Int.eq_ofNat_of_zero_le b1.1
    obtain ⟨h', rfl⟩ := Int.eq_ofNat_of_zero_le b2.1
    split at he
    · rename_i e
      exact ⟨w', h', rfl, rfl, by omega, by omega, by rw [← Int.natCast_mul] at e; exact Int.ofNat.inj e⟩
    · omega
  · omega

theorem turned_ok {W : World} {w h : Nat} {p : Option Addr} {n cap : Nat} {f : Nat → Bool} (r : Rt W w h p n cap f) :
    Calls Try.prog 30 #[tr w h p n cap] W fun e V => ∃ q, e = .returned (.tuple #[tr h w (some ⟨q, 0, none⟩) n n, .int .i64 0]) ∧ Rt V h w (some ⟨q, 0, none⟩) n n (tuF f w h) ∧ Below W.heap.size W V := by
  refine ((callsIn_wide (n := 9)).1 (turned_in w h p n cap f W r.1 r.2.1 r.2.2.1 r.2.2.2)).mono ?_
  rintro e V ⟨q, rfl, -, hR, hb⟩
  exact ⟨q, rfl, ⟨r.2.1, r.1, by rw [r.2.2.1, Nat.mul_comm], hR.bs⟩, hb⟩
theorem pE_pos (w h : Int) (n : Nat) (w2 h2 : Int) (n2 : Nat) (he : pE w h n w2 h2 n2 ≠ 0) : 1 ≤ pE w h n w2 h2 n2 := by
  unfold pE at *
  by_cases e1 : wE w h n = 0
  · rw [if_pos e1] at *
    by_cases e2 : wE w2 h2 n2 = 0
    · rw [if_pos e2] at *
      by_cases e3 : w = h2
      · rw [if_pos e3] at he; exact absurd rfl he
      · rw [if_neg e3]; omega
    · rw [if_neg e2]; exact wE_pos _ _ _ e2
  · rw [if_neg e1]; exact wE_pos _ _ _ e1

set_option maxHeartbeats 1000000 in
theorem same_any (w h : Int) (p : Option Addr) (n cap : Nat) (f : Nat → Bool) (p2 : Option Addr) (cap2 : Nat) (g : Nat → Bool) (W : World) (hn : n ≤ 4096) (h1 : Bs W p n cap f) (h2 : Bs W p2 n cap2 g) (he : ∀ j, j < n → f j = g j) :
    Calls Try.prog 8 #[tr w h p n cap, tr w h p2 n cap2] W fun e w' => e = .returned (.bool true) ∧ Below W.heap.size W w' := by
  have B0 := bal (o := .cells #[.int .i64 w, .int .i64 h, .slice p2 n cap2] 25) (bal (o := .cells #[.int .i64 w, .int .i64 h, .slice p n cap] 25) (Below.refl W.heap.size W))
  have R1 := hide (h1.keep B0)
  have R2 := hide (h2.keep B0)
  have C1 := (OwnM.new W w h p n cap 25).alloc (.cells #[.int .i64 w, .int .i64 h, .slice p2 n cap2] 25)
  have C2 := OwnM.new (W.alloc (.cells #[.int .i64 w, .int .i64 h, .slice p n cap] 25)) w h p2 n cap2 25
  rw [World.size_alloc] at C2
  have HB := hide B0
  have He := hide he
  have hww : (w != w) = false := by simp
  have hhh : (h != h) = false := by simp
  have hnn : ((n : Int) != (n : Int)) = false := by simp
  clear h1 h2 B0 he
  go_enter Try.func8, Try.ntmps8
  go_wp2
  generalize (W.alloc (.cells #[.int .i64 w, .int .i64 h, .slice p n cap] 25)).alloc (.cells #[.int .i64 w, .int .i64 h, .slice p2 n cap2] 25) = w0 at *
  go_loopw [30] (fun i wr => ∃ k : Nat, k ≤ n ∧ i = .int .i64 k ∧ Below w0.heap.size w0 wr) (fun i _ => n - (intOf i).toNat)
  case atStart => exact ⟨0, Nat.zero_le _, rfl, Below.refl _ _⟩
  case round =>
    obtain ⟨k, hk, rfl, hbel⟩ := hrel
    by_cases hlt : k < n
    · have c1 := (C1.keep hbel).2.2.2
      have c2 := (C2.keep hbel).2.2.2
      obtain ⟨b1, o1, rfl, l1, k1⟩ : ∃ b o, p = some ⟨b, o, none⟩ ∧ b < wr.heap.size ∧ ∀ k, k < n → wr.cell? ⟨b, o + k, none⟩ = some (.bool (f k)) := by
        rcases ((unhide R1).keep hbel).2 with h0 | h1
        · omega
        · exact h1
      obtain ⟨b2, o2, rfl, l2, k2⟩ : ∃ b o, p2 = some ⟨b, o, none⟩ ∧ b < wr.heap.size ∧ ∀ k, k < n → wr.cell? ⟨b, o + k, none⟩ = some (.bool (g k)) := by
        rcases ((unhide R2).keep hbel).2 with h0 | h1
        · omega
        · exact h1
      have x1 := k1 k hlt
      have x2 := k2 k hlt
      rw [← unhide He k hlt] at x2
      have q1 : (k : Int) < (n : Int) := by omega
      have q2 : (0 : Int) ≤ (k : Int) := by omega
      generalize f k = c at *
      clear k1 k2
      cases c
      all_goals
        go_wp2_with fail
        go_quiet (fail)
        go_wp2
        go_roundw
        case rel => exact ⟨k + 1, by omega, by go_num, btrans hbel (Joins.below_draws _ _ _)⟩
        case measure => simp [intOf]; omega
    · have e : k = n := by omega
      subst e
      have cl : ¬ ((k : Int) < (k : Int)) := by omega
      go_wp2
      go_ret
      exact ⟨rfl, btrans (unhide HB) hbel⟩

theorem same_ok {W : World} {w h : Nat} {p : Option Addr} {n cap : Nat} {f : Nat → Bool} {p2 : Option Addr} {cap2 : Nat} {g : Nat → Bool} (r : Rt W w h p n cap f) (r2 : Rt W w h p2 n cap2 g) (he : ∀ j, j < n → f j = g j) :
    Calls Try.prog 8 #[tr w h p n cap, tr w h p2 n cap2] W fun e w' => e = .returned (.bool true) ∧ Below W.heap.size W w' :=
  same_any w h p n cap f p2 cap2 g W (by rw [r.2.2.1]; exact Nat.mul_le_mul r.1 r.2.1) r.2.2.2 r2.2.2.2 he

theorem alive_num : (alS (fun _ => true) 1 (List.range 2)).2 1 = 0 := by decide
end Go.Proofs.Ytpefcpbkdofblaa
