/-
  The reference: whether two charts, two lists of numbers, two threads are alike.
-/
import Derived.Test.YtbmgjoocpbikkaaSt
namespace Go.Proofs.Ytbmgjoocpbikkaa
open Go.RowKit

set_option maxHeartbeats 4000000 in
theorem samec_any (g w h : Int) (q : Option Addr) (n cap : Nat) (q' : Option Addr) (cap' : Nat) (px px' : Nat → Int) (W : World) (hn : n ≤ 4096) (h1 : T.Is W q n px) (h2 : T.Is W q' n px') (he : ∀ j, j < n → px j = px' j) :
    Calls Try.prog 8 #[Ch.ch g w h q n cap, Ch.ch g w h q' n cap'] W fun e w' => e = .returned (.bool true) ∧ Below W.heap.size W w' := by
  have B0 := bal (o := .cells #[.int .i64 g, .int .i64 w, .int .i64 h, .slice q' n cap'] 29) (bal (o := .cells #[.int .i64 g, .int .i64 w, .int .i64 h, .slice q n cap] 29) (Below.refl W.heap.size W))
  have R1 := hide (h1.keep B0)
  have R2 := hide (h2.keep B0)
  have C1 := hide ((OwnC.new W g w h q n cap 29).keep (bnew _ (.cells #[.int .i64 g, .int .i64 w, .int .i64 h, .slice q' n cap'] 29)))
  have hC2 := OwnC.new (W.alloc (.cells #[.int .i64 g, .int .i64 w, .int .i64 h, .slice q n cap] 29)) g w h q' n cap' 29
  rw [World.size_alloc] at hC2
  have C2 := hide hC2
  have HB := hide B0
  have He := hide he
  have hgg : (g != g) = false := by simp
  have hww : (w != w) = false := by simp
  have hhh : (h != h) = false := by simp
  have hnn : ((n : Int) != (n : Int)) = false := by simp
  clear h1 h2 B0 he hC2
  obtain ⟨_, o0, o1, o2, o3⟩ := unhide C1
  obtain ⟨_, u0, u1, u2, u3⟩ := unhide C2
  go_enter Try.func8, Try.ntmps8
  go_wp2
  clear o0 o1 o2 o3 u0 u1 u2 u3
  generalize (W.alloc (.cells #[.int .i64 g, .int .i64 w, .int .i64 h, .slice q n cap] 29)).alloc (.cells #[.int .i64 g, .int .i64 w, .int .i64 h, .slice q' n cap'] 29) = w0 at *
  go_loopw [37] (fun i wr => ∃ k : Nat, k ≤ n ∧ i = .int .i64 k ∧ Below w0.heap.size w0 wr) (fun i _ => n - (intOf i).toNat)
  case atStart => exact ⟨0, Nat.zero_le _, rfl, Below.refl _ _⟩
  case round =>
    obtain ⟨k, hk, rfl, hbel⟩ := hrel
    by_cases hlt : k < n
    · have c1 := ((unhide C1).keep hbel).2.2.2.2
      have c2 := ((unhide C2).keep hbel).2.2.2.2
      obtain ⟨b1, i1, rfl, _, x1⟩ := ((unhide R1).keep hbel).at hlt
      obtain ⟨b2, i2, rfl, _, x2⟩ := ((unhide R2).keep hbel).at hlt
      rw [← unhide He k hlt] at x2
      have q1 : (k : Int) < (n : Int) := by omega
      have q2 : (0 : Int) ≤ (k : Int) := by omega
      generalize px k = c at *
      go_wp2_with fail
      go_quiet (fail)
      go_wp2
      go_roundw
      case rel => exact ⟨k + 1, by omega, by go_num, btrans hbel (Joins.below_draws _ _ _)⟩
      case measure => simp [intOf]; omega
    · have e : k = n := by omega
      subst e
      have cl : ¬ ((k : Int) < (k : Int)) := by omega
      go_wp2
      go_ret
      exact ⟨rfl, btrans (unhide HB) hbel⟩

set_option maxHeartbeats 2000000 in
theorem samen_any (q : Option Addr) (n cap : Nat) (q' : Option Addr) (cap' : Nat) (f f' : Nat → Int) (W : World) (hn : n ≤ 4096) (h1 : T.Is W q n f) (h2 : T.Is W q' n f') (he : ∀ j, j < n → f j = f' j) :
    Calls Try.prog 28 #[.slice q n cap, .slice q' n cap'] W fun e w' => e = .returned (.bool true) ∧ Below W.heap.size W w' := by
  have R1 := hide h1
  have R2 := hide h2
  have He := hide he
  have hnn : ((n : Int) != (n : Int)) = false := by simp
  clear h1 h2 he
  go_enter Try.func28, Try.ntmps28
  go_wp2
  go_loopw [13] (fun i wr => ∃ k : Nat, k ≤ n ∧ i = .int .i64 k ∧ Below W.heap.size W wr) (fun i _ => n - (intOf i).toNat)
  case atStart => exact ⟨0, Nat.zero_le _, rfl, Below.refl _ _⟩
  case round =>
    obtain ⟨k, hk, rfl, hbel⟩ := hrel
    by_cases hlt : k < n
    · obtain ⟨b1, i1, rfl, _, x1⟩ := ((unhide R1).keep hbel).at hlt
      obtain ⟨b2, i2, rfl, _, x2⟩ := ((unhide R2).keep hbel).at hlt
      rw [← unhide He k hlt] at x2
      have q1 : (k : Int) < (n : Int) := by omega
      have q2 : (0 : Int) ≤ (k : Int) := by omega
      generalize f k = c at *
      go_wp2_with fail
      go_quiet (fail)
      go_wp2
      go_roundw
      case rel => exact ⟨k + 1, by omega, by go_num, btrans hbel (Joins.below_draws _ _ _)⟩
      case measure => simp [intOf]; omega
    · have e : k = n := by omega
      subst e
      have cl : ¬ ((k : Int) < (k : Int)) := by omega
      go_wp2
      go_ret
      exact ⟨rfl, hbel⟩

set_option maxHeartbeats 2000000 in
theorem sames_any (p : Option Addr) (n c : Nat) (q : Option Addr) (m d : Nat) (p' : Option Addr) (c' : Nat) (q' : Option Addr) (d' : Nat) (f f' g g' : Nat → Int) (W : World) (hn : n ≤ 4096) (hm : m ≤ 4096) (h1 : T.Is W p n f) (h2 : T.Is W p' n f') (h3 : T.Is W q m g) (h4 : T.Is W q' m g') (he : ∀ j, j < n → f j = f' j) (he2 : ∀ j, j < m → g j = g' j) :
    Calls Try.prog 11 #[sg p n c q m d, sg p' n c' q' m d'] W fun e w' => e = .returned (.bool true) ∧ Below W.heap.size W w' := by
  have B0 := hide (bal (o := .cells #[.slice p' n c', .slice q' m d'] 24) (bnew W (.cells #[.slice p n c, .slice q m d] 24)))
  have C1 := hide ((OwnS.new W p n c q m d 24).keep (bnew _ (.cells #[.slice p' n c', .slice q' m d'] 24)))
  have hC2 := OwnS.new (W.alloc (.cells #[.slice p n c, .slice q m d] 24)) p' n c' q' m d' 24
  rw [World.size_alloc] at hC2
  have C2 := hide hC2
  have HA := hide (samen_any p n c p' c' f f' _ hn (h1.keep (unhide B0)) (h2.keep (unhide B0)) he)
  have HC := hide (fun V (hV : Below W.heap.size W V) => samen_any q m d q' d' g g' V hm (h3.keep hV) (h4.keep hV) he2)
  clear h1 h2 h3 h4 he he2 hC2
  obtain ⟨_, o0, o1⟩ := unhide C1
  obtain ⟨_, u0, u1⟩ := unhide C2
  go_enter Try.func11, Try.ntmps11
  go_wp2_with (first
    | (go_at_call_of 28 (Value.slice p n c); refine (unhide HA).mono ?_; rintro e w1 ⟨rfl, hb1⟩; clear o0 o1 u0 u1; obtain ⟨_, o0, o1⟩ := (unhide C1).keep hb1; obtain ⟨_, u0, u1⟩ := (unhide C2).keep hb1)
    | (go_at_call_of 28 (Value.slice q m d); refine (unhide HC _ (btrans (unhide B0) hb1)).mono ?_; rintro e w2 ⟨rfl, hb2⟩))
  go_ret
  exact ⟨rfl, btrans (btrans (unhide B0) hb1) hb2⟩
end Go.Proofs.Ytbmgjoocpbikkaa
