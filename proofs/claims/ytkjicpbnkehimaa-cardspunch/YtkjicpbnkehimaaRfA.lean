/-
  The document's Bit and Rows of truths whose bits are more than their sides say; Check.
-/
import Derived.Test.YtkjicpbnkehimaaCdD
namespace Go.Proofs.Ytkjicpbnkehimaa
open Go.RowKit

/-- truths whose bits may be more, or less, than their sides say -/
def Rg (W : World) (w : Nat) (p : Option Addr) (n cap : Nat) (f : Nat → Bool) : Prop := w ≤ 64 ∧ n ≤ 4096 ∧ Bs W p n cap f
theorem Rg.keep {W V : World} {w : Nat} {p : Option Addr} {n cap : Nat} {f : Nat → Bool} (r : Rg W w p n cap f) (hb : Below W.heap.size W V) : Rg V w p n cap f := ⟨r.1, r.2.1, r.2.2.keep hb⟩
theorem Rg.of {W : World} {w h : Nat} {p : Option Addr} {n cap : Nat} {f : Nat → Bool} (r : Rt W w h p n cap f) : Rg W w p n cap f := ⟨r.1, by rw [r.2.2.1]; exact Nat.mul_le_mul r.1 r.2.1, r.2.2.2⟩
/-- such truths in a box -/
def Tg (W : World) (b w h : Nat) (p : Option Addr) (n cap : Nat) (f : Nat → Bool) : Prop := OwnM W b w h p n cap ∧ Rg W w p n cap f
theorem Tg.keep {W V : World} {b w h : Nat} {p : Option Addr} {n cap : Nat} {f : Nat → Bool} (r : Tg W b w h p n cap f) (hb : Below W.heap.size W V) : Tg V b w h p n cap f := ⟨r.1.keep hb, r.2.keep hb⟩
theorem Tg.new {V : World} {w h : Nat} {p : Option Addr} {n cap : Nat} {f : Nat → Bool} (r : Rg V w p n cap f) : Tg (V.alloc (.cells #[.int .i64 w, .int .i64 h, .slice p n cap] 24)) V.heap.size w h p n cap f :=
  ⟨OwnM.new V w h p n cap 24, r.keep (bal (Below.refl _ _))⟩

set_option maxHeartbeats 1000000 in
theorem bit_g {W : World} {w h : Nat} {p : Option Addr} {n cap : Nat} {f : Nat → Bool} (r : Rg W w p n cap f) (y x : Nat) (hy : (y + 1) * w ≤ n) (hx : x < w) :
    Calls Try.prog 36 #[tr w h p n cap, .int .i64 y, .int .i64 x] W fun e w' => e = .returned (.bool (f (y * w + x))) ∧ Below W.heap.size W w' := by
  have hw := r.1
  have hk : y * w + x < n := by rw [mul_step] at hy; omega
  have r' := r.2.2.keep (bal (o := .cells #[.int .i64 w, .int .i64 h, .slice p n cap] 24) (Below.refl W.heap.size W))
  obtain ⟨b, o, rfl, hb, hc⟩ := bs_at r' hk
  have hn4 : n ≤ 4096 := r.2.1
  obtain ⟨yw, hyw⟩ : ∃ yw : Nat, yw = y * w := ⟨_, rfl⟩
  rw [← hyw] at hk hc ⊢
  have e3 : wrap64 ((y : Int) * (w : Int)) = (yw : Int) := by
    rw [hyw, ← Int.natCast_mul]
    exact Go.IntWalk.wrap64_in _ (by omega)
  obtain ⟨k, hk2⟩ : ∃ k : Nat, k = yw + x := ⟨_, rfl⟩
  rw [← hk2] at hk hc ⊢
  have e4 : (yw : Int) + (x : Int) = (k : Int) := by omega
  have hkn : (k : Int) < (n : Int) := by omega
  have hk0 : (0 : Int) ≤ (k : Int) := by omega
  have q1 : (yw : Int) ≤ 4096 := by omega
  have q2 : (0 : Int) ≤ (yw : Int) := by omega
  have q3 : (x : Int) ≤ 64 := by omega
  clear r r' hyw hk2 hy
  go_enter Try.func36, Try.ntmps36
  go_wp2
  go_ret
  exact ⟨rfl, bal (Below.refl _ _)⟩

set_option maxRecDepth 100000 in
set_option maxHeartbeats 2000000 in
theorem rows_g {W : World} {w h : Nat} {p : Option Addr} {n cap : Nat} {f : Nat → Bool} (r : Rg W w p n cap f) (y z : Nat) (hy : (y + 1) * w ≤ n) (hz : (z + 1) * w ≤ n) :
    Calls Try.prog 22 #[tr w h p n cap, .int .i64 y, .int .i64 z] W fun e w' => e = .returned (.bool (rwE f w y z)) ∧ Below W.heap.size W w' := by
  have hw := r.1
  have HyH := hide hy
  have HzH := hide hz
  have T0 := hide (Tg.new (h := h) r)
  have B0 := hide (bal (o := .cells #[.int .i64 w, .int .i64 h, .slice p n cap] 24) (Below.refl W.heap.size W))
  clear r hy hz
  go_enter Try.func22, Try.ntmps22
  go_wp2
  generalize W.alloc (.cells #[.int .i64 w, .int .i64 h, .slice p n cap] 24) = w0 at *
  go_loopw [7] (fun c wr => ∃ x : Nat, x ≤ w ∧ c = .int .i64 x ∧ eqN (fun x => f (y * w + x)) (fun x => f (z * w + x)) x = true ∧ Below w0.heap.size w0 wr) (fun c _ => w - (intOf c).toNat)
  case atStart => exact ⟨0, Nat.zero_le _, rfl, rfl, Below.refl _ _⟩
  case round =>
    obtain ⟨x, hx, rfl, he, hb⟩ := hrel
    have He := hide he
    have m1 := ((unhide T0).1.keep hb).2
    clear he
    by_cases hlt : x < w
    · have q1 : (x : Int) < (w : Int) := by omega
      have Hby := hide (show ∀ V, Below wr.heap.size wr V → Calls Try.prog 36 #[tr w h p n cap, .int .i64 y, .int .i64 x] V fun e w' => e = .returned (.bool (f (y * w + x))) ∧ Below V.heap.size V w' from fun V hV => bit_g ((unhide T0).2.keep (btrans hb hV)) y x (unhide HyH) hlt)
      have Hbz := hide (show ∀ V, Below wr.heap.size wr V → Calls Try.prog 36 #[tr w h p n cap, .int .i64 z, .int .i64 x] V fun e w' => e = .returned (.bool (f (z * w + x))) ∧ Below V.heap.size V w' from fun V hV => bit_g ((unhide T0).2.keep (btrans hb hV)) z x (unhide HzH) hlt)
      have Hld := hide (show ∀ V, Below wr.heap.size wr V → V.cell? ⟨W.heap.size, 0, none⟩ = some (.int .i64 w) ∧ V.cell? ⟨W.heap.size, 1, none⟩ = some (.int .i64 h) ∧ V.cell? ⟨W.heap.size, 2, none⟩ = some (.slice p n cap) from fun V hV => ((unhide T0).1.keep (btrans hb hV)).2)
      have Hs := hide (show eqN (fun x => f (y * w + x)) (fun x => f (z * w + x)) (x + 1) = (f (y * w + x) == f (z * w + x)) by rw [eqN_succ, unhide He]; simp)
      have Hf := hide (show (f (y * w + x) == f (z * w + x)) = false → rwE f w y z = false from fun e => eqN_false _ _ w x hlt e)
      generalize f (y * w + x) = a at *
      generalize f (z * w + x) = c at *
      have Hb := hide hb
      have Hlt := hide hlt
      clear hb hlt
      go_wp2_with fail
      clear m1
      have hb2 := True.intro
      have hb3 := True.intro
      go_region_held3 (fun V => Below wr.heap.size wr V ∧ V.cell? ⟨W.heap.size, 0, none⟩ = some (.int .i64 w) ∧ V.cell? ⟨W.heap.size, 1, none⟩ = some (.int .i64 h) ∧ V.cell? ⟨W.heap.size, 2, none⟩ = some (.slice p n cap))
        (first
          | (exact ⟨Below.drew (Below.refl _ _), unhide Hld _ (Below.drew (Below.refl _ _))⟩)
          | (exact ⟨hb3, unhide Hld _ hb3⟩)
          | (exact ⟨hb2, unhide Hld _ hb2⟩))
        (first
          | (go_at_call_of 36 (Value.int .i64 (y : Int)); refine (unhide Hby _ (by first | exact hb2 | exact Below.drew (Below.refl _ _))).mono ?_; rintro e w10 ⟨rfl, hb⟩; have hb3 := btrans (by first | exact hb2 | exact Below.drew (Below.refl _ _)) hb)
          | (go_at_call_of 36 (Value.int .i64 (z : Int)); refine (unhide Hbz _ (by first | exact hb3 | exact Below.drew (Below.refl _ _))).mono ?_; rintro e w11 ⟨rfl, hb⟩; have hb2 := btrans (by first | exact hb3 | exact Below.drew (Below.refl _ _)) hb))
      have S5 := hide (btrans (unhide Hb) hb2)
      have hlt := unhide Hlt
      clear hb hb2 hb3 Hby Hbz Hld
      have eq1 : ∀ a : Bool, (a == a) = true := fun a => by cases a <;> rfl
      have go1 : a = c → eqN (fun x => f (y * w + x)) (fun x => f (z * w + x)) (x + 1) = true := fun e => by rw [unhide Hs, e]; exact eq1 c
      have Hgo := hide go1
      clear go1 eq1 Hs
      cases a <;> cases c
      · go_wp2
        go_roundw
        case rel => exact ⟨x + 1, by omega, by go_num, unhide Hgo rfl, unhide S5⟩
        case measure => simp [intOf]; omega
      · have Sf := hide (btrans (unhide B0) (unhide S5))
        go_wp2
        go_ret
        exact ⟨ret_bool (unhide Hf rfl).symm, unhide Sf⟩
      · have Sf := hide (btrans (unhide B0) (unhide S5))
        go_wp2
        go_ret
        exact ⟨ret_bool (unhide Hf rfl).symm, unhide Sf⟩
      · go_wp2
        go_roundw
        case rel => exact ⟨x + 1, by omega, by go_num, unhide Hgo rfl, unhide S5⟩
        case measure => simp [intOf]; omega
    · obtain rfl : x = w := by omega
      have cl : ¬ ((x : Int) < (x : Int)) := by omega
      have Sf := hide (btrans (unhide B0) hb)
      go_wp2
      go_ret
      exact ⟨ret_bool (unhide He).symm, unhide Sf⟩


/-- bytes that lie in a slice -/
def Ys (W : World) (q : Option Addr) (n : Nat) (l : List UInt8) : Prop := n = l.length ∧ (n = 0 ∨ ∃ b, q = some ⟨b, 0, none⟩ ∧ b < W.heap.size ∧ ∀ j, j < n → W.cell? ⟨b, j, none⟩ = some (.int .u8 ((bya l j : Nat) : Int)))
theorem Ys.keep {W V : World} {q : Option Addr} {n : Nat} {l : List UInt8} (h : Ys W q n l) (hb : Below W.heap.size W V) : Ys V q n l := by
  refine ⟨h.1, ?_⟩
  rcases h.2 with h0 | ⟨b, e, hl, hc⟩
  · exact .inl h0
  · exact .inr ⟨b, e, Nat.lt_of_lt_of_le hl hb.size, fun j hj => keepC hb hl (hc j hj)⟩
theorem su_take (l : List UInt8) (k : Nat) (h : k < l.length) : su (l.take (k + 1)) = su (l.take k) + bya l k := by
  rw [List.take_succ_eq_append_getElem h, su_append]
  unfold bya
  rw [List.getD_eq_getElem?_getD, List.getElem?_eq_getElem h]; simp [su]
set_option maxHeartbeats 1000000 in
theorem rcheck_any (q : Option Addr) (n c : Nat) (l : List UInt8) (W : World) (hn : n ≤ 1000000) (hq : Ys W q n l) :
    Calls Try.prog 24 #[.slice q n c] W fun e w' => e = .returned (.int .u8 ((bl l : Nat) : Int)) ∧ w' = W := by
  have Hq := hide hq
  have Hn := hide hq.1
  clear hq
  go_enter Try.func24, Try.ntmps24
  go_wp2
  go_loop [3, 8] (fun c i => ∃ k m : Nat, k ≤ n ∧ i = .int .i64 k ∧ c = .int .i64 m ∧ m = su (l.take k) ∧ m ≤ 255 * k) (fun _ i => n - (intOf i).toNat)
  case atStart => exact ⟨0, 0, Nat.zero_le _, rfl, rfl, by simp [su], by omega⟩
  case round =>
    obtain ⟨k, m, hk, rfl, rfl, hm, hmb⟩ := hrel
    have Hm := hide hm
    have m2 : (m : Int) ≤ 255000000 := by omega
    have m3 : (0 : Int) ≤ (m : Int) := by omega
    clear hm
    by_cases hlt : k < n
    · have q1 : (k : Int) < (n : Int) := by omega
      have q2 : (0 : Int) ≤ (k : Int) := by omega
      obtain ⟨b, rfl, hl, hc⟩ : ∃ b, q = some ⟨b, 0, none⟩ ∧ b < W.heap.size ∧ ∀ j, j < n → W.cell? ⟨b, j, none⟩ = some (.int .u8 ((bya l j : Nat) : Int)) := by
        rcases (unhide Hq).2 with h0 | h1
        · omega
        · exact h1
      have d1 := hc k hlt
      have hb := bya_lt l k
      have Hs := hide (su_take l k (by rw [← unhide Hn]; exact hlt))
      clear hc
      generalize bya l k = x at *
      have q3 : (x : Int) ≤ 255 := by omega
      go_wp2
      go_round
      case rel => exact ⟨k + 1, m + x, by omega, by go_num, by go_num, by rw [unhide Hs, unhide Hm], by omega⟩
      case measure => simp [intOf]; omega
    · obtain rfl : k = n := by omega
      have cl : ¬ ((k : Int) < (k : Int)) := by omega
      have Hz := hide (show l.take k = l from List.take_of_length_le (by rw [← unhide Hn]; exact Nat.le_refl _))
      have Hb := hide (show (256 - m % 256) % 256 = bl l by unfold bl; rw [unhide Hm, unhide Hz])
      clear hmb
      go_wp2
      go_ret
      exact ⟨ret_u8 (by rw [← unhide Hb]; omega), rfl⟩
end Go.Proofs.Ytkjicpbnkehimaa
