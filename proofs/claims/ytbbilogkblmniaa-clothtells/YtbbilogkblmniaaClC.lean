/-
  Lift and Hangs.
-/
import Derived.Test.YtbbilogkblmniaaClB
namespace Go.Proofs.Ytbbilogkblmniaa
open Go.RowKit

/-- the numbers of a slice -/
def Nq (V : World) (q : Option Addr) (l : List Nat) : Prop := l = [] ∨ ∃ g, q = some ⟨g, 0, none⟩ ∧ Nr V g l
theorem Nq.keep {V V' : World} {q : Option Addr} {l : List Nat} (h : Nq V q l) (hb : Below V.heap.size V V') : Nq V' q l := by
  rcases h with h | ⟨g, e, h⟩
  · exact .inl h
  · exact .inr ⟨g, e, h.keep hb⟩
theorem Nq.is {V : World} {q : Option Addr} {l : List Nat} (h : Nq V q l) : Is V q l.length (fun k => ((l.getD k 0 : Nat) : Int)) := by
  rcases h with rfl | ⟨g, rfl, h⟩
  · exact .inl rfl
  · exact h.is

/-- Lift, either side: what is wrong -/
def LiftErr (F : Nat) (w h : Int) (p : Option Addr) (n cap : Nat) (W : World) (er : Int) : Prop := Calls Try.prog F #[tr w h p n cap] W fun e V => e = .returned (.tuple #[.slice none 0 0, .int .i64 er]) ∧ Below W.heap.size W V
/-- Lift, either side: what comes off -/
def LiftOk (F : Nat) (w h : Nat) (p : Option Addr) (n cap : Nat) (W : World) (L : List Nat) : Prop := Calls Try.prog F #[tr w h p n cap] W fun e V => ∃ q cp len, e = .returned (.tuple #[.slice q len cp, .int .i64 0]) ∧ len = L.length ∧ Nq V q L ∧ Below W.heap.size W V

set_option maxHeartbeats 1000000 in
theorem lift_err (w h : Int) (p : Option Addr) (n cap : Nat) (W : World) (er : Int) (he : cE w h n = er) (h0 : er ≠ 0) : LiftErr 7 w h p n cap W er := by
  unfold LiftErr
  have HW := hide (fun V => by have := cwrong_any w h p n cap V; rw [he] at this; exact this)
  have B0 := hide (bal (o := .cells #[.int .i64 w, .int .i64 h, .slice p n cap] 24) (Below.refl W.heap.size W))
  have hr' : (er != 0) = true := by simp [h0]
  clear he h0
  go_enter Try.func7, Try.ntmps7
  go_wp2_with fail
  refine (unhide HW _).mono ?_
  rintro e w1 ⟨rfl, hb⟩
  have HB := hide (btrans (unhide B0) hb)
  clear hb
  go_wp2
  exact bodyPost_ret (v := .tuple #[.slice none 0 0, .int .i64 er]) (by simp [results, Try.results7, go_sem]) rfl ⟨rfl, unhide HB⟩

theorem cE_ok {w h n : Nat} (hw : w ≤ 64) (hh : h ≤ 64) (hn : n = w * h) (h0 : 0 < n) : cE w h n = 0 := by
  have : wE w h n = 0 := by
    unfold wE
    have h1 : sd (w : Int) = true := (sd_iff _).2 ⟨by omega, by omega⟩
    have h2 : sd (h : Int) = true := (sd_iff _).2 ⟨by omega, by omega⟩
    rw [h1, h2, Bool.and_self, if_pos rfl, if_pos (by rw [hn]; exact Int.natCast_mul w h)]
  unfold cE
  rw [if_pos this, if_neg (by omega)]

set_option maxRecDepth 100000 in
set_option maxHeartbeats 4000000 in
theorem lift_ok {W : World} {w h : Nat} {p : Option Addr} {n cap : Nat} {f : Nat → Bool} (r : Rt W w h p n cap f) (h0 : 0 < n) : LiftOk 7 w h p n cap W (lfL f w h) := by
  unfold LiftOk
  have hw := r.1
  have hh := r.2.1
  have HW := hide (fun V => by have := cwrong_any w h p n cap V; rw [cE_ok r.1 r.2.1 r.2.2.1 h0] at this; exact this)
  have HT := hide (Tb.new r)
  have B0 := hide (bal (o := .cells #[.int .i64 w, .int .i64 h, .slice p n cap] 24) (Below.refl W.heap.size W))
  obtain ⟨N, hN⟩ : ∃ N : Nat, N = w + h := ⟨_, rfl⟩
  have e1 : (w : Int) + (h : Int) = (N : Int) := by omega
  have HN := hide hN
  have hN128 : N ≤ 128 := by omega
  have e2 : IntKind.i64.wrap (N : Int) = (N : Int) := by rw [IntKind.wrap_i64]; omega
  clear r h0 hN
  go_enter Try.func7, Try.ntmps7
  go_wp2_with fail
  refine (unhide HW _).mono ?_
  rintro e w1 ⟨rfl, hb⟩
  have HB := hide (btrans (unhide B0) hb)
  have HT1 := hide ((unhide HT).keep hb)
  have hz1 : W.heap.size < w1.heap.size := Nat.lt_of_lt_of_le (by simp) hb.size
  clear hb HT B0
  go_wp2_with fail
  have HX := hide (show ∀ V, Below w1.heap.size w1 V → Calls Try.prog 18 #[tr w h p n cap] V fun e V' => ∃ b1 b3 b4, e = .returned (.func (.func 31) #[] #[.pointer (some ⟨b3, 0, none⟩), .pointer (some ⟨b4, 0, none⟩)]) ∧ Cr V' b1 b3 b4 w h p n cap f ∧ Below V.heap.size V V' from fun V hV => crossings_any ((unhide HT1).2.keep hV))
  have Hld := hide (show ∀ V, Below w1.heap.size w1 V → (V.cell? ⟨W.heap.size, 0, none⟩ = some (.int .i64 w) ∧ V.cell? ⟨W.heap.size, 1, none⟩ = some (.int .i64 h) ∧ V.cell? ⟨W.heap.size, 2, none⟩ = some (.slice p n cap)) from fun V hV => ((unhide HT1).1.keep hV).2)
  clear HT1 HW
  have hb2 := True.intro
  go_region_held3 (fun V => Below w1.heap.size w1 V ∧ (V.cell? ⟨W.heap.size, 0, none⟩ = some (.int .i64 w) ∧ V.cell? ⟨W.heap.size, 1, none⟩ = some (.int .i64 h) ∧ V.cell? ⟨W.heap.size, 2, none⟩ = some (.slice p n cap)))
    (first
      | (exact ⟨Below.drew (Below.refl _ _), unhide Hld _ (Below.drew (Below.refl _ _))⟩)
      | (exact ⟨hb2, unhide Hld _ hb2⟩))
    (first
      | (go_at_call 18; refine (unhide HX _ (Below.drew (Below.refl _ _))).mono ?_; rintro e w10 ⟨b1, b3, b4, rfl, hcr, hb⟩; have hb2 := btrans (Below.drew (Below.refl _ _)) hb))
  have HC := hide hcr
  have Sf := hide (btrans (unhide HB) hb2)
  clear hcr hb hb2 Hld HX HB hz1
  go_wp2
  clear e1 e2
  go_loopw [22] (fun i wr => ∃ x : Nat, x ≤ N ∧ i = .int .i64 x ∧ (∀ j, j < x → ¬ (ovL f w h j).length < w + h) ∧ Cr wr b1 b3 b4 w h p n cap f ∧ Below W.heap.size W wr) (fun i _ => N - (intOf i).toNat)
  case atStart => exact ⟨0, Nat.zero_le _, rfl, fun j hj => by omega, unhide HC, unhide Sf⟩
  case round =>
    clear HC Sf
    obtain ⟨x, hx, rfl, hf, hc, hb⟩ := hrel
    have Hf := hide hf
    have Hc := hide hc
    have Hb := hide hb
    clear hf hc hb
    by_cases hlt : x < N
    · have q1 : (x : Int) < (N : Int) := by omega
      have HO := hide (over_any (unhide Hc) hw hh x N (unhide HN) hlt)
      go_wp2_with fail
      refine (unhide HO).mono ?_
      rintro e w2 ⟨q, cp, len, rfl, hl, hn, _, hb⟩
      have Hl := hide hl
      have Hn := hide hn
      have Hc2 := hide ((unhide Hc).keep hb)
      have Hb2 := hide (btrans (unhide Hb) hb)
      clear hl hn hb HO Hc Hb
      by_cases hln : len < N
      · have q2 : (len : Int) < (N : Int) := by omega
        have He := hide (show lfL f w h = ovL f w h x by
          have : lfO f w h = some x := find_step (by rw [← unhide HN]; exact hlt) (fun j hj => by simpa using unhide Hf j hj) (by rw [← unhide Hl, ← unhide HN]; simpa using hln)
          unfold lfL; rw [this])
        go_wp2
        exact bodyPost_ret (v := .tuple #[.slice (some ⟨q, 0, none⟩) len cp, .int .i64 0]) (by simp [results, Try.results7, go_sem]) rfl ⟨_, cp, len, rfl, by rw [unhide He]; exact unhide Hl, by rw [unhide He]; exact .inr ⟨q, rfl, unhide Hn⟩, unhide Hb2⟩
      · have q2 : ¬ ((len : Int) < (N : Int)) := by omega
        have Hf2 := hide (show ∀ j, j < x + 1 → ¬ (ovL f w h j).length < w + h from fun j hj => by
          by_cases e : j = x
          · subst e; rw [← unhide Hl, ← unhide HN]; exact hln
          · exact unhide Hf j (by omega))
        go_wp2
        go_roundw
        case rel => exact ⟨x + 1, by omega, by go_num, unhide Hf2, unhide Hc2, unhide Hb2⟩
        case measure => simp [intOf]; omega
    · obtain rfl : N = x := by omega
      have cl : ¬ ((N : Int) < (N : Int)) := by omega
      have He := hide (show lfL f w h = [] by
        have : lfO f w h = none := find_none (fun j hj => by simpa using unhide Hf j (by rw [unhide HN]; exact hj))
        unfold lfL; rw [this])
      go_wp2
      exact bodyPost_ret (v := .tuple #[.slice none 0 0, .int .i64 0]) (by simp [results, Try.results7, go_sem]) rfl ⟨_, 0, 0, rfl, by rw [unhide He]; rfl, by rw [unhide He]; exact .inl rfl, unhide Hb⟩

/-- whether a cloth hangs together -/
def hgB (f : Nat → Bool) (w h : Nat) : Bool := (lfL f w h).length == 0
/-- Hangs: what is wrong -/
def HangsIs (w h : Int) (p : Option Addr) (n cap : Nat) (W : World) (b : Bool) (er : Int) : Prop := Calls Try.prog 10 #[tr w h p n cap] W fun e V => e = .returned (.tuple #[.bool b, .int .i64 er]) ∧ Below W.heap.size W V
set_option maxHeartbeats 1000000 in
theorem hangs_err (w h : Int) (p : Option Addr) (n cap : Nat) (W : World) (er : Int) (he : cE w h n = er) (h0 : er ≠ 0) : HangsIs w h p n cap W false er := by
  unfold HangsIs
  have HW := hide (fun V => lift_err w h p n cap V er he h0)
  have B0 := hide (bal (o := .cells #[.int .i64 w, .int .i64 h, .slice p n cap] 24) (Below.refl W.heap.size W))
  have hr' : (er == 0) = false := by simp [h0]
  clear he h0
  go_enter Try.func10, Try.ntmps10
  go_wp2_with fail
  refine (unhide HW _).mono ?_
  rintro e w1 ⟨rfl, hb⟩
  have HB := hide (btrans (unhide B0) hb)
  clear hb
  go_wp2
  exact bodyPost_ret (v := .tuple #[.bool false, .int .i64 er]) (by simp [results, Try.results10, go_sem]) rfl ⟨rfl, unhide HB⟩
set_option maxHeartbeats 1000000 in
theorem hangs_ok {W : World} {w h : Nat} {p : Option Addr} {n cap : Nat} {f : Nat → Bool} (r : Rt W w h p n cap f) (h0 : 0 < n) : HangsIs w h p n cap W (hgB f w h) 0 := by
  unfold HangsIs hgB
  have HT := hide (Tb.new r)
  have HW := hide (lift_ok (unhide HT).2 h0)
  have B0 := hide (bal (o := .cells #[.int .i64 w, .int .i64 h, .slice p n cap] 24) (Below.refl W.heap.size W))
  generalize lfL f w h = L at *
  clear r h0 HT
  go_enter Try.func10, Try.ntmps10
  go_wp2_with fail
  refine (unhide HW).mono ?_
  rintro e w1 ⟨q, cp, len, rfl, hl, _, hb⟩
  have HB := hide (btrans (unhide B0) hb)
  have Hl := hide (show ((len : Int) == 0) = (L.length == 0) by rw [hl, Bool.eq_iff_iff]; simp)
  clear hb hl
  go_wp2
  exact bodyPost_ret (v := .tuple #[.bool ((len : Int) == 0), .int .i64 0]) (by simp [results, Try.results10, go_sem]) rfl ⟨by rw [unhide Hl], unhide HB⟩
end Go.Proofs.Ytbbilogkblmniaa
