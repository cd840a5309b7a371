/-
  The reference: Even.
-/
import Derived.Test.YtpefcpbkdofblaaTrA
namespace Go.Proofs.Ytpefcpbkdofblaa
open Go.RowKit Go.Shelf

set_option maxHeartbeats 1000000 in
theorem reven_err (w h : Int) (p : Option Addr) (n cap : Nat) (W : World) (er : Int) (he : wE w h n = er) (hp : 1 ≤ er) : EvenIs 15 w h p n cap W false er := by
  unfold EvenIs
  have HW := hide (fun V => rwrong_any w h p n cap V)
  rw [he] at HW
  have hp' : (er != 0) = true := by simp; omega
  have B0 := hide (bal (o := .cells #[.int .i64 w, .int .i64 h, .slice p n cap] 25) (Below.refl W.heap.size W))
  clear he
  go_enter Try.func15, Try.ntmps15
  go_wp2_with fail
  refine (unhide HW _).mono ?_
  rintro r w1 ⟨rfl, hb⟩
  have S := hide (btrans (unhide B0) hb)
  clear hb B0 HW
  go_wp2
  exact bodyPost_ret (v := .tuple #[.bool false, .int .i64 er]) (by simp [results, Try.results15, go_sem]) rfl ⟨rfl, unhide S⟩

set_option maxRecDepth 100000 in
set_option maxHeartbeats 4000000 in
theorem reven_ok {W : World} {w h : Nat} {p : Option Addr} {n cap : Nat} {f : Nat → Bool} (r : Rt W w h p n cap f) : EvenIs 15 w h p n cap W (evB f w h) 0 := by
  unfold EvenIs
  have hw := r.1
  have hh := r.2.1
  have HW := hide (fun W => rwrong_any w h p n cap W)
  rw [wE_right w h n hw hh r.2.2.1] at HW
  have B0 := hide (bal (o := .cells #[.int .i64 w, .int .i64 h, .slice p n cap] 25) (Below.refl W.heap.size W))
  have T0 := hide (Tb.new r)
  have Hev := hide (show evB f w h = (smB (fun y => inN f w false y n) h && smB (fun x => inN f w true x n) w) by rw [r.2.2.1]; exact evB_sm f w h)
  clear r
  go_enter Try.func15, Try.ntmps15
  go_wp2_with fail
  generalize W.alloc (.cells #[.int .i64 w, .int .i64 h, .slice p n cap] 25) = w0 at *
  refine (unhide HW _).mono ?_
  rintro e w1 ⟨rfl, hb⟩
  have SX := hide (btrans (unhide B0) hb)
  have TX := hide ((unhide T0).keep hb)
  clear hb B0 T0 HW
  go_wp2
  go_loopw [5] (fun i wr => ∃ y : Nat, 1 ≤ y ∧ (y ≤ h ∨ y = 1) ∧ i = .int .i64 y ∧ (∀ j, j < y → j < h → (fun y => inN f w false y n) j = (fun y => inN f w false y n) 0) ∧ Below W.heap.size W wr ∧ Tb wr W.heap.size w h p n cap f) (fun i _ => h + 1 - (intOf i).toNat)
  case atStart => exact ⟨1, Nat.le_refl _, .inr rfl, rfl, fun j hj _ => by rw [show j = 0 by omega], unhide SX, unhide TX⟩
  case round =>
    clear SX TX
    obtain ⟨y, hy1, hyl, rfl, ha, hb, hT⟩ := hrel
    have Ha := hide ha
    have SX := hide hb
    have TX := hide hT
    have m0 := hT.1.2
    clear ha
    by_cases hlt : y < h
    · have q0 : (y : Int) < (h : Int) := by omega
      have HC := hide (fun V (hV : Below wr.heap.size wr V) => in_ok (hT.2.keep hV) y false)
      have HC0 := hide (fun V (hV : Below wr.heap.size wr V) => in_ok (hT.2.keep hV) 0 false)
      have Hld := hide (show ∀ V, Below wr.heap.size wr V → V.cell? ⟨W.heap.size, 0, none⟩ = some (.int .i64 w) ∧ V.cell? ⟨W.heap.size, 1, none⟩ = some (.int .i64 h) ∧ V.cell? ⟨W.heap.size, 2, none⟩ = some (.slice p n cap) from fun V hV => (hT.1.keep hV).2)
      have Hy := hide (show (fun y => inN f w false y n) y = (fun y => inN f w false y n) 0 → ∀ j, j < y + 1 → j < h → (fun y => inN f w false y n) j = (fun y => inN f w false y n) 0 from fun e j hj hl => by
        by_cases c : j = y
        · subst c; exact e
        · exact unhide Ha j (by omega) hl)
      have Hz := hide (show ¬ (fun y => inN f w false y n) y = (fun y => inN f w false y n) 0 → evB f w h = false from fun e => by rw [unhide Hev, smB_no (fun y => inN f w false y n) h y hlt e]; simp)
      obtain ⟨a1, ha1⟩ : ∃ a1, a1 = inN f w false y n := ⟨_, rfl⟩
      obtain ⟨a0, ha0⟩ : ∃ a0, a0 = inN f w false 0 n := ⟨_, rfl⟩
      have Hz2 := hide (show ¬ a1 = a0 → evB f w h = false by rw [ha1, ha0]; exact unhide Hz)
      have Hy2 := hide (show a1 = a0 → ∀ j, j < y + 1 → j < h → (fun y => inN f w false y n) j = (fun y => inN f w false y n) 0 by rw [ha1, ha0]; exact unhide Hy)
      rw [← ha1] at HC
      rw [show ((0 : Nat) : Int) = 0 from rfl, ← ha0] at HC0
      clear ha1 ha0 hb hT Hz Hy
      go_wp2_with fail
      clear m0
      have hb2 := True.intro
      have hb3 := True.intro
      go_region_held3 (fun V => Below wr.heap.size wr V ∧ V.cell? ⟨W.heap.size, 0, none⟩ = some (.int .i64 w) ∧ V.cell? ⟨W.heap.size, 1, none⟩ = some (.int .i64 h) ∧ V.cell? ⟨W.heap.size, 2, none⟩ = some (.slice p n cap))
        (first
          | (exact ⟨Below.drew (Below.refl _ _), unhide Hld _ (Below.drew (Below.refl _ _))⟩)
          | (exact ⟨hb3, unhide Hld _ hb3⟩)
          | (exact ⟨hb2, unhide Hld _ hb2⟩))
        (first
          | (go_at_call_of 29 (Value.int .i64 (y : Int)); refine (unhide HC _ (by first | exact hb2 | exact Below.drew (Below.refl _ _))).mono ?_; rintro e w10 ⟨rfl, hb⟩; have hb3 := btrans (by first | exact hb2 | exact Below.drew (Below.refl _ _)) hb)
          | (go_at_call_of 29 (Value.int .i64 0); refine (unhide HC0 _ (by first | exact hb3 | exact Below.drew (Below.refl _ _))).mono ?_; rintro e w11 ⟨rfl, hb⟩; have hb2 := btrans (by first | exact hb3 | exact Below.drew (Below.refl _ _)) hb))
      have S6 := hide (btrans (unhide SX) hb2)
      have T6 := hide ((unhide TX).keep hb2)
      clear hb hb2 hb3 Hld HC HC0 SX TX
      by_cases hv : a1 = a0
      · have hv' : ((a1 : Int) != (a0 : Int)) = false := by simp [hv]
        have Hyy := hide (unhide Hy2 hv)
        clear hv Hy2 Hz2
        go_wp2
        go_roundw
        case rel => exact ⟨y + 1, by omega, .inl (by omega), by go_num, unhide Hyy, unhide S6, unhide T6⟩
        case measure => simp [intOf]; omega
      · have hv' : ((a1 : Int) != (a0 : Int)) = true := by simp; omega
        have Hzz := hide (unhide Hz2 hv)
        clear hv Hy2 Hz2
        go_wp2
        exact bodyPost_ret (v := .tuple #[.bool false, .int .i64 0]) (by simp [results, Try.results15, go_sem]) rfl ⟨by rw [unhide Hzz], unhide S6⟩
    · have cl : ¬ ((y : Int) < (h : Int)) := by omega
      have Hd1 := hide (smB_yes (fun y => inN f w false y n) h (fun j hj => unhide Ha j (by omega) hj))
      clear hb hT Ha
      go_wp2
      clear m0
      go_loopw [6] (fun i wr => ∃ y : Nat, 1 ≤ y ∧ (y ≤ w ∨ y = 1) ∧ i = .int .i64 y ∧ (∀ j, j < y → j < w → (fun x => inN f w true x n) j = (fun x => inN f w true x n) 0) ∧ Below W.heap.size W wr ∧ Tb wr W.heap.size w h p n cap f) (fun i _ => w + 1 - (intOf i).toNat)
      case atStart => exact ⟨1, Nat.le_refl _, .inr rfl, rfl, fun j hj _ => by rw [show j = 0 by omega], unhide SX, unhide TX⟩
      case round =>
        clear SX TX
        obtain ⟨y, hy1, hyl, rfl, ha, hb, hT⟩ := hrel
        have Ha := hide ha
        have SX := hide hb
        have TX := hide hT
        have m0 := hT.1.2
        clear ha
        by_cases hlt : y < w
        · have q0 : (y : Int) < (w : Int) := by omega
          have HC := hide (fun V (hV : Below wr.heap.size wr V) => in_ok (hT.2.keep hV) y true)
          have HC0 := hide (fun V (hV : Below wr.heap.size wr V) => in_ok (hT.2.keep hV) 0 true)
          have Hld := hide (show ∀ V, Below wr.heap.size wr V → V.cell? ⟨W.heap.size, 0, none⟩ = some (.int .i64 w) ∧ V.cell? ⟨W.heap.size, 1, none⟩ = some (.int .i64 h) ∧ V.cell? ⟨W.heap.size, 2, none⟩ = some (.slice p n cap) from fun V hV => (hT.1.keep hV).2)
          have Hy := hide (show (fun x => inN f w true x n) y = (fun x => inN f w true x n) 0 → ∀ j, j < y + 1 → j < w → (fun x => inN f w true x n) j = (fun x => inN f w true x n) 0 from fun e j hj hl => by
            by_cases c : j = y
            · subst c; exact e
            · exact unhide Ha j (by omega) hl)
          have Hz := hide (show ¬ (fun x => inN f w true x n) y = (fun x => inN f w true x n) 0 → evB f w h = false from fun e => by rw [unhide Hev, smB_no (fun x => inN f w true x n) w y hlt e]; simp)
          obtain ⟨a1, ha1⟩ : ∃ a1, a1 = inN f w true y n := ⟨_, rfl⟩
          obtain ⟨a0, ha0⟩ : ∃ a0, a0 = inN f w true 0 n := ⟨_, rfl⟩
          have Hz2 := hide (show ¬ a1 = a0 → evB f w h = false by rw [ha1, ha0]; exact unhide Hz)
          have Hy2 := hide (show a1 = a0 → ∀ j, j < y + 1 → j < w → (fun x => inN f w true x n) j = (fun x => inN f w true x n) 0 by rw [ha1, ha0]; exact unhide Hy)
          rw [← ha1] at HC
          rw [show ((0 : Nat) : Int) = 0 from rfl, ← ha0] at HC0
          clear ha1 ha0 hb hT Hz Hy
          go_wp2_with fail
          clear m0
          have hb2 := True.intro
          have hb3 := True.intro
          go_region_held3 (fun V => Below wr.heap.size wr V ∧ V.cell? ⟨W.heap.size, 0, none⟩ = some (.int .i64 w) ∧ V.cell? ⟨W.heap.size, 1, none⟩ = some (.int .i64 h) ∧ V.cell? ⟨W.heap.size, 2, none⟩ = some (.slice p n cap))
            (first
              | (exact ⟨Below.drew (Below.refl _ _), unhide Hld _ (Below.drew (Below.refl _ _))⟩)
              | (exact ⟨hb3, unhide Hld _ hb3⟩)
              | (exact ⟨hb2, unhide Hld _ hb2⟩))
            (first
              | (go_at_call_of 29 (Value.int .i64 (y : Int)); refine (unhide HC _ (by first | exact hb2 | exact Below.drew (Below.refl _ _))).mono ?_; rintro e w10 ⟨rfl, hb⟩; have hb3 := btrans (by first | exact hb2 | exact Below.drew (Below.refl _ _)) hb)
              | (go_at_call_of 29 (Value.int .i64 0); refine (unhide HC0 _ (by first | exact hb3 | exact Below.drew (Below.refl _ _))).mono ?_; rintro e w11 ⟨rfl, hb⟩; have hb2 := btrans (by first | exact hb3 | exact Below.drew (Below.refl _ _)) hb))
          have S6 := hide (btrans (unhide SX) hb2)
          have T6 := hide ((unhide TX).keep hb2)
          clear hb hb2 hb3 Hld HC HC0 SX TX
          by_cases hv : a1 = a0
          · have hv' : ((a1 : Int) != (a0 : Int)) = false := by simp [hv]
            have Hyy := hide (unhide Hy2 hv)
            clear hv Hy2 Hz2
            go_wp2
            go_roundw
            case rel => exact ⟨y + 1, by omega, .inl (by omega), by go_num, unhide Hyy, unhide S6, unhide T6⟩
            case measure => simp [intOf]; omega
          · have hv' : ((a1 : Int) != (a0 : Int)) = true := by simp; omega
            have Hzz := hide (unhide Hz2 hv)
            clear hv Hy2 Hz2
            go_wp2
            exact bodyPost_ret (v := .tuple #[.bool false, .int .i64 0]) (by simp [results, Try.results15, go_sem]) rfl ⟨by rw [unhide Hzz], unhide S6⟩
        · have cl : ¬ ((y : Int) < (w : Int)) := by omega
          have Hd2 := hide (smB_yes (fun x => inN f w true x n) w (fun j hj => unhide Ha j (by omega) hj))
          clear hb hT Ha
          have Hz := hide (show evB f w h = true by rw [unhide Hev, unhide Hd1, unhide Hd2]; rfl)
          go_wp2
          exact bodyPost_ret (v := .tuple #[.bool true, .int .i64 0]) (by simp [results, Try.results15, go_sem]) rfl ⟨by rw [unhide Hz], unhide SX⟩
end Go.Proofs.Ytpefcpbkdofblaa
