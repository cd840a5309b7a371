/-
  What has and alive of the laws answer.
-/
import Derived.Test.YtagiekbijmdmdaaGJ
namespace Go.Proofs.Ytagiekbijmdmdaa
open Go.RowKit

/-- a told move is this one -/
def eqM (t : Int) (f : Bool) (X Y : Int) (m : Mv) : Bool := ((m.1 : Int) == t) && ((m.2.1 == f) && (((m.2.2.1 : Int) == X) && ((m.2.2.2 : Int) == Y)))
/-- one of the first i told moves is this one -/
def hasB (L : List Mv) (t : Int) (f : Bool) (X Y : Int) : Bool := L.any (eqM t f X Y)

theorem hasB_false {L : List Mv} {t : Int} {f : Bool} {X Y : Int} (h : ∀ j, j < L.length → ∀ m, L[j]? = some m → eqM t f X Y m = false) : hasB L t f X Y = false := by
  unfold hasB
  rw [List.any_eq_false]
  intro m hm
  obtain ⟨j, hj, e⟩ := List.getElem_of_mem hm
  have := h j hj m (by rw [List.getElem?_eq_getElem hj, e])
  simp [this]
theorem hasB_true {L : List Mv} {t : Int} {f : Bool} {X Y : Int} (j : Nat) (m : Mv) (hj : L[j]? = some m) (h : eqM t f X Y m = true) : hasB L t f X Y = true := by
  unfold hasB
  rw [List.any_eq_true]
  exact ⟨m, List.mem_of_getElem? hj, h⟩
theorem CM.set {W : World} {b : Nat} {t : Int} {f : Bool} {x y : Int} (h : CM W b t f x y) (X Y : Int) : CM ((W.setCell ⟨b, 2, none⟩ (.int .i64 X)).setCell ⟨b, 3, none⟩ (.int .i64 Y)) b t f X Y := by
  obtain ⟨h1, h2, h3, h4⟩ := h
  refine ⟨?_, ?_, ?_, ?_⟩
  all_goals simp [go_sem, h1, h2, h3, h4]

set_option maxHeartbeats 2000000 in
theorem has_any (q cap : Nat) (L : List Mv) (n t : Int) (f : Bool) (x y : Int) (w : World) (hn : 1 ≤ n ∧ n ≤ 64) (hL : L.length ≤ 6912) (hm : MRow w q L) :
    Calls Try.prog 28 #[.slice (some ⟨q, 0, none⟩) L.length cap, .int .i64 n, .agg #[.int .i64 t, .bool f, .int .i64 x, .int .i64 y]] w fun e w' => e = .returned (.bool (hasB L t f (x % n) (y % n))) ∧ Below w.heap.size w w' := by
  have HO := hide (fun V => on_any n x y V hn)
  generalize x % n = X at *
  generalize y % n = Y at *
  have M0 := OwnM.new w t f x y 45
  have B0 := bal (o := .cells #[.int .i64 t, .bool f, .int .i64 x, .int .i64 y] 45) (Below.refl w.heap.size w)
  have HB := hide B0
  have Hm := hide hm
  have hq := hm.1
  clear B0 hm
  go_enter Try.func28, Try.ntmps28
  go_wp2_with fail
  generalize w.alloc (.cells #[.int .i64 t, .bool f, .int .i64 x, .int .i64 y] 45) = w0 at *
  refine (unhide HO _).mono ?_
  rintro e w1 ⟨rfl, hb⟩
  have M1 := M0.keep hb
  have S1 := btrans (unhide HB) hb
  have hl := M1.1
  have C2 := CM.set M1.2.1 X Y
  have S2 := bset (p := ⟨w.heap.size, 3, none⟩) (u := .int .i64 Y) (bset (p := ⟨w.heap.size, 2, none⟩) (u := .int .i64 X) S1 (by dsimp only; omega)) (by dsimp only; omega)
  have hz2 : w.heap.size < ((w1.setCell ⟨w.heap.size, 2, none⟩ (.int .i64 X)).setCell ⟨w.heap.size, 3, none⟩ (.int .i64 Y)).heap.size := by simpa using hl
  obtain ⟨-, m1, m2⟩ := M1
  clear hb HB M0
  go_wp2
  clear m1 m2
  generalize (w1.setCell ⟨w.heap.size, 2, none⟩ (.int .i64 X)).setCell ⟨w.heap.size, 3, none⟩ (.int .i64 Y) = w2 at *
  have HC2 := hide C2
  have HS2 := hide S2
  clear C2 S1 S2 hl
  go_loopw [16] (fun a wr => ∃ i : Nat, i ≤ L.length ∧ a = .int .i64 i ∧ (∀ j, j < i → ∀ m, L[j]? = some m → eqM t f X Y m = false) ∧ CM wr w.heap.size t f X Y ∧ Below w.heap.size w wr ∧ w.heap.size < wr.heap.size) (fun a _ => L.length - (intOf a).toNat)
  case atStart => exact ⟨0, Nat.zero_le _, rfl, fun j hj => by omega, unhide HC2, unhide HS2, hz2⟩
  case round =>
    clear hz2
    obtain ⟨i, hik, rfl, hno, hC, hbel, hz⟩ := hrel
    have Hno := hide hno
    have HC := hide hC
    clear hno hC
    by_cases hlt : i < L.length
    · obtain ⟨m, hmm⟩ : ∃ m, L[i]? = some m := ⟨_, List.getElem?_eq_getElem hlt⟩
      have Hmm := hide hmm
      obtain ⟨p0, p1, p2, p3⟩ := ((unhide Hm).keep hbel).2 i m hmm
      clear hmm
      have hi0 : (0 : Int) ≤ (i : Int) := by omega
      have hi2 : (i : Int) < (L.length : Int) := by omega
      obtain ⟨c0, c1, c2, c3⟩ := unhide HC
      by_cases e1 : (m.1 : Int) = t
      · have z1 : ((m.1 : Int) == t) = true := by simp [e1]
        by_cases e2 : m.2.1 = f
        · have z2 : (m.2.1 == f) = true := by simp [e2]
          by_cases e3 : (m.2.2.1 : Int) = X
          · have z3 : ((m.2.2.1 : Int) == X) = true := by simp [e3]
            by_cases e4 : (m.2.2.2 : Int) = Y
            · have z4 : ((m.2.2.2 : Int) == Y) = true := by simp [e4]
              have Hy := hide (hasB_true (L := L) (t := t) (f := f) (X := X) (Y := Y) i m (unhide Hmm) (by unfold eqM; rw [z1, z2, z3, z4]; rfl))
              clear e1 e2 e3 e4
              go_wp2
              go_ret
              exact ⟨ret_bool (unhide Hy).symm, bal hbel⟩
            · have z4 : ((m.2.2.2 : Int) == Y) = false := by simp [e4]
              have Hn := hide (show eqM t f X Y m = false by unfold eqM; simp [z4])
              clear e1 e2 e3 e4
              go_wp2
              go_roundw
              case rel => exact ⟨i + 1, by omega, by go_num, fun j hj m' hm' => by
                by_cases q : j = i
                · subst q; rw [unhide Hmm] at hm'; cases hm'; exact unhide Hn
                · exact unhide Hno j (by omega) m' hm', CM.below (unhide HC) (bal (Below.refl _ _)) hz, bal hbel, by simp; omega⟩
              case measure => simp [intOf]; omega
          · have z3 : ((m.2.2.1 : Int) == X) = false := by simp [e3]
            have Hn := hide (show eqM t f X Y m = false by unfold eqM; simp [z3])
            clear e1 e2 e3
            go_wp2
            go_roundw
            case rel => exact ⟨i + 1, by omega, by go_num, fun j hj m' hm' => by
              by_cases q : j = i
              · subst q; rw [unhide Hmm] at hm'; cases hm'; exact unhide Hn
              · exact unhide Hno j (by omega) m' hm', CM.below (unhide HC) (bal (Below.refl _ _)) hz, bal hbel, by simp; omega⟩
            case measure => simp [intOf]; omega
        · have z2 : (m.2.1 == f) = false := by simp [e2]
          have Hn := hide (show eqM t f X Y m = false by unfold eqM; simp [z2])
          clear e1 e2
          go_wp2
          go_roundw
          case rel => exact ⟨i + 1, by omega, by go_num, fun j hj m' hm' => by
            by_cases q : j = i
            · subst q; rw [unhide Hmm] at hm'; cases hm'; exact unhide Hn
            · exact unhide Hno j (by omega) m' hm', CM.below (unhide HC) (bal (Below.refl _ _)) hz, bal hbel, by simp; omega⟩
          case measure => simp [intOf]; omega
      · have z1 : ((m.1 : Int) == t) = false := by simp [e1]
        have Hn := hide (show eqM t f X Y m = false by unfold eqM; simp [z1])
        clear e1
        go_wp2
        go_roundw
        case rel => exact ⟨i + 1, by omega, by go_num, fun j hj m' hm' => by
          by_cases q : j = i
          · subst q; rw [unhide Hmm] at hm'; cases hm'; exact unhide Hn
          · exact unhide Hno j (by omega) m' hm', CM.below (unhide HC) (bal (Below.refl _ _)) hz, bal hbel, by simp; omega⟩
        case measure => simp [intOf]; omega
    · have e : i = L.length := by omega
      have cl : ¬ ((i : Int) < (L.length : Int)) := by omega
      have Hf := hide (hasB_false (L := L) (t := t) (f := f) (X := X) (Y := Y) (fun j hj => unhide Hno j (by omega)))
      clear e
      go_wp2
      go_ret
      exact ⟨ret_bool (unhide Hf).symm, hbel⟩
end Go.Proofs.Ytagiekbijmdmdaa
