/-
  What has and alive of the laws answer.
-/
import Derived.Test.YtpcajcgafmmlkaaDoorGJ
namespace Go.Proofs.YtpcajcgafmmlkaaDoor
open Go.RowKit

/-- a told move is this one -/
def eqM (t : Int) (f : Bool) (X Y : Int) (m : Mv) : Bool := ((m.1 : Int) == t) && ((m.2.1 == f) && (((m.2.2.1 : Int) == X) && ((m.2.2.2 : Int) == Y)))
/-- one of the first i told moves is this one -/
def hasB (L : List Mv) (t : Int) (f : Bool) (X Y : Int) : Bool := L.any (eqM t f X Y)

theorem hasB_false {L : List Mv} {t : Int} {f : Bool} {X Y : Int} (h : ∀ j, j < L.length → ∀ m, L[j]? = some m → eqM t f X Y m = false) : hasB L t f X Y = false := by
  unfold hasB
  rw [List.any_eq_false]
  intro m hm
  obtain ⟨j, hj, e⟩ := List.getElem_of_mem hm
  have := h j hj m (by rw [List.getElem?_eq_getElem hj, e])
  simp [this]
theorem hasB_true {L : List Mv} {t : Int} {f : Bool} {X Y : Int} (j : Nat) (m : Mv) (hj : L[j]? = some m) (h : eqM t f X Y m = true) : hasB L t f X Y = true := by
  unfold hasB
  rw [List.any_eq_true]
  exact ⟨m, List.mem_of_getElem? hj, h⟩
theorem CM.set {W : World} {b : Nat} {t : Int} {f : Bool} {x y : Int} (h : CM W b t f x y) (X Y : Int) : CM ((W.setCell ⟨b, 2, none⟩ (.int .i64 X)).setCell ⟨b, 3, none⟩ (.int .i64 Y)) b t f X Y := by
  obtain ⟨h1, h2, h3, h4⟩ := h
  refine ⟨?_, ?_, ?_, ?_⟩
  all_goals simp [go_sem, h1, h2, h3, h4]

end Go.Proofs.YtpcajcgafmmlkaaDoor
