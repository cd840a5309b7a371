/-
  Package kind: maps of ways: allAre, mirrorsOfEach, choose; withoutFlips.
-/
import Derived.Test.YtpcajcgafmmlkaaDoorKindA
import Derived.Maps.RangeWalk
import Derived.Maps.OwnSet
import Derived.Maps.Views
namespace Go.Proofs.YtpcajcgafmmlkaaDoor
open Go.RowKit Go.Maps

def wd (a b : Bool) : DataW Unit := .agg [.lit (.bool a), .lit (.bool b)]
def wyR : Value → Option (DataW Unit × List MemPlace)
  | .agg ⟨[.bool a, .bool b]⟩ => some (wd a b, [])
  | _ => none
abbrev wyV (c : Bool × Bool) : Value := .agg #[.bool c.1, .bool c.2]
theorem wyR_mk (a b : Bool) : wyR (.agg #[.bool a, .bool b]) = some (wd a b, []) := rfl
theorem wyR_inv {v : Value} {y : DataW Unit × List MemPlace} (h : wyR v = some y) : ∃ c : Bool × Bool, v = wyV c ∧ y = (wd c.1 c.2, []) := by
  unfold wyR at h
  split at h
  · rename_i a b
    cases h
    exact ⟨(a, b), rfl, rfl⟩
  · cases h
theorem wd_inj {a b : Bool × Bool} (h : wd a.1 a.2 = wd b.1 b.2) : a = b := by
  unfold wd at h
  injection h with h
  simp at h
  exact Prod.ext h.1 h.2
theorem same_int {a b : Int} (h : (Lit.int .i64 a).sameKey (.int .i64 b) = true) : a = b := by
  by_cases e : a = b
  · exact e
  · rw [sameKey_ne (by intro k; injection k with _ k; exact e k)] at h
    cases h
theorem klaw : Keyed Tryd.prog (3) := int_keyed Tryd.underlying3

/-- a map, as a function of its keys below k -/
def DIs (D : DataW Unit) (k : Nat) (F : Nat → Option (Bool × Bool)) : Prop :=
  Maps.size D = Cn (fun t => (F t).isSome) k ∧ (∀ x : Int, Maps.has D (.int .i64 x) = true ↔ ∃ t : Nat, t < k ∧ x = t ∧ (F t).isSome = true) ∧ ∀ t h, t < k → F t = some h → ∀ z, D.atKey (.int .i64 (t : Nat)) z = wd h.1 h.2
def MapIs (W : World) (b k : Nat) (F : Nat → Option (Bool × Bool)) : Prop := ∃ D, W.ownsMap Tryd.prog (3) wyR b k D ∧ DIs D k F
theorem DIs.get {D : DataW Unit} {k : Nat} {F : Nat → Option (Bool × Bool)} (h : DIs D k F) {x : Int} {c : Bool × Bool} (hh : Maps.has D (.int .i64 x) = true) (ha : ∀ z, D.atKey (.int .i64 x) z = wd c.1 c.2) : ∃ t : Nat, t < k ∧ x = t ∧ F t = some c := by
  obtain ⟨t, ht, rfl, hs⟩ := (h.2.1 x).1 hh
  obtain ⟨d, hd⟩ := Option.isSome_iff_exists.1 hs
  have := h.2.2 t d ht hd .nil
  rw [ha] at this
  rw [wd_inj this]
  exact ⟨t, ht, rfl, hd⟩
/-- all that a map holds is such -/
def allW (k : Nat) (F : Nat → Option (Bool × Bool)) (p : Bool × Bool → Bool) : Bool := (List.range k).all fun t => (F t).all p
theorem allW_iff (k : Nat) (F : Nat → Option (Bool × Bool)) (p : Bool × Bool → Bool) : allW k F p = true ↔ ∀ t h, t < k → F t = some h → p h = true := by
  unfold allW
  rw [List.all_eq_true]
  constructor
  · intro h t d ht hd
    have := h t (List.mem_range.2 ht)
    rw [hd] at this
    exact this
  · intro h t ht
    cases hd : F t with
    | none => rfl
    | some d => exact h t d (List.mem_range.1 ht) hd

/-- a step of a range over a map of ways -/
def Nx (b r k : Nat) (D : DataW Unit) (left : Lit → Bool) (cnt : Nat) (w : World) (x : Int) (v : Value) (w' : World) (cnt' : Nat) : Prop :=
  ∃ c : Bool × Bool, v = wyV c ∧ left (.int .i64 x) = true ∧ (∀ zd, D.atKey (.int .i64 x) zd = wd c.1 c.2) ∧ w'.ranges Tryd.prog (3) wyR b r k D (fun z => left z && !z.sameKey (.int .i64 x)) cnt' ∧ cnt' < cnt ∧ w.grownBy w' (some r) ∧ w'.heap.size = w.heap.size ∧
    (Instr.entry (.pointer (some ⟨r, 0, none⟩))).run Tryd.prog w' = .ok (.tuple #[.int .i64 x, v]) w'
theorem next_ways (w : World) {ops : Array Oper} {rest : List Oper} {o : Oper} {a : Act} {Q : Exit → Act → World → Prop} (hg : o.guard = none) (it : Operand) (hop : o.op = Op.next it false) (b r n : Nat) (D : DataW Unit) (left : Lit → Bool) (cnt : Nat)
    (hit : a.eval it = .pointer (some ⟨r, 0, none⟩)) (h : w.ranges Tryd.prog (3) wyR b r n D left cnt)
    (hDone : cnt = 0 → (∀ kl, left kl = false) → wpList Tryd.prog ops Q rest (a.put o.dst (.tuple #[.bool false])) w)
    (hMore : ∀ (x : Int) (v : Value) (w' : World) (cnt' : Nat), Nx b r n D left cnt w x v w' cnt' → wpList Tryd.prog ops Q rest (a.put o.dst (.tuple #[.bool true, .int .i64 x, v])) w') :
    wpList Tryd.prog ops Q (o :: rest) a w := by
  refine wpList_next_ranges w hg it hop 3 klaw wyR (Value.int .i64) wyV (fun key kl hkey => by obtain ⟨x, rfl, _⟩ := Maps.keyOf_int_inv Tryd.underlying3 hkey; exact ⟨x, rfl⟩) (fun v y hv => by obtain ⟨c, rfl, _⟩ := wyR_inv hv; exact ⟨c, rfl⟩) b r n D left cnt hit h hDone ?_
  intro x c kl y w' cnt' hkey hlk hv hat hrg hlt hgr hsz hen
  obtain ⟨x', ex, rfl, -⟩ := Maps.keyOf_int_inv Tryd.underlying3 hkey
  cases ex
  obtain ⟨c', ec, rfl⟩ := wyR_inv hv
  exact hMore x _ w' cnt' ⟨c', ec, hlk, hat, hrg, hlt, hgr, hsz, hen⟩

set_option maxHeartbeats 4000000 in
set_option maxRecDepth 100000 in
theorem allAre_any (b k : Nat) (F : Nat → Option (Bool × Bool)) (m l : Bool) (W : World) (hm : MapIs W b k F) :
    Calls Tryd.prog 46 #[.map (some b), wyV (m, l)] W fun e w' => e = .returned (.bool (allW k F (fun h => h == (m, l)))) ∧ Below W.heap.size W w' := by
  obtain ⟨D, hown, hD⟩ := hm
  have HD := hide hD
  have B0 := bal (o := .cells #[.bool m, .bool l] 83) (Below.refl W.heap.size W)
  have HB := hide B0
  have hown0 := hown.alloc (.cells #[.bool m, .bool l] 83)
  have hbl := hown.lt
  have c0 : (W.alloc (.cells #[.bool m, .bool l] 83)).cell? ⟨W.heap.size, 0, none⟩ = some (.bool m) ∧ (W.alloc (.cells #[.bool m, .bool l] 83)).cell? ⟨W.heap.size, 1, none⟩ = some (.bool l) := ⟨by simp [go_sem], by simp [go_sem]⟩
  have hs0 : W.heap.size < (W.alloc (.cells #[.bool m, .bool l] 83)).heap.size := by simp
  generalize hans : allW k F (fun h => h == (m, l)) = ans
  have Hans := hide hans
  clear hD B0 hown hans
  go_enter Tryd.func46, Tryd.ntmps46
  go_wp2_with (first | (at_range; refine wpList_range_own _ rfl _ 56 rfl 3 83 klaw Tryd.underlying56 _ b k D rfl hown0 ?_; intro w1 hrg1 hg1 hs1) | go_in)
  go_frame
  have S1 := (Below.refl (W.alloc (.cells #[.bool m, .bool l] 83)).heap.size (W.alloc (.cells #[.bool m, .bool l] 83))).grown hg1 (Nat.le_refl _) (fun k hk => by cases hk)
  generalize W.alloc (.cells #[.bool m, .bool l] 83) = wA at *
  generalize hr : wA.heap.size = r at *
  clear hg1 hs1
  go_loopw [6] (fun _ wr => ∃ left cnt, wr.ranges Tryd.prog (3) wyR b r k D left cnt ∧ (∀ x : Int, left (.int .i64 x) = true → Maps.has D (.int .i64 x) = true) ∧ (∀ t h, t < k → F t = some h → left (.int .i64 (t : Nat)) = false → (h == (m, l)) = true) ∧ Below r wA wr) (fun _ wr => wr.rangeLeft b r)
  case atStart =>
    refine ⟨_, _, hrg1, fun x hx => hx, fun t h ht hF hl => ?_, S1⟩
    have := ((unhide HD).2.1 t).2 ⟨t, ht, rfl, by rw [hF]; rfl⟩
    rw [this] at hl
    cases hl
  case round =>
    clear hrg1 S1
    obtain ⟨left, cnt, hrg, hle, hdone, hbel⟩ := hrel
    have Hle := hide hle
    have Hdone := hide hdone
    clear hle hdone
    go_wp2_with (first | (at_next; refine next_ways _ rfl _ rfl b r k _ _ _ rfl hrg ?_ ?_) | go_in)
    · intro hc0 hl0
      have hall : ans = true := by
        rw [← unhide Hans, allW_iff]
        exact fun t h ht hF => unhide Hdone t h ht hF (hl0 _)
      subst hall
      have HSe := hide (btrans (unhide HB) (by rw [hr]; exact hbel))
      clear hl0 hc0 hrg hbel
      go_wp2
      go_ret
      exact ⟨ret_bool (by simp), unhide HSe⟩
    · intro x vv w2 cnt2 hnx
      obtain ⟨⟨c1, c2⟩, rfl, hlk, hat, hrg2, hlt, hg2, hs2, hen⟩ := hnx
      have hrl := hrg.lt
      have hbel2 := hbel.grown hg2 (by omega) (fun j hj => by cases hj; exact Nat.le_refl _)
      have hbel3 := hbel2.alloc (o := .cells #[.bool c1, .bool c2] 83) (by omega)
      have c3 := And.intro (hbel3.cell (p := ⟨W.heap.size, 0, none⟩) (by dsimp only; omega) |>.trans c0.1) (hbel3.cell (p := ⟨W.heap.size, 1, none⟩) (by dsimp only; omega) |>.trans c0.2)
      have hgot := (unhide HD).get (unhide Hle x hlk) hat
      have hrg3 := hrg2.alloc (.cells #[.bool c1, .bool c2] 83)
      by_cases hm : c1 = m
      · subst hm
        by_cases hl : c2 = l
        · subst hl
          have Hd2 := hide (show ∀ t h, t < k → F t = some h → (left (.int .i64 (t : Nat)) && !(Lit.int .i64 (t : Nat)).sameKey (.int .i64 x)) = false → (h == (c1, c2)) = true from by
            intro t h ht hF hk
            rw [Bool.and_eq_false_iff] at hk
            rcases hk with hk | hk
            · exact unhide Hdone t h ht hF hk
            · have ht2 : (t : Int) = x := same_int (by cases q : (Lit.int .i64 (t : Nat)).sameKey (.int .i64 x) <;> simp_all)
              obtain ⟨t', ht', e, hF'⟩ := hgot
              have : t = t' := by omega
              subst this
              rw [hF] at hF'
              cases hF'
              simp)
          have Hle2 := hide (show ∀ y : Int, (left (.int .i64 y) && !(Lit.int .i64 y).sameKey (.int .i64 x)) = true → Maps.has D (.int .i64 y) = true from fun y hy => unhide Hle y (by rw [Bool.and_eq_true] at hy; exact hy.1))
          have hms : w2.rangeLeft b r < wr.rangeLeft b r := by rw [hrg2.left_eq, hrg.left_eq]; exact hlt
          have hms3 : (w2.alloc (.cells #[.bool c1, .bool c2] 83)).rangeLeft b r < wr.rangeLeft b r := by rw [hrg3.left_eq, hrg.left_eq]; exact hlt
          clear hgot Hdone Hle hrg hbel
          go_wp2
          go_roundw
          case rel => exact ⟨_, _, hrg3, unhide Hle2, unhide Hd2, hbel3⟩
          case measure => exact hms3
        · have hans : ans = false := by
            rw [← unhide Hans]
            refine bfalse (fun k => ?_)
            obtain ⟨t', ht', e, hF'⟩ := hgot
            have := (allW_iff _ _ _).1 k t' _ ht' hF'
            simp at this
            exact hl this
          subst hans
          have hlb : (c2 == l) = false := by simp [hl]
          have HSe := hide (btrans (unhide HB) (by rw [hr]; exact hbel3))
          clear hgot Hdone Hle hrg hbel hl
          go_wp2
          go_ret
          exact ⟨ret_bool (by simp), unhide HSe⟩
      · have hans : ans = false := by
          rw [← unhide Hans]
          refine bfalse (fun k => ?_)
          obtain ⟨t', ht', e, hF'⟩ := hgot
          have := (allW_iff _ _ _).1 k t' _ ht' hF'
          simp at this
          exact hm this.1
        subst hans
        have hmb : (c1 == m) = false := by simp [hm]
        have HSe := hide (btrans (unhide HB) (by rw [hr]; exact hbel3))
        clear hgot Hdone Hle hrg hbel hm
        go_wp2
        go_ret
        exact ⟨ret_bool (by simp), unhide HSe⟩
end Go.Proofs.YtpcajcgafmmlkaaDoor

namespace Go.Proofs.YtpcajcgafmmlkaaDoor
open Go.RowKit Go.Maps

set_option maxHeartbeats 4000000 in
set_option maxRecDepth 100000 in
theorem mirrorsOfEach_any (b k : Nat) (F : Nat → Option (Bool × Bool)) (W : World) (hm : MapIs W b k F) :
    Calls Tryd.prog 30 #[.map (some b)] W fun e w' => e = .returned (.bool (allW k F (fun h => h.1))) ∧ Below W.heap.size W w' := by
  obtain ⟨D, hown, hD⟩ := hm
  have HD := hide hD
  have hbl := hown.lt
  generalize hans : allW k F (fun h => h.1) = ans
  have Hans := hide hans
  clear hD hans
  go_enter Tryd.func30, Tryd.ntmps30
  go_wp2_with (first | (at_range; refine wpList_range_own _ rfl _ 56 rfl 3 83 klaw Tryd.underlying56 _ b k D rfl hown ?_; intro w1 hrg1 hg1 hs1) | go_in)
  go_frame
  have S1 := (Below.refl W.heap.size W).grown hg1 (Nat.le_refl _) (fun k hk => by cases hk)
  generalize hr : W.heap.size = r at *
  clear hg1 hs1 hown
  go_loopw [4] (fun _ wr => ∃ left cnt, wr.ranges Tryd.prog (3) wyR b r k D left cnt ∧ (∀ x : Int, left (.int .i64 x) = true → Maps.has D (.int .i64 x) = true) ∧ (∀ t h, t < k → F t = some h → left (.int .i64 (t : Nat)) = false → h.1 = true) ∧ Below r W wr) (fun _ wr => wr.rangeLeft b r)
  case atStart =>
    refine ⟨_, _, hrg1, fun x hx => hx, fun t h ht hF hl => ?_, S1⟩
    have := ((unhide HD).2.1 t).2 ⟨t, ht, rfl, by rw [hF]; rfl⟩
    rw [this] at hl
    cases hl
  case round =>
    clear hrg1 S1
    obtain ⟨left, cnt, hrg, hle, hdone, hbel⟩ := hrel
    have Hle := hide hle
    have Hdone := hide hdone
    clear hle hdone
    go_wp2_with (first | (at_next; refine next_ways _ rfl _ rfl b r k _ _ _ rfl hrg ?_ ?_) | go_in)
    · intro hc0 hl0
      have hall : ans = true := by
        rw [← unhide Hans, allW_iff]
        exact fun t h ht hF => unhide Hdone t h ht hF (hl0 _)
      subst hall
      have HSe := hide hbel
      clear hl0 hc0 hrg hbel
      go_wp2
      go_ret
      exact ⟨ret_bool (by simp), by rw [hr]; exact unhide HSe⟩
    · intro x vv w2 cnt2 hnx
      obtain ⟨⟨c1, c2⟩, rfl, hlk, hat, hrg2, hlt, hg2, hs2, hen⟩ := hnx
      have hrl := hrg.lt
      have hbel2 := hbel.grown hg2 (by omega) (fun j hj => by cases hj; exact Nat.le_refl _)
      have hbel3 := hbel2.alloc (o := .cells #[.bool c1, .bool c2] 83) (by omega)
      have hgot := (unhide HD).get (unhide Hle x hlk) hat
      have hrg3 := hrg2.alloc (.cells #[.bool c1, .bool c2] 83)
      cases c1 with
      | true =>
        have Hd2 := hide (show ∀ t h, t < k → F t = some h → (left (.int .i64 (t : Nat)) && !(Lit.int .i64 (t : Nat)).sameKey (.int .i64 x)) = false → h.1 = true from by
          intro t h ht hF hk
          rw [Bool.and_eq_false_iff] at hk
          rcases hk with hk | hk
          · exact unhide Hdone t h ht hF hk
          · have ht2 : (t : Int) = x := same_int (by cases q : (Lit.int .i64 (t : Nat)).sameKey (.int .i64 x) <;> simp_all)
            obtain ⟨t', ht', e, hF'⟩ := hgot
            have : t = t' := by omega
            subst this
            rw [hF] at hF'
            cases hF'
            rfl)
        have Hle2 := hide (show ∀ y : Int, (left (.int .i64 y) && !(Lit.int .i64 y).sameKey (.int .i64 x)) = true → Maps.has D (.int .i64 y) = true from fun y hy => unhide Hle y (by rw [Bool.and_eq_true] at hy; exact hy.1))
        have hms3 : (w2.alloc (.cells #[.bool true, .bool c2] 83)).rangeLeft b r < wr.rangeLeft b r := by rw [hrg3.left_eq, hrg.left_eq]; exact hlt
        clear hgot Hdone Hle hrg hbel
        go_wp2
        go_roundw
        case rel => exact ⟨_, _, hrg3, unhide Hle2, unhide Hd2, hbel3⟩
        case measure => exact hms3
      | false =>
        have hans : ans = false := by
          rw [← unhide Hans]
          refine bfalse (fun k => ?_)
          obtain ⟨t', ht', e, hF'⟩ := hgot
          have := (allW_iff _ _ _).1 k t' _ ht' hF'
          simp at this
        subst hans
        have HSe := hide hbel3
        clear hgot Hdone Hle hrg hbel
        go_wp2
        go_ret
        exact ⟨ret_bool (by simp), unhide HSe⟩

theorem MapIs.keep {W w1 : World} {b k : Nat} {F : Nat → Option (Bool × Bool)} (h : MapIs W b k F) (hb : Below W.heap.size W w1) : MapIs w1 b k F := by
  obtain ⟨D, ⟨es, clock, h1, h2⟩, hD⟩ := h
  refine ⟨D, ⟨es, clock, ?_, h2⟩, hD⟩
  rw [hb.block b (by have := (Array.getElem?_eq_some_iff.1 h1).1; exact this)]
  exact h1
def chO (k : Nat) (F : Nat → Option (Bool × Bool)) (a0 a1 a2 a3 : Int) : Int :=
  if allW k F (fun h => h == (true, false)) = true then a0 else if allW k F (fun h => h == (false, true)) = true then a1 else if allW k F (fun h => h == (true, true)) = true then a2 else a3

theorem ix0 (w : World) : (Instr.index 87 (.agg #[.bool true, .bool false, .bool false, .bool true, .bool true, .bool true]) (.int .i64 0)).run Tryd.prog w = .ok (.agg #[.bool true, .bool false]) w := by kernel_rfl
theorem ix1 (w : World) : (Instr.index 87 (.agg #[.bool true, .bool false, .bool false, .bool true, .bool true, .bool true]) (.int .i64 1)).run Tryd.prog w = .ok (.agg #[.bool false, .bool true]) w := by kernel_rfl
theorem ix2 (w : World) : (Instr.index 87 (.agg #[.bool true, .bool false, .bool false, .bool true, .bool true, .bool true]) (.int .i64 2)).run Tryd.prog w = .ok (.agg #[.bool true, .bool true]) w := by kernel_rfl

set_option maxHeartbeats 4000000 in
set_option maxRecDepth 100000 in
theorem choose_any (b k : Nat) (F : Nat → Option (Bool × Bool)) (a0 a1 a2 a3 : Int) (W : World) (hm : MapIs W b k F) :
    Calls Tryd.prog 28 #[.map (some b), .agg #[.int .i64 a0, .int .i64 a1, .int .i64 a2, .int .i64 a3]] W fun e w' => e = .returned (.int .i64 (chO k F a0 a1 a2 a3)) ∧ Below W.heap.size W w' := by
  have H0 := hide (fun V (hm : MapIs V b k F) => allAre_any b k F true false V hm)
  have H1 := hide (fun V (hm : MapIs V b k F) => allAre_any b k F false true V hm)
  have H2 := hide (fun V (hm : MapIs V b k F) => allAre_any b k F true true V hm)
  generalize hans : chO k F a0 a1 a2 a3 = ans
  unfold chO at hans
  generalize allW k F (fun h => h == (true, false)) = r0 at *
  generalize allW k F (fun h => h == (false, true)) = r1 at *
  generalize allW k F (fun h => h == (true, true)) = r2 at *
  have B0 := bal (o := .cells #[.int .i64 a0, .int .i64 a1, .int .i64 a2, .int .i64 a3] 60) (Below.refl W.heap.size W)
  have HB := hide B0
  have Hm := hide (hm.keep B0)
  have c0 : (W.alloc (.cells #[.int .i64 a0, .int .i64 a1, .int .i64 a2, .int .i64 a3] 60)).cell? ⟨W.heap.size, 0, none⟩ = some (.int .i64 a0) ∧ (W.alloc (.cells #[.int .i64 a0, .int .i64 a1, .int .i64 a2, .int .i64 a3] 60)).cell? ⟨W.heap.size, 1, none⟩ = some (.int .i64 a1) ∧ (W.alloc (.cells #[.int .i64 a0, .int .i64 a1, .int .i64 a2, .int .i64 a3] 60)).cell? ⟨W.heap.size, 2, none⟩ = some (.int .i64 a2) ∧ (W.alloc (.cells #[.int .i64 a0, .int .i64 a1, .int .i64 a2, .int .i64 a3] 60)).cell? ⟨W.heap.size, 3, none⟩ = some (.int .i64 a3) := ⟨by simp [go_sem], by simp [go_sem], by simp [go_sem], by simp [go_sem]⟩
  have hs0 : W.heap.size < (W.alloc (.cells #[.int .i64 a0, .int .i64 a1, .int .i64 a2, .int .i64 a3] 60)).heap.size := by simp
  clear B0 hm
  go_enter Tryd.func28, Tryd.ntmps28
  go_wp2
  generalize W.alloc (.cells #[.int .i64 a0, .int .i64 a1, .int .i64 a2, .int .i64 a3] 60) = w0 at *
  have HC := hide (show ∀ V, Below w0.heap.size w0 V → V.cell? ⟨W.heap.size, 0, none⟩ = some (.int .i64 a0) ∧ V.cell? ⟨W.heap.size, 1, none⟩ = some (.int .i64 a1) ∧ V.cell? ⟨W.heap.size, 2, none⟩ = some (.int .i64 a2) ∧ V.cell? ⟨W.heap.size, 3, none⟩ = some (.int .i64 a3) from fun V hV => ⟨keepC hV hs0 c0.1, keepC hV hs0 c0.2.1, keepC hV hs0 c0.2.2.1, keepC hV hs0 c0.2.2.2⟩)
  clear c0
  have i0 := ix0
  have i1 := ix1
  have i2 := ix2
  refine wp_loop_rounds 4 ?_
  rw [rounds_succ]
  go_wp2_with fail
  have S1 := bal (o := .cells #[.bool true, .bool false] 83) (Below.refl w0.heap.size w0)
  generalize w0.alloc (.cells #[.bool true, .bool false] 83) = w1 at *
  refine (unhide H0 _ ((unhide Hm).keep S1)).mono ?_
  rintro e w2 ⟨rfl, hb⟩
  have S2 := btrans S1 hb
  clear hb S1
  cases r0 with
  | true =>
    rw [if_pos rfl] at hans
    subst hans
    have c := unhide HC _ S2
    go_wp2
    go_ret
    exact ⟨rfl, btrans (unhide HB) S2⟩
  | false =>
    rw [if_neg (by simp)] at hans
    go_wp2
    rw [rounds_succ]
    go_wp2_with fail
    have S3 := btrans S2 (bal (o := .cells #[.bool false, .bool true] 83) (Below.refl w2.heap.size w2))
    generalize w2.alloc (.cells #[.bool false, .bool true] 83) = w3 at *
    refine (unhide H1 _ ((unhide Hm).keep S3)).mono ?_
    rintro e w4 ⟨rfl, hb⟩
    have S4 := btrans S3 hb
    clear hb S3 S2
    cases r1 with
    | true =>
      rw [if_pos rfl] at hans
      subst hans
      have c := unhide HC _ S4
      go_wp2
      go_ret
      exact ⟨rfl, btrans (unhide HB) S4⟩
    | false =>
      rw [if_neg (by simp)] at hans
      go_wp2
      rw [rounds_succ]
      go_wp2_with fail
      have S5 := btrans S4 (bal (o := .cells #[.bool true, .bool true] 83) (Below.refl w4.heap.size w4))
      generalize w4.alloc (.cells #[.bool true, .bool true] 83) = w5 at *
      refine (unhide H2 _ ((unhide Hm).keep S5)).mono ?_
      rintro e w6 ⟨rfl, hb⟩
      have S6 := btrans S5 hb
      clear hb S5 S4
      have c := unhide HC _ S6
      cases r2 with
      | true =>
        rw [if_pos rfl] at hans
        subst hans
        go_wp2
        go_ret
        exact ⟨rfl, btrans (unhide HB) S6⟩
      | false =>
        rw [if_neg (by simp)] at hans
        subst hans
        go_wp2
        rw [rounds_succ]
        go_wp2
        go_ret
        exact ⟨rfl, btrans (unhide HB) S6⟩

theorem withoutFlips_any (T : Nat) (W : World) (hT : T ≤ 6) : Calls Tryd.prog 27 #[.int .i64 T] W fun e w' => e = .returned (.int .i64 (([0, 1, 2, 13, 10, 0, 16] : List Int).getD T 0)) ∧ Below W.heap.size W w' := by
  rcases (show T = 0 ∨ T = 1 ∨ T = 2 ∨ T = 3 ∨ T = 4 ∨ T = 5 ∨ T = 6 by omega) with rfl | rfl | rfl | rfl | rfl | rfl | rfl
  all_goals
    go_enter Tryd.func27, Tryd.ntmps27
    go_wp2
    go_ret
    exact ⟨rfl, bal (Below.refl _ _)⟩
end Go.Proofs.YtpcajcgafmmlkaaDoor

namespace Go.Proofs.YtpcajcgafmmlkaaDoor
open Go.RowKit Go.Maps

/-- the ways of a turn's flips -/
def flF (K : Int → Int → Bool) (g : Int) (L : List Mv) (s u v : Nat) (t : Nat) : Option (Bool × Bool) :=
  (fi L t true).map fun m => ((bAll t true m.2.2.1 m.2.2.2 s u v 2 2).any (fun m => !glB K g m.1 m.2.2.1 m.2.2.2), (bAll t true m.2.2.1 m.2.2.2 s u v 2 2).any (fun m => glB K g m.1 m.2.2.1 m.2.2.2))
def OwnY (W : World) (b : Nat) (x y : Bool) : Prop := b < W.heap.size ∧ (W.cell? ⟨b, 0, none⟩ = some (.bool x) ∧ W.cell? ⟨b, 1, none⟩ = some (.bool y)) ∧ W.frozen? ⟨b, 0, none⟩ = false ∧ W.frozen? ⟨b, 1, none⟩ = false
theorem OwnY.new (W : World) (x y : Bool) : OwnY (W.alloc (.cells #[.bool x, .bool y] 83)) W.heap.size x y := ⟨by simp, ⟨by simp [go_sem], by simp [go_sem]⟩, by simp [go_sem], by simp [go_sem]⟩
theorem OwnY.keep {W w1 : World} {b : Nat} {x y : Bool} (h : OwnY W b x y) (hb : Below W.heap.size W w1) : OwnY w1 b x y :=
  ⟨Nat.lt_of_lt_of_le h.1 hb.size, ⟨keepC hb h.1 h.2.1.1, keepC hb h.1 h.2.1.2⟩, keepF hb h.1 h.2.2.1, keepF hb h.1 h.2.2.2⟩
theorem OwnY.set0 {W : World} {b : Nat} {x y : Bool} (h : OwnY W b x y) (z : Bool) : OwnY (W.setCell ⟨b, 0, none⟩ (.bool z)) b z y := by
  obtain ⟨h1, ⟨h2, h3⟩, h4, h5⟩ := h
  exact ⟨by simpa using h1, ⟨by simp [go_sem, h2], by simp [go_sem, h3]⟩, by simp [go_sem, h4], by simp [go_sem, h5]⟩
theorem OwnY.set1 {W : World} {b : Nat} {x y : Bool} (h : OwnY W b x y) (z : Bool) : OwnY (W.setCell ⟨b, 1, none⟩ (.bool z)) b x z := by
  obtain ⟨h1, ⟨h2, h3⟩, h4, h5⟩ := h
  exact ⟨by simpa using h1, ⟨by simp [go_sem, h2], by simp [go_sem, h3]⟩, by simp [go_sem, h4], by simp [go_sem, h5]⟩
theorem MRow.far {W : World} {b c o : Nat} {v : Value} {L : List Mv} (h : MRow W b L) (hc : c ≠ b) : MRow (W.setCell ⟨c, o, none⟩ v) b L := by
  refine ⟨by simpa using h.1, fun j m hj => ?_⟩
  obtain ⟨h1, h2, h3, h4⟩ := h.2 j m hj
  exact ⟨by simp [go_sem, h1], by simp [go_sem, h2], by simp [go_sem, h3], by simp [go_sem, h4]⟩
theorem DIs.skip {D : DataW Unit} {k : Nat} {F : Nat → Option (Bool × Bool)} (h : DIs D k F) (hF : F k = none) : DIs D (k + 1) F := by
  refine ⟨?_, fun x => ?_, fun t d ht hd => ?_⟩
  · rw [Cn_succ, hF]; exact h.1
  · rw [h.2.1]
    constructor
    · rintro ⟨t, ht, e, hs⟩; exact ⟨t, by omega, e, hs⟩
    · rintro ⟨t, ht, e, hs⟩
      refine ⟨t, ?_, e, hs⟩
      rcases Nat.lt_or_ge t k with q | q
      · exact q
      · have : t = k := by omega
        subst this
        rw [hF] at hs
        cases hs
  · refine h.2.2 t d ?_ hd
    rcases Nat.lt_or_ge t k with q | q
    · exact q
    · have : t = k := by omega
      subst this
      rw [hF] at hd
      cases hd
theorem DIs.put {D : DataW Unit} {k : Nat} {F : Nat → Option (Bool × Bool)} {a b : Bool} (h : DIs D k F) (ht : Tidy D) (hF : F k = some (a, b)) : DIs (D.put (.int .i64 (k : Nat)) (wd a b)) (k + 1) F := by
  have hno : Maps.has D (.int .i64 (k : Nat)) = false := by
    refine bfalse (fun q => ?_)
    obtain ⟨t, ht, e, -⟩ := (h.2.1 _).1 q
    omega
  refine ⟨?_, fun x => ?_, fun t d ht' hd => ?_⟩
  · rw [size_put ht, hno, Cn_succ, hF, ← h.1]; rfl
  · by_cases e : x = (k : Int)
    · subst e
      rw [has_put_same ht.isMap (show WideAt.IsKeyLit (.int .i64 (k : Nat)) from trivial)]
      exact ⟨fun _ => ⟨k, by omega, rfl, by rw [hF]; rfl⟩, fun _ => rfl⟩
    · rw [has_put_other (by intro q; injection q with _ q; exact e q), h.2.1]
      constructor
      · rintro ⟨t, ht, e, hs⟩; exact ⟨t, by omega, e, hs⟩
      · rintro ⟨t, ht, e', hs⟩
        exact ⟨t, by omega, e', hs⟩
  · by_cases e : t = k
    · subst e
      rw [hF] at hd
      cases hd
      exact fun z => atKey_put_same ht.isMap (show WideAt.IsKeyLit (.int .i64 (t : Nat)) from trivial) _ z
    · intro z
      rw [atKey_put_other (by intro q; injection q with _ q; omega)]
      exact h.2.2 t d (by omega) hd z
theorem any_take {α : Type} (p : α → Bool) (l : List α) (k : Nat) (m : α) (h : l[k]? = some m) : (l.take (k + 1)).any p = ((l.take k).any p || p m) := by
  rw [List.take_add_one, h]
  simp

set_option maxHeartbeats 8000000 in
set_option maxRecDepth 100000 in
theorem flips_any (g w h : Int) (p : Option Addr) (n cap q cp s u v : Nat) (L : List Mv) (G : Nat) (K : Int → Int → Bool) (Rc : World → Prop) (W : World) (hg : g = 4 ∨ g = 6) (hG : g = (G : Int)) (hs : s ≤ 24) (hu : u ≤ 24) (hv : v ≤ 24) (h0 : K 0 0 = true)
    (hl : L.length ≤ 6912) (hLb : ∀ m ∈ L, m.2.2.1 ≤ 24 ∧ m.2.2.2 ≤ 24)
    (hRc : ∀ V V', Rc V → Below V.heap.size V V' → Rc V') (HK : ∀ V, Rc V → ∀ x y : Int, -10000 ≤ x ∧ x ≤ 10000 → -10000 ≤ y ∧ y ≤ 10000 → KeepsIs 74 g w h p n cap 0 false x y V (K x y) 0) (hm : MRow W q L) (hc : Rc W) :
    Calls Tryd.prog 26 #[pvV g w h p n cap q L.length cp s u v] W fun e w' => ∃ b, e = .returned (.map (some b)) ∧ MapIs w' b G (flF K g L s u v) ∧ Below W.heap.size W w' := by
  have HF := hide (fun (V : World) (t : Nat) (hm : MRow V q L) => first_any g w h p n cap q cp s u v L t true V hl hm)
  have HBe := hide (fun (V : World) (t X Y : Nat) (hX : X ≤ 24) (hY : Y ≤ 24) => behind_any g w h p n cap q L.length cp s u v t true X Y 2 V (by omega) hs hu hv hX hY)
  have HGl := hide (fun (V : World) (t X Y : Nat) (ht : (t : Int) < g) (hX : X ≤ 200) (hY : Y ≤ 200) (hc : Rc V) => isGlide_any g w h p n cap q L.length cp s u v t X Y K Rc V hg ht hX hY h0 hRc HK hc)
  have HRc := hide hRc
  have HLb := hide hLb
  have B0 := bal (o := pcV g w h p n cap q L.length cp s u v) (Below.refl W.heap.size W)
  have Hm := hide (hm.keep B0)
  have Hc := hide (hRc _ _ hc B0)
  have HB := hide B0
  have HP := hide (OwnP.new W g w h p n cap q L.length cp s u v)
  have hG6 : G ≤ 6 := by omega
  clear hm B0 hRc HK hc hLb
  subst hG
  have hmm := @run_makeMap Tryd.prog
  have Hmade := hide (show (World.alloc (W.alloc (pcV G w h p n cap q L.length cp s u v)) (.map #[] 0)).ownsMap Tryd.prog (3) wyR (W.alloc (pcV G w h p n cap q L.length cp s u v)).heap.size 0 (.map []) from World.ownsMap_made _ _ _ _)
  have SM := hide (bal (o := .map #[] 0) (Below.refl (W.alloc (pcV G w h p n cap q L.length cp s u v)).heap.size (W.alloc (pcV G w h p n cap q L.length cp s u v))))
  go_enter Tryd.func26, Tryd.ntmps26
  go_wp2
  have hsz : W.heap.size + 1 = (W.alloc (pcV G w h p n cap q L.length cp s u v)).heap.size := by simp
  rw [hsz]
  clear hsz hmm
  generalize (W.alloc (pcV G w h p n cap q L.length cp s u v)).alloc (.map #[] 0) = wM at *
  generalize W.alloc (pcV G w h p n cap q L.length cp s u v) = w0 at *
  generalize hF : flF K G L s u v = F
  have HFF := hide hF
  clear hF
  go_loopw [14] (fun i wr => ∃ k : Nat, k ≤ G ∧ i = .int .i64 k ∧ (∃ D, wr.ownsMap Tryd.prog (3) wyR w0.heap.size k D ∧ DIs D k F) ∧ Below w0.heap.size w0 wr) (fun i _ => G - (intOf i).toNat)
  case atStart => exact ⟨0, Nat.zero_le _, rfl, ⟨_, unhide Hmade, by simp [Cn, Maps.size], fun x => ⟨fun k => by simp [Maps.has] at k, fun ⟨t, ht, _⟩ => by omega⟩, fun t _ ht => by omega⟩, unhide SM⟩
  case round =>
    clear Hmade SM
    obtain ⟨k, hk, rfl, ⟨D, hown, hD⟩, hbel⟩ := hrel
    have HD := hide hD
    clear hD
    by_cases hlt : k < G
    · have q2 : (k : Int) < (G : Int) := by omega
      have HF1 := hide (fun V hm => unhide HF V k hm)
      have Hl := hide hlt
      have c := ((unhide HP).keep hbel).2
      have hm1 := (unhide Hm).keep hbel
      cases hf : fi L k true with
      | none =>
        rw [hf] at HF1
        have hFk : F k = none := by rw [← unhide HFF]; unfold flF; rw [hf]; rfl
        have HD2 := hide ((unhide HD).skip hFk)
        have HO2 := hide hown
        clear hf hFk hown
        go_wp2_with fail
        clear c
        refine (unhide HF1 _ hm1).mono ?_
        rintro e w4 ⟨rfl, hb⟩
        have hb4 := bal (o := .cells #[.int .i64 0, .bool false, .int .i64 0, .int .i64 0] 41) hb
        have S4 := hide (btrans hbel hb4)
        have HO4 := hide ((MapIs.keep ⟨D, (unhide HO2).mono (Nat.le_succ k), unhide HD2⟩ hb4 : MapIs _ w0.heap.size (k + 1) F))
        clear hb hbel hm1 hb4
        simp only [fiV]
        go_wp2
        go_roundw
        case rel => exact ⟨k + 1, unhide Hl, by go_num, unhide HO4, unhide S4⟩
        case measure => have := unhide Hl; simp [intOf]; omega
      | some m =>
        rw [hf] at HF1
        obtain ⟨a, b, X, Y⟩ := m
        have hmem : (a, b, X, Y) ∈ L := List.mem_of_find?_eq_some hf
        have hab : a = k ∧ b = true := by have := List.find?_some hf; simp at this; exact this
        obtain ⟨rfl, rfl⟩ := hab
        have hb2 := unhide HLb _ hmem
        dsimp only at hb2
        have hFk : F a = some ((bAll a true X Y s u v 2 2).any (fun m => !glB K G m.1 m.2.2.1 m.2.2.2), (bAll a true X Y s u v 2 2).any (fun m => glB K G m.1 m.2.2.1 m.2.2.2)) := by rw [← unhide HFF]; unfold flF; rw [hf]; rfl
        have HFk := hide hFk
        have HB1 := hide (fun V => unhide HBe V a X Y hb2.1 hb2.2)
        have hBL : ∀ m ∈ bAll a true X Y s u v 2 2, m.1 = a ∧ m.2.1 = true ∧ m.2.2.1 ≤ 200 ∧ m.2.2.2 ≤ 200 := by
          intro m hm
          unfold bAll bRow bMv at hm
          simp only [List.mem_flatMap, List.mem_map, List.mem_range] at hm
          obtain ⟨i, hi, j, hj, rfl⟩ := hm
          have l1 : i * s ≤ 24 := Nat.le_trans (Nat.mul_le_mul (show i ≤ 1 by omega) hs) (by omega)
          have l2 : j * u ≤ 24 := Nat.le_trans (Nat.mul_le_mul (show j ≤ 1 by omega) hu) (by omega)
          have l3 : j * v ≤ 24 := Nat.le_trans (Nat.mul_le_mul (show j ≤ 1 by omega) hv) (by omega)
          exact ⟨rfl, rfl, by simp only; omega, by simp only; omega⟩
        have HBL := hide hBL
        have hlen : (bAll a true X Y s u v 2 2).length = 4 := by rw [bAll_len]
        generalize bAll a true X Y s u v 2 2 = BL at *
        have HO2 := hide hown
        clear hf hFk hown hmem hBL hb2
        go_wp2_with fail
        clear c
        refine (unhide HF1 _ hm1).mono ?_
        rintro e w4 ⟨rfl, hb⟩
        have hb4 := bal (o := .cells #[.int .i64 a, .bool true, .int .i64 X, .int .i64 Y] 41) hb
        have S4 := btrans hbel hb4
        have HO4 := hide ((MapIs.keep ⟨D, unhide HO2, unhide HD⟩ hb4 : MapIs _ w0.heap.size a F))
        have M4 := (OwnM.new w4 a true X Y 41).alloc (.cells #[.bool false, .bool false] 83)
        have Y4 := OwnY.new (w4.alloc (.cells #[.int .i64 a, .bool true, .int .i64 X, .int .i64 Y] 41)) false false
        have SI := bal (o := .cells #[.bool false, .bool false] 83) (Below.refl (w4.alloc (.cells #[.int .i64 a, .bool true, .int .i64 X, .int .i64 Y] 41)).heap.size (w4.alloc (.cells #[.int .i64 a, .bool true, .int .i64 X, .int .i64 Y] 41)))
        have c := ((unhide HP).keep (btrans S4 SI)).2
        have m := M4.2.1
        clear hb hbel hm1 hb4 HO2 HF1 M4
        simp only [fiV]
        go_wp2_with fail
        clear c m
        have hsz : w4.heap.size + 1 = (w4.alloc (.cells #[.int .i64 a, .bool true, .int .i64 X, .int .i64 Y] 41)).heap.size := by simp
        rw [hsz]
        clear hsz
        generalize (w4.alloc (.cells #[.int .i64 a, .bool true, .int .i64 X, .int .i64 Y] 41)).alloc (.cells #[.bool false, .bool false] 83) = wI at *
        generalize w4.alloc (.cells #[.int .i64 a, .bool true, .int .i64 X, .int .i64 Y] 41) = wH at *
        refine (unhide HB1 _).mono ?_
        rintro e w6 ⟨qb, cpb, rfl, ⟨hrow, hqb⟩, hb⟩
        have hne : wH.heap.size ≠ qb := by have := Y4.1; omega
        have HY6 := hide (Y4.keep hb)
        have S6 := hide (btrans SI hb)
        have HR6 := hide hrow
        have HS4 := hide S4
        have hq4 : BL.length ≤ 4 := by omega
        clear hrow hqb hb SI Y4 HB1 S4
        go_wp2
        go_loopw [29] (fun i wr => ∃ j : Nat, j ≤ BL.length ∧ i = .int .i64 j ∧ OwnY wr wH.heap.size ((BL.take j).any (fun m => !glB K G m.1 m.2.2.1 m.2.2.2)) ((BL.take j).any (fun m => glB K G m.1 m.2.2.1 m.2.2.2)) ∧ MRow wr qb BL ∧ Below wH.heap.size wH wr) (fun i _ => BL.length - (intOf i).toNat)
        case atStart => exact ⟨0, Nat.zero_le _, rfl, by simpa using unhide HY6, unhide HR6, unhide S6⟩
        case round =>
          clear HY6 HR6 S6
          obtain ⟨j, hj, rfl, hY, hrow, hbel⟩ := hrel
          by_cases hlj : j < BL.length
          · have r1 : (0 : Int) ≤ (j : Int) := by omega
            have r2 : (j : Int) < (BL.length : Int) := by omega
            obtain ⟨⟨a1, b1, X1, Y1⟩, hmj⟩ : ∃ m, BL[j]? = some m := ⟨_, List.getElem?_eq_getElem hlj⟩
            obtain ⟨e1, e2, e3, e4⟩ := unhide HBL _ (List.mem_of_getElem? hmj)
            dsimp only at e1 e2 e3 e4
            subst e1 e2
            have p1 := hrow.2 j _ hmj
            have Ha1 := hide (any_take (fun m : Mv => !glB K G m.1 m.2.2.1 m.2.2.2) BL j _ hmj)
            have Ha2 := hide (any_take (fun m : Mv => glB K G m.1 m.2.2.1 m.2.2.2) BL j _ hmj)
            dsimp only at Ha1 Ha2
            have hbN := bal (o := .cells #[.int .i64 a1, .bool true, .int .i64 X1, .int .i64 Y1] 41) (Below.refl wr.heap.size wr)
            have SN := btrans hbel hbN
            have HG1 := hide (fun V hc => unhide HGl V a1 X1 Y1 q2 e3 e4 hc)
            have c := ((unhide HP).keep (btrans (unhide HS4) SN)).2
            have hcN := unhide HRc _ _ (unhide Hc) (btrans (unhide HS4) SN)
            have YN := hY.keep hbN
            have RN := hrow.keep hbN
            have Hlj := hide hlj
            generalize (BL.take j).any (fun m => !glB K G m.1 m.2.2.1 m.2.2.2) = z0 at *
            generalize (BL.take j).any (fun m => glB K G m.1 m.2.2.1 m.2.2.2) = z1 at *
            clear hmj hY hrow hbel hbN hj hlj
            go_wp2_with fail
            clear c p1
            generalize wr.alloc (.cells #[.int .i64 a1, .bool true, .int .i64 X1, .int .i64 Y1] 41) = wN at *
            refine (unhide HG1 _ hcN).mono ?_
            rintro e w8 ⟨rfl, hb⟩
            have S8 := btrans SN hb
            have Y8 := YN.keep hb
            have R8 := RN.keep hb
            have y := Y8.2
            clear hb SN YN RN hcN HG1
            cases hgl : glB K G a1 X1 Y1 with
            | true =>
              rw [hgl] at Ha1 Ha2
              have HR9 := hide (R8.far (o := 1) (v := .bool true) hne)
              have HY9 := hide (Y8.set1 true)
              have HS9 := hide (bset (u := .bool true) S8 (show wH.heap.size ≤ (⟨wH.heap.size, 1, none⟩ : Addr).block from Nat.le_refl _))
              clear hgl R8 Y8 S8
              go_wp2
              go_roundw
              case rel => exact ⟨j + 1, unhide Hlj, by go_num, by rw [unhide Ha1, unhide Ha2]; simpa using unhide HY9, unhide HR9, unhide HS9⟩
              case measure => have := unhide Hlj; simp [intOf]; omega
            | false =>
              rw [hgl] at Ha1 Ha2
              have HR9 := hide (R8.far (o := 0) (v := .bool true) hne)
              have HY9 := hide (Y8.set0 true)
              have HS9 := hide (bset (u := .bool true) S8 (show wH.heap.size ≤ (⟨wH.heap.size, 0, none⟩ : Addr).block from Nat.le_refl _))
              clear hgl R8 Y8 S8
              go_wp2
              go_roundw
              case rel => exact ⟨j + 1, unhide Hlj, by go_num, by rw [unhide Ha1, unhide Ha2]; simpa using unhide HY9, unhide HR9, unhide HS9⟩
              case measure => have := unhide Hlj; simp [intOf]; omega
          · have cl : ¬ ((j : Int) < (BL.length : Int)) := by omega
            have e : BL.length = j := by omega
            rw [← e, List.take_length] at hY
            have hFk := unhide HFk
            generalize BL.any (fun m => !glB K G m.1 m.2.2.1 m.2.2.2) = z0 at *
            generalize BL.any (fun m => glB K G m.1 m.2.2.1 m.2.2.2) = z1 at *
            obtain ⟨D5, hown5, hD5⟩ := (unhide HO4).keep hbel
            have hD6 := hD5.put (hown5.tidy klaw) hFk
            have HD6 := hide hD6
            have y := hY.2
            have hwf : (Lit.int .i64 (a : Int)).wf = true := WalkArith.wf_i64 (by omega)
            have SO := btrans (unhide HS4) hbel
            have hsO := SO.size
            have Hl2 := hide (unhide Hl)
            clear hD5 hD6 hY hrow hFk e hbel hj hlj
            go_wp2_with (first | (at_mapUpdate; refine wpList_mapUpdate_own _ rfl _ _ _ 56 rfl 3 83 klaw Tryd.underlying56 _ w0.heap.size a D5 rfl hown5 (by unfold maxLen; omega) _ _ _ rfl rfl (keyOf_int_mk Tryd.underlying3 hwf) _ [] (wyR_mk _ _) ?_; intro w9 hown9 hgrow9; go_frame) | go_in)
            have S9 := SO.grown hgrow9 hsO (fun k hk => by cases hk; exact Nat.le_refl _)
            go_wp2
            go_roundw
            case rel => exact ⟨a + 1, unhide Hl2, by go_num, ⟨_, hown9, unhide HD6⟩, S9⟩
            case measure => have := unhide Hl2; simp [intOf]; omega
    · have cl : ¬ ((k : Int) < (G : Int)) := by omega
      have e : G = k := by omega
      subst e
      have HSe := hide (btrans (unhide HB) hbel)
      have HOe := hide (show MapIs wr w0.heap.size G F from ⟨D, hown, unhide HD⟩)
      clear hbel hown hk hlt
      go_wp2
      exact bodyPost_ret (v := .map (some w0.heap.size)) (by simp [results, Tryd.results26]) rfl ⟨_, rfl, by rw [unhide HFF]; exact unhide HOe, unhide HSe⟩
end Go.Proofs.YtpcajcgafmmlkaaDoor
