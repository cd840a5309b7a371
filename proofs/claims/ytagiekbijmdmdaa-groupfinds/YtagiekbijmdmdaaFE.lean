/-
  Domain of the reference.
-/
import Derived.Test.YtagiekbijmdmdaaFD
import Derived.Test.YtagiekbijmdmdaaGS
namespace Go.Proofs.Ytagiekbijmdmdaa
open Go.RowKit

def zC (z : Int × Int) : List Value := [.int .i64 z.1, .int .i64 z.2]
def zsV (l : List (Int × Int)) : List Value := l.flatMap zC
theorem zsV_snoc (l : List (Int × Int)) (m : Int × Int) : zsV (l ++ [m]) = zsV l ++ zC m := by simp [zsV]
theorem zsV_get (L : List (Int × Int)) (j : Nat) (m : Int × Int) (h : L[j]? = some m) (o : Nat) (ho : o < 2) : (zsV L)[j * 2 + o]? = (zC m)[o]? := by
  induction L generalizing j with
  | nil => simp at h
  | cons a L ih =>
    have e : zsV (a :: L) = zC a ++ zsV L := by simp [zsV]
    have hl : (zC a).length = 2 := rfl
    cases j with
    | zero =>
      simp at h
      subst h
      rw [e, List.getElem?_append_left (by rw [hl]; omega), Nat.zero_mul, Nat.zero_add]
    | succ j =>
      simp at h
      rw [e, List.getElem?_append_right (by rw [hl]; omega), hl, show (j + 1) * 2 + o - 2 = j * 2 + o by omega]
      exact ih j h
theorem zrow_own {W : World} {B b cap : Nat} {L : List (Int × Int)} (h : W.ownsRow B 33 2 (.slice (some ⟨b, 0, none⟩) L.length cap) L.length (zsV L)) : ZRow W b L := by
  refine ⟨(h.lt b rfl).2, fun j m hj => ?_⟩
  have hl : j < L.length := (List.getElem?_eq_some_iff.1 hj).1
  refine ⟨?_, ?_⟩
  · rw [h.cellAt (j * 2) (by omega)]; exact zsV_get L j m hj 0 (by omega)
  · rw [h.cellAt (j * 2 + 1) (by omega)]; exact zsV_get L j m hj 1 (by omega)

/-- the cell to which a move takes a cell, on the torus -/
def imgC (g : Int) (N : Nat) (m : Mv) (j : Nat) : Nat := tgtR g m.1 m.2.1 m.2.2.1 m.2.2.2 N j
/-- the cells that no move takes to one ahead of them -/
def domB (I : Mv → Nat → Nat) (L : List Mv) (j : Nat) : Bool := L.all fun m => decide (j ≤ I m j)
def domL (I : Mv → Nat → Nat) (L : List Mv) (N M : Nat) : List (Int × Int) := ((List.range M).filter (domB I L)).map fun j => (((j % N : Nat) : Int), ((j / N : Nat) : Int))
theorem domL_succ (I : Mv → Nat → Nat) (L : List Mv) (N M : Nat) : domL I L N (M + 1) = domL I L N M ++ (if domB I L M = true then [(((M % N : Nat) : Int), ((M / N : Nat) : Int))] else []) := by
  unfold domL
  rw [List.range_succ, List.filter_append, List.map_append]
  congr 1
  by_cases h : domB I L M = true <;> simp [h]
theorem domL_len (I : Mv → Nat → Nat) (L : List Mv) (N M : Nat) : (domL I L N M).length ≤ M := by
  unfold domL
  rw [List.length_map]
  exact Nat.le_trans (List.length_filter_le _ _) (by simp)
theorem domB_take (I : Mv → Nat → Nat) (L : List Mv) (j k : Nat) (m : Mv) (h : L[k]? = some m) : domB I (L.take (k + 1)) j = (domB I (L.take k) j && decide (j ≤ I m j)) := by
  unfold domB
  rw [List.take_add_one, h]
  simp

set_option maxHeartbeats 8000000 in
set_option maxRecDepth 100000 in
theorem rdomain_plain (g w h : Int) (p : Option Addr) (n cap : Nat) (N : Nat) (L : List Mv) (I : Mv → Nat → Nat) (W : World) (hN : 1 ≤ N ∧ N ≤ 24) (hL : L.length ≤ 6912) (Rc : World → Prop) (hRc : ∀ V V', Rc V → Below V.heap.size V V' → Rc V')
    (H1 : ∀ V, Rc V → Calls Try.prog 38 #[Ch.ch g w h p n cap, .int .i64 N] V fun e V' => ∃ q cp, e = .returned (.slice (some ⟨q, 0, none⟩) L.length cp) ∧ MRow V' q L ∧ Below V.heap.size V V')
    (H2 : ∀ m ∈ L, ∀ x y : Nat, x < N → y < N → ∃ X Y : Int, ToIs g m.1 m.2.1 m.2.2.1 m.2.2.2 x y X Y ∧ Y % N * N + X % N = (I m (y * N + x) : Nat) ∧ (0 ≤ X % N ∧ X % N < N) ∧ (0 ≤ Y % N ∧ Y % N < N) ∧ I m (y * N + x) < 576)
    (hc : Rc W) : Calls Try.prog 19 #[Ch.ch g w h p n cap, .int .i64 N] W fun e V => ∃ v, e = .returned v ∧ V.ownsRow W.heap.size 33 2 v (domL I L N (N * N)).length (zsV (domL I L N (N * N))) ∧ Below W.heap.size W V := by
  obtain ⟨i0, hi, hz0, hz1, hz2⟩ := info_parts info33
  have hNN : N * N ≤ 576 := Nat.mul_le_mul hN.2 hN.2
  have K1 := hide H1
  have K2 := hide H2
  have HRc := hide hRc
  have HOn := hide (fun (X Y : Int) (V : World) => on_any N X Y V (by omega))
  have B0 := bal (o := .cells #[.int .i64 g, .int .i64 w, .int .i64 h, .slice p n cap] 24) (Below.refl W.heap.size W)
  have Hr := hide (hRc _ _ hc B0)
  have HB := hide B0
  have HC0 := hide (Ch.OwnC.new W g w h p n cap 24)
  have hw0 : W.heap.size ≤ (W.alloc (.cells #[.int .i64 g, .int .i64 w, .int .i64 h, .slice p n cap] 24)).heap.size := by simp
  clear hc B0 H1 H2 hRc
  go_enter Try.func19, Try.ntmps19
  go_wp2_with fail
  generalize W.alloc (.cells #[.int .i64 g, .int .i64 w, .int .i64 h, .slice p n cap] 24) = w0 at *
  refine (unhide K1 _ (unhide Hr)).mono ?_
  rintro e w1 ⟨q, cp, rfl, hm, hb⟩
  have hw1 : W.heap.size ≤ w1.heap.size := Nat.le_trans hw0 hb.size
  have HS1 := hide (btrans (unhide HB) hb)
  have HC1 := hide ((unhide HC0).keep hb)
  have HM1 := hide hm
  clear hm hb HB HC0 K1 Hr hw0
  go_wp2
  go_loopw [5, 7] (fun v i wr => ∃ y : Nat, y ≤ N ∧ i = .int .i64 y ∧ wr.ownsRow w1.heap.size 33 2 v (domL I L N (y * N)).length (zsV (domL I L N (y * N))) ∧ Below w1.heap.size w1 wr) (fun _ i _ => N - (intOf i).toNat)
  case atStart => exact ⟨0, by omega, rfl, by simpa [domL, zsV] using World.ownsRow_nil w1 w1.heap.size 33 2, Below.refl _ _⟩
  case round =>
    obtain ⟨y, hy, rfl, hown, hbel⟩ := hrel
    by_cases hly : y < N
    · have hly' : (y : Int) < (N : Int) := by omega
      have hyN : y * N + N ≤ 576 := by have := Nat.mul_le_mul_right N (show y + 1 ≤ N by omega); rw [Nat.add_mul, Nat.one_mul] at this; omega
      go_wp2
      have Hown := hide hown
      have Hbel := hide hbel
      clear hown hbel
      go_loopw [5, 8] (fun v i wr => ∃ x : Nat, x ≤ N ∧ i = .int .i64 x ∧ wr.ownsRow w1.heap.size 33 2 v (domL I L N (y * N + x)).length (zsV (domL I L N (y * N + x))) ∧ Below w1.heap.size w1 wr) (fun _ i _ => N - (intOf i).toNat)
      case atStart => exact ⟨0, by omega, rfl, unhide Hown, unhide Hbel⟩
      case round =>
        clear Hown Hbel
        obtain ⟨x, hx, rfl, hown, hbel⟩ := hrel
        by_cases hlx : x < N
        · have hlx' : (x : Int) < (N : Int) := by omega
          have hlL := domL_len I L N (y * N + x)
          have Hsucc := hide (show domL I L N (y * N + (x + 1)) = domL I L N (y * N + x) ++ (if domB I L (y * N + x) = true then [((x : Int), (y : Int))] else []) by
            rw [← Nat.add_assoc, domL_succ, Nat.mul_comm y N, Nat.mul_add_mod, Nat.mod_eq_of_lt hlx, Nat.mul_add_div (by omega), Nat.div_eq_of_lt hlx, Nat.add_zero])
          have hlL2 : (domL I L N (y * N + x)).length ≤ 576 := by omega
          clear hlL
          generalize domL I L N (y * N + x) = D at *
          have K3 := hide (fun m hm => unhide K2 m hm x y hlx hly)
          obtain ⟨C, hC⟩ : ∃ C : Nat, C = y * N := ⟨_, rfl⟩
          have mC : IntKind.i64.wrap ((y : Int) * (N : Int)) = (C : Int) := by
            rw [hC, ← Int.natCast_mul]; exact (Go.IntWalk.i64_left _).trans (Go.IntWalk.wrap64_in _ (by omega))
          have hCb : C + N ≤ 576 := by rw [hC]; exact hyN
          rw [← hC] at K3 Hsucc
          have HCy := hide hC
          clear hC
          go_wp2
          obtain ⟨wo, hwo⟩ : ∃ wo : World, wo = wr := ⟨_, rfl⟩
          have Hown := hide hown
          have Hbel := hide hbel
          rw [← hwo]
          rw [← hwo] at Hown Hbel
          clear hown hbel hwo
          go_loopw [9, 28] (fun f i wr2 => ∃ k : Nat, k ≤ L.length ∧ i = .int .i64 k ∧ f = .bool (domB I (L.take k) (C + x)) ∧ Below wo.heap.size wo wr2) (fun _ i _ => L.length - (intOf i).toNat)
          case atStart => exact ⟨0, by omega, rfl, by simp [domB], Below.refl _ _⟩
          case round =>
            obtain ⟨k, hk, rfl, rfl, hbw⟩ := hrel
            by_cases hlk : k < L.length
            · have q1 : (0 : Int) ≤ (k : Int) := by omega
              have q2 : (k : Int) < (L.length : Int) := by omega
              obtain ⟨⟨a, b, U, V⟩, hmk⟩ : ∃ m, L[k]? = some m := ⟨_, List.getElem?_eq_getElem hlk⟩
              have Hs1 := hide (domB_take I L (C + x) k _ hmk)
              have p1 := ((unhide HM1).keep (btrans (unhide Hbel) hbw)).2 k _ hmk
              obtain ⟨X, Y, hTo, hI, hX, hY, hI2⟩ := unhide K3 _ (List.mem_of_getElem? hmk)
              generalize I (a, b, U, V) (C + x) = Im at *
              dsimp only at hTo
              have HTo := hide hTo
              have Hl := hide hlk
              have hbN := bal (o := .cells #[.int .i64 a, .bool b, .int .i64 U, .int .i64 V] 45) (Below.refl wr.heap.size wr)
              have SN := btrans hbw hbN
              have c := ((unhide HC1).keep (btrans (unhide Hbel) SN)).2
              clear hmk hTo hbw hbN hlk
              have bA' := Int.mul_nonneg hY.1 (show (0 : Int) ≤ N by omega)
              have mA0 : wrap64 (Y % (N : Int) * (N : Int)) = Y % (N : Int) * (N : Int) := Go.IntWalk.wrap64_in _ (by omega)
              obtain ⟨A, hA⟩ : ∃ A : Int, Y % (N : Int) * (N : Int) = A := ⟨_, rfl⟩
              have mA : IntKind.i64.wrap (Y % (N : Int) * (N : Int)) = A := (Go.IntWalk.i64_left _).trans (mA0.trans hA)
              have mA2 : wrap64 (Y % (N : Int) * (N : Int)) = A := mA0.trans hA
              rw [hA] at hI bA'
              have bA : 0 ≤ A ∧ A ≤ 576 := by omega
              clear hA mA0 bA'
              cases hd : domB I (L.take k) (C + x) with
              | false =>
                have Hnx := hide (show domB I (L.take (k + 1)) (C + x) = false by rw [unhide Hs1, hd]; rfl)
                clear hd Hs1
                clear hI
                go_wp2_with fail
                clear c p1
                generalize wr.alloc (.cells #[.int .i64 a, .bool b, .int .i64 U, .int .i64 V] 45) = wN at *
                refine (unhide HTo _).mono ?_
                rintro e w4 ⟨rfl, hb⟩
                have S4 := btrans SN hb
                clear hb SN
                go_wp2_with fail
                refine (unhide HOn X Y _).mono ?_
                rintro e w5 ⟨rfl, hb⟩
                have S5 := hide (btrans S4 (bal (o := .cells #[.int .i64 (X % N), .int .i64 (Y % N)] 33) hb))
                clear hb S4
                generalize X % (N : Int) = XX at *
                generalize Y % (N : Int) = YY at *
                go_wp2
                go_roundw
                case rel => exact ⟨k + 1, unhide Hl, by go_num, by rw [unhide Hnx], unhide S5⟩
                case measure => have := unhide Hl; simp [intOf]; omega
              | true =>
                by_cases hle : C + x ≤ Im
                · have Hnx := hide (show domB I (L.take (k + 1)) (C + x) = true by rw [unhide Hs1, hd]; simp [hle])
                  have g1 : (C : Int) + (x : Int) ≤ A + X % (N : Int) := by omega
                  clear hd Hs1
                  clear hI hle
                  go_wp2_with fail
                  clear c p1
                  generalize wr.alloc (.cells #[.int .i64 a, .bool b, .int .i64 U, .int .i64 V] 45) = wN at *
                  refine (unhide HTo _).mono ?_
                  rintro e w4 ⟨rfl, hb⟩
                  have S4 := btrans SN hb
                  clear hb SN
                  go_wp2_with fail
                  refine (unhide HOn X Y _).mono ?_
                  rintro e w5 ⟨rfl, hb⟩
                  have S5 := hide (btrans S4 (bal (o := .cells #[.int .i64 (X % N), .int .i64 (Y % N)] 33) hb))
                  clear hb S4
                  generalize X % (N : Int) = XX at *
                  generalize Y % (N : Int) = YY at *
                  go_wp2
                  go_roundw
                  case rel => exact ⟨k + 1, unhide Hl, by go_num, by rw [unhide Hnx], unhide S5⟩
                  case measure => have := unhide Hl; simp [intOf]; omega
                · have Hnx := hide (show domB I (L.take (k + 1)) (C + x) = false by rw [unhide Hs1, hd]; simp [hle])
                  have g1 : decide ((C : Int) + (x : Int) ≤ A + X % (N : Int)) = false := by simp only [decide_eq_false_iff_not]; omega
                  clear hd Hs1
                  clear hI hle
                  go_wp2_with fail
                  clear c p1
                  generalize wr.alloc (.cells #[.int .i64 a, .bool b, .int .i64 U, .int .i64 V] 45) = wN at *
                  refine (unhide HTo _).mono ?_
                  rintro e w4 ⟨rfl, hb⟩
                  have S4 := btrans SN hb
                  clear hb SN
                  go_wp2_with fail
                  refine (unhide HOn X Y _).mono ?_
                  rintro e w5 ⟨rfl, hb⟩
                  have S5 := hide (btrans S4 (bal (o := .cells #[.int .i64 (X % N), .int .i64 (Y % N)] 33) hb))
                  clear hb S4
                  generalize X % (N : Int) = XX at *
                  generalize Y % (N : Int) = YY at *
                  go_wp2
                  go_roundw
                  case rel => exact ⟨k + 1, unhide Hl, by go_num, by rw [unhide Hnx], unhide S5⟩
                  case measure => have := unhide Hl; simp [intOf]; omega
            · have e : k = L.length := by omega
              subst e
              have cl : ¬ ((L.length : Int) < (L.length : Int)) := by omega
              rw [List.take_length]
              have S6 := btrans (unhide Hbel) hbw
              have hown6 := own_keep (unhide Hown) hbw
              have hs6 := S6.size
              clear hbw
              cases hd : domB I L (C + x) with
              | false =>
                have Hs := hide (show domL I L N (C + (x + 1)) = D by rw [unhide Hsucc, hd]; simp)
                rw [unhide HCy] at Hs
                have HO := hide hown6
                have HS := hide S6
                clear hd Hsucc hown6 S6
                go_wp2
                go_roundw
                case rel => exact ⟨x + 1, by omega, by go_num, by rw [unhide Hs]; exact unhide HO, unhide HS⟩
                case measure => simp [intOf]; omega
              | true =>
                have Hs := hide (show domL I L N (C + (x + 1)) = D ++ [((x : Int), (y : Int))] by rw [unhide Hsucc, hd]; simp)
                rw [unhide HCy] at Hs
                clear hd Hsucc
                go_wp2_with (at_builtin; refine wpList_append_own _ rfl _ _ 36 rfl w1.heap.size 33 i0 (.agg #[.int .i64 0, .int .i64 0]) 2 16 Try.underlying36 hi hz0 hz1 hz2 rfl (by decide) _ _ _ rfl (hown6.alloc _) ⟨wr.heap.size, 0, none⟩ 1 1 (zC ((x : Int), (y : Int))) rfl rfl ?c1 ?c2 ?c3 ?c4 ?c5 ?_)
                case c1 =>
                  intro j u hj
                  match j, hj with
                  | 0, hj => simp [zC] at hj; subst hj; simp [go_sem]
                  | 1, hj => simp [zC] at hj; subst hj; simp [go_sem]
                  | j + 2, hj => simp [zC] at hj
                case c2 => intro u hu; simp [zC] at hu; rcases hu with rfl | rfl <;> rfl
                case c3 => unfold maxLen; omega
                case c4 => omega
                case c5 => omega
                intro v' w9 hown' hgrow _
                have S9 := (S6.alloc (by omega) _).grown hgrow (by simp; omega) (fun k hk => (hown6.lt k hk).1)
                have HO9 := hide hown'
                have HS9 := hide S9
                clear hgrow hown6 S6 hown' S9
                go_wp2
                go_roundw
                case rel => exact ⟨x + 1, by omega, by go_num, by rw [unhide Hs, List.length_append, zsV_snoc]; exact unhide HO9, unhide HS9⟩
                case measure => simp [intOf]; omega
        · have e : x = N := by omega
          subst e
          have cl : ¬ ((x : Int) < (x : Int)) := by omega
          have Hs := hide (show (y + 1) * x = y * x + x by rw [Nat.add_mul, Nat.one_mul])
          have HO := hide hown
          have HS := hide hbel
          clear hown hbel
          go_wp2
          go_roundw
          case rel => exact ⟨y + 1, by omega, by go_num, by rw [unhide Hs]; exact unhide HO, unhide HS⟩
          case measure => simp [intOf]; omega
    · have e : y = N := by omega
      subst e
      have cl : ¬ ((y : Int) < (y : Int)) := by omega
      have HO := hide hown
      have HS := hide (btrans (unhide HS1) hbel)
      clear hown hbel
      go_wp2
      go_ret
      exact ⟨_, rfl, Joins.ownsRow_le (unhide HO) hw1, unhide HS⟩
end Go.Proofs.Ytagiekbijmdmdaa
