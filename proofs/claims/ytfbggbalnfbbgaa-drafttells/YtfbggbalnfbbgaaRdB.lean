/-
  The reference's Marked.
-/
import Derived.Test.YtfbggbalnfbbgaaRdA
import Derived.Test.YtfbggbalnfbbgaaDrG
namespace Go.Proofs.Ytfbggbalnfbbgaa
open Go.RowKit Go.Shelf

/-- truths that hold in each row at one place -/
def mkF (t : Nat → Nat) (w : Nat) : Nat → Bool := mdF (fun y x => (x : Int) == (t y : Int)) w

set_option maxRecDepth 100000 in
set_option maxHeartbeats 2000000 in
theorem marked_ok {W : World} {q : Option Addr} {n c : Nat} {t : Nat → Nat} {b : Nat} (w : Nat) (hw : w ≤ 64) (r : Th W q n t b) (m : Nat) (hm : m = w * n) :
    Calls Try.prog 38 #[.slice q n c, .int .i64 w] W fun e V => ∃ q' cp, e = .returned (tr w n q' m cp) ∧ (Rt V w n q' m cp (mkF t w) ∧ ∀ j, j < W.heap.size → Off q' m j) ∧ Below W.heap.size W V := by
  obtain ⟨i0, hi, hz0, hz1, hz2⟩ := info_parts info4
  have hn := r.2.1
  have hm4 : m ≤ 4096 := by rw [hm]; exact Nat.mul_le_mul hw hn
  have HR := hide r
  have Hm := hide hm
  have B0 := bal (o := .cells #[.int .i64 w, .int .i64 n, .slice none 0 0] 25) (bal (o := .cells #[.int .i64 0, .int .i64 0, .slice none 0 0] 25) (Below.refl W.heap.size W))
  have Y0 := (OwnY.new W 0 0 none 0 0).keep (bal (o := .cells #[.int .i64 w, .int .i64 n, .slice none 0 0] 25) (Below.refl _ _))
  have D0 := OwnW.new (W.alloc (.cells #[.int .i64 0, .int .i64 0, .slice none 0 0] 25)) w n
  simp only [World.size_alloc] at D0
  have HB := hide B0
  have HY := hide Y0
  have HD := hide D0
  clear r hm B0 Y0 D0
  go_enter Try.func38, Try.ntmps38
  go_wp2
  generalize (W.alloc (.cells #[.int .i64 0, .int .i64 0, .slice none 0 0] 25)).alloc (.cells #[.int .i64 w, .int .i64 n, .slice none 0 0] 25) = w0 at *
  have hs0 : W.heap.size + 1 < w0.heap.size := (unhide HD).1.1
  go_loopw [15] (fun i wr => ∃ (y l cp : Nat) (q' : Option Addr), y ≤ n ∧ i = .int .i64 y ∧ l = y * w ∧ OwnW wr (W.heap.size + 1) w n q' l cp ∧ wr.ownsRow (W.heap.size + 2) 4 1 (.slice q' l cp) l (bitsV (mkF t w) l) ∧ OwnY wr W.heap.size 0 0 none 0 0 ∧ Below W.heap.size W wr) (fun i _ => n - (intOf i).toNat)
  case atStart => exact ⟨0, 0, 0, none, Nat.zero_le _, rfl, (Nat.zero_mul _).symm, unhide HD, World.ownsRow_nil _ _ _ _, unhide HY, unhide HB⟩
  case round =>
    obtain ⟨y, l, cp, q', hy, rfl, hl, hD, hown, hY, hb⟩ := hrel
    have Hl := hide hl
    have HO := hide hown
    clear HB HY HD hl hown
    by_cases hlt : y < n
    · obtain ⟨a, o, rfl, l1, k1⟩ := ((unhide HR).keep hb).2.2.1.at hlt
      have q0 : (y : Int) < (n : Int) := by omega
      have q00 : (0 : Int) ≤ (y : Int) := by omega
      have HDr := hide hD
      have HYr := hide hY
      have Hbr := hide hb
      clear hD hY hb
      go_wp2
      clear k1 l1
      go_loopw [8] (fun i wr => ∃ (x cp : Nat) (q' : Option Addr), x ≤ w ∧ i = .int .i64 x ∧ OwnW wr (W.heap.size + 1) w n q' (l + x) cp ∧ wr.ownsRow (W.heap.size + 2) 4 1 (.slice q' (l + x) cp) (l + x) (bitsV (mkF t w) (l + x)) ∧ OwnY wr W.heap.size 0 0 none 0 0 ∧ Below W.heap.size W wr) (fun i _ => w - (intOf i).toNat)
      case atStart => exact ⟨0, cp, q', Nat.zero_le _, rfl, unhide HDr, unhide HO, unhide HYr, unhide Hbr⟩
      case round =>
        clear HDr HO HYr Hbr
        obtain ⟨x, cp, q', hx, rfl, DC, hown, hY, hb⟩ := hrel
        by_cases hlx : x < w
        · have qx : (x : Int) < (w : Int) := by omega
          have Hv := hide (show bitsV (mkF t w) (l + x + 1) = bitsV (mkF t w) (l + x) ++ [.bool ((x : Int) == (t y : Int))] by rw [bitsV_succ, unhide Hl]; unfold mkF; rw [mdF_at _ w y x hlx])
          have hlm : l + x < m := by rw [unhide Hl, unhide Hm]; exact row_lt hlx hlt
          have d3 := DC.1.2.2.2
          have f3 := DC.2
          have hdlt := DC.1.1
          obtain ⟨v, hv⟩ : ∃ v, ((x : Int) == (t y : Int)) = v := ⟨_, rfl⟩
          rw [hv] at Hv
          go_wp2_with (at_builtin; refine wpList_append_own _ rfl _ _ 23 rfl (W.heap.size + 2) 4 i0 (.bool false) 1 1 Try.underlying23 hi hz0 hz1 hz2 rfl (by decide) _ _ _ rfl (hown.alloc _) ⟨wr.heap.size, 0, none⟩ 1 1 [.bool v] rfl rfl (cell_one_new _ _ _) (by simp [Value.oneCell']) (by unfold maxLen; omega) (by omega) (by simp; omega) ?_)
          intro v' w4 hown' hgrow _
          have hbk : ∀ j, (Value.slice q' (l + x) cp).ownBlock = some j → W.heap.size + 2 ≤ j := fun j e => (hown.lt j e).1
          have S4 := (bal (o := .cells #[.bool v] 4) hb).grown hgrow (by have := hb.size; simp; omega) (fun k hk => by have := hbk k hk; omega)
          have D4 := (DC.keep (bal (o := .cells #[.bool v] 4) (Below.refl _ _))).grown hgrow (fun e => by have := hbk _ e.symm; omega)
          have Y4 := (hY.keep (bal (o := .cells #[.bool v] 4) (Below.refl _ _))).grown hgrow (fun e => by have := hbk _ e.symm; omega)
          obtain ⟨q2, cap2, rfl⟩ := own_form hown'
          have HS5 := hide (bset (p := ⟨W.heap.size + 1, 2, none⟩) (u := .slice q2 (l + x + 1) cap2) S4 (by dsimp only; omega))
          have HD5 := hide (D4.set2 q2 (l + x + 1) cap2)
          have HY5 := hide (Y4.grown (gset (World.grownBy.refl _ _) 2 (.slice q2 (l + x + 1) cap2)) (some_ne (show W.heap.size ≠ W.heap.size + 1 by omega)))
          have HO5 := hide (ownsRow_setCell_below (a := ⟨W.heap.size + 1, 2, none⟩) hown' (by dsimp only; omega) (.slice q2 (l + x + 1) cap2))
          clear hown hgrow d3 f3 DC hbk hown' S4 Y4 hY hb
          have d3 := D4.1.2.2.2
          have f3 := D4.2
          have hdl4 := D4.1.1
          clear D4
          go_wp2
          go_roundw
          case rel =>
            refine ⟨x + 1, cap2, q2, by omega, by go_num, unhide HD5, ?_, unhide HY5, unhide HS5⟩
            rw [show l + (x + 1) = l + x + 1 from rfl, unhide Hv]
            exact unhide HO5
          case measure => simp [intOf]; omega
        · obtain rfl : x = w := by omega
          have cl : ¬ ((x : Int) < (x : Int)) := by omega
          have HDr := hide DC
          have HYr := hide hY
          have Hbr := hide hb
          have HO := hide hown
          clear DC hown hY hb
          go_wp2
          go_roundw
          case rel => exact ⟨y + 1, l + x, cp, q', by omega, by go_num, by rw [unhide Hl, mul_step], unhide HDr, unhide HO, unhide HYr, unhide Hbr⟩
          case measure => simp [intOf]; omega
    · obtain rfl : y = n := by omega
      have cl : ¬ ((y : Int) < (y : Int)) := by omega
      obtain rfl : l = m := by rw [unhide Hl, unhide Hm, Nat.mul_comm]
      have HRt := hide (own_bs (unhide HO) rfl)
      have HF := hide (fun j (hj : j < W.heap.size + 2) => own_off (unhide HO) hj)
      obtain ⟨⟨-, u0, u1, u2⟩, f0, f1, f2⟩ := hY
      obtain ⟨-, d0, d1, d2⟩ := hD.1
      have Hb := hide hb
      clear hD hb HO
      go_wp2
      refine bodyPost_ret (v := tr w y q' l cp) (by simp [results, Try.results38, go_sem, u0, u1, u2]) rfl ⟨q', cp, rfl, ⟨⟨hw, hn, unhide Hm, ?_⟩, fun j hj => unhide HF j (by omega)⟩, bset (bset (bset (unhide Hb) (by dsimp only; omega)) (by dsimp only; omega)) (by dsimp only; omega)⟩
      exact (unhide HRt).grown (gput _ _ _ _) (unhide HF _ (by omega))
end Go.Proofs.Ytfbggbalnfbbgaa
