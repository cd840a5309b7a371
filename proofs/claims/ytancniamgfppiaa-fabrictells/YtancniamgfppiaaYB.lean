/-
  translate, translateBed; slices.Sort of a row of numbers.
-/
import Derived.Test.YtancniamgfppiaaYA
import Derived.Test.YtancniamgfppiaaShelf
import Derived.Sort.OwnSortedInts
namespace Go.Proofs.Ytancniamgfppiaa
open Go.RowKit

/-- the first ones are told by other numbers -/
def trL (xs : List Nat) (f : Nat → Nat) (i : Nat) : List Nat := (xs.take i).map f ++ xs.drop i
theorem trL_zero (xs : List Nat) (f : Nat → Nat) : trL xs f 0 = xs := by simp [trL]
theorem trL_all (xs : List Nat) (f : Nat → Nat) : trL xs f xs.length = xs.map f := by simp [trL]
theorem trL_len (xs : List Nat) (f : Nat → Nat) (i : Nat) : (trL xs f i).length = xs.length := by
  simp [trL]
  omega
theorem trL_here {xs : List Nat} {f : Nat → Nat} {i : Nat} (h : i < xs.length) : (trL xs f i).getD i 0 = xs[i] := by
  unfold trL
  have e : ((xs.take i).map f).length = i := by simp; omega
  rw [List.getD_eq_getElem?_getD, List.getElem?_append_right (by omega), e, List.getElem?_drop, Nat.sub_self, Nat.add_zero, List.getElem?_eq_getElem h]
  rfl
theorem trL_next {xs : List Nat} {f : Nat → Nat} {i : Nat} (h : i < xs.length) : (trL xs f i).set i (f xs[i]) = trL xs f (i + 1) := by
  unfold trL
  have e : ((xs.take i).map f).length = i := by simp; omega
  rw [List.set_append_right _ _ (by omega), e, Nat.sub_self, List.drop_eq_getElem_cons h, List.set_cons_zero, List.take_add_one, List.getElem?_eq_getElem h, List.map_append, List.append_assoc]
  rfl

set_option maxRecDepth 100000 in
set_option maxHeartbeats 4000000 in
theorem translate_any {W : World} {B C g0 k cp : Nat} {u : Value} {xs : List Nat} {f : Nat → Nat} (hx : NR W B u xs) (hn : NR W C (.slice (some ⟨g0, 0, none⟩) k cp) (rgL k f)) (hne : u.ownBlock ≠ some g0) (hin : ∀ y, y ∈ xs → y < k) (hl : xs.length ≤ 100000) :
    Calls Try.prog 36 #[u, .slice (some ⟨g0, 0, none⟩) k cp] W fun e w' => e = .returned (.tuple #[]) ∧ NR w' B u (xs.map f) ∧ Kept (fun i => u.ownBlock = some i) W w' := by
  rcases Nat.eq_zero_or_pos xs.length with h0 | h0
  · obtain rfl : xs = [] := List.eq_nil_of_length_eq_zero h0
    obtain ⟨uq, uc, rfl⟩ := hx.form
    have HX := hide hx
    clear hx hn hne hin
    go_enter Try.func36, Try.ntmps36
    go_wp2
    go_loopw [8] (fun i wr => i = .int .i64 0 ∧ wr = W) (fun _ _ => 0)
    case atStart => exact ⟨rfl, rfl⟩
    case round =>
      obtain ⟨rfl, rfl⟩ := hrel
      first | go_end0 | (go_wp2; go_end0)
      exact ⟨rfl, unhide HX, Kept.refl _ _⟩
  · obtain ⟨g, uc, rfl⟩ := own_slice hx h0
    have HX := hide hx
    have HN := hide hn
    have Hin := hide (show ∀ i (h : i < xs.length), xs[i] < k from fun i h => hin _ (List.getElem_mem h))
    have Hne := hide (show g0 ≠ g from fun e => hne (by rw [e]; rfl))
    clear hx hn hin hne
    obtain ⟨n, hn⟩ : ∃ n, n = xs.length := ⟨_, rfl⟩
    have Hn := hide hn
    rw [← hn] at hl h0 HX
    rw [← hn]
    clear hn
    go_enter Try.func36, Try.ntmps36
    go_wp2
    go_loopw [8] (fun i wr => ∃ x : Nat, x ≤ n ∧ i = .int .i64 x ∧ NR wr B (.slice (some ⟨g, 0, none⟩) n uc) (trL xs f x) ∧ Kept (fun i => (Value.slice (some ⟨g, 0, none⟩) n uc).ownBlock = some i) W wr) (fun i _ => n - (intOf i).toNat)
    case atStart => exact ⟨0, Nat.zero_le _, rfl, by rw [trL_zero]; exact unhide HX, Kept.refl _ _⟩
    case round =>
      clear HX
      obtain ⟨x, hx, rfl, hX, hK⟩ := hrel
      have HX := hide hX
      have HK := hide hK
      clear hX hK
      by_cases hlt : x < n
      · have p1 : (x : Int) < (n : Int) := by omega
        have p2 : (0 : Int) ≤ (x : Int) := by omega
        have hxl : x < xs.length := by rw [← unhide Hn]; exact hlt
        have hlen : (trL xs f x).length = n := by rw [trL_len, ← unhide Hn]
        obtain ⟨d1, d2⟩ := (unhide HX).cellFr hlen hlt
        rw [trL_here hxl] at d1
        have hy := unhide Hin x hxl
        have HN2 := (unhide HN).but (unhide HK) (fun i hi q => unhide Hne (by
          have e1 : g0 = i := by simpa [Value.ownBlock] using hi
          have e2 : g = i := by simpa [Value.ownBlock] using q
          rw [e1, e2]))
        obtain ⟨d3, -⟩ := HN2.cellFr (rgL_len _ _) hy
        rw [rgL_get f hy] at d3
        have HX2 := hide ((unhide HX).put hlen x (f xs[x]))
        rw [trL_next hxl] at HX2
        have HK2 := hide ((unhide HK).set (b := g) x (.int .i64 ((f xs[x] : Nat) : Int)) (.inl rfl))
        clear HN2 hlen
        obtain ⟨y, hye⟩ : ∃ y, y = xs[x] := ⟨_, rfl⟩
        rw [← hye] at hy d1 d3 HX2 HK2
        obtain ⟨z, hze⟩ : ∃ z, z = f y := ⟨_, rfl⟩
        rw [← hze] at d3 HX2 HK2
        clear hye hze hxl
        have p3 : (0 : Int) ≤ (y : Int) := by omega
        have p4 : (y : Int) < (k : Int) := by omega
        go_wp2
        go_roundw
        case rel => exact ⟨x + 1, by omega, by go_num, unhide HX2, unhide HK2⟩
        case measure => simp [intOf]; omega
      · obtain rfl : n = x := by omega
        have cl : ¬ ((n : Int) < (n : Int)) := by omega
        first | go_end0 | (go_wp2; go_end0)
        refine ⟨rfl, ?_, unhide HK⟩
        have := unhide HX
        rw [unhide Hn, trL_all] at this
        rw [unhide Hn]
        exact this

theorem sorted_soL (l : List Nat) : ((l.map (fun k : Nat => (k : Int))).mergeSort fun x y => decide (x ≤ y)) = (soL l).map (fun k : Nat => (k : Int)) := by
  have hp := List.mergeSort_perm (l.map (fun k : Nat => (k : Int))) (fun x y => decide (x ≤ y))
  have hso := List.pairwise_mergeSort (le := fun x y => decide ((x : Int) ≤ y)) (by intro a b c h1 h2; simp at *; omega) (by intro a b; simp; omega) (l.map (fun k : Nat => (k : Int)))
  refine List.Perm.eq_of_pairwise (le := fun a b : Int => a ≤ b) (fun _ _ _ _ h1 h2 => Int.le_antisymm h1 h2) ?_ ?_ (hp.trans ((soL_perm l).symm.map _))
  · exact hso.imp (by intro a b h; simpa using h)
  · rw [List.pairwise_map]
    exact (soL_sorted l).imp (by intro a b h; omega)
open Go.Sort in
theorem sort_any {V : World} {B : Nat} {u : Value} {l : List Nat} (hown : NR V B u l) (h1 : 1 ≤ l.length) (h128 : l.length ≤ 100000) :
    Calls Try.prog 38 #[u] V fun e V' => e = .returned (.tuple #[]) ∧ NR V' B u (soL l) ∧ Kept (fun i => u.ownBlock = some i) V V' := by
  obtain ⟨g, cp, rfl⟩ := own_slice hown h1
  have hlt := (World.ownsRow.lt hown g rfl).2
  have hzl : (l.map (fun k : Nat => (k : Int))).length = l.length := by simp
  rcases hown.2 with ⟨h', _⟩ | ⟨g', cap', cur, h', hbase, hg, h1, h2, h3, htake⟩
  · simp at h'
  simp only [Value.slice.injEq, Option.some.injEq, Addr.mk.injEq, and_true, true_and] at h'
  obtain ⟨rfl, rfl⟩ := h'
  have ht : cur.toList.take (l.map (fun k : Nat => (k : Int))).length = (l.map (fun k : Nat => (k : Int))).map (Value.int .i64) := by
    rw [hzl, ← Nat.mul_one l.length, htake, numsV, List.map_map]; rfl
  have hH := holds_of_blockI hg ht
  have key := Try.slices_Sort_int g 0 cp (l.map (fun k : Nat => (k : Int))) V hH hlt (by rw [hzl]; omega)
  rw [hzl, sorted_soL] at key
  have hLl : (soL l).length = l.length := (soL_perm l).length_eq
  refine key.mono ?_
  rintro e V' ⟨rfl, k, os, rfl⟩
  have ho := ownsRow_sortedI (w := V) (base := B) (g := g) (cap := cp) (n := k) (e := 3) (os := os) (cur := cur) (ss := l.map (fun k : Nat => (k : Int))) (ts := (soL l).map (fun k : Nat => (k : Int))) (by simp; omega) hbase hg (by rw [hzl]; exact h1) h2 h3
  refine ⟨rfl, ?_, grown_kept (row := some g) (grownBy_sortedI _) (fun r q => .inl (by cases q; rfl))⟩
  rw [hzl] at ho
  have e : numsV (soL l) = ((soL l).map (fun k : Nat => (k : Int))).map (Value.int .i64) := by rw [numsV, List.map_map]; rfl
  unfold NR
  rw [hLl, e]
  exact ho
end Go.Proofs.Ytancniamgfppiaa
