/-
  What Signs of the reference answers: a new row of the sixty-two signs.
-/
import Derived.Test.YtncjbmafefeajaaDoorPrint
import Derived.Lib.OthersKept
import Derived.Lib.OwnKind
namespace Go.Proofs.YtncjbmafefeajaaDoor
open Go.RowKit

/-- the text of the signs from the third one on -/
abbrev signText : ByteArray := { data := ([48, 49, 50, 51, 52, 53, 54, 55, 56, 57, 206, 177, 206, 178, 206, 179, 206, 180, 206, 181, 206, 182, 206, 183, 206, 184, 206, 185, 206, 186, 206, 187, 206, 188, 206, 189, 206, 190, 206, 191, 207, 128].append [207, 129, 207, 131, 207, 132, 207, 133, 207, 134, 207, 135, 207, 136, 207, 137, 97, 98, 99, 100, 101, 102, 103, 104, 105, 106, 107, 108, 109, 110, 111, 112, 113, 114, 115, 116, 117, 118, 119, 120, 121, 122]).toArray }
/-- where the n-th sign begins in it -/
def posOf (n : Nat) : Nat := if n ≤ 12 then n - 2 else if n ≤ 36 then 10 + 2 * (n - 12) else 58 + (n - 36)
def signV (c : Nat) : Value := .string ⟨(sb c).toArray⟩
def signCells (n : Nat) : List Value := (List.range n).map signV
theorem info9 : (Tryd.prog.info? 9).map (fun i => (i.zero, i.size, i.bytes)) = some (some (.string ⟨#[]⟩), 1, 16) := by kernel_rfl

theorem decoded : ∀ n, n < 62 → 2 ≤ n → Utf8.decode signText (posOf n) = ((sg n).toNat, posOf (n + 1) - posOf n) := by decide +kernel
theorem encoded : ∀ n : Nat, n < 62 → (Utf8.encode ((sg n).toNat : Int)).data = (sb n).toArray := by decide +kernel
theorem pos_lt : ∀ n, n < 62 → 2 ≤ n → posOf n < signText.size ∧ posOf n < posOf (n + 1) := by decide +kernel
theorem iter_ne {w : World} {B : Nat} {e : TypeId} {v : Value} {n k pos : Nat} {s : ByteArray} {xs : List Value} (h : w.ownsRow B e 1 v n xs) (hk : w.heap[k]? = some (.stringIter s pos)) : v.ownBlock ≠ some k := by
  intro e
  obtain ⟨c, fz, hc⟩ := Lib.ownsRow_kind h k e
  rw [hk] at hc
  cases hc
theorem iter_own {w : World} {B : Nat} {e : TypeId} {v : Value} {n k pos : Nat} {s : ByteArray} {xs : List Value} (h : w.ownsRow B e 1 v n xs) (hk : w.heap[k]? = some (.stringIter s pos)) (pos' : Nat) : (w.iterAt k s pos').ownsRow B e 1 v n xs :=
  h.kept (row := some k) ⟨rfl, rfl, rfl, by rw [Lib.iterAt_size]; omega, fun j _ hj => Lib.iterAt_other w k j s pos' (fun e => hj (by rw [e]))⟩ (Or.inr (iter_ne h hk))
theorem own_slice {B : Nat} {e : TypeId} {n : Nat} {xs : List Value} {v : Value} {w : World} (h : w.ownsRow B e 1 v n xs) (hm : 1 ≤ n) : ∃ g cap, v = .slice (some ⟨g, 0, none⟩) n cap := by
  rcases h.2 with ⟨_, h0⟩ | ⟨g, cap, cur, hv, _⟩
  · omega
  · exact ⟨g, cap, hv⟩
theorem signCells_succ (n : Nat) : signCells (n + 1) = signCells n ++ [signV n] := by simp [signCells, List.range_succ]

set_option maxHeartbeats 4000000 in
set_option maxRecDepth 100000 in
theorem signs_any (w : World) : Calls Tryd.prog 11 #[] w fun e w' => ∃ g cap, e = .returned (.slice (some ⟨g, 0, none⟩) 62 cap) ∧ w'.ownsRow w.heap.size 9 1 (.slice (some ⟨g, 0, none⟩) 62 cap) 62 (signCells 62) ∧ Below w.heap.size w w' := by
  obtain ⟨i0, hi, hz0, hz1, hz2⟩ := info_parts info9
  have hdec := hide decoded
  go_enter Tryd.func11, Tryd.ntmps11
  go_wp2
  go_loopw [1] (fun v wr => ∃ n g cap : Nat, v = .slice (some ⟨g, 0, none⟩) n cap ∧ 2 ≤ n ∧ n ≤ 62 ∧ wr.ownsRow w.heap.size 9 1 (.slice (some ⟨g, 0, none⟩) n cap) n (signCells n) ∧ wr.heap[w.heap.size + 1]? = some (.stringIter signText (posOf n)) ∧ Below w.heap.size w wr) (fun _ wr => signText.size - wr.iterPos (w.heap.size + 1))
  case atStart =>
    refine ⟨2, w.heap.size, 2, rfl, by omega, by omega, ⟨rfl, Or.inr ⟨w.heap.size, 2, #[signV 0, signV 1], rfl, Nat.le_refl _, ?_, by omega, by unfold maxLen; omega, rfl, rfl⟩⟩, ?_, ?_⟩
    · rw [show signV 0 = .string ⟨#[194, 183]⟩ from rfl, show signV 1 = .string ⟨#[226, 150, 136]⟩ from rfl]
      refine (Lib.alloc_old _ _ _ (by rw [World.size_alloc]; omega)).trans ?_
      exact Array.getElem?_push_size
    · have := World.iter_heap (w.alloc (.cells #[.string ⟨#[194, 183]⟩, .string ⟨#[226, 150, 136]⟩] 9)) signText 0
      rw [World.size_alloc] at this
      exact this
    · exact bal (bal (Below.refl _ _))
  case round =>
    obtain ⟨n, g, cap, rfl, hn2, hn, hown, hit, hbel⟩ := hrel
    have hsz : w.heap.size + 1 < wr.heap.size := (Array.getElem?_eq_some_iff.1 hit).1
    by_cases hp : n < 62
    · have hnx : ∀ ty, (Instr.next (.pointer (some ⟨w.heap.size + 1, 0, none⟩)) true ty).run Tryd.prog wr = _ := fun ty => Lib.run_next_any_at wr (w.heap.size + 1) signText (posOf n) ty hit (pos_lt n hp hn2).1
      rw [unhide hdec n hp hn2] at hnx
      have hpp := pos_lt n hp hn2
      have hps : posOf n + (posOf (n + 1) - posOf n) = posOf (n + 1) := by omega
      rw [show ((((sg n).toNat, posOf (n + 1) - posOf n) : Nat × Nat).1) = (sg n).toNat from rfl, show ((((sg n).toNat, posOf (n + 1) - posOf n) : Nat × Nat).2) = posOf (n + 1) - posOf n from rfl, hps] at hnx
      have henc : Utf8.encode (((sg n).toNat : Nat) : Int) = ⟨(sb n).toArray⟩ := by
        have := encoded n hp
        cases h : Utf8.encode (((sg n).toNat : Nat) : Int)
        rw [h] at this
        exact congrArg ByteArray.mk this
      have Hlt := hide hpp
      clear hpp hps
      generalize (sg n).toNat = r at *
      have hown2 := iter_own hown hit (posOf (n + 1))
      have hit2 := Lib.iterAt_heap wr (w.heap.size + 1) signText (posOf n) (posOf (n + 1)) hit
      have hbel2 := Lib.below_iterAt hbel (k := w.heap.size + 1) (by omega) signText (posOf (n + 1))
      generalize hwq : wr.iterAt (w.heap.size + 1) signText (posOf (n + 1)) = wq at *
      have hszq : w.heap.size + 1 < wq.heap.size := (Array.getElem?_eq_some_iff.1 hit2).1
      go_wp2_with (at_builtin; refine wpList_append_own _ rfl _ _ 38 rfl w.heap.size 9 i0 (.string ⟨#[]⟩) 1 16 Tryd.underlying38 hi hz0 hz1 hz2 rfl (by decide) _ _ _ rfl (hown2.alloc _) ⟨wq.heap.size, 0, none⟩ 1 1 [signV n] rfl rfl ?at_ ?one_ ?max_ ?fit_ ?base_ ?_)
      case base_ => rw [show (wq.alloc _).heap.size = wq.heap.size + 1 by simp]; omega
      case fit_ => omega
      case max_ => exact Nat.le_trans (show n + 1 ≤ 65536 by omega) (by decide)
      case one_ => exact fun u hu => by rw [List.mem_singleton.1 hu]; rfl
      case at_ =>
        intro j u hj
        cases j with
        | succ j => simp at hj
        | zero =>
          have hu : signV n = u := Option.some.inj hj
          rw [← hu]
          simp [Addr.add, signV]
      intro v' w2 hown' hgrow _
      have hit3 : w2.heap[w.heap.size + 1]? = some (.stringIter signText (posOf (n + 1))) := by
        rw [hgrow.block _ (by simp; omega) (fun e => iter_ne hown2 hit2 e.symm), Lib.alloc_old wq _ _ hszq]
        exact hit2
      have hbel3 := (hbel2.alloc (by omega) _).grown hgrow (by simp; omega) (fun k hk => (hown2.lt k hk).1)
      rw [← signCells_succ] at hown'
      obtain ⟨g', cap', rfl⟩ := own_slice hown' (by omega)
      go_wp2
      go_roundw
      case rel => exact ⟨n + 1, g', cap', rfl, by omega, by omega, hown', hit3, hbel3⟩
      case measure =>
        have := unhide Hlt
        simp only [World.iterPos, hit3, hit]
        omega
    · have e : n = 62 := by omega
      subst e
      have hnx : ∀ ty, (Instr.next (.pointer (some ⟨w.heap.size + 1, 0, none⟩)) true ty).run Tryd.prog wr = _ := fun ty => Lib.run_next_end_at wr (w.heap.size + 1) signText (posOf 62) ty hit (by decide)
      go_wp2
      go_ret
      exact ⟨g, cap, rfl, hown, hbel⟩
end Go.Proofs.YtncjbmafefeajaaDoor
