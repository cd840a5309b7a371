/-
  alongYarns: of each loop the number that it has along the yarns.
-/
import Derived.Test.YtancniamgfppiaaNM
import Derived.Test.YtancniamgfppiaaSmA
import Derived.OwnWalk
namespace Go.Proofs.Ytancniamgfppiaa
open Go.RowKit

theorem NR.put {W : World} {B g n cap : Nat} {xs : List Nat} (h : NR W B (.slice (some ⟨g, 0, none⟩) n cap) xs) (hn : xs.length = n) (j y : Nat) : NR (W.setCell ⟨g, j, none⟩ (.int .i64 (y : Int))) B (.slice (some ⟨g, 0, none⟩) n cap) (xs.set j y) := by
  subst hn
  have := (World.ownsRow.stored h j (.int .i64 (y : Int))).1
  unfold NR
  rw [List.length_set]
  have e : numsV (xs.set j y) = (numsV xs).set j (.int .i64 (y : Int)) := by unfold numsV; rw [List.map_set]
  rw [e]
  exact this
theorem NR.cellFr {W : World} {B g n cap j : Nat} {xs : List Nat} (h : NR W B (.slice (some ⟨g, 0, none⟩) n cap) xs) (hn : xs.length = n) (hj : j < n) : W.cell? ⟨g, j, none⟩ = some (.int .i64 ((xs.getD j 0 : Nat) : Int)) ∧ W.frozen? ⟨g, j, none⟩ = false := by
  subst hn
  refine ⟨?_, World.ownsRow.frozenAt h j⟩
  rw [World.ownsRow.cellAt h j (by simpa using hj)]
  simp [numsV, hj]
/-- numbers given by places -/
def rgL (n : Nat) (f : Nat → Nat) : List Nat := (List.range n).map f
theorem rgL_len (n : Nat) (f : Nat → Nat) : (rgL n f).length = n := by simp [rgL]
theorem rgL_get {n j : Nat} (f : Nat → Nat) (h : j < n) : (rgL n f).getD j 0 = f j := by
  unfold rgL
  rw [List.getD_eq_getElem?_getD, List.getElem?_map, List.getElem?_range h]
  rfl
theorem rgL_set {n j y : Nat} {f g : Nat → Nat} (hj : j < n) (h0 : g j = y) (h1 : ∀ i, i < n → i ≠ j → g i = f i) : (rgL n f).set j y = rgL n g := by
  apply List.ext_getElem?
  intro i
  rw [List.getElem?_set, rgL_len]
  rcases Nat.lt_or_ge i n with d | d
  · by_cases e : j = i
    · subst e
      rw [if_pos rfl, if_pos hj]
      simp [rgL, hj, h0]
    · rw [if_neg e]
      simp [rgL, d, h1 i d (fun q => e q.symm)]
  · rw [if_neg (by omega), List.getElem?_eq_none (by rw [rgL_len]; exact d), List.getElem?_eq_none (by rw [rgL_len]; exact d)]
theorem rgL_congr {n : Nat} {f g : Nat → Nat} (h : ∀ i, i < n → f i = g i) : rgL n f = rgL n g := by
  unfold rgL
  exact List.map_congr_left (fun i hi => h i (by simpa using hi))

/-- which numbers stand there so far -/
def nsF (c : Nat → Int) (n K i : Nat) : Nat → Nat := fun j => if c j < (K : Int) ∨ c j = (K : Int) ∧ j < i then nm c n j else 0
theorem ns_zero {c : Nat → Int} {n : Nat} (h : Cs c n) : rgL n (nsF c n 0 0) = List.replicate n 0 := by
  apply List.ext_getElem?
  intro i
  rcases Nat.lt_or_ge i n with d | d
  · have := h i d
    rw [List.getElem?_replicate, if_pos d]
    unfold rgL
    rw [List.getElem?_map, List.getElem?_range d]
    simp [nsF]
    omega
  · rw [List.getElem?_eq_none (by rw [rgL_len]; exact d), List.getElem?_eq_none (by simpa using d)]
theorem ns_hit {c : Nat → Int} {n K i : Nat} (hi : i < n) (hk : c i = (K : Int)) : (rgL n (nsF c n K i)).set i (nm c n i) = rgL n (nsF c n K (i + 1)) := by
  refine rgL_set hi ?_ (fun j hj hne => ?_)
  · unfold nsF
    rw [if_pos (.inr ⟨hk, by omega⟩)]
  · unfold nsF
    have e : (c j < (K : Int) ∨ c j = (K : Int) ∧ j < i + 1) ↔ (c j < (K : Int) ∨ c j = (K : Int) ∧ j < i) := by omega
    by_cases q : c j < (K : Int) ∨ c j = (K : Int) ∧ j < i
    · rw [if_pos (e.2 q), if_pos q]
    · rw [if_neg (fun r => q (e.1 r)), if_neg q]
theorem ns_miss {c : Nat → Int} {n K i : Nat} (hk : c i ≠ (K : Int)) : rgL n (nsF c n K i) = rgL n (nsF c n K (i + 1)) := by
  refine rgL_congr (fun j hj => ?_)
  unfold nsF
  have e : (c j < (K : Int) ∨ c j = (K : Int) ∧ j < i + 1) ↔ (c j < (K : Int) ∨ c j = (K : Int) ∧ j < i) := by
    by_cases d : j = i
    · subst d; omega
    · omega
  by_cases q : c j < (K : Int) ∨ c j = (K : Int) ∧ j < i
  · rw [if_pos (e.2 q), if_pos q]
  · rw [if_neg (fun r => q (e.1 r)), if_neg q]
theorem ns_next (c : Nat → Int) (n K : Nat) : rgL n (nsF c n K n) = rgL n (nsF c n (K + 1) 0) := by
  refine rgL_congr (fun j hj => ?_)
  unfold nsF
  have e : (c j < ((K + 1 : Nat) : Int) ∨ c j = ((K + 1 : Nat) : Int) ∧ j < 0) ↔ (c j < (K : Int) ∨ c j = (K : Int) ∧ j < n) := by omega
  by_cases q : c j < (K : Int) ∨ c j = (K : Int) ∧ j < n
  · rw [if_pos (e.2 q), if_pos q]
  · rw [if_neg (fun r => q (e.1 r)), if_neg q]
theorem ns_end {c : Nat → Int} {n : Nat} (h : Cs c n) : rgL n (nsF c n 8 0) = rgL n (nm c n) := by
  refine rgL_congr (fun j hj => ?_)
  have := h j hj
  unfold nsF
  rw [if_pos (.inl (by omega))]
/-- the next number -/
def nxN (c : Nat → Int) (n K i : Nat) : Nat := (ixL c n K).length + cn (eqB c K) i
theorem nx_le {c : Nat → Int} {n K i : Nat} (h : Cs c n) (hi : i ≤ n) : nxN c n K i ≤ 2 * n := by
  unfold nxN
  rw [ixL_len h]
  have := cn_le (fun j => decide (c j < (K : Int))) n
  have := cn_le (eqB c K) i
  omega
theorem nx_hit {c : Nat → Int} {n K i : Nat} (hk : c i = (K : Int)) : nxN c n K (i + 1) = nxN c n K i + 1 ∧ nxN c n K i = nm c n i := by
  refine ⟨?_, (nm_here hk).symm⟩
  unfold nxN
  simp only [cn]
  rw [if_pos (by simp [eqB, hk])]
  omega
theorem nx_miss {c : Nat → Int} {n K i : Nat} (hk : c i ≠ (K : Int)) : nxN c n K (i + 1) = nxN c n K i := by
  unfold nxN
  simp only [cn]
  rw [if_neg (by simpa [eqB] using hk)]
  rfl
theorem nx_next (c : Nat → Int) (n K : Nat) : nxN c n (K + 1) 0 = nxN c n K n := by
  unfold nxN
  simp only [ixL, cn, List.length_append, lsF_len]
  omega

theorem carF_at {ls : List (Int × List Nat)} {j : Nat} (h : j < ls.length) : ls[j].1 = carF ls j := by
  unfold carF
  rw [List.getD_eq_getElem?_getD, List.getElem?_eq_getElem h]
  rfl
theorem thrF_at {ls : List (Int × List Nat)} {j : Nat} (h : j < ls.length) : ls[j].2 = thrF ls j := by
  unfold thrF
  rw [List.getD_eq_getElem?_getD, List.getElem?_eq_getElem h]
  rfl

set_option maxRecDepth 100000 in
set_option maxHeartbeats 4000000 in
theorem along_any {W : World} {B : Nat} {v : Value} {ls : List (Int × List Nat)} (h : LPR W B v ls) (hC : Cs (carF ls) ls.length) (hl : ls.length ≤ 4096) :
    Calls Try.prog 17 #[v] W fun e w' => ∃ g cp, e = .returned (.slice (some ⟨g, 0, none⟩) ls.length cp) ∧ NR w' W.heap.size (.slice (some ⟨g, 0, none⟩) ls.length cp) (rgL ls.length (nm (carF ls) ls.length)) ∧ Below W.heap.size W w' := by
  obtain ⟨q0, cp0, hv⟩ := h.frm
  have HP := hide (show ∀ V, Below W.heap.size W V → ∀ x, x < ls.length → ∃ g s m t, q0 = some ⟨g, 0, none⟩ ∧ V.cell? ⟨g, x * 2, none⟩ = some (.int .i64 (carF ls x)) ∧ V.cell? ⟨g, x * 2 + 1, none⟩ = some (.slice s m t) from fun V hV x hx => by
    obtain ⟨g, cap, u, e1, e2, e3, e4⟩ := (h.keep hV).at hx
    rw [hv] at e1
    simp only [Value.slice.injEq] at e1
    obtain ⟨s, t, rfl⟩ := e4.form
    exact ⟨g, s, _, t, e1.1, by rw [e2, carF_at hx], e3⟩)
  subst hv
  clear h
  have HC := hide hC
  obtain ⟨n, hn⟩ : ∃ n, n = ls.length := ⟨_, rfl⟩
  obtain ⟨c, hc⟩ : ∃ c, c = carF ls := ⟨_, rfl⟩
  rw [← hn, ← hc] at HP HC
  rw [← hn] at hl
  rw [← hn, ← hc]
  clear hn hc hC
  obtain ⟨i0, hi, hz0, hz1, hz2⟩ := info_parts info3
  have hby : i0.bytes * n ≤ 281474976710656 := by rw [hz2]; omega
  have hml : n ≤ maxLen := by unfold maxLen; omega
  go_enter Try.func17, Try.ntmps17
  go_wp2_with (refine wpList_make_full _ rfl _ _ 27 rfl W.heap.size 3 i0 _ 1 Try.underlying27 hi hz0 hz1 .i64 .i64 (n : Int) (n : Int) n rfl rfl rfl rfl hby hml (Nat.le_refl _) ?_)
  intro w1 hrow hgrow
  have HB1 := hide ((Below.refl W.heap.size W).grown hgrow (Nat.le_refl _) (fun k hk => by cases hk))
  have HN1 := hide (show NR w1 W.heap.size (.slice (some ⟨W.heap.size, 0, none⟩) n n) (rgL n (nsF c n 0 0)) from by
    rw [ns_zero (unhide HC)]
    unfold NR
    rw [List.length_replicate]
    have e : numsV (List.replicate n 0) = (madeCells #[Value.int .i64 0] n).toList := by
      rw [toList_madeCells_one]
      simp [numsV]
    rw [e]
    exact hrow)
  obtain ⟨g, hg⟩ : ∃ g, g = W.heap.size := ⟨_, rfl⟩
  rw [← hg] at HN1
  rw [← hg]
  have Hg := hide hg
  clear hrow hgrow hg hi hz0 hz1 hz2 hby
  have HB2 := hide (show Below g W w1 by rw [unhide Hg]; exact unhide HB1)
  clear HB1
  go_wp2
  go_loopw [4, 11] (fun nv i wr => ∃ K x : Nat, K ≤ 8 ∧ x = nxN c n K 0 ∧ nv = .int .i64 x ∧ i = .int .i64 K ∧ NR wr g (.slice (some ⟨g, 0, none⟩) n n) (rgL n (nsF c n K 0)) ∧ Below g W wr) (fun _ i _ => 8 - (intOf i).toNat)
  case atStart => exact ⟨0, 0, Nat.zero_le _, rfl, rfl, rfl, unhide HN1, unhide HB2⟩
  case round =>
    clear HN1 HB2
    obtain ⟨K, x, hK, hx, rfl, rfl, hN, hB⟩ := hrel
    have HN := hide hN
    have HB := hide hB
    have Hx := hide hx
    clear hN hB hx
    by_cases hlt : K < 8
    · have q1 : (K : Int) < 8 := by omega
      go_wp2
      go_loopw [4, 16] (fun nv i wr => ∃ j x : Nat, j ≤ n ∧ x = nxN c n K j ∧ nv = .int .i64 x ∧ i = .int .i64 j ∧ NR wr g (.slice (some ⟨g, 0, none⟩) n n) (rgL n (nsF c n K j)) ∧ Below g W wr) (fun _ i _ => n - (intOf i).toNat)
      case atStart => exact ⟨0, x, Nat.zero_le _, unhide Hx, rfl, rfl, unhide HN, unhide HB⟩
      case round =>
        clear HN HB Hx
        obtain ⟨j, y, hj, hy, rfl, rfl, hN, hB⟩ := hrel
        have HN := hide hN
        have HB := hide hB
        have Hy := hide hy
        clear hN hB hy
        by_cases hjn : j < n
        · have p1 : (j : Int) < (n : Int) := by omega
          have p2 : (0 : Int) ≤ (j : Int) := by omega
          obtain ⟨lg, s, m, t, rfl, e1, e2⟩ := unhide HP wr (by rw [← unhide Hg]; exact unhide HB) j hjn
          have HB3 := hide ((unhide HB).alloc (by have := (World.ownsRow.lt (unhide HN) g rfl).2; omega) (.cells #[.int .i64 (c j), .slice s m t] 43))
          have HN3 := hide ((unhide HN).keep (bnew wr (.cells #[.int .i64 (c j), .slice s m t] 43)))
          have hyb : y ≤ 2 * n := by rw [unhide Hy]; exact nx_le (unhide HC) hj
          by_cases hk : c j = (K : Int)
          · have hkk : (c j == (K : Int)) = true := by simp [hk]
            have e6 := nx_hit (n := n) hk
            have Hn2 := hide (show y + 1 = nxN c n K (j + 1) by rw [unhide Hy]; exact e6.1.symm)
            have HN4 := hide (show NR ((wr.alloc (.cells #[.int .i64 (c j), .slice s m t] 43)).setCell ⟨g, j, none⟩ (.int .i64 (y : Int))) g (.slice (some ⟨g, 0, none⟩) n n) (rgL n (nsF c n K (j + 1))) from by
              have := (unhide HN3).put (rgL_len _ _) j y
              rw [show y = nm c n j by rw [unhide Hy]; exact e6.2, ns_hit hjn hk] at this
              rw [show y = nm c n j by rw [unhide Hy]; exact e6.2]
              exact this)
            have HB4 := hide (show Below g W ((wr.alloc (.cells #[.int .i64 (c j), .slice s m t] 43)).setCell ⟨g, j, none⟩ (.int .i64 (y : Int))) from (unhide HB3).setCell (Nat.le_refl _) _)
            obtain ⟨d1, d2⟩ := (unhide HN3).cellFr (rgL_len _ _) hjn
            obtain ⟨cj, hcj⟩ : ∃ cj, cj = c j := ⟨_, rfl⟩
            rw [← hcj] at hkk d1 d2 e1 HB3 HN3 HN4 HB4
            have x0 : (wr.alloc (.cells #[.int .i64 cj, .slice s m t] 43)).cell? ⟨wr.heap.size, 0, none⟩ = some (.int .i64 cj) := by simp [go_sem]
            clear hk e6 hcj
            go_upto_region 9 with fail
            generalize wr.alloc (.cells #[.int .i64 cj, .slice s m t] 43) = w3 at *
            go_wp2
            go_roundw
            case rel => exact ⟨j + 1, y + 1, by omega, unhide Hn2, by go_num, by go_num, unhide HN4, unhide HB4⟩
            case measure => simp [intOf]; omega
          · have hkk : (c j == (K : Int)) = false := by simpa using hk
            have Hn2 := hide (show y = nxN c n K (j + 1) by rw [unhide Hy]; exact (nx_miss hk).symm)
            have HN4 := hide (show NR (wr.alloc (.cells #[.int .i64 (c j), .slice s m t] 43)) g (.slice (some ⟨g, 0, none⟩) n n) (rgL n (nsF c n K (j + 1))) from by rw [← ns_miss hk]; exact unhide HN3)
            obtain ⟨cj, hcj⟩ : ∃ cj, cj = c j := ⟨_, rfl⟩
            rw [← hcj] at hkk e1 HB3 HN4
            clear hk hcj HN3
            go_upto_region 9 with fail
            go_wp2
            go_roundw
            case rel => exact ⟨j + 1, y, by omega, unhide Hn2, rfl, by go_num, unhide HN4, unhide HB3⟩
            case measure => simp [intOf]; omega
        · obtain rfl : n = j := by omega
          have cl : ¬ ((n : Int) < (n : Int)) := by omega
          have HN5 := hide (show NR wr g (.slice (some ⟨g, 0, none⟩) n n) (rgL n (nsF c n (K + 1) 0)) from by rw [← ns_next]; exact unhide HN)
          have Hn5 := hide (show y = nxN c n (K + 1) 0 by rw [nx_next]; exact unhide Hy)
          clear HN Hy
          go_wp2
          go_roundw
          case rel => exact ⟨K + 1, y, by omega, unhide Hn5, rfl, by go_num, unhide HN5, unhide HB⟩
          case measure => simp [intOf]; omega
    · obtain rfl : K = 8 := by omega
      go_wp2
      go_ret
      refine ⟨g, n, rfl, ?_, ?_⟩
      · rw [← ns_end (unhide HC), ← unhide Hg]; exact unhide HN
      · rw [← unhide Hg]; exact unhide HB
end Go.Proofs.Ytancniamgfppiaa
