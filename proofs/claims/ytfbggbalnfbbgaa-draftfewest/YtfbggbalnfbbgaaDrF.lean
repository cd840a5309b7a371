/-
  firsts; the numbers of rows alike, once more.
-/
import Derived.Test.YtfbggbalnfbbgaaDrE
namespace Go.Proofs.Ytfbggbalnfbbgaa
open Go.RowKit Go.Shelf

/-- the places at which each number stands first -/
def fsL (t : Nat → Nat) : Nat → List Nat
  | 0 => []
  | k + 1 => if t k = (fsL t k).length then fsL t k ++ [k] else fsL t k
theorem fsL_len (t : Nat → Nat) (k : Nat) : (fsL t k).length ≤ k := by
  induction k with
  | zero => simp [fsL]
  | succ k ih => simp only [fsL]; split
                 · simp; omega
                 · omega
/-- whole numbers, as a row has them -/
def lsV (l : List Nat) : List Value := l.map fun k => Value.int .i64 ((k : Nat) : Int)
theorem lsV_snoc (l : List Nat) (k : Nat) : lsV (l ++ [k]) = lsV l ++ [.int .i64 ((k : Nat) : Int)] := by simp [lsV]
theorem own_ls {W : World} {B m cap : Nat} {q : Option Addr} {l : List Nat} (h : W.ownsRow B 3 1 (.slice q m cap) m (lsV l)) (hm : m = l.length) : Is W q m (fun k => ((l.getD k 0 : Nat) : Int)) := by
  rcases h.2 with ⟨hv, h0⟩ | ⟨g, c, cur, hv, _⟩
  · exact .inl h0
  · cases hv
    refine .inr ⟨g, 0, rfl, (h.lt g rfl).2, fun k hk => ?_⟩
    rw [Nat.zero_add, h.cellAt k (by omega)]
    have hk2 : k < l.length := by omega
    simp [lsV, List.getD, List.getElem?_eq_getElem hk2]

set_option maxHeartbeats 1000000 in
theorem firsts_any (q : Option Addr) (n c : Nat) (t : Nat → Nat) (W : World) (hn : n ≤ 64) (hq : Is W q n (fun k => ((t k : Nat) : Int))) (m : Nat) (hm : m = (fsL t n).length) :
    Calls Try.prog 29 #[.slice q n c] W fun e V => ∃ q' cp, e = .returned (.slice q' m cp) ∧ (Is V q' m (fun k => (((fsL t n).getD k 0 : Nat) : Int)) ∧ ∀ j, j < W.heap.size → Off q' m j) ∧ Below W.heap.size W V := by
  have HQ := hide hq
  obtain ⟨i0, hi, hz0, hz1, hz2⟩ := info_parts info3
  have Hm := hide hm
  clear hq hm
  go_enter Try.func29, Try.ntmps29
  go_wp2
  go_loopw [3, 8] (fun v i wr => ∃ (x l cp : Nat) (q' : Option Addr), x ≤ n ∧ i = .int .i64 x ∧ l = (fsL t x).length ∧ v = .slice q' l cp ∧ wr.ownsRow W.heap.size 3 1 (.slice q' l cp) l (lsV (fsL t x)) ∧ Below W.heap.size W wr) (fun _ i _ => n - (intOf i).toNat)
  case atStart => exact ⟨0, 0, 0, none, Nat.zero_le _, rfl, rfl, rfl, World.ownsRow_nil _ _ _ _, Below.refl _ _⟩
  case round =>
    obtain ⟨x, l, cp, q', hx, rfl, hl, rfl, hown, hb⟩ := hrel
    have Hl := hide hl
    have hl64 : l ≤ 64 := by have := fsL_len t x; omega
    clear hl
    by_cases hlt : x < n
    · obtain ⟨a, o, rfl, l1, k1⟩ := ((unhide HQ).keep hb).at hlt
      have q1 : (x : Int) < (n : Int) := by omega
      have q2 : (0 : Int) ≤ (x : Int) := by omega
      have Hsn := hide (show fsL t (x + 1) = if t x = l then fsL t x ++ [x] else fsL t x by rw [unhide Hl]; rfl)
      have hsz := hb.size
      by_cases hc : t x = l
      · have hc' : ((t x : Int) == (l : Int)) = true := by simp [hc]
        have Hs2 := hide (show fsL t (x + 1) = fsL t x ++ [x] by rw [unhide Hsn, if_pos hc])
        clear hc
        go_wp2_with (at_builtin; refine wpList_append_own _ rfl _ _ 22 rfl W.heap.size 3 i0 (.int .i64 0) 1 8 Try.underlying22 hi hz0 hz1 hz2 rfl (by decide) _ _ _ rfl (hown.alloc _) ⟨wr.heap.size, 0, none⟩ 1 1 [.int .i64 (x : Int)] rfl rfl (cell_one_new _ _ _) (by simp [Value.oneCell']) (by unfold maxLen; omega) (by omega) (by simp; omega) ?_)
        intro v' w4 hown' hgrow _
        have S6 := hide ((hb.alloc hsz (.cells #[.int .i64 (x : Int)] 3)).grown hgrow (by simp; omega) (fun k hk => (hown.lt k hk).1))
        obtain ⟨q2', cap', rfl⟩ := own_form hown'
        have HO := hide hown'
        clear hown hown' hgrow hb k1
        go_wp2
        go_roundw
        case rel =>
          refine ⟨x + 1, l + 1, cap', q2', by omega, by go_num, by rw [unhide Hs2, unhide Hl]; simp, rfl, ?_, unhide S6⟩
          rw [unhide Hs2, lsV_snoc]
          exact unhide HO
        case measure => simp [intOf]; omega
      · have hc' : ((t x : Int) == (l : Int)) = false := by simp; omega
        have Hs2 := hide (show fsL t (x + 1) = fsL t x by rw [unhide Hsn, if_neg hc])
        have HO := hide hown
        have HB := hide hb
        clear hc hown hb
        go_wp2
        go_roundw
        case rel => exact ⟨x + 1, l, cp, q', by omega, by go_num, by rw [unhide Hs2]; exact unhide Hl, rfl, by rw [unhide Hs2]; exact unhide HO, unhide HB⟩
        case measure => simp [intOf]; omega
    · obtain rfl : x = n := by omega
      have cl : ¬ ((x : Int) < (x : Int)) := by omega
      obtain rfl : l = m := by rw [unhide Hl, unhide Hm]
      have HI := hide (own_ls hown (unhide Hl))
      have HF := hide (fun j (hj : j < W.heap.size) => own_offn hown hj)
      clear hown
      go_wp2
      exact bodyPost_ret (v := .slice q' l cp) (by simp [results, Try.results29, go_sem]) rfl ⟨q', ⟨cp, rfl⟩, ⟨unhide HI, unhide HF⟩, hb⟩

theorem unU_nu (f : Nat → Bool) (w y : Nat) : unU f w (y + 1) = if nuN f w y = (unU f w y).length then unU f w y ++ [y] else unU f w y := by
  rw [unU_succ]
  unfold nuN
  by_cases c : (unU f w y).any (fun u => rwE f w u y) = true
  · have hl : (unU f w y).findIdx (fun u => rwE f w u y) < (unU f w y).length := List.findIdx_lt_length_of_exists (by
      obtain ⟨u, hu, hp⟩ := List.any_eq_true.1 c
      exact ⟨u, hu, hp⟩)
    rw [if_pos c, if_pos c, if_neg (by omega)]
  · rw [if_neg c, if_neg c, if_pos rfl]
theorem fsL_un (f : Nat → Bool) (w y : Nat) : fsL (nuN f w) y = unU f w y := by
  induction y with
  | zero => rfl
  | succ y ih => rw [unU_nu, fsL, ih]
theorem fsL_congr (t t' : Nat → Nat) (n : Nat) (h : ∀ k, k < n → t k = t' k) : fsL t n = fsL t' n := by
  induction n with
  | zero => rfl
  | succ n ih => rw [fsL, fsL, ih (fun k hk => h k (by omega)), h n (by omega)]
/-- a number of rows alike tells a row that came first -/
theorem nu_get (f : Nat → Bool) (w h y : Nat) (hy : y < h) : nuN f w y < (unU f w h).length ∧ rwE f w ((unU f w h).getD (nuN f w y) 0) y = true := by
  obtain ⟨u, hu, hr⟩ := (un_inv f w h).1 y hy
  have hl : nuN f w y < (unU f w h).length := by
    by_cases c : nuN f w y < (unU f w h).length
    · exact c
    · rw [List.getElem?_eq_none (by omega)] at hu; cases hu
  exact ⟨hl, by rw [List.getD, hu]; exact hr⟩
theorem un_get (f : Nat → Bool) (w h k : Nat) (hk : k < (unU f w h).length) : (unU f w h).getD k 0 < h := by
  rw [List.getD, List.getElem?_eq_getElem hk]
  exact (un_inv f w h).2.2 _ (List.getElem_mem hk)
theorem un_pos (f : Nat → Bool) (w h : Nat) (hh : 0 < h) : 1 ≤ (unU f w h).length := by
  have := (nu_get f w h 0 hh).1
  omega
end Go.Proofs.Ytfbggbalnfbbgaa
