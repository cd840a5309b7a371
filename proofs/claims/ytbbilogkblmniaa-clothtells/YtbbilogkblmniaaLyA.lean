/-
  sheetOf and sheets.
-/
import Derived.Test.YtbbilogkblmniaaShM
namespace Go.Proofs.Ytbbilogkblmniaa
open Go.RowKit

/-- of each strand those that are over it, in rows -/
def Ovs (V : World) (ob N : Nat) (f : Nat → Bool) (w h : Nat) : Prop := ob < V.heap.size ∧ ∀ s, s < N → ∃ q c, V.cell? ⟨ob, s, none⟩ = some (.slice (some ⟨q, 0, none⟩) (ovL f w h s).length c) ∧ Nr V q (ovL f w h s)
theorem Ovs.keep {V V' : World} {ob N : Nat} {f : Nat → Bool} {w h : Nat} (k : Ovs V ob N f w h) (hb : Below V.heap.size V V') : Ovs V' ob N f w h :=
  ⟨Nat.lt_of_lt_of_le k.1 hb.size, fun s hs => by
    obtain ⟨q, c, h1, h2⟩ := k.2 s hs
    exact ⟨q, c, keepC hb k.1 h1, h2.keep hb⟩⟩
theorem hasI_list (l : List Nat) (v : Nat) : hasI (fun k => ((l.getD k 0 : Nat) : Int)) (v : Int) l.length = decide (v ∈ l) := by
  rw [Bool.eq_iff_iff, hasI, List.any_eq_true, decide_eq_true_eq]
  constructor
  · rintro ⟨x, hx, h⟩
    have hx' : x < l.length := by simpa using hx
    have e : (v : Int) = ((l.getD x 0 : Nat) : Int) := by simpa using h
    have : v = l.getD x 0 := by omega
    rw [this]; exact getD_mem hx'
  · intro h
    obtain ⟨x, hx, e⟩ := List.getElem_of_mem h
    exact ⟨x, by simpa using hx, by simp [List.getD, List.getElem?_eq_getElem hx, e]⟩
theorem has_ov {f : Nat → Bool} {w h s z : Nat} (hs : s < w + h) : decide (s ∈ ovL f w h z) = ov f w h s z := by
  rw [Bool.eq_iff_iff, decide_eq_true_eq, mem_ovL]
  exact ⟨fun k => k.2, fun k => ⟨hs, k⟩⟩

def SheetIs (W : World) (s ob N cp : Nat) (L : List Nat) : Prop := Calls Try.prog 35 #[.int .i64 s, .slice (some ⟨ob, 0, none⟩) N cp] W fun e V => ∃ q c len, e = .returned (.slice (some ⟨q, 0, none⟩) len c) ∧ len = L.length ∧ V.ownsRow W.heap.size 3 1 (.slice (some ⟨q, 0, none⟩) len c) len (lsV L) ∧ Below W.heap.size W V

set_option maxRecDepth 100000 in
set_option maxHeartbeats 4000000 in
theorem sheetOf_any {W : World} {ob N cp : Nat} {f : Nat → Bool} {w h : Nat} (k : Ovs W ob N f w h) (hN : N = w + h) (hN128 : N ≤ 128) (s : Nat) (hs : s < N) : SheetIs W s ob N cp (shL f w h s) := by
  unfold SheetIs
  obtain ⟨i3, hi3, hy0, hy1, hy2⟩ := info_parts info3
  obtain ⟨qs, cs, d1, d2⟩ := k.2 s hs
  have q0 : (s : Int) < (N : Int) := by omega
  have q1 : (0 : Int) ≤ (s : Int) := by omega
  have HK := hide k
  have HN := hide hN
  obtain ⟨M, hM⟩ : ∃ M, M = (ovL f w h s).length := ⟨_, rfl⟩
  rw [← hM] at d1
  have HM := hide hM
  have hM128 : M ≤ 128 := by rw [hM]; have := ovL_len f w h s; omega
  have Hd2 := hide d2
  clear k hN hM d2
  go_enter Try.func35, Try.ntmps35
  go_wp2
  clear d1 q0
  go_loopw [5, 13] (fun v i wr => ∃ (x len c : Nat) (q : Option Addr), x ≤ M ∧ i = .int .i64 x ∧ v = .slice q len c ∧ Hid (len = (shP f w h s x).length) ∧ wr.ownsRow W.heap.size 3 1 (.slice q len c) len (lsV (shP f w h s x)) ∧ Below W.heap.size W wr) (fun _ i _ => M - (intOf i).toNat)
  case atStart => exact ⟨0, 0, 0, none, Nat.zero_le _, rfl, rfl, rfl, World.ownsRow_nil _ _ _ _, Below.refl _ _⟩
  case round =>
    obtain ⟨x, len, c, q, hx, rfl, rfl, Hlen, hown, hb⟩ := hrel
    have HO := hide hown
    have Hb := hide hb
    have hlen : len ≤ 128 := by rw [unhide Hlen]; have := shP_len f w h s x; omega
    clear hown hb
    by_cases hlt : x < M
    · have q2 : (x : Int) < (M : Int) := by omega
      have q3 : (0 : Int) ≤ (x : Int) := by omega
      have r1 := ((unhide Hd2).keep (unhide Hb)).2 x (by rw [← unhide HM]; exact hlt)
      have hz : (ovL f w h s).getD x 0 < N := by rw [unhide HN]; exact (mem_ovL.1 (getD_mem (by rw [← unhide HM]; exact hlt))).1
      have Hsu := hide (shP_succ f w h s x (by rw [← unhide HM]; exact hlt))
      generalize (ovL f w h s).getD x 0 = z at *
      obtain ⟨q2', c2, r2, r3⟩ := ((unhide HK).keep (unhide Hb)).2 z hz
      have q4 : (z : Int) < (N : Int) := by omega
      have q5 : (0 : Int) ≤ (z : Int) := by omega
      have HC := hide (show Calls Try.prog 42 #[.slice (some ⟨q2', 0, none⟩) (ovL f w h z).length c2, .int .i64 s] wr fun e w' => e = .returned (.bool (ov f w h s z)) ∧ Below wr.heap.size wr w' by
        have := icontains_any _ _ c2 _ (s : Int) wr (by have := ovL_len f w h z; have := unhide HN; omega) r3.is
        rw [hasI_list, has_ov (by rw [← unhide HN]; exact hs)] at this
        exact this)
      generalize (ovL f w h z).length = len2 at *
      clear r3 hz
      cases hv : ov f w h s z with
      | true =>
        rw [hv] at HC
        have Hsu2 := hide (show shP f w h s (x + 1) = shP f w h s x ++ [z] by rw [unhide Hsu, hv]; rfl)
        clear hv Hsu
        go_wp2_with fail
        refine (unhide HC).mono ?_
        rintro e w1 ⟨rfl, hb1⟩
        have hO1 := own_keep (unhide HO) hb1
        have hb2 := btrans (unhide Hb) hb1
        have hsz := hb2.size
        clear r1 r2 HC HO Hb hb1
        go_wp2_with (at_builtin; refine wpList_append_own _ rfl _ _ 25 rfl W.heap.size 3 i3 (.int .i64 0) 1 8 Try.underlying25 hi3 hy0 hy1 hy2 rfl (by decide) _ _ _ rfl (hO1.alloc _) ⟨w1.heap.size, 0, none⟩ 1 1 [.int .i64 (z : Int)] rfl rfl (cell_one_new _ _ _) (by simp [Value.oneCell']) (by unfold maxLen; omega) (by omega) (by simp; omega) ?_)
        intro v' w4 hown' hgrow _
        have S6 := hide ((hb2.alloc hsz (.cells #[.int .i64 (z : Int)] 3)).grown hgrow (by simp; omega) (fun k hk => (hO1.lt k hk).1))
        obtain ⟨q2'', cap', rfl⟩ := own_form hown'
        have HO := hide hown'
        clear hO1 hown' hgrow hb2 hsz
        go_wp2
        go_roundw
        case rel => exact ⟨x + 1, len + 1, cap', q2'', by omega, by go_num, rfl, (by rw [unhide Hsu2, unhide Hlen]; simp : len + 1 = (shP f w h s (x + 1)).length), by rw [unhide Hsu2, lsV_snoc]; exact unhide HO, unhide S6⟩
        case measure => simp [intOf]; omega
      | false =>
        rw [hv] at HC
        have Hsu2 := hide (show shP f w h s (x + 1) = shP f w h s x by rw [unhide Hsu, hv]; rfl)
        clear hv Hsu
        go_wp2_with fail
        refine (unhide HC).mono ?_
        rintro e w1 ⟨rfl, hb1⟩
        have HO1 := hide (own_keep (unhide HO) hb1)
        have Hb2 := hide (btrans (unhide Hb) hb1)
        clear r1 r2 HC HO Hb hb1
        go_wp2
        go_roundw
        case rel => exact ⟨x + 1, len, c, q, by omega, by go_num, rfl, (by rw [unhide Hsu2]; exact unhide Hlen : len = (shP f w h s (x + 1)).length), by rw [unhide Hsu2]; exact unhide HO1, unhide Hb2⟩
        case measure => simp [intOf]; omega
    · obtain rfl : M = x := by omega
      have cl : ¬ ((M : Int) < (M : Int)) := by omega
      have Hall := hide (shP_all f w h s M (unhide HM))
      have hpos : 1 ≤ len := by rw [unhide Hlen, unhide Hall]; exact shL_pos (by rw [← unhide HN]; exact hs)
      obtain ⟨g, c', hq⟩ := own_slice (unhide HO) hpos
      obtain ⟨rfl, rfl⟩ : q = some ⟨g, 0, none⟩ ∧ c = c' := by simpa using hq
      clear hq
      go_wp2
      go_ret
      exact ⟨g, c, len, rfl, by rw [unhide Hlen, unhide Hall], by have := unhide HO; rw [unhide Hall] at this; exact this, unhide Hb⟩
end Go.Proofs.Ytbbilogkblmniaa
