/-
  A row of nothing but -1: math/bits.Mul, slices.Repeat.
-/
import Derived.Test.YtbmgjoocpbikkaaGa
import Derived.Laws.Bits64b
namespace Go.Proofs.Ytbmgjoocpbikkaa
open Go.RowKit

set_option maxHeartbeats 1000000 in
theorem mul64_any (K : Nat) (hK : K ≤ 128) (w : World) : Calls Try.prog 43 #[.int .u64 1, .int .u64 K] w fun e w' => e = .returned (.tuple #[.int .u64 0, .int .u64 K]) ∧ w' = w := by
  have h1 : bits .and .u64 1 4294967295 = 1 := by decide
  have h2 : bits .and .u64 (K : Int) 4294967295 = (K : Int) := by
    have h := bits_and_u64_nat K 4294967295 (by omega) (by omega)
    have e : K &&& 4294967295 = K % 4294967296 := Nat.and_two_pow_sub_one_eq_mod K 32
    rw [e, Nat.mod_eq_of_lt (by omega)] at h
    exact h
  have h3 : (K : Int) / 4294967296 = 0 := by omega
  have h4 : bits .and .u64 0 4294967295 = 0 := by decide
  have h5 : IntKind.u64.wrap (K : Int) = (K : Int) := by rw [IntKind.wrap_u64]; omega
  clear hK
  go_enter Try.func43, Try.ntmps43
  go_wp2_with fail
  exact bodyPost_ret (v := .tuple #[.int .u64 0, .int .u64 (K : Int)]) (by simp [results, Try.results43, go_sem]) rfl ⟨rfl, rfl⟩

set_option maxHeartbeats 1000000 in
theorem mul_any (K : Nat) (hK : K ≤ 128) (w : World) : Calls Try.prog 39 #[.int .u64 1, .int .u64 K] w fun e w' => e = .returned (.tuple #[.int .u64 0, .int .u64 K]) ∧ w' = w := by
  have H := hide (mul64_any K hK)
  clear hK
  go_enter Try.func39, Try.ntmps39
  go_wp2_with (go_at_call 43; refine (unhide H _).mono ?_; rintro e w' ⟨rfl, rfl⟩)
  exact bodyPost_ret (v := .tuple #[.int .u64 0, .int .u64 (K : Int)]) (by simp [results, Try.results39, go_sem]) rfl ⟨rfl, rfl⟩

/-- numbers are copied into the midst of a row -/
theorem copy_at {W : World} {nb K o m dl dc sl sc : Nat} {a : Addr} {f g' : Nat → Int} (h1 : CR W nb K g') (hs : ∀ j, j < m → W.cell? (a.add j) = some (.int .i64 (f j))) (hom : o + m ≤ K) (hm : m = Nat.min sl dl) (ty : TypeId) :
    (Builtin.copy_ #[22, 22] ty #[.slice (some ⟨nb, o, none⟩) dl dc, .slice (some a) sl sc]).run Try.prog W = .ok (goInt m) (W.setCells nb o (vals f m)) := by
  have := run_copy_cells (P := Try.prog) W 22 22 ty 3 nb o dl dc a sl sc (vals f m) Try.underlying22 (by have := info3; cases e : Try.prog.info? 3 with | none => rw [e] at this; cases this | some i => rw [e] at this; simp at this; simp [this]) (by rw [vals_len]; exact hm)
    (fun j v hj => by obtain ⟨a, rfl⟩ := vals_get hj; exact hs j a) (fun j hj => by rw [vals_len] at hj; rw [(h1.2 (o + j) (by omega)).1]; rfl) (fun j hj => by rw [vals_len] at hj; exact (h1.2 (o + j) (by omega)).2) (vals_one f m)
  rw [this, vals_len]
theorem copy_at_cr {W : World} {nb K o m : Nat} {f g' : Nat → Int} (h1 : CR W nb K g') (hom : o + m ≤ K) : CR (W.setCells nb o (vals f m)) nb K (fun k => if o ≤ k ∧ k < o + m then f (k - o) else g' k) ∧ Kept (fun i => i = nb) W (W.setCells nb o (vals f m)) := by
  have hk : Kept (fun i => i = nb) W (W.setCells nb o (vals f m)) := kept_cells (S := fun i => i = nb) rfl _ _ _
  refine ⟨⟨Nat.lt_of_lt_of_le h1.1 hk.size, fun j hj => ⟨?_, by rw [World.frozen?_setCells]; exact (h1.2 j hj).2⟩⟩, hk⟩
  show _ = some (Value.int .i64 (if o ≤ j ∧ j < o + m then f (j - o) else g' j))
  by_cases c : o ≤ j ∧ j < o + m
  · rw [if_pos c]
    obtain ⟨i, rfl⟩ : ∃ i, j = o + i := ⟨j - o, by omega⟩
    have := World.cell?_setCells_in nb (vals f m) o W (fun j hj => by rw [vals_len] at hj; rw [(h1.2 (o + j) (by omega)).1]; rfl) i (by rw [vals_len]; omega)
    rw [this, Nat.add_sub_cancel_left]
    simp [vals]
  · rw [if_neg c]
    rw [World.cell?_setCells_out nb (vals f m) o W _ (fun _ _ => by rw [vals_len]; dsimp only; omega)]
    exact (h1.2 j hj).1

/-- nothing but -1, up to a place -/
def neg (n : Nat) : Nat → Int := fun k => if k < n then -1 else 0

set_option maxRecDepth 100000 in
set_option maxHeartbeats 2000000 in
theorem repeat_any (W : World) (b0 K : Nat) (hb0 : b0 < W.heap.size) (hc : W.cell? ⟨b0, 0, none⟩ = some (.int .i64 (-1))) (h1 : 1 ≤ K) (hK : K ≤ 128) : Calls Try.prog 35 #[.slice (some ⟨b0, 0, none⟩) 1 1, .int .i64 K] W fun e w' =>
    ∃ q, e = .returned (.slice (some ⟨q, 0, none⟩) K K) ∧ W.heap.size ≤ q ∧ CR w' q K (fun _ => -1) ∧ Below W.heap.size W w' := by
  obtain ⟨i0, hi, hz0, hz1, hz2⟩ := info_parts info3
  have hby : i0.bytes * K ≤ 281474976710656 := by rw [hz2]; omega
  have hml : K ≤ maxLen := by unfold maxLen; omega
  have HM := hide (mul_any K hK W)
  have hn0 : ¬ (K : Int) < 0 := by omega
  have hu1 : IntKind.u64.wrap (K : Int) = (K : Int) := by rw [IntKind.wrap_u64]; omega
  have hu2 : ¬ 9223372036854775807 < (K : Int) := by omega
  have hu3 : IntKind.i64.wrap (K : Int) = (K : Int) := Go.IntWalk.i64_in _ (by omega)
  have Hl := hide hb0
  have Hc := hide hc
  have HK1 := hide h1
  have HK := hide hK
  clear hb0 hc h1 hK
  go_enter Try.func35, Try.ntmps35
  go_wp2_with (first | (go_at_call 39; refine (unhide HM).mono ?_; rintro e w' ⟨rfl, hww⟩; rw [hww]; clear hww) | (refine wpList_make_full _ rfl _ _ 22 rfl W.heap.size 3 i0 _ 1 Try.underlying22 hi hz0 hz1 .i64 .i64 (K : Int) (K : Int) K rfl rfl rfl rfl hby hml (Nat.le_refl _) ?_))
  intro wm hown hgrow
  have hcr : CR wm W.heap.size K (neg 0) := ⟨(hown.lt _ rfl).2, fun j hj => ⟨by rw [hown.cellAt j (by omega), toList_madeCells_one, List.getElem?_replicate, if_pos (by omega)]; rfl, hown.frozenAt j⟩⟩
  have hbm : Below W.heap.size W wm := (Below.refl _ W).grown hgrow (Nat.le_refl _) (fun k hk => by cases hk)
  have hcp := fun ty => copy_at (W := wm) (f := fun _ => -1) (m := 1) (o := 0) (dl := K) (dc := K) (sl := 1) (sc := 1) (a := ⟨b0, 0, none⟩) hcr (fun j hj => by rw [add_zero, show j = 0 by omega]; exact keepC hbm (unhide Hl) (unhide Hc)) (by have := unhide HK1; omega) (by have := unhide HK1; exact (Nat.min_eq_left this).symm) ty
  obtain ⟨x1, x2⟩ := copy_at_cr (f := fun _ => -1) (m := 1) (o := 0) hcr (by have := unhide HK1; omega)
  have X1 := hide (show CR (wm.setCells W.heap.size 0 (vals (fun _ => -1) 1)) W.heap.size K (neg 1) from x1.congr (fun j _ => by unfold neg; by_cases e : j < 1 <;> simp [e]))
  have X2 := hide (show Below W.heap.size W (wm.setCells W.heap.size 0 (vals (fun _ => -1) 1)) from Kept.back hbm x2 hbm.size (fun q e => by rw [e]; exact Nat.le_refl _))
  clear hown hgrow hcr hbm x1 x2 hi hz0 hz1 hz2 hby hml HM Hc Hl
  obtain ⟨nb, hnb⟩ : ∃ nb, W.heap.size = nb := ⟨_, rfl⟩
  rw [hnb] at hcp X1 X2 ⊢
  generalize hw2 : wm.setCells nb 0 (vals (fun _ => -1) 1) = w2 at *
  clear hw2
  go_wp2
  clear hcp
  go_loopw [8] (fun v wr => ∃ m : Nat, 1 ≤ m ∧ m ≤ K ∧ v = .int .i64 m ∧ CR wr nb K (neg m) ∧ Below nb W wr) (fun v _ => K - (intOf v).toNat)
  case atStart => exact ⟨1, Nat.le_refl _, unhide HK1, rfl, unhide X1, unhide X2⟩
  case round =>
    clear X1 X2
    obtain ⟨m, hm1, hm2, rfl, hc, hb⟩ := hrel
    have HC := hide hc
    have HB := hide hb
    by_cases hlt : m < K
    · have q1 : (m : Int) < (K : Int) := by omega
      obtain ⟨r, hr⟩ : ∃ r, r = Nat.min m (K - m) := ⟨_, rfl⟩
      have hr0 : r ≤ m ∧ r ≤ K - m ∧ 1 ≤ r := by
        have e : r = if m ≤ K - m then m else K - m := by rw [hr]; exact Nat.min_def
        split at e <;> omega
      have hr1 : m + r ≤ K := by omega
      have hcp := fun ty => copy_at (W := wr.drew) (f := fun _ => -1) (m := r) (o := m) (dl := K - m) (dc := K - m) (sl := m) (sc := K) (a := ⟨nb, 0, none⟩) (hc.keep (bdrew wr)) (fun j hj => by rw [add_zero]; have := ((hc.keep (bdrew wr)).2 j (by omega)).1; rw [this]; unfold neg; rw [if_pos (by omega)]) hr1 hr ty
      obtain ⟨x1, x2⟩ := copy_at_cr (f := fun _ => -1) (m := r) (o := m) (hc.keep (bdrew wr)) hr1
      have HN := hide (show CR (wr.drew.setCells nb m (vals (fun _ => -1) r)) nb K (neg (m + r)) from x1.congr (fun j _ => by unfold neg; by_cases e : j < m <;> by_cases e2 : j < m + r <;> simp [e, e2] <;> omega))
      have HM2 := hide (Kept.back (B := nb) (hb.trans ((bdrew wr).mono (by have := hc.1; omega))) x2 (by have := (hc.keep (bdrew wr)).1; omega) (fun q e => by rw [e]; exact Nat.le_refl _))
      have Hr := hide hr
      obtain ⟨w3, hw3⟩ : ∃ w3, wr.drew.setCells nb m (vals (fun _ => -1) r) = w3 := ⟨_, rfl⟩
      rw [hw3] at hcp HN HM2
      clear hr hc hb x1 x2 hw3 hnb
      go_wp2_with fail
      go_region
      go_wp2
      go_roundw
      case rel => exact ⟨m + r, by omega, hr1, by go_num, unhide HN, unhide HM2⟩
      case measure => simp [intOf]; omega
    · obtain rfl : m = K := by omega
      have cl : ¬ ((m : Int) < (m : Int)) := by omega
      go_wp2
      go_ret
      exact ⟨nb, rfl, Nat.le_refl _, hc.congr (fun j hj => by unfold neg; rw [if_pos hj]), hb⟩
end Go.Proofs.Ytbmgjoocpbikkaa
