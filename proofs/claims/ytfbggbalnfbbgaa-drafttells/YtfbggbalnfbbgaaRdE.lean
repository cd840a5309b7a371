/-
  The reference's Fewest: the mathematics, the box that is written, errors.
-/
import Derived.Test.YtfbggbalnfbbgaaRdD
namespace Go.Proofs.Ytfbggbalnfbbgaa
open Go.RowKit Go.Shelf

theorem un_prefix (f : Nat → Bool) (w y h k : Nat) (hy : y ≤ h) (hk : k < (unU f w y).length) : unA f w h k = unA f w y k ∧ (unU f w y).length ≤ (unU f w h).length := by
  induction h with
  | zero =>
    obtain rfl : y = 0 := by omega
    exact ⟨rfl, Nat.le_refl _⟩
  | succ h ih =>
    by_cases e : y = h + 1
    · subst e; exact ⟨rfl, Nat.le_refl _⟩
    · obtain ⟨i1, i2⟩ := ih (by omega)
      unfold unA at *
      rw [unU_nu]
      split
      · refine ⟨?_, by simp; omega⟩
        rw [List.getD_eq_getElem?_getD, List.getElem?_append_left (by omega), ← List.getD_eq_getElem?_getD]
        exact i1
      · exact ⟨i1, i2⟩
/-- a row that comes first is told by its number -/
theorem un_new (f : Nat → Bool) (w y h : Nat) (hy : y < h) (hn : nuN f w y = (unU f w y).length) : unA f w h (unU f w y).length = y ∧ (unU f w y).length < (unU f w h).length := by
  have e : unU f w (y + 1) = unU f w y ++ [y] := by rw [unU_nu, if_pos hn]
  have hl : (unU f w y).length < (unU f w (y + 1)).length := by rw [e]; simp
  obtain ⟨p1, p2⟩ := un_prefix f w (y + 1) h (unU f w y).length (by omega) hl
  refine ⟨?_, by omega⟩
  rw [p1]
  unfold unA
  rw [e]
  simp
theorem nu_top (f : Nat → Bool) (w y : Nat) : nuN f w y ≤ (unU f w y).length := by
  unfold nuN
  split
  · rename_i c
    have : (unU f w y).findIdx (fun u => rwE f w u y) < (unU f w y).length := List.findIdx_lt_length_of_exists (by
      obtain ⟨u, hu, hp⟩ := List.any_eq_true.1 c
      exact ⟨u, hu, hp⟩)
    omega
  · exact Nat.le_refl _
theorem un_next (f : Nat → Bool) (w y : Nat) : (unU f w (y + 1)).length = if nuN f w y = (unU f w y).length then (unU f w y).length + 1 else (unU f w y).length := nu_next f w y
/-- the bit that stands where a row and a column come first -/
theorem fw_at (f : Nat → Bool) (w h y x k1 : Nat) (hk1 : k1 = (unU (tuF f w h) h w).length) (hy : y < h) (hx : x < w) (ny : nuN f w y = (unU f w y).length) (nx : nuN (tuF f w h) h x = (unU (tuF f w h) h x).length) :
    fwF f w h k1 ((unU f w y).length * k1 + (unU (tuF f w h) h x).length) = f (y * w + x) := by
  obtain ⟨a1, a2⟩ := un_new f w y h hy ny
  obtain ⟨b1, b2⟩ := un_new (tuF f w h) h x w hx nx
  unfold fwF
  rw [mdF_at _ _ _ _ (by omega), a1, b1]

theorem OwnV.set1 {W : World} {b : Nat} {q1 : Option Addr} {n1 c1 : Nat} {w h : Int} {p : Option Addr} {n cap : Nat} {q2 : Option Addr} {n2 c2 : Nat} (k : OwnV W b q1 n1 c1 w h p n cap q2 n2 c2) (w' : Int) : OwnV (W.setCell ⟨b, 1, none⟩ (.int .i64 w')) b q1 n1 c1 w' h p n cap q2 n2 c2 := by
  obtain ⟨⟨h0, h1, h2, h3, h4, h5⟩, f0, f1, f2, f3, f4⟩ := k
  refine ⟨⟨by simpa using h0, by simp [go_sem, h1], by simp [go_sem, h2], by simp [go_sem, h3], by simp [go_sem, h4], by simp [go_sem, h5]⟩, ?_, ?_, ?_, ?_, ?_⟩
  all_goals
    rw [World.frozen?_setCell]
    first | exact f0 | exact f1 | exact f2 | exact f3 | exact f4
theorem OwnV.set2 {W : World} {b : Nat} {q1 : Option Addr} {n1 c1 : Nat} {w h : Int} {p : Option Addr} {n cap : Nat} {q2 : Option Addr} {n2 c2 : Nat} (k : OwnV W b q1 n1 c1 w h p n cap q2 n2 c2) (h' : Int) : OwnV (W.setCell ⟨b, 2, none⟩ (.int .i64 h')) b q1 n1 c1 w h' p n cap q2 n2 c2 := by
  obtain ⟨⟨h0, h1, h2, h3, h4, h5⟩, f0, f1, f2, f3, f4⟩ := k
  refine ⟨⟨by simpa using h0, by simp [go_sem, h1], by simp [go_sem, h2], by simp [go_sem, h3], by simp [go_sem, h4], by simp [go_sem, h5]⟩, ?_, ?_, ?_, ?_, ?_⟩
  all_goals
    rw [World.frozen?_setCell]
    first | exact f0 | exact f1 | exact f2 | exact f3 | exact f4
theorem OwnV.set3 {W : World} {b : Nat} {q1 : Option Addr} {n1 c1 : Nat} {w h : Int} {p : Option Addr} {n cap : Nat} {q2 : Option Addr} {n2 c2 : Nat} (k : OwnV W b q1 n1 c1 w h p n cap q2 n2 c2) (p' : Option Addr) (n' cap' : Nat) : OwnV (W.setCell ⟨b, 3, none⟩ (.slice p' n' cap')) b q1 n1 c1 w h p' n' cap' q2 n2 c2 := by
  obtain ⟨⟨h0, h1, h2, h3, h4, h5⟩, f0, f1, f2, f3, f4⟩ := k
  refine ⟨⟨by simpa using h0, by simp [go_sem, h1], by simp [go_sem, h2], by simp [go_sem, h3], by simp [go_sem, h4], by simp [go_sem, h5]⟩, ?_, ?_, ?_, ?_, ?_⟩
  all_goals
    rw [World.frozen?_setCell]
    first | exact f0 | exact f1 | exact f2 | exact f3 | exact f4

set_option maxHeartbeats 1000000 in
theorem rfew_err (w h : Int) (p : Option Addr) (n cap : Nat) (W : World) (er : Int) (her : wE w h n = er) (hp : 1 ≤ er) : FewErr 12 w h p n cap W er := by
  obtain ⟨w0, E0, M, A, B0⟩ := fw_facts W w h p n cap
  have HT := hide (rwrong_any w h p n cap w0)
  rw [her] at HT
  have hp' : (er != 0) = true := by simp; omega
  have HE := hide E0
  have HA := hide A
  have HB := hide B0
  clear her A B0 E0 M
  unfold FewErr
  go_enter Try.func12, Try.ntmps12
  go_wp2_with fail
  rw [unhide HE]
  clear HE
  refine (unhide HT).mono ?_
  rintro e w2 ⟨rfl, hb⟩
  have S := hide (btrans (unhide HB) hb)
  obtain ⟨⟨hl, a0, a1, a2, a3, a4⟩, f0, f1, f2, f3, f4⟩ := (unhide HA).keep hb
  clear hb HB HA
  go_wp2
  exact bodyPost_ret (v := .tuple #[dr none 0 0 0 0 none 0 0 none 0 0, .int .i64 er]) (by simp [results, Try.results12, go_sem, a0, a1, a2, a3, a4]) rfl ⟨rfl, bput5 (unhide S) (by omega) _ _ _ _ _⟩

set_option maxHeartbeats 1000000 in
theorem rfew_none (w h : Nat) (p : Option Addr) (n cap : Nat) (f : Nat → Bool) (W : World) (r : Rt W w h p n cap f) (hn : n = 0) : FewErr 12 w h p n cap W 5 := by
  obtain ⟨w0, E0, M, A, B0⟩ := fw_facts W w h p n cap
  have HT := hide (rwrong_any w h p n cap w0)
  rw [wE_right w h n r.1 r.2.1 r.2.2.1] at HT
  subst hn
  have HE := hide E0
  have HA := hide A
  have HB := hide B0
  have Hm := hide M
  clear A B0 E0 M r
  unfold FewErr
  go_enter Try.func12, Try.ntmps12
  go_wp2_with fail
  rw [unhide HE]
  clear HE
  refine (unhide HT).mono ?_
  rintro e w2 ⟨rfl, hb⟩
  have S := hide (btrans (unhide HB) hb)
  obtain ⟨⟨hl, a0, a1, a2, a3, a4⟩, f0, f1, f2, f3, f4⟩ := (unhide HA).keep hb
  have m1 := ((unhide Hm).keep hb).2
  clear hb HB HA
  go_wp2
  exact bodyPost_ret (v := .tuple #[dr none 0 0 0 0 none 0 0 none 0 0, .int .i64 5]) (by simp [results, Try.results12, go_sem, a0, a1, a2, a3, a4]) rfl ⟨rfl, bput5 (unhide S) (by omega) _ _ _ _ _⟩
end Go.Proofs.Ytfbggbalnfbbgaa
