/-
  What Torus, Kept and Keeps of the reference answer.
-/
import Derived.Test.YtagiekbijmdmdaaLComp
namespace Go.Proofs.Ytagiekbijmdmdaa
open Go.RowKit

set_option maxHeartbeats 1000000 in
theorem rtorus_wrong (g w h : Int) (p : Option Addr) (n cap : Nat) (px : Nat → Int) (W : World) (hc : Ch.Cells W p n px) (er : Int) (her : Ch.wE g w h n px = er) (hp : 1 ≤ er) : TorusIs 11 g w h p n cap W 0 er := by
  have HW := hide (fun W (hc : Ch.Cells W p n px) => Ch.rwrong_any g w h p n cap px W hc)
  rw [her] at HW
  have Hc := hide (hc.keep (bal (o := .cells #[.int .i64 g, .int .i64 w, .int .i64 h, .slice p n cap] 24) (Below.refl _ _)))
  clear her hc
  unfold TorusIs
  go_enter Try.func11, Try.ntmps11
  go_wp2_with fail
  refine (unhide HW _ (unhide Hc)).mono ?_
  rintro e w1 ⟨rfl, hb⟩
  have S := btrans (bal (Below.refl _ _)) hb
  clear hb Hc
  go_wp2
  exact bodyPost_ret (v := .tuple #[.int .i64 0, .int .i64 er]) (by simp [results, Try.results11, go_sem]) rfl ⟨rfl, S⟩

set_option maxHeartbeats 2000000 in
theorem rtorus_right (g w h : Int) (p : Option Addr) (n cap : Nat) (px : Nat → Int) (W : World) (hc : Ch.Cells W p n px) (hw : 1 ≤ w ∧ w ≤ 64) (hh : 1 ≤ h ∧ h ≤ 64) (her : Ch.wE g w h n px = 0) (v er : Int) (hv : Hid (lm w h ≤ 24 ∧ v = lm w h ∧ er = 0 ∨ 24 < lm w h ∧ v = 0 ∧ er = 4)) : TorusIs 11 g w h p n cap W v er := by
  have HW := hide (fun W (hc : Ch.Cells W p n px) => Ch.rwrong_any g w h p n cap px W hc)
  rw [her] at HW
  have Hc := hide (hc.keep (bal (o := .cells #[.int .i64 g, .int .i64 w, .int .i64 h, .slice p n cap] 24) (Below.refl _ _)))
  have C0 := Ch.OwnC.new W g w h p n cap 24
  clear her hc
  unfold TorusIs
  go_enter Try.func11, Try.ntmps11
  go_wp2_with fail
  refine (unhide HW _ (unhide Hc)).mono ?_
  rintro e w1 ⟨rfl, hb⟩
  have S := btrans (bal (Below.refl _ _)) hb
  obtain ⟨-, c0, c1, c2, c3⟩ := C0.keep hb
  clear hb Hc C0 c0 c3
  go_wp2
  go_loop [5] (fun a => ∃ k : Int, a = .int .i64 k ∧ Seek w h k) (fun a => (w * h - intOf a).toNat)
  case atStart => exact ⟨w, rfl, Seek.init w h hw.1 hh.1⟩
  case round =>
    obtain ⟨k, rfl, hs⟩ := hrel
    have hr := hs.range hw hh
    by_cases hz : k % h = 0
    · have e := hide (hs.done hw.1 hh.1 hz)
      have hz' : (k % h != 0) = false := by simp [hz]
      clear hz hs
      rcases unhide hv with ⟨h1, rfl, rfl⟩ | ⟨h1, rfl, rfl⟩
      · have h2 : k ≤ 24 := by rw [unhide e]; exact h1
        clear h1
        go_wp2
        exact bodyPost_ret (v := .tuple #[.int .i64 k, .int .i64 0]) (by simp [results, Try.results11, go_sem]) rfl ⟨by rw [unhide e], S⟩
      · have h2 : 24 < k := by rw [unhide e]; exact h1
        clear h1
        go_wp2
        exact bodyPost_ret (v := .tuple #[.int .i64 0, .int .i64 4]) (by simp [results, Try.results11, go_sem]) rfl ⟨rfl, S⟩
    · have hz' : (k % h != 0) = true := by simp [hz]
      have Hs := hide (hs.next hw.1 hh.1 hz)
      have hm := hide (hs.more hw.1 hh.1 hz)
      clear hz hs
      go_wp2
      go_round
      case rel => exact ⟨k + w, rfl, unhide Hs⟩
      case measure => have := unhide hm; simp [intOf]; omega

theorem rtorus_any (g w h : Int) (p : Option Addr) (n cap : Nat) (px : Nat → Int) (W : World) (hc : Ch.Cells W p n px) : TorusIs 11 g w h p n cap W (toN g w h n px) (toE g w h n px) := by
  by_cases h0 : Ch.wE g w h n px = 0
  · obtain ⟨-, hw, hh, -⟩ := Ch.wE_zero g w h p n px W hc h0
    refine rtorus_right g w h p n cap px W hc hw hh h0 _ _ ?_
    unfold toN toE
    rw [if_pos h0]
    by_cases h1 : lm w h ≤ 24
    · simp only [if_pos h1, if_true]; exact Or.inl ⟨h1, by simp, by simp⟩
    · simp only [if_neg h1]; exact Or.inr ⟨by omega, by simp, by simp⟩
  · have e : toE g w h n px = Ch.wE g w h n px := by unfold toE; rw [if_neg h0]
    have e2 : toN g w h n px = 0 := by unfold toN; rw [e, if_neg h0]
    rw [e2]
    exact rtorus_wrong g w h p n cap px W hc _ e.symm (by rw [e]; exact Ch.wE_pos _ _ _ _ _ h0)

/-- the reference's Cell of a right chart -/
theorem Right.cell {W : World} {g w h : Int} {p : Option Addr} {n : Nat} {px : Nat → Int} {w' h' N b o : Nat} (cap : Nat) (r : Right W g w h p n px w' h' N b o) (x y : Int) :
    Calls Try.prog 48 #[Ch.ch g w h p n cap, .int .i64 x, .int .i64 y] W fun e V => e = .returned (.int .i64 (pat w' h' N px x y)) ∧ Below W.heap.size W V := by
  have k := Ch.cell_any g w h b o n cap px x y W (by have := r.hw; omega) (by have := r.hh; omega) (by rw [r.hw.1, r.hh.1, ← Int.natCast_mul, ← r.hn]) r.row
  rw [r.atX] at k
  have e := r.hp
  subst e
  exact k
theorem abB_false {P : Int → Int → Int} {g : Int} {t : Nat} {f : Bool} {u v : Int} {N : Nat} (i k : Nat) (h : i < k) (hk : P ((i : Int) % N) ((i : Int) / N) ≠ P (mv g t f u v ((i : Int) % N) ((i : Int) / N)).1 (mv g t f u v ((i : Int) % N) ((i : Int) / N)).2) : abB P g t f u v N k = false := by
  cases e : abB P g t f u v N k with
  | false => rfl
  | true => exact absurd ((abB_iff P g t f u v N k).1 e i h) hk

set_option maxHeartbeats 4000000 in
set_option maxRecDepth 100000 in
theorem kept_any (g w h : Int) (p : Option Addr) (n cap : Nat) (px : Nat → Int) (w' h' N b o : Nat) (t : Nat) (f : Bool) (x y : Int) (W : World) (r : Right W g w h p n px w' h' N b o) (ht : (t : Int) < g) (hs : sm2 x y = true) :
    Calls Try.prog 42 #[Ch.ch g w h p n cap, .int .i64 N, .agg #[.int .i64 t, .bool f, .int .i64 x, .int .i64 y]] W fun e V => e = .returned (.bool (abB (pat w' h' N px) g t f x y N (N * N))) ∧ Below W.heap.size W V := by
  have hN1 := r.hN1
  have HA := hide (fun V (r : Right V g w h p n px w' h' N b o) (u v : Int) => r.cell cap u v)
  have HO := hide (fun (i j : Nat) (hi : i < N) (hj : j < N) => to_any g t f x y i j r.hg (by omega) ((sz_small (by omega) (by omega)).mono (by decide)) (Sz.sm hs))
  rw [Int.toNat_natCast] at HO
  generalize pat w' h' N px = P at *
  have B0 := bal (o := .cells #[.int .i64 t, .bool f, .int .i64 x, .int .i64 y] 45) (bal (o := .cells #[.int .i64 g, .int .i64 w, .int .i64 h, .slice p n cap] 24) (Below.refl W.heap.size W))
  have Hr := hide (r.keep B0)
  have HB := hide B0
  have HC0 := hide ((Ch.OwnC.new W g w h p n cap 24).alloc (.cells #[.int .i64 t, .bool f, .int .i64 x, .int .i64 y] 45))
  have M0 := OwnM.new (W.alloc (.cells #[.int .i64 g, .int .i64 w, .int .i64 h, .slice p n cap] 24)) t f x y 45
  rw [World.size_alloc] at M0
  have HM0 := hide M0
  clear r B0 hs M0
  go_enter Try.func42, Try.ntmps42
  go_wp2_with fail
  generalize (W.alloc (.cells #[.int .i64 g, .int .i64 w, .int .i64 h, .slice p n cap] 24)).alloc (.cells #[.int .i64 t, .bool f, .int .i64 x, .int .i64 y] 45) = w0 at *
  go_loopw [7] (fun v wr => ∃ i : Nat, i ≤ N ∧ v = .int .i64 i ∧ abB P g t f x y N (i * N) = true ∧ Below w0.heap.size w0 wr) (fun v _ => N - (intOf v).toNat)
  case atStart => exact ⟨0, Nat.zero_le _, rfl, by simp [abB], Below.refl _ _⟩
  case round =>
    obtain ⟨i, hi, rfl, hab, hbel⟩ := hrel
    have Hab := hide hab
    clear hab
    by_cases hlt : i < N
    · have hlt' : (i : Int) < (N : Int) := by omega
      go_wp2
      obtain ⟨wo, rfl⟩ : ∃ wo : World, wo = wr := ⟨_, rfl⟩
      have Hb1 := hide hbel
      clear hbel
      go_loopw [8] (fun v wr2 => ∃ j : Nat, j ≤ N ∧ v = .int .i64 j ∧ abB P g t f x y N (i * N + j) = true ∧ Below w0.heap.size w0 wr2) (fun v _ => N - (intOf v).toNat)
      case atStart => exact ⟨0, Nat.zero_le _, rfl, unhide Hab, unhide Hb1⟩
      case round =>
        clear Hb1 Hab
        obtain ⟨j, hj, rfl, hab, hbel⟩ := hrel
        have Hab := hide hab
        clear hab
        by_cases hltj : j < N
        · have hltj' : (j : Int) < (N : Int) := by omega
          have hxy := xy_of N j i hltj
          have Ht := hide (fun (q : P j i = P (mv g t f x y j i).1 (mv g t f x y j i).2) => show abB P g t f x y N (i * N + (j + 1)) = true by
            show abB P g t f x y N (i * N + j + 1) = true
            rw [abB_succ, hxy.1, hxy.2, unhide Hab, q]; simp)
          have Hf := hide (fun (q : P j i ≠ P (mv g t f x y j i).1 (mv g t f x y j i).2) => show abB P g t f x y N (N * N) = false from
            abB_false (i * N + j) (N * N) (by have := Nat.mul_le_mul_right N (show i + 1 ≤ N by omega); rw [Nat.add_mul] at this; omega) (by rw [hxy.1, hxy.2]; exact q))
          clear hxy
          have HO1 := hide (unhide HO j i hltj hlt)
          generalize (mv g t f x y j i).1 = X at *
          generalize (mv g t f x y j i).2 = Y at *
          have HA1 := hide (fun V (hb : Below w0.heap.size w0 V) => unhide HA V ((unhide Hr).keep hb) j i)
          have HA2 := hide (fun V (hb : Below w0.heap.size w0 V) => unhide HA V ((unhide Hr).keep hb) X Y)
          generalize P j i = p1 at *
          generalize P X Y = p2 at *
          have c := ((unhide HC0).keep hbel).2
          have m := ((unhide HM0).keep hbel).2.1
          go_wp2_with fail
          clear c m
          refine (unhide HO1 _).mono ?_
          rintro e w5 ⟨rfl, hb⟩
          have S5 := btrans hbel (bal (o := .cells #[.int .i64 X, .int .i64 Y] 33) hb)
          have Z5 := Own.new w5 X Y 33
          clear hb hbel
          have C5 := (unhide HC0).keep S5
          have hzz : (w5.alloc (.cells #[.int .i64 X, .int .i64 Y] 33)).heap.size = w5.heap.size + 1 := by simp
          go_wp2_with fail
          generalize w5.alloc (.cells #[.int .i64 X, .int .i64 Y] 33) = w6 at *
          clear hzz
          have Mk := hide (show ∀ V, Below w6.heap.size w6 V → Below w6.heap.size w6 V ∧ (V.cell? ⟨W.heap.size, 0, none⟩ = some (.int .i64 g) ∧ V.cell? ⟨W.heap.size, 1, none⟩ = some (.int .i64 w) ∧ V.cell? ⟨W.heap.size, 2, none⟩ = some (.int .i64 h) ∧ V.cell? ⟨W.heap.size, 3, none⟩ = some (.slice p n cap)) ∧ (V.cell? ⟨w5.heap.size, 0, none⟩ = some (.int .i64 X) ∧ V.cell? ⟨w5.heap.size, 1, none⟩ = some (.int .i64 Y)) from fun V hV => ⟨hV, (C5.keep hV).2, (Z5.keep hV).2.1⟩)
          clear C5 Z5
          go_region_held3 (fun V => Below w6.heap.size w6 V ∧ (V.cell? ⟨W.heap.size, 0, none⟩ = some (.int .i64 g) ∧ V.cell? ⟨W.heap.size, 1, none⟩ = some (.int .i64 w) ∧ V.cell? ⟨W.heap.size, 2, none⟩ = some (.int .i64 h) ∧ V.cell? ⟨W.heap.size, 3, none⟩ = some (.slice p n cap)) ∧ (V.cell? ⟨w5.heap.size, 0, none⟩ = some (.int .i64 X) ∧ V.cell? ⟨w5.heap.size, 1, none⟩ = some (.int .i64 Y)))
            (first
              | (exact unhide Mk _ (Below.drew (Below.refl _ _)))
              | (exact unhide Mk _ (btrans (by assumption : Below w6.heap.size w6 _ ∧ _).1 hb)))
            (first
              | (go_at_call_of 48 X; refine (unhide HA2 _ (btrans S5 (by assumption : Below w6.heap.size w6 _ ∧ _).1)).mono ?_; rintro e w7 ⟨rfl, hb⟩)
              | (go_at_call_of 48 j; refine (unhide HA1 _ (btrans S5 (by assumption : Below w6.heap.size w6 _ ∧ _).1)).mono ?_; rintro e w7 ⟨rfl, hb⟩))
          all_goals
            have S7 := btrans S5 (by assumption : Below w6.heap.size w6 _ ∧ _).1
            clear Mk
            by_cases hq : p1 = p2
            · have hq' : (p1 != p2) = false := by simp [hq]
              have Ht2 := hide (unhide Ht hq)
              clear hq
              go_wp2
              go_roundw
              case rel => exact ⟨j + 1, by omega, by go_num, unhide Ht2, S7⟩
              case measure => simp [intOf]; omega
            · have hq' : (p1 != p2) = true := by simp [hq]
              have Hf2 := hide (unhide Hf hq)
              clear hq
              go_wp2
              go_ret
              exact ⟨ret_bool (unhide Hf2).symm, btrans (unhide HB) S7⟩
        · have e : j = N := by omega
          subst e
          have cl : ¬ ((j : Int) < (j : Int)) := by omega
          have Hs := hide (show abB P g t f x y j ((i + 1) * j) = true by rw [Nat.add_mul, Nat.one_mul]; exact unhide Hab)
          have Hb1 := hide hbel
          clear hbel
          go_wp2
          go_roundw
          case rel => exact ⟨i + 1, by omega, by go_num, unhide Hs, unhide Hb1⟩
          case measure => simp [intOf]; omega
    · have e : i = N := by omega
      subst e
      have cl : ¬ ((i : Int) < (i : Int)) := by omega
      go_wp2
      go_ret
      exact ⟨ret_bool (unhide Hab).symm, btrans (unhide HB) hbel⟩
end Go.Proofs.Ytagiekbijmdmdaa
