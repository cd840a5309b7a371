/-
  The document's answer, what chapters 1 to 3 give to chapter 4: Wrong and Cell of a chart, Torus, Kept and All.
-/
import Derived.Test.YtpcajcgafmmlkaaDoorGT
import Derived.Test.YtpcajcgafmmlkaaDoorKindA
import Derived.Test.YtpcajcgafmmlkaaDoorTG
import Derived.Test.YtpcajcgafmmlkaaDoorBandA
namespace Go.Proofs.YtpcajcgafmmlkaaDoor.Ch
open Go.RowKit

set_option maxHeartbeats 2000000 in
theorem cell_any (g w h : Int) (b o n cap : Nat) (px : Nat → Int) (x y : Int) (W : World) (hw : 1 ≤ w ∧ w ≤ 64) (hh : 1 ≤ h ∧ h ≤ 64) (hn : (n : Int) = w * h) (hr : Row W b o n px) :
    Calls Tryd.prog 38 #[ch g w h (some ⟨b, o, none⟩) n cap, .int .i64 x, .int .i64 y] W fun e w' => e = .returned (.int .i64 (atX w h px x y)) ∧ Below W.heap.size W w' := by
  obtain ⟨k, hk, ek, b1, b2⟩ := place w h x y n hw hh hn
  have hn4 : n ≤ 4096 := by
    have := Int.mul_le_mul (a := w) (b := h) (c := 64) (d := 64) (by omega) (by omega) (by omega) (by omega)
    omega
  have He := hide (show atX w h px x y = px k by unfold atX; rw [ek]; simp)
  have Hx := hide (fun W => rest_any x w W hw)
  have Hy := hide (fun W => rest_any y h W hh)
  have cx := (hr.keep (bal (o := .cells #[.int .i64 g, .int .i64 w, .int .i64 h, .slice (some ⟨b, o, none⟩) n cap] 24) (Below.refl _ _))).2 k hk
  generalize y % h = yy at *
  generalize x % w = xx at *
  clear hn hr
  go_enter Tryd.func38, Tryd.ntmps38
  go_wp2_with fail
  go_quiet ((first | (go_at_call_of 55 y; exact Calls.quiet_of_same (unhide Hy _)) | (go_at_call_of 55 x; exact Calls.quiet_of_same (unhide Hx _))))
  go_wp2
  go_ret
  exact ⟨ret_int (unhide He).symm, btrans (bal (Below.refl _ _)) (Joins.below_draws _ _ _)⟩

set_option maxHeartbeats 1000000 in
theorem rwrong_kind (g w h : Int) (p : Option Addr) (n cap : Nat) (W : World) (hk : okg g = false) : WrongIs 21 g w h p n cap W 1 := by
  have h4 : (g != 4) = true := by simp [okg] at hk ⊢; omega
  have h6 : (g != 6) = true := by simp [okg] at hk ⊢; omega
  clear hk
  unfold WrongIs
  go_enter Tryd.func21, Tryd.ntmps21
  go_wp2
  go_ret
  exact ⟨rfl, bal (Below.refl _ _)⟩

set_option maxHeartbeats 1000000 in
theorem rwrong_side (g w h : Int) (p : Option Addr) (n cap : Nat) (W : World) (hk : g = 4 ∨ g = 6) (hs : (sw w && sw h) = false) : WrongIs 21 g w h p n cap W 3 := by
  unfold WrongIs
  have q : w < 1 ∨ (¬ w < 1 ∧ 64 < w) ∨ (¬ w < 1 ∧ ¬ 64 < w ∧ h < 1) ∨ (¬ w < 1 ∧ ¬ 64 < w ∧ ¬ h < 1 ∧ 64 < h) := by
    have : ¬ (sw w = true ∧ sw h = true) := by simp at hs; simpa using hs
    rw [sw_iff, sw_iff] at this
    omega
  clear hs
  rcases q with q | ⟨q1, q⟩ | ⟨q1, q2, q⟩ | ⟨q1, q2, q3, q⟩
  all_goals
    rcases hk with rfl | rfl
    all_goals
      go_enter Tryd.func21, Tryd.ntmps21
      go_wp2
      go_ret
      exact ⟨rfl, bal (Below.refl _ _)⟩

set_option maxHeartbeats 1000000 in
theorem rwrong_fit (g w h : Int) (p : Option Addr) (n cap : Nat) (W : World) (hk : g = 4 ∨ g = 6) (h1 : sw w = true) (h2 : sw h = true) (hn : (n : Int) ≠ w * h) : WrongIs 21 g w h p n cap W 8 := by
  unfold WrongIs
  have hm := area w h h1 h2
  have b1 := (sw_iff w).1 h1
  have b2 := (sw_iff h).1 h2
  have hn' : ((n : Int) != w * h) = true := by simp [hn]
  clear hn
  rcases hk with rfl | rfl
  all_goals
    go_enter Tryd.func21, Tryd.ntmps21
    go_wp2
    go_ret
    exact ⟨rfl, bal (Below.refl _ _)⟩

set_option maxHeartbeats 2000000 in
theorem rwrong_cells (g w h : Int) (b o n cap : Nat) (px : Nat → Int) (W : World) (hk : g = 4 ∨ g = 6) (h1 : sw w = true) (h2 : sw h = true) (hn : (n : Int) = w * h) (hr : Row W b o n px) (er : Int) (Her : Hid ((if allin px n then 0 else 3) = er)) : WrongIs 21 g w h (some ⟨b, o, none⟩) n cap W er := by
  unfold WrongIs
  have hm := area w h h1 h2
  have b1 := (sw_iff w).1 h1
  have b2 := (sw_iff h).1 h2
  have hn4 : n ≤ 4096 := by omega
  have hn' : ((n : Int) != w * h) = false := by simp [hn]
  have Hr := hide hr
  clear hn hr
  rcases hk with rfl | rfl
  all_goals
    go_enter Tryd.func21, Tryd.ntmps21
    go_wp2
    go_loopw [43] (fun i w1 => ∃ k : Nat, k ≤ n ∧ i = .int .i64 k ∧ allin px k = true ∧ Below W.heap.size W w1) (fun i _ => n - (intOf i).toNat)
    case atStart => exact ⟨0, Nat.zero_le _, rfl, rfl, bal (Below.refl _ _)⟩
    case round =>
      obtain ⟨k, hk, rfl, hall, hbel⟩ := hrel
      have Hall := hide hall
      clear hall hn'
      by_cases hlt : k < n
      · have cx := ((unhide Hr).keep hbel).2 k hlt
        cases e1 : decide (0 ≤ px k) && decide (px k ≤ 61) with
        | false =>
          have hf := hide (allin_false px k n hlt e1)
          by_cases l1 : px k < 0
          · go_wp2
            go_ret
            exact ⟨ret_int (by rw [← unhide Her, unhide hf]; rfl), hbel⟩
          · have l2 : 62 ≤ px k := by simp at e1; omega
            have l3 : 61 < px k := by omega
            have l4 : decide (px k < 0) = false := by simp; omega
            go_wp2
            go_ret
            exact ⟨ret_int (by rw [← unhide Her, unhide hf]; rfl), hbel⟩
        | true =>
          have ht := hide (show allin px (k + 1) = true by simp [allin, unhide Hall]; simpa using e1)
          have l1 : ¬ px k < 0 := by simp at e1; omega
          have l2 : ¬ 62 ≤ px k := by simp at e1; omega
          have l3 : ¬ 61 < px k := by simp at e1; omega
          clear e1
          go_wp2
          go_roundw
          case rel => exact ⟨k + 1, by omega, by go_num, unhide ht, hbel⟩
          case measure => simp [intOf]; omega
      · have e : k = n := by omega
        subst e
        have cl : ¬ ((k : Int) < (k : Int)) := by omega
        go_wp2
        go_ret
        exact ⟨ret_int (by rw [← unhide Her, unhide Hall]; rfl), hbel⟩

theorem rwrong_any (g w h : Int) (p : Option Addr) (n cap : Nat) (px : Nat → Int) (W : World) (hc : Cells W p n px) : WrongIs 21 g w h p n cap W (wE g w h n px) := by
  unfold wE
  cases a : okg g with
  | false => simpa using rwrong_kind g w h p n cap W a
  | true =>
    cases s : sw w && sw h with
    | false => simpa using rwrong_side g w h p n cap W ((okg_iff g).1 a) s
    | true =>
      simp at s
      by_cases e : (n : Int) = w * h
      · have := area w h s.1 s.2
        rcases hc with hc | ⟨b, o, rfl, r⟩
        · omega
        · simpa [e] using rwrong_cells g w h b o n cap px W ((okg_iff g).1 a) s.1 s.2 e r _ rfl
      · simpa [e] using rwrong_fit g w h p n cap W ((okg_iff g).1 a) s.1 s.2 e

end Go.Proofs.YtpcajcgafmmlkaaDoor.Ch

namespace Go.Proofs.YtpcajcgafmmlkaaDoor
open Go.RowKit

set_option maxHeartbeats 1000000 in
theorem rtorus_wrong (g w h : Int) (p : Option Addr) (n cap : Nat) (px : Nat → Int) (W : World) (hc : Ch.Cells W p n px) (er : Int) (her : Ch.wE g w h n px = er) (hp : 1 ≤ er) : TorusIs 12 g w h p n cap W 0 er := by
  have HW := hide (fun W (hc : Ch.Cells W p n px) => Ch.rwrong_any g w h p n cap px W hc)
  rw [her] at HW
  have Hc := hide (hc.keep (bal (o := .cells #[.int .i64 g, .int .i64 w, .int .i64 h, .slice p n cap] 24) (Below.refl _ _)))
  clear her hc
  unfold TorusIs
  go_enter Tryd.func12, Tryd.ntmps12
  go_wp2_with fail
  refine (unhide HW _ (unhide Hc)).mono ?_
  rintro e w1 ⟨rfl, hb⟩
  have S := btrans (bal (Below.refl _ _)) hb
  clear hb Hc
  go_wp2
  exact bodyPost_ret (v := .tuple #[.int .i64 0, .int .i64 er]) (by simp [results, Tryd.results12, go_sem]) rfl ⟨rfl, S⟩

set_option maxHeartbeats 2000000 in
theorem rtorus_right (g w h : Int) (p : Option Addr) (n cap : Nat) (px : Nat → Int) (W : World) (hc : Ch.Cells W p n px) (hw : 1 ≤ w ∧ w ≤ 64) (hh : 1 ≤ h ∧ h ≤ 64) (her : Ch.wE g w h n px = 0) (v er : Int) (hv : Hid (lm w h ≤ 24 ∧ v = lm w h ∧ er = 0 ∨ 24 < lm w h ∧ v = 0 ∧ er = 4)) : TorusIs 12 g w h p n cap W v er := by
  have HW := hide (fun W (hc : Ch.Cells W p n px) => Ch.rwrong_any g w h p n cap px W hc)
  rw [her] at HW
  have Hc := hide (hc.keep (bal (o := .cells #[.int .i64 g, .int .i64 w, .int .i64 h, .slice p n cap] 24) (Below.refl _ _)))
  have C0 := Ch.OwnC.new W g w h p n cap 24
  clear her hc
  unfold TorusIs
  go_enter Tryd.func12, Tryd.ntmps12
  go_wp2_with fail
  refine (unhide HW _ (unhide Hc)).mono ?_
  rintro e w1 ⟨rfl, hb⟩
  have S := btrans (bal (Below.refl _ _)) hb
  obtain ⟨-, c0, c1, c2, c3⟩ := C0.keep hb
  clear hb Hc C0 c0 c3
  go_wp2
  go_loop [5] (fun a => ∃ k : Int, a = .int .i64 k ∧ Seek w h k) (fun a => (w * h - intOf a).toNat)
  case atStart => exact ⟨w, rfl, Seek.init w h hw.1 hh.1⟩
  case round =>
    obtain ⟨k, rfl, hs⟩ := hrel
    have hr := hs.range hw hh
    by_cases hz : k % h = 0
    · have e := hide (hs.done hw.1 hh.1 hz)
      have hz' : (k % h != 0) = false := by simp [hz]
      clear hz hs
      rcases unhide hv with ⟨h1, rfl, rfl⟩ | ⟨h1, rfl, rfl⟩
      · have h2 : k ≤ 24 := by rw [unhide e]; exact h1
        clear h1
        go_wp2
        exact bodyPost_ret (v := .tuple #[.int .i64 k, .int .i64 0]) (by simp [results, Tryd.results12, go_sem]) rfl ⟨by rw [unhide e], S⟩
      · have h2 : 24 < k := by rw [unhide e]; exact h1
        clear h1
        go_wp2
        exact bodyPost_ret (v := .tuple #[.int .i64 0, .int .i64 4]) (by simp [results, Tryd.results12, go_sem]) rfl ⟨rfl, S⟩
    · have hz' : (k % h != 0) = true := by simp [hz]
      have Hs := hide (hs.next hw.1 hh.1 hz)
      have hm := hide (hs.more hw.1 hh.1 hz)
      clear hz hs
      go_wp2
      go_round
      case rel => exact ⟨k + w, rfl, unhide Hs⟩
      case measure => have := unhide hm; simp [intOf]; omega

theorem rtorus_any (g w h : Int) (p : Option Addr) (n cap : Nat) (px : Nat → Int) (W : World) (hc : Ch.Cells W p n px) : TorusIs 12 g w h p n cap W (toN g w h n px) (toE g w h n px) := by
  by_cases h0 : Ch.wE g w h n px = 0
  · obtain ⟨-, hw, hh, -⟩ := Ch.wE_zero g w h p n px W hc h0
    refine rtorus_right g w h p n cap px W hc hw hh h0 _ _ ?_
    unfold toN toE
    rw [if_pos h0]
    by_cases h1 : lm w h ≤ 24
    · simp only [if_pos h1, if_true]; exact Or.inl ⟨h1, by simp, by simp⟩
    · simp only [if_neg h1]; exact Or.inr ⟨by omega, by simp, by simp⟩
  · have e : toE g w h n px = Ch.wE g w h n px := by unfold toE; rw [if_neg h0]
    have e2 : toN g w h n px = 0 := by unfold toN; rw [e, if_neg h0]
    rw [e2]
    exact rtorus_wrong g w h p n cap px W hc _ e.symm (by rw [e]; exact Ch.wE_pos _ _ _ _ _ h0)

/-- the reference's Cell of a right chart -/
theorem Right.cell {W : World} {g w h : Int} {p : Option Addr} {n : Nat} {px : Nat → Int} {w' h' N b o : Nat} (cap : Nat) (r : Right W g w h p n px w' h' N b o) (x y : Int) :
    Calls Tryd.prog 38 #[Ch.ch g w h p n cap, .int .i64 x, .int .i64 y] W fun e V => e = .returned (.int .i64 (pat w' h' N px x y)) ∧ Below W.heap.size W V := by
  have k := Ch.cell_any g w h b o n cap px x y W (by have := r.hw; omega) (by have := r.hh; omega) (by rw [r.hw.1, r.hh.1, ← Int.natCast_mul, ← r.hn]) r.row
  rw [r.atX] at k
  have e := r.hp
  subst e
  exact k

set_option maxHeartbeats 4000000 in
set_option maxRecDepth 100000 in
theorem kept_any (g w h : Int) (p : Option Addr) (n cap : Nat) (px : Nat → Int) (w' h' N b o : Nat) (t : Nat) (f : Bool) (x y : Int) (W : World) (r : Right W g w h p n px w' h' N b o) (ht : (t : Int) < g) (hs : sm2 x y = true) :
    Calls Tryd.prog 31 #[Ch.ch g w h p n cap, .int .i64 N, .agg #[.int .i64 t, .bool f, .int .i64 x, .int .i64 y]] W fun e V => e = .returned (.bool (abB (pat w' h' N px) g t f x y N (N * N))) ∧ Below W.heap.size W V := by
  have hN1 := r.hN1
  have HA := hide (fun V (r : Right V g w h p n px w' h' N b o) (u v : Int) => r.cell cap u v)
  have HO := hide (fun (i j : Nat) (hi : i < N) (hj : j < N) => to_any g t f x y i j r.hg (by omega) ((sz_small (by omega) (by omega)).mono (by decide)) (Sz.sm hs))
  rw [Int.toNat_natCast] at HO
  generalize pat w' h' N px = P at *
  have B0 := bal (o := .cells #[.int .i64 t, .bool f, .int .i64 x, .int .i64 y] 41) (bal (o := .cells #[.int .i64 g, .int .i64 w, .int .i64 h, .slice p n cap] 24) (Below.refl W.heap.size W))
  have Hr := hide (r.keep B0)
  have HB := hide B0
  have HC0 := hide ((Ch.OwnC.new W g w h p n cap 24).alloc (.cells #[.int .i64 t, .bool f, .int .i64 x, .int .i64 y] 41))
  have M0 := OwnM.new (W.alloc (.cells #[.int .i64 g, .int .i64 w, .int .i64 h, .slice p n cap] 24)) t f x y 41
  rw [World.size_alloc] at M0
  have HM0 := hide M0
  clear r B0 hs M0
  go_enter Tryd.func31, Tryd.ntmps31
  go_wp2_with fail
  generalize (W.alloc (.cells #[.int .i64 g, .int .i64 w, .int .i64 h, .slice p n cap] 24)).alloc (.cells #[.int .i64 t, .bool f, .int .i64 x, .int .i64 y] 41) = w0 at *
  go_loopw [7] (fun v wr => ∃ i : Nat, i ≤ N ∧ v = .int .i64 i ∧ abB P g t f x y N (i * N) = true ∧ Below w0.heap.size w0 wr) (fun v _ => N - (intOf v).toNat)
  case atStart => exact ⟨0, Nat.zero_le _, rfl, by simp [abB], Below.refl _ _⟩
  case round =>
    obtain ⟨i, hi, rfl, hab, hbel⟩ := hrel
    have Hab := hide hab
    clear hab
    by_cases hlt : i < N
    · have hlt' : (i : Int) < (N : Int) := by omega
      go_wp2
      obtain ⟨wo, rfl⟩ : ∃ wo : World, wo = wr := ⟨_, rfl⟩
      have Hb1 := hide hbel
      clear hbel
      go_loopw [8] (fun v wr2 => ∃ j : Nat, j ≤ N ∧ v = .int .i64 j ∧ abB P g t f x y N (i * N + j) = true ∧ Below w0.heap.size w0 wr2) (fun v _ => N - (intOf v).toNat)
      case atStart => exact ⟨0, Nat.zero_le _, rfl, unhide Hab, unhide Hb1⟩
      case round =>
        clear Hb1 Hab
        obtain ⟨j, hj, rfl, hab, hbel⟩ := hrel
        have Hab := hide hab
        clear hab
        by_cases hltj : j < N
        · have hltj' : (j : Int) < (N : Int) := by omega
          have hxy := xy_of N j i hltj
          have Ht := hide (fun (q : P j i = P (mv g t f x y j i).1 (mv g t f x y j i).2) => show abB P g t f x y N (i * N + (j + 1)) = true by
            show abB P g t f x y N (i * N + j + 1) = true
            rw [abB_succ, hxy.1, hxy.2, unhide Hab, q]; simp)
          have Hf := hide (fun (q : P j i ≠ P (mv g t f x y j i).1 (mv g t f x y j i).2) => show abB P g t f x y N (N * N) = false from
            abB_false (i * N + j) (N * N) (by have := Nat.mul_le_mul_right N (show i + 1 ≤ N by omega); rw [Nat.add_mul] at this; omega) (by rw [hxy.1, hxy.2]; exact q))
          clear hxy
          have HO1 := hide (unhide HO j i hltj hlt)
          generalize (mv g t f x y j i).1 = X at *
          generalize (mv g t f x y j i).2 = Y at *
          have HA1 := hide (fun V (hb : Below w0.heap.size w0 V) => unhide HA V ((unhide Hr).keep hb) j i)
          have HA2 := hide (fun V (hb : Below w0.heap.size w0 V) => unhide HA V ((unhide Hr).keep hb) X Y)
          generalize P j i = p1 at *
          generalize P X Y = p2 at *
          have c := ((unhide HC0).keep hbel).2
          have m := ((unhide HM0).keep hbel).2.1
          go_wp2_with fail
          clear c m
          refine (unhide HO1 _).mono ?_
          rintro e w5 ⟨rfl, hb⟩
          have S5 := btrans hbel (bal (o := .cells #[.int .i64 X, .int .i64 Y] 33) hb)
          have Z5 := Own.new w5 X Y 33
          clear hb hbel
          have C5 := (unhide HC0).keep S5
          have hzz : (w5.alloc (.cells #[.int .i64 X, .int .i64 Y] 33)).heap.size = w5.heap.size + 1 := by simp
          go_wp2_with fail
          generalize w5.alloc (.cells #[.int .i64 X, .int .i64 Y] 33) = w6 at *
          clear hzz
          have Mk := hide (show ∀ V, Below w6.heap.size w6 V → Below w6.heap.size w6 V ∧ (V.cell? ⟨W.heap.size, 0, none⟩ = some (.int .i64 g) ∧ V.cell? ⟨W.heap.size, 1, none⟩ = some (.int .i64 w) ∧ V.cell? ⟨W.heap.size, 2, none⟩ = some (.int .i64 h) ∧ V.cell? ⟨W.heap.size, 3, none⟩ = some (.slice p n cap)) ∧ (V.cell? ⟨w5.heap.size, 0, none⟩ = some (.int .i64 X) ∧ V.cell? ⟨w5.heap.size, 1, none⟩ = some (.int .i64 Y)) from fun V hV => ⟨hV, (C5.keep hV).2, (Z5.keep hV).2.1⟩)
          clear C5 Z5
          go_region_held3 (fun V => Below w6.heap.size w6 V ∧ (V.cell? ⟨W.heap.size, 0, none⟩ = some (.int .i64 g) ∧ V.cell? ⟨W.heap.size, 1, none⟩ = some (.int .i64 w) ∧ V.cell? ⟨W.heap.size, 2, none⟩ = some (.int .i64 h) ∧ V.cell? ⟨W.heap.size, 3, none⟩ = some (.slice p n cap)) ∧ (V.cell? ⟨w5.heap.size, 0, none⟩ = some (.int .i64 X) ∧ V.cell? ⟨w5.heap.size, 1, none⟩ = some (.int .i64 Y)))
            (first
              | (exact unhide Mk _ (Below.drew (Below.refl _ _)))
              | (exact unhide Mk _ (btrans (by assumption : Below w6.heap.size w6 _ ∧ _).1 hb)))
            (first
              | (go_at_call_of 38 X; refine (unhide HA2 _ (btrans S5 (by assumption : Below w6.heap.size w6 _ ∧ _).1)).mono ?_; rintro e w7 ⟨rfl, hb⟩)
              | (go_at_call_of 38 j; refine (unhide HA1 _ (btrans S5 (by assumption : Below w6.heap.size w6 _ ∧ _).1)).mono ?_; rintro e w7 ⟨rfl, hb⟩))
          all_goals
            have S7 := btrans S5 (by assumption : Below w6.heap.size w6 _ ∧ _).1
            clear Mk
            by_cases hq : p1 = p2
            · have hq' : (p1 != p2) = false := by simp [hq]
              have Ht2 := hide (unhide Ht hq)
              clear hq
              go_wp2
              go_roundw
              case rel => exact ⟨j + 1, by omega, by go_num, unhide Ht2, S7⟩
              case measure => simp [intOf]; omega
            · have hq' : (p1 != p2) = true := by simp [hq]
              have Hf2 := hide (unhide Hf hq)
              clear hq
              go_wp2
              go_ret
              exact ⟨ret_bool (unhide Hf2).symm, btrans (unhide HB) S7⟩
        · have e : j = N := by omega
          subst e
          have cl : ¬ ((j : Int) < (j : Int)) := by omega
          have Hs := hide (show abB P g t f x y j ((i + 1) * j) = true by rw [Nat.add_mul, Nat.one_mul]; exact unhide Hab)
          have Hb1 := hide hbel
          clear hbel
          go_wp2
          go_roundw
          case rel => exact ⟨i + 1, by omega, by go_num, unhide Hs, unhide Hb1⟩
          case measure => simp [intOf]; omega
    · have e : i = N := by omega
      subst e
      have cl : ¬ ((i : Int) < (i : Int)) := by omega
      go_wp2
      go_ret
      exact ⟨ret_bool (unhide Hab).symm, btrans (unhide HB) hbel⟩

theorem keeps_ab (w h N : Nat) (px : Nat → Int) (g : Int) (t : Nat) (f : Bool) (x y : Nat) (hN : 1 ≤ N) (hx : x < N) : abB (pat w h N px) g t f x y N (N * N) = keepsK w h N px g t f (y * N + x) := by
  unfold keepsK
  rw [Bool.eq_iff_iff, abB_kp hN (pat_per w h N px), kpV_iff w h N px g t f _ _ hN]
  rw [Nat.mul_comm y N, Nat.mul_add_mod, Nat.mod_eq_of_lt hx, Nat.mul_add_div (by omega), Nat.div_eq_of_lt hx, Nat.add_zero]

set_option maxHeartbeats 8000000 in
set_option maxRecDepth 100000 in
theorem rall_plain (g w h : Int) (p : Option Addr) (n cap : Nat) (G N : Nat) (K : Nat → Bool → Nat → Bool) (W : World) (hG : G = 4 ∨ G = 6) (hgG : g = (G : Int)) (hN : 1 ≤ N ∧ N ≤ 24) (Rc : World → Prop) (hRc : ∀ V V', Rc V → Below V.heap.size V V' → Rc V')
    (H1 : ∀ V, Rc V → ∀ (t : Nat) (f : Bool) (x y : Nat), t < G → x < N → y < N → Calls Tryd.prog 31 #[Ch.ch g w h p n cap, .int .i64 N, .agg #[.int .i64 t, .bool f, .int .i64 x, .int .i64 y]] V fun e V' => e = .returned (.bool (K t f (y * N + x))) ∧ Below V.heap.size V V')
    (hc : Rc W) : Calls Tryd.prog 13 #[Ch.ch g w h p n cap, .int .i64 N] W fun e V => ∃ v, e = .returned v ∧ V.ownsRow W.heap.size 41 4 v (allM K N G 2).length (mvsV (allM K N G 2)) ∧ Below W.heap.size W V := by
  subst hgG
  obtain ⟨i0, hi, hz0, hz1, hz2⟩ := info_parts info45
  have hNN : N * N ≤ 576 := Nat.mul_le_mul hN.2 hN.2
  have hGN : G * (N * N) ≤ 3456 := Nat.mul_le_mul (show G ≤ 6 by omega) hNN
  have K1 := hide H1
  have HRc := hide hRc
  have B0 := bal (o := .cells #[.int .i64 G, .int .i64 w, .int .i64 h, .slice p n cap] 24) (Below.refl W.heap.size W)
  have Hr := hide (hRc _ _ hc B0)
  have HB := hide B0
  have HC0 := hide (Ch.OwnC.new W G w h p n cap 24)
  have hw0 : W.heap.size ≤ (W.alloc (.cells #[.int .i64 G, .int .i64 w, .int .i64 h, .slice p n cap] 24)).heap.size := by simp
  clear hc B0 H1 hRc
  go_enter Tryd.func13, Tryd.ntmps13
  go_wp2
  generalize W.alloc (.cells #[.int .i64 G, .int .i64 w, .int .i64 h, .slice p n cap] 24) = w0 at *
  go_loopw [5, 6] (fun v i wr => ∃ a : Nat, a ≤ 2 ∧ i = .int .i64 a ∧ wr.ownsRow w0.heap.size 41 4 v (allM K N G a).length (mvsV (allM K N G a)) ∧ Below w0.heap.size w0 wr) (fun _ i _ => 2 - (intOf i).toNat)
  case atStart => exact ⟨0, by omega, rfl, World.ownsRow_nil _ _ _ _, Below.refl _ _⟩
  case round =>
    obtain ⟨a, ha, rfl, hown, hbel⟩ := hrel
    by_cases hla : a < 2
    · have hla' : (a : Int) < 2 := by omega
      obtain ⟨fl, hfl⟩ : ∃ fl : Bool, fl = flipOf a := ⟨_, rfl⟩
      have hf1 : ((a : Int) == 1) = fl := by rw [hfl, Bool.eq_iff_iff]; simp [flipOf]; omega
      have HAs := hide (show allM K N G (a + 1) = allM K N G a ++ turnsM K N fl G by rw [allM_succ, hfl])
      have hlA := allM_len K N G a
      have hlA2 : (allM K N G a).length ≤ 3456 := by
        have := Nat.mul_le_mul (show a ≤ 1 by omega) hGN
        omega
      clear hlA hfl
      go_wp2
      generalize hLA : allM K N G a = LA at *
      clear hLA
      have Hown := hide hown
      have Hbel := hide hbel
      clear hown hbel
      go_loopw [5, 7] (fun v i wr => ∃ t : Nat, t ≤ G ∧ i = .int .i64 t ∧ wr.ownsRow w0.heap.size 41 4 v (LA ++ turnsM K N fl t).length (mvsV (LA ++ turnsM K N fl t)) ∧ Below w0.heap.size w0 wr) (fun _ i _ => G - (intOf i).toNat)
      case atStart => exact ⟨0, by omega, rfl, by simpa [turnsM] using unhide Hown, unhide Hbel⟩
      case round =>
        clear Hown Hbel
        obtain ⟨t, ht, rfl, hown, hbel⟩ := hrel
        have c := ((unhide HC0).keep hbel).2
        by_cases hlt : t < G
        · have hlt' : (t : Int) < (G : Int) := by omega
          have HTs := hide (turnsM_succ K N fl t)
          have hlT := turnsM_len K N fl t
          have hlT2 : (LA ++ turnsM K N fl t).length ≤ 6912 := by
            have := Nat.mul_le_mul_right (N * N) (show t ≤ G by omega)
            rw [List.length_append]
            omega
          clear hlT
          go_wp2
          clear c
          have HLT := hide (show LA ++ turnsM K N fl (t + 1) = (LA ++ turnsM K N fl t) ++ rowM K N t fl (N * N) by rw [unhide HTs, List.append_assoc])
          clear HTs
          generalize LA ++ turnsM K N fl t = LT at *
          have Hown := hide hown
          have Hbel := hide hbel
          clear hown hbel
          go_loopw [5, 8] (fun v i wr => ∃ y : Nat, y ≤ N ∧ i = .int .i64 y ∧ wr.ownsRow w0.heap.size 41 4 v (LT ++ rowM K N t fl (y * N)).length (mvsV (LT ++ rowM K N t fl (y * N))) ∧ Below w0.heap.size w0 wr) (fun _ i _ => N - (intOf i).toNat)
          case atStart => exact ⟨0, by omega, rfl, by simpa [rowM] using unhide Hown, unhide Hbel⟩
          case round =>
            clear Hown Hbel
            obtain ⟨y, hy, rfl, hown, hbel⟩ := hrel
            by_cases hly : y < N
            · have hly' : (y : Int) < (N : Int) := by omega
              have hyN : y * N + N ≤ 576 := by have := Nat.mul_le_mul_right N (show y + 1 ≤ N by omega); rw [Nat.add_mul, Nat.one_mul] at this; omega
              go_wp2
              have Hown := hide hown
              have Hbel := hide hbel
              clear hown hbel
              go_loopw [5, 9] (fun v i wr => ∃ x : Nat, x ≤ N ∧ i = .int .i64 x ∧ wr.ownsRow w0.heap.size 41 4 v (LT ++ rowM K N t fl (y * N + x)).length (mvsV (LT ++ rowM K N t fl (y * N + x))) ∧ Below w0.heap.size w0 wr) (fun _ i _ => N - (intOf i).toNat)
              case atStart => exact ⟨0, by omega, rfl, unhide Hown, unhide Hbel⟩
              case round =>
                clear Hown Hbel
                obtain ⟨x, hx, rfl, hown, hbel⟩ := hrel
                by_cases hlx : x < N
                · have hlx' : (x : Int) < (N : Int) := by omega
                  have hlL : (LT ++ rowM K N t fl (y * N + x)).length ≤ 8000 := by have := rowM_len K N t fl (y * N + x); rw [List.length_append]; omega
                  have Hsucc := hide (show LT ++ rowM K N t fl (y * N + (x + 1)) = (LT ++ rowM K N t fl (y * N + x)) ++ (if K t fl (y * N + x) = true then [(t, fl, x, y)] else []) by
                    rw [← Nat.add_assoc, rowM_succ, List.append_assoc, Nat.mul_comm y N, Nat.mul_add_mod, Nat.mod_eq_of_lt hlx, Nat.mul_add_div (by omega), Nat.div_eq_of_lt hlx, Nat.add_zero])
                  generalize LT ++ rowM K N t fl (y * N + x) = LX at *
                  have hbN := bal (o := .cells #[.int .i64 t, .bool fl, .int .i64 x, .int .i64 y] 41) (Below.refl wr.heap.size wr)
                  have SN := btrans hbel hbN
                  have c := ((unhide HC0).keep SN).2
                  have HK1 := hide (unhide K1 _ (unhide HRc _ _ (unhide Hr) SN) t fl x y hlt hlx hly)
                  have HownN := hide (own_keep hown hbN)
                  have HX := hide (OwnM.new wr t fl x y 41)
                  clear hown hbel hbN
                  go_wp2_with fail
                  clear c
                  generalize wr.alloc (.cells #[.int .i64 t, .bool fl, .int .i64 x, .int .i64 y] 41) = wN at *
                  refine (unhide HK1).mono ?_
                  rintro e w4 ⟨rfl, hb⟩
                  have S4 := btrans SN hb
                  have hown4 := own_keep (unhide HownN) hb
                  have Z4 := (unhide HX).keep hb
                  clear hb SN HownN HX HK1
                  cases hk : K t fl (y * N + x) with
                  | false =>
                    have Hs := hide (show LT ++ rowM K N t fl (y * N + (x + 1)) = LX by rw [unhide Hsucc, hk]; simp)
                    have HO4 := hide hown4
                    have HS4 := hide S4
                    clear hk Hsucc hown4 S4 Z4
                    go_wp2
                    go_roundw
                    case rel => exact ⟨x + 1, by omega, by go_num, by rw [unhide Hs]; exact unhide HO4, unhide HS4⟩
                    case measure => simp [intOf]; omega
                  | true =>
                    have Hs := hide (show LT ++ rowM K N t fl (y * N + (x + 1)) = LX ++ [(t, fl, x, y)] by rw [unhide Hsucc, hk]; simp)
                    have z := Z4.2.1
                    have hs4 := S4.size
                    clear hk Hsucc Z4
                    go_wp2_with (at_builtin; refine wpList_append_own _ rfl _ _ 31 rfl w0.heap.size 41 i0 (.agg #[.int .i64 0, .bool false, .int .i64 0, .int .i64 0]) 4 32 Tryd.underlying31 hi hz0 hz1 hz2 rfl (by decide) _ _ _ rfl (hown4.alloc _) ⟨w4.heap.size, 0, none⟩ 1 1 (mvC (t, fl, x, y)) rfl rfl ?c1 ?c2 ?c3 ?c4 ?c5 ?_)
                    case c1 =>
                      intro j u hj
                      match j, hj with
                      | 0, hj => simp [mvC] at hj; subst hj; simp [Addr.add, go_sem]
                      | 1, hj => simp [mvC] at hj; subst hj; simp [Addr.add, go_sem]
                      | 2, hj => simp [mvC] at hj; subst hj; simp [Addr.add, go_sem]
                      | 3, hj => simp [mvC] at hj; subst hj; simp [Addr.add, go_sem]
                      | j + 4, hj => simp [mvC] at hj
                    case c2 => intro u hu; simp [mvC] at hu; rcases hu with rfl | rfl | rfl | rfl <;> rfl
                    case c3 => unfold maxLen; omega
                    case c4 => omega
                    case c5 => simp; omega
                    intro v' w5 hown' hgrow _
                    have S5 := (S4.alloc (by omega) _).grown hgrow (by simp; omega) (fun k hk => (hown4.lt k hk).1)
                    have HO5 := hide hown'
                    have HS5 := hide S5
                    clear hgrow hown4 S4 z hown' S5
                    go_wp2
                    go_roundw
                    case rel => exact ⟨x + 1, by omega, by go_num, by rw [unhide Hs, List.length_append, mvsV_snoc]; exact unhide HO5, unhide HS5⟩
                    case measure => simp [intOf]; omega
                · have e : x = N := by omega
                  subst e
                  have cl : ¬ ((x : Int) < (x : Int)) := by omega
                  have Hs := hide (show (y + 1) * x = y * x + x by rw [Nat.add_mul, Nat.one_mul])
                  have HO := hide hown
                  have HS := hide hbel
                  clear hown hbel
                  go_wp2
                  go_roundw
                  case rel => exact ⟨y + 1, by omega, by go_num, by rw [unhide Hs]; exact unhide HO, unhide HS⟩
                  case measure => simp [intOf]; omega
            · have e : y = N := by omega
              subst e
              have cl : ¬ ((y : Int) < (y : Int)) := by omega
              have HO := hide hown
              have HS := hide hbel
              clear hown hbel
              go_wp2
              go_roundw
              case rel => exact ⟨t + 1, by omega, by go_num, by rw [unhide HLT]; exact unhide HO, unhide HS⟩
              case measure => simp [intOf]; omega
        · have e : t = G := by omega
          subst e
          have cl : ¬ ((t : Int) < (t : Int)) := by omega
          have HO := hide hown
          have HS := hide hbel
          clear hown hbel
          go_wp2
          clear c
          go_roundw
          case rel => exact ⟨a + 1, by omega, by go_num, by rw [unhide HAs]; exact unhide HO, unhide HS⟩
          case measure => simp [intOf]; omega
    · have e : a = 2 := by omega
      subst e
      have HO := hide hown
      have HS := hide (btrans (unhide HB) hbel)
      clear hown hbel
      go_wp2
      go_ret
      exact ⟨_, rfl, Joins.ownsRow_le (unhide HO) hw0, unhide HS⟩

theorem rall_ok (g w h : Int) (p : Option Addr) (n cap : Nat) (px : Nat → Int) (w' h' N b o : Nat) (W : World) (r : Right W g w h p n px w' h' N b o) :
    Calls Tryd.prog 13 #[Ch.ch g w h p n cap, .int .i64 N] W fun e V => ∃ q cp, e = .returned (.slice (some ⟨q, 0, none⟩) (movesL w' h' N px g).length cp) ∧ MRow V q (movesL w' h' N px g) ∧ Below W.heap.size W V := by
  have hN1 := r.hN1
  have hg := r.hg
  have hpos := moves_pos w' h' N px g hN1.1 hg
  refine (rall_plain g w h p n cap g.toNat N (keepsK w' h' N px g) W (by omega) (by omega) hN1 (fun V => Right V g w h p n px w' h' N b o) (fun V V' k hb => k.keep hb) (fun V k t f x y ht hx hy => ?_) r).mono ?_
  · have := kept_any g w h p n cap px w' h' N b o t f x y V k (by omega) (sm2_of (by omega) (by omega))
    rw [keeps_ab w' h' N px g t f x y hN1.1 hx] at this
    exact this
  · rintro e V ⟨v, rfl, hown, hb⟩
    have hown2 : V.ownsRow W.heap.size 41 4 v (movesL w' h' N px g).length (mvsV (movesL w' h' N px g)) := hown
    obtain ⟨q, cp, rfl⟩ := own_slice hown2 hpos
    exact ⟨q, cp, rfl, mrow_own hown2, hb⟩

end Go.Proofs.YtpcajcgafmmlkaaDoor

namespace Go.Proofs.YtpcajcgafmmlkaaDoor
open Go.RowKit

def RKindIs (g w h : Int) (p : Option Addr) (n cap : Nat) (W : World) (kd er : Int) : Prop :=
  Calls Tryd.prog 5 #[Ch.ch g w h p n cap] W fun e w' => e = .returned (.tuple #[.int .i64 kd, .int .i64 er]) ∧ Below W.heap.size W w'

set_option maxHeartbeats 1000000 in
set_option maxRecDepth 100000 in
theorem rkind_err (g w h : Int) (p : Option Addr) (n cap : Nat) (px : Nat → Int) (W : World) (hc : Ch.Cells W p n px) (er : Int) (her : toE g w h n px = er) (hp : 1 ≤ er) : RKindIs g w h p n cap W 0 er := by
  have HT := hide (fun V (hc : Ch.Cells V p n px) => rtorus_any g w h p n cap px V hc)
  have e0 : toN g w h n px = 0 := by unfold toN; rw [if_neg (by omega)]
  rw [her, e0] at HT
  have B0 := bal (o := .cells #[.int .i64 g, .int .i64 w, .int .i64 h, .slice p n cap] 24) (Below.refl W.heap.size W)
  have Hc := hide (hc.keep B0)
  have HB := hide B0
  have hee : (er != 0) = true := by simp; omega
  clear hc her B0 e0 hp
  unfold RKindIs
  go_enter Tryd.func5, Tryd.ntmps5
  go_wp2_with fail
  generalize W.alloc (.cells #[.int .i64 g, .int .i64 w, .int .i64 h, .slice p n cap] 24) = w0 at *
  refine (unhide HT _ (unhide Hc)).mono ?_
  rintro e w1 ⟨rfl, hb⟩
  have S := btrans (unhide HB) hb
  clear hb
  go_wp2
  exact bodyPost_ret (v := .tuple #[.int .i64 0, .int .i64 er]) (by simp [results, Tryd.results5]) rfl ⟨rfl, S⟩

theorem tuB_fi (L : List Mv) (t : Nat) : tuB L t = (fi L t false).isSome := by
  unfold tuB fi
  rw [Bool.eq_iff_iff, List.find?_isSome, List.any_eq_true]
  constructor
  · rintro ⟨m, hm, h⟩
    simp only [Bool.and_eq_true, Bool.not_eq_true', decide_eq_true_eq] at h
    exact ⟨m, hm, by simp [h.1, h.2]⟩
  · rintro ⟨m, hm, h⟩
    simp at h
    exact ⟨m, hm, by simp [h.1, h.2]⟩
theorem fpB_fi (L : List Mv) (t : Nat) : fpB L t = (fi L t true).isSome := by
  unfold fpB fi
  rw [Bool.eq_iff_iff, List.find?_isSome, List.any_eq_true]
  constructor
  · rintro ⟨m, hm, h⟩
    simp only [Bool.and_eq_true, decide_eq_true_eq] at h
    exact ⟨m, hm, by simp [h.1, h.2]⟩
  · rintro ⟨m, hm, h⟩
    simp at h
    exact ⟨m, hm, by simp [h.1, h.2]⟩
theorem smB_lnA (K : Int → Int → Bool) (g : Int) (N : Nat) (L : List Mv) (t : Nat) (b : Bool) : smB (lnB K g) N L t b = true ↔ lnA K g N L t b := by
  unfold smB lnY lnX lnA
  rw [List.any_eq_true]
  constructor
  · rintro ⟨⟨a, f, X, Y⟩, hm, h⟩
    simp only [Bool.and_eq_true, decide_eq_true_eq] at h
    obtain ⟨rfl, rfl, h3⟩ := h
    rw [List.any_eq_true] at h3
    obtain ⟨y, hy, h4⟩ := h3
    rw [List.any_eq_true] at h4
    obtain ⟨x, hx, h5⟩ := h4
    rw [List.mem_range] at hx hy
    exact ⟨X, Y, hm, (x : Int) - 1, (y : Int) - 1, by omega, by omega, by simpa using h5⟩
  · rintro ⟨X, Y, hm, x, y, hx, hy, h⟩
    refine ⟨(t, true, X, Y), hm, ?_⟩
    simp only [Bool.and_eq_true, decide_eq_true_eq]
    refine ⟨trivial, trivial, ?_⟩
    rw [List.any_eq_true]
    refine ⟨(y + 1).toNat, List.mem_range.2 (by omega), ?_⟩
    rw [List.any_eq_true]
    refine ⟨(x + 1).toNat, List.mem_range.2 (by omega), ?_⟩
    rw [show ((x + 1).toNat : Int) - 1 = x by omega, show ((y + 1).toNat : Int) - 1 = y by omega]
    simpa using h
theorem near_mir (w h N : Nat) (px : Nat → Int) (g : Int) (hN : 1 ≤ N ∧ N ≤ 24) : Near g (mirL g N (movesL w h N px g)) := by
  rintro ⟨t, p, q⟩ hm
  obtain ⟨X, Y, hm2, x, y, hx, hy, rfl, rfl, -⟩ := (mem_mirL g N _ t p q).1 hm
  obtain ⟨h1, hX, hY, -⟩ := (mem_moves w h N px g t true X Y hN.1).1 hm2
  have n1 := Int.mul_le_mul_of_nonneg_left hx.2 (show (0 : Int) ≤ N by omega)
  have n2 := Int.mul_le_mul_of_nonneg_left hx.1 (show (0 : Int) ≤ N by omega)
  have n3 := Int.mul_le_mul_of_nonneg_left hy.2 (show (0 : Int) ≤ N by omega)
  have n4 := Int.mul_le_mul_of_nonneg_left hy.1 (show (0 : Int) ≤ N by omega)
  dsimp only
  exact ⟨by omega, by omega, by omega⟩
theorem rkind_right (g w h : Int) (p : Option Addr) (n cap : Nat) (px : Nat → Int) (w' h' N b o : Nat) (s u v : Nat) (W : World) (r : Right W g w h p n px w' h' N b o) (hF : Fine (pat w' h' N px) N s u v) : RKindIs g w h p n cap W (kindO w' h' N px g s u v) 0 := by
  have hN1 := r.hN1
  have hg := r.hg
  have hlen := moves_len w' h' N px g hN1.2 hg
  have hmm : ∀ m ∈ movesL w' h' N px g, (m.1 : Int) < g ∧ m.2.2.1 < N ∧ m.2.2.2 < N := by
    rintro ⟨t, f, X, Y⟩ hm
    obtain ⟨h1, hX, hY, -⟩ := (mem_moves w' h' N px g t f X Y hN1.1).1 hm
    exact ⟨by dsimp only; omega, hX, hY⟩
  have hnear := near_mir w' h' N px g hN1
  have hRl : (mirL g N (movesL w' h' N px g)).length ≤ 1000000 := by have := mirL_len g N (movesL w' h' N px g); omega
  have hHF : ∀ t, t < g.toNat → ∀ b, (smB (lnB (stB w' h' N px g) g) N (movesL w' h' N px g) t b = true ↔ HF (pat w' h' N px) g t b) := fun t ht b =>
    (smB_lnA _ g N _ t b).trans (lnA_iff w' h' N px g t b hg hN1.1 ht)
  have key := rk_same w' h' N px g s u v hg hN1.1 hF (fun t => smB (lnB (stB w' h' N px g) g) N (movesL w' h' N px g) t true) (fun t => smB (lnB (stB w' h' N px g) g) N (movesL w' h' N px g) t false)
    (cenB g N (mirL g N (movesL w' h' N px g)) 2 (movesL w' h' N px g)) (somB g (mirL g N (movesL w' h' N px g)) 1 (movesL w' h' N px g)) (fun t ht => hHF t ht true) (fun t ht => hHF t ht false)
    (by rintro rfl; exact cen_iff w' h' N px hN1.1) (by rintro rfl hq; exact som_iff w' h' N px s u v hN1.1 hF hq)
  rw [← key]
  have eT : (fun t => (fi (movesL w' h' N px g) t false).isSome) = tuB (movesL w' h' N px g) := by funext t; rw [tuB_fi]
  have eF : (fun t => (fi (movesL w' h' N px g) t true).isSome) = fpB (movesL w' h' N px g) := by funext t; rw [fpB_fi]
  have hG : ((g.toNat : Nat) : Int) = g := by omega
  have hgr := (moves_grp w' h' N px g hg hN1.1).count.1
  refine rkind_plain g w h p n cap g.toNat N (movesL w' h' N px g) (lnB (stB w' h' N px g) g) (mirL g N (movesL w' h' N px g)) _ _ _ _ _ _ (fun V => Right V g w h p n px w' h' N b o) W hG.symm (by omega) hN1 hlen (fun m hm => (hmm m hm).2) (fun V V' k hb => k.keep hb) r ?_ ?_ ?_ ?_ ?_ ?_ (by rw [eT]) (by rw [eF]) rfl rfl
  · intro V k
    have := rtorus_any g w h p n cap px V (Or.inr ⟨b, o, k.hp, k.row⟩)
    rw [k.hE, k.hN] at this
    exact this
  · intro V k
    exact rall_ok g w h p n cap px w' h' N b o V k
  · intro V q cp hm t X Y ht hX hY
    exact line_any w' h' N px g q cp t X Y V hg (by omega) hN1 hX hY hm
  · intro V q cp hm
    exact mirrors_any g w h p n cap (movesL w' h' N px g) N q cp V hg hN1 hlen hmm hm
  · intro h3 V q cp q' cp' hm hm'
    have g6 : g = 6 := by
      rcases hg with rfl | rfl
      · rw [h3] at hgr
        revert hgr
        decide
      · rfl
    refine centred_any g w h p n cap N (movesL w' h' N px g) q cp (mirL g N (movesL w' h' N px g)) q' cp' 2 V hN1 hlen (fun m hm => (hmm m hm).2) hm hm' ?_
    intro V' hV' X Y x y hmem hx hy
    have hl := hmm _ hmem
    dsimp only at hl
    have n1 := Int.mul_le_mul_of_nonneg_left (show (x : Int) ≤ 2 by omega) (show (0 : Int) ≤ N by omega)
    have n3 := Int.mul_le_mul_of_nonneg_left (show (y : Int) ≤ 2 by omega) (show (0 : Int) ≤ N by omega)
    have n2 := Int.mul_nonneg (show (0 : Int) ≤ N by omega) (show (0 : Int) ≤ x by omega)
    have n4 := Int.mul_nonneg (show (0 : Int) ≤ N by omega) (show (0 : Int) ≤ y by omega)
    exact onR_any g _ q' cp' 2 _ _ V' hg (by omega) (by omega) (by omega) hRl hnear hV'
  · intro h4 V q cp q' cp' hm hm'
    refine some_any g w h p n cap (movesL w' h' N px g) q cp (mirL g N (movesL w' h' N px g)) q' cp' 1 V hlen hm hm' ?_
    intro V' hV' X Y hmem
    have hl := hmm _ hmem
    dsimp only at hl
    exact onR_any g _ q' cp' 1 X Y V' hg (by omega) (by omega) (by omega) hRl hnear hV'
end Go.Proofs.YtpcajcgafmmlkaaDoor

namespace Go.Proofs.YtpcajcgafmmlkaaDoor
open Go.RowKit

theorem atX_nat (px : Nat → Int) (w h x y : Nat) (hx : x < w) (hy : y < h) : Ch.atX w h px x y = px (y * w + x) := by
  unfold Ch.atX
  rw [← Int.natCast_emod, ← Int.natCast_emod, Nat.mod_eq_of_lt hx, Nat.mod_eq_of_lt hy, ← Int.natCast_mul, ← Int.natCast_add, Int.toNat_natCast]
theorem at_to (px : Nat → Int) (w h : Nat) (back over : Bool) (t x y : Nat) (hw : 1 ≤ w) (hx : x < w) (hy : y < h) :
    Ch.atX w h px (if back = true then (t : Int) - x else (t : Int) + x) (if over = true then (h : Int) - 1 - y else (y : Int)) = px (bcN w h back over t x y) := by
  rw [← bnd_to px w h back over t x y hx]
  have ek : (if over = true then (h : Int) - 1 - y else (y : Int)) = ((if over = true then h - 1 - y else y : Nat) : Int) := by split <;> omega
  have hk : (if over = true then h - 1 - y else y) < h := by split <;> omega
  rw [ek]
  generalize (if over = true then h - 1 - y else y) = k at *
  have ei : (if back = true then (t : Int) - x else (t : Int) + x) = (if back = true then (t : Int) - x else (x : Int) + t) := by split; rfl; omega
  rw [ei]
  generalize (if back = true then (t : Int) - x else (x : Int) + t) = i
  unfold Ch.atX bnd
  have a1 := Int.emod_nonneg i (show (w : Int) ≠ 0 by omega)
  rw [← Int.natCast_emod, Nat.mod_eq_of_lt hk, show (k : Int) * (w : Int) + i % (w : Int) = ((k * w + (i % (w : Int)).toNat : Nat) : Int) by rw [Int.natCast_add, Int.natCast_mul, Int.toNat_of_nonneg a1], Int.toNat_natCast]

set_option maxHeartbeats 8000000 in
set_option maxRecDepth 100000 in
theorem rkept_any (g : Int) (w h b o n cap : Nat) (px : Nat → Int) (back over : Bool) (t : Nat) (W : World) (hw : 1 ≤ w ∧ w ≤ 64) (hh : 1 ≤ h ∧ h ≤ 64) (ht : t ≤ 64) (hn : n = w * h) (hr : Ch.Row W b o n px) :
    Calls Tryd.prog 22 #[Ch.ch g w h (some ⟨b, o, none⟩) n cap, .bool back, .bool over, .int .i64 t] W fun e w' => e = .returned (.bool (kpBand px w h back over t)) ∧ Below W.heap.size W w' := by
  have HA := hide (fun (V : World) (hV : Ch.Row V b o n px) (x y : Int) => Ch.cell_any g w h b o n cap px x y V (by omega) (by omega) (by rw [hn, Int.natCast_mul]) hV)
  have B0 := bal (o := .cells #[.int .i64 g, .int .i64 w, .int .i64 h, .slice (some ⟨b, o, none⟩) n cap] 24) (Below.refl W.heap.size W)
  have HC0 := hide (Ch.OwnC.new W g w h (some ⟨b, o, none⟩) n cap 24)
  have HR0 := hide (hr.keep B0)
  have HB := hide B0
  generalize hans : kpBand px w h back over t = ans
  have Hans := hide hans
  clear hr B0 hn hans
  go_enter Tryd.func22, Tryd.ntmps22
  go_wp2
  generalize W.alloc (.cells #[.int .i64 g, .int .i64 w, .int .i64 h, .slice (some ⟨b, o, none⟩) n cap] 24) = w0 at *
  go_loopw [9] (fun a wr => ∃ y : Nat, y ≤ h ∧ a = .int .i64 y ∧ allP px w h back over t y = true ∧ Below w0.heap.size w0 wr) (fun a _ => h - (intOf a).toNat)
  case atStart => exact ⟨0, by omega, rfl, rfl, Below.refl _ _⟩
  case round =>
    obtain ⟨y, hy, rfl, hall, hbel⟩ := hrel
    by_cases hlt : y < h
    · have q2 : (y : Int) < (h : Int) := by omega
      have c := ((unhide HC0).keep hbel).2
      have Hall := hide hall
      have Hbel := hide hbel
      have Hlt := hide hlt
      clear hall hbel hlt
      go_wp2
      clear c
      go_loopw [10] (fun a wr => ∃ x : Nat, x ≤ w ∧ a = .int .i64 x ∧ rowP px w h back over t y x = true ∧ Below w0.heap.size w0 wr) (fun a _ => w - (intOf a).toNat)
      case atStart => exact ⟨0, by omega, rfl, rfl, unhide Hbel⟩
      case round =>
        clear Hbel
        obtain ⟨x, hx, rfl, hrow, hbel⟩ := hrel
        by_cases hlx : x < w
        · have q3 : (x : Int) < (w : Int) := by omega
          have H1 := hide (fun V hV => unhide HA V hV (x : Int) (y : Int))
          rw [atX_nat px w h x y hlx (unhide Hlt)] at H1
          have Hrow := hide hrow
          clear hrow
          cases back <;> cases over
          · have H2 := hide (fun V hV => unhide HA V hV ((t : Int) + (x : Int)) ((y : Int)))
            rw [show Ch.atX w h px ((t : Int) + (x : Int)) ((y : Int)) = px (bcN w h false false t x y) from at_to px w h false false t x y hw.1 hlx (unhide Hlt)] at H2
            have Hno := hide (fun h0 => kpBand_no (px := px) (w := w) (h := h) (back := false) (over := false) (t := t) (y := y) (x := x) (unhide Hlt) hlx h0)
            have Hyes := hide (fun (h0 : okP px w h false false t y x = true) => show rowP px w h false false t y (x + 1) = true by rw [rowP_succ, unhide Hrow, h0]; rfl)
            have Hok := hide (show okP px w h false false t y x = decide (px (y * w + x) = px (bcN w h false false t x y)) from rfl)
            generalize okP px w h false false t y x = ok at *
            generalize px (bcN w h false false t x y) = pj at *
            generalize px (y * w + x) = pi at *
            have c := ((unhide HC0).keep hbel).2
            go_wp2_with fail
            clear c
            generalize (t : Int) + (x : Int) = Ii at *
            skip
            have C1 := (unhide HC0).keep hbel
            have R1 := hide ((unhide HR0).keep hbel)
            have Mk := hide (show ∀ V, Below wr.heap.size wr V → Below wr.heap.size wr V ∧ (V.cell? ⟨W.heap.size, 0, none⟩ = some (.int .i64 g) ∧ V.cell? ⟨W.heap.size, 1, none⟩ = some (.int .i64 w) ∧ V.cell? ⟨W.heap.size, 2, none⟩ = some (.int .i64 h) ∧ V.cell? ⟨W.heap.size, 3, none⟩ = some (.slice (some ⟨b, o, none⟩) n cap)) from fun V hV => ⟨hV, (C1.keep hV).2⟩)
            clear C1
            by_cases hq : pi = pj
            · have hq' : (pi != pj) = false := by simp [hq]
              have Ht := hide (unhide Hyes (by rw [unhide Hok]; exact decide_eq_true hq))
              clear hq
              go_region_held3 (fun V => Below wr.heap.size wr V ∧ (V.cell? ⟨W.heap.size, 0, none⟩ = some (.int .i64 g) ∧ V.cell? ⟨W.heap.size, 1, none⟩ = some (.int .i64 w) ∧ V.cell? ⟨W.heap.size, 2, none⟩ = some (.int .i64 h) ∧ V.cell? ⟨W.heap.size, 3, none⟩ = some (.slice (some ⟨b, o, none⟩) n cap)))
                (first
                  | (exact unhide Mk _ (Below.drew (Below.refl _ _)))
                  | (exact unhide Mk _ (btrans (by assumption : Below wr.heap.size wr _ ∧ _).1 hb)))
                (first
                  | (go_at_call_of 38 (x : Int); refine (unhide H1 _ ((unhide R1).keep (by assumption : Below wr.heap.size wr _ ∧ _).1)).mono ?_; rintro e w2 ⟨rfl, hb⟩)
                  | (go_at_call_of 38 Ii; refine (unhide H2 _ ((unhide R1).keep (by assumption : Below wr.heap.size wr _ ∧ _).1)).mono ?_; rintro e w2 ⟨rfl, hb⟩))
              all_goals
                have S2 := btrans hbel (by assumption : Below wr.heap.size wr _ ∧ _).1
                clear hb Mk hbel
                go_wp2
                go_roundw
                case rel => exact ⟨x + 1, by omega, by go_num, unhide Ht, S2⟩
                case measure => simp [intOf]; omega
            · have hq' : (pi != pj) = true := by simp [hq]
              have hy : ans = false := (unhide Hans).symm.trans (unhide Hno (by rw [unhide Hok]; exact decide_eq_false hq))
              subst hy
              clear hq
              go_region_held3 (fun V => Below wr.heap.size wr V ∧ (V.cell? ⟨W.heap.size, 0, none⟩ = some (.int .i64 g) ∧ V.cell? ⟨W.heap.size, 1, none⟩ = some (.int .i64 w) ∧ V.cell? ⟨W.heap.size, 2, none⟩ = some (.int .i64 h) ∧ V.cell? ⟨W.heap.size, 3, none⟩ = some (.slice (some ⟨b, o, none⟩) n cap)))
                (first
                  | (exact unhide Mk _ (Below.drew (Below.refl _ _)))
                  | (exact unhide Mk _ (btrans (by assumption : Below wr.heap.size wr _ ∧ _).1 hb)))
                (first
                  | (go_at_call_of 38 (x : Int); refine (unhide H1 _ ((unhide R1).keep (by assumption : Below wr.heap.size wr _ ∧ _).1)).mono ?_; rintro e w2 ⟨rfl, hb⟩)
                  | (go_at_call_of 38 Ii; refine (unhide H2 _ ((unhide R1).keep (by assumption : Below wr.heap.size wr _ ∧ _).1)).mono ?_; rintro e w2 ⟨rfl, hb⟩))
              all_goals
                have S2 := btrans hbel (by assumption : Below wr.heap.size wr _ ∧ _).1
                clear hb Mk hbel
                go_wp2
                go_ret
                exact ⟨ret_bool rfl, btrans (unhide HB) S2⟩
          · have H2 := hide (fun V hV => unhide HA V hV ((t : Int) + (x : Int)) ((h : Int) - 1 - (y : Int)))
            rw [show Ch.atX w h px ((t : Int) + (x : Int)) ((h : Int) - 1 - (y : Int)) = px (bcN w h false true t x y) from at_to px w h false true t x y hw.1 hlx (unhide Hlt)] at H2
            have Hno := hide (fun h0 => kpBand_no (px := px) (w := w) (h := h) (back := false) (over := true) (t := t) (y := y) (x := x) (unhide Hlt) hlx h0)
            have Hyes := hide (fun (h0 : okP px w h false true t y x = true) => show rowP px w h false true t y (x + 1) = true by rw [rowP_succ, unhide Hrow, h0]; rfl)
            have Hok := hide (show okP px w h false true t y x = decide (px (y * w + x) = px (bcN w h false true t x y)) from rfl)
            generalize okP px w h false true t y x = ok at *
            generalize px (bcN w h false true t x y) = pj at *
            generalize px (y * w + x) = pi at *
            have c := ((unhide HC0).keep hbel).2
            go_wp2_with fail
            clear c
            generalize (t : Int) + (x : Int) = Ii at *
            generalize (h : Int) - 1 - (y : Int) = Kk at *
            have C1 := (unhide HC0).keep hbel
            have R1 := hide ((unhide HR0).keep hbel)
            have Mk := hide (show ∀ V, Below wr.heap.size wr V → Below wr.heap.size wr V ∧ (V.cell? ⟨W.heap.size, 0, none⟩ = some (.int .i64 g) ∧ V.cell? ⟨W.heap.size, 1, none⟩ = some (.int .i64 w) ∧ V.cell? ⟨W.heap.size, 2, none⟩ = some (.int .i64 h) ∧ V.cell? ⟨W.heap.size, 3, none⟩ = some (.slice (some ⟨b, o, none⟩) n cap)) from fun V hV => ⟨hV, (C1.keep hV).2⟩)
            clear C1
            by_cases hq : pi = pj
            · have hq' : (pi != pj) = false := by simp [hq]
              have Ht := hide (unhide Hyes (by rw [unhide Hok]; exact decide_eq_true hq))
              clear hq
              go_region_held3 (fun V => Below wr.heap.size wr V ∧ (V.cell? ⟨W.heap.size, 0, none⟩ = some (.int .i64 g) ∧ V.cell? ⟨W.heap.size, 1, none⟩ = some (.int .i64 w) ∧ V.cell? ⟨W.heap.size, 2, none⟩ = some (.int .i64 h) ∧ V.cell? ⟨W.heap.size, 3, none⟩ = some (.slice (some ⟨b, o, none⟩) n cap)))
                (first
                  | (exact unhide Mk _ (Below.drew (Below.refl _ _)))
                  | (exact unhide Mk _ (btrans (by assumption : Below wr.heap.size wr _ ∧ _).1 hb)))
                (first
                  | (go_at_call_of 38 (x : Int); refine (unhide H1 _ ((unhide R1).keep (by assumption : Below wr.heap.size wr _ ∧ _).1)).mono ?_; rintro e w2 ⟨rfl, hb⟩)
                  | (go_at_call_of 38 Ii; refine (unhide H2 _ ((unhide R1).keep (by assumption : Below wr.heap.size wr _ ∧ _).1)).mono ?_; rintro e w2 ⟨rfl, hb⟩))
              all_goals
                have S2 := btrans hbel (by assumption : Below wr.heap.size wr _ ∧ _).1
                clear hb Mk hbel
                go_wp2
                go_roundw
                case rel => exact ⟨x + 1, by omega, by go_num, unhide Ht, S2⟩
                case measure => simp [intOf]; omega
            · have hq' : (pi != pj) = true := by simp [hq]
              have hy : ans = false := (unhide Hans).symm.trans (unhide Hno (by rw [unhide Hok]; exact decide_eq_false hq))
              subst hy
              clear hq
              go_region_held3 (fun V => Below wr.heap.size wr V ∧ (V.cell? ⟨W.heap.size, 0, none⟩ = some (.int .i64 g) ∧ V.cell? ⟨W.heap.size, 1, none⟩ = some (.int .i64 w) ∧ V.cell? ⟨W.heap.size, 2, none⟩ = some (.int .i64 h) ∧ V.cell? ⟨W.heap.size, 3, none⟩ = some (.slice (some ⟨b, o, none⟩) n cap)))
                (first
                  | (exact unhide Mk _ (Below.drew (Below.refl _ _)))
                  | (exact unhide Mk _ (btrans (by assumption : Below wr.heap.size wr _ ∧ _).1 hb)))
                (first
                  | (go_at_call_of 38 (x : Int); refine (unhide H1 _ ((unhide R1).keep (by assumption : Below wr.heap.size wr _ ∧ _).1)).mono ?_; rintro e w2 ⟨rfl, hb⟩)
                  | (go_at_call_of 38 Ii; refine (unhide H2 _ ((unhide R1).keep (by assumption : Below wr.heap.size wr _ ∧ _).1)).mono ?_; rintro e w2 ⟨rfl, hb⟩))
              all_goals
                have S2 := btrans hbel (by assumption : Below wr.heap.size wr _ ∧ _).1
                clear hb Mk hbel
                go_wp2
                go_ret
                exact ⟨ret_bool rfl, btrans (unhide HB) S2⟩
          · have H2 := hide (fun V hV => unhide HA V hV ((t : Int) - (x : Int)) ((y : Int)))
            rw [show Ch.atX w h px ((t : Int) - (x : Int)) ((y : Int)) = px (bcN w h true false t x y) from at_to px w h true false t x y hw.1 hlx (unhide Hlt)] at H2
            have Hno := hide (fun h0 => kpBand_no (px := px) (w := w) (h := h) (back := true) (over := false) (t := t) (y := y) (x := x) (unhide Hlt) hlx h0)
            have Hyes := hide (fun (h0 : okP px w h true false t y x = true) => show rowP px w h true false t y (x + 1) = true by rw [rowP_succ, unhide Hrow, h0]; rfl)
            have Hok := hide (show okP px w h true false t y x = decide (px (y * w + x) = px (bcN w h true false t x y)) from rfl)
            generalize okP px w h true false t y x = ok at *
            generalize px (bcN w h true false t x y) = pj at *
            generalize px (y * w + x) = pi at *
            have c := ((unhide HC0).keep hbel).2
            go_wp2_with fail
            clear c
            generalize (t : Int) - (x : Int) = Ii at *
            skip
            have C1 := (unhide HC0).keep hbel
            have R1 := hide ((unhide HR0).keep hbel)
            have Mk := hide (show ∀ V, Below wr.heap.size wr V → Below wr.heap.size wr V ∧ (V.cell? ⟨W.heap.size, 0, none⟩ = some (.int .i64 g) ∧ V.cell? ⟨W.heap.size, 1, none⟩ = some (.int .i64 w) ∧ V.cell? ⟨W.heap.size, 2, none⟩ = some (.int .i64 h) ∧ V.cell? ⟨W.heap.size, 3, none⟩ = some (.slice (some ⟨b, o, none⟩) n cap)) from fun V hV => ⟨hV, (C1.keep hV).2⟩)
            clear C1
            by_cases hq : pi = pj
            · have hq' : (pi != pj) = false := by simp [hq]
              have Ht := hide (unhide Hyes (by rw [unhide Hok]; exact decide_eq_true hq))
              clear hq
              go_region_held3 (fun V => Below wr.heap.size wr V ∧ (V.cell? ⟨W.heap.size, 0, none⟩ = some (.int .i64 g) ∧ V.cell? ⟨W.heap.size, 1, none⟩ = some (.int .i64 w) ∧ V.cell? ⟨W.heap.size, 2, none⟩ = some (.int .i64 h) ∧ V.cell? ⟨W.heap.size, 3, none⟩ = some (.slice (some ⟨b, o, none⟩) n cap)))
                (first
                  | (exact unhide Mk _ (Below.drew (Below.refl _ _)))
                  | (exact unhide Mk _ (btrans (by assumption : Below wr.heap.size wr _ ∧ _).1 hb)))
                (first
                  | (go_at_call_of 38 (x : Int); refine (unhide H1 _ ((unhide R1).keep (by assumption : Below wr.heap.size wr _ ∧ _).1)).mono ?_; rintro e w2 ⟨rfl, hb⟩)
                  | (go_at_call_of 38 Ii; refine (unhide H2 _ ((unhide R1).keep (by assumption : Below wr.heap.size wr _ ∧ _).1)).mono ?_; rintro e w2 ⟨rfl, hb⟩))
              all_goals
                have S2 := btrans hbel (by assumption : Below wr.heap.size wr _ ∧ _).1
                clear hb Mk hbel
                go_wp2
                go_roundw
                case rel => exact ⟨x + 1, by omega, by go_num, unhide Ht, S2⟩
                case measure => simp [intOf]; omega
            · have hq' : (pi != pj) = true := by simp [hq]
              have hy : ans = false := (unhide Hans).symm.trans (unhide Hno (by rw [unhide Hok]; exact decide_eq_false hq))
              subst hy
              clear hq
              go_region_held3 (fun V => Below wr.heap.size wr V ∧ (V.cell? ⟨W.heap.size, 0, none⟩ = some (.int .i64 g) ∧ V.cell? ⟨W.heap.size, 1, none⟩ = some (.int .i64 w) ∧ V.cell? ⟨W.heap.size, 2, none⟩ = some (.int .i64 h) ∧ V.cell? ⟨W.heap.size, 3, none⟩ = some (.slice (some ⟨b, o, none⟩) n cap)))
                (first
                  | (exact unhide Mk _ (Below.drew (Below.refl _ _)))
                  | (exact unhide Mk _ (btrans (by assumption : Below wr.heap.size wr _ ∧ _).1 hb)))
                (first
                  | (go_at_call_of 38 (x : Int); refine (unhide H1 _ ((unhide R1).keep (by assumption : Below wr.heap.size wr _ ∧ _).1)).mono ?_; rintro e w2 ⟨rfl, hb⟩)
                  | (go_at_call_of 38 Ii; refine (unhide H2 _ ((unhide R1).keep (by assumption : Below wr.heap.size wr _ ∧ _).1)).mono ?_; rintro e w2 ⟨rfl, hb⟩))
              all_goals
                have S2 := btrans hbel (by assumption : Below wr.heap.size wr _ ∧ _).1
                clear hb Mk hbel
                go_wp2
                go_ret
                exact ⟨ret_bool rfl, btrans (unhide HB) S2⟩
          · have H2 := hide (fun V hV => unhide HA V hV ((t : Int) - (x : Int)) ((h : Int) - 1 - (y : Int)))
            rw [show Ch.atX w h px ((t : Int) - (x : Int)) ((h : Int) - 1 - (y : Int)) = px (bcN w h true true t x y) from at_to px w h true true t x y hw.1 hlx (unhide Hlt)] at H2
            have Hno := hide (fun h0 => kpBand_no (px := px) (w := w) (h := h) (back := true) (over := true) (t := t) (y := y) (x := x) (unhide Hlt) hlx h0)
            have Hyes := hide (fun (h0 : okP px w h true true t y x = true) => show rowP px w h true true t y (x + 1) = true by rw [rowP_succ, unhide Hrow, h0]; rfl)
            have Hok := hide (show okP px w h true true t y x = decide (px (y * w + x) = px (bcN w h true true t x y)) from rfl)
            generalize okP px w h true true t y x = ok at *
            generalize px (bcN w h true true t x y) = pj at *
            generalize px (y * w + x) = pi at *
            have c := ((unhide HC0).keep hbel).2
            go_wp2_with fail
            clear c
            generalize (t : Int) - (x : Int) = Ii at *
            generalize (h : Int) - 1 - (y : Int) = Kk at *
            have C1 := (unhide HC0).keep hbel
            have R1 := hide ((unhide HR0).keep hbel)
            have Mk := hide (show ∀ V, Below wr.heap.size wr V → Below wr.heap.size wr V ∧ (V.cell? ⟨W.heap.size, 0, none⟩ = some (.int .i64 g) ∧ V.cell? ⟨W.heap.size, 1, none⟩ = some (.int .i64 w) ∧ V.cell? ⟨W.heap.size, 2, none⟩ = some (.int .i64 h) ∧ V.cell? ⟨W.heap.size, 3, none⟩ = some (.slice (some ⟨b, o, none⟩) n cap)) from fun V hV => ⟨hV, (C1.keep hV).2⟩)
            clear C1
            by_cases hq : pi = pj
            · have hq' : (pi != pj) = false := by simp [hq]
              have Ht := hide (unhide Hyes (by rw [unhide Hok]; exact decide_eq_true hq))
              clear hq
              go_region_held3 (fun V => Below wr.heap.size wr V ∧ (V.cell? ⟨W.heap.size, 0, none⟩ = some (.int .i64 g) ∧ V.cell? ⟨W.heap.size, 1, none⟩ = some (.int .i64 w) ∧ V.cell? ⟨W.heap.size, 2, none⟩ = some (.int .i64 h) ∧ V.cell? ⟨W.heap.size, 3, none⟩ = some (.slice (some ⟨b, o, none⟩) n cap)))
                (first
                  | (exact unhide Mk _ (Below.drew (Below.refl _ _)))
                  | (exact unhide Mk _ (btrans (by assumption : Below wr.heap.size wr _ ∧ _).1 hb)))
                (first
                  | (go_at_call_of 38 (x : Int); refine (unhide H1 _ ((unhide R1).keep (by assumption : Below wr.heap.size wr _ ∧ _).1)).mono ?_; rintro e w2 ⟨rfl, hb⟩)
                  | (go_at_call_of 38 Ii; refine (unhide H2 _ ((unhide R1).keep (by assumption : Below wr.heap.size wr _ ∧ _).1)).mono ?_; rintro e w2 ⟨rfl, hb⟩))
              all_goals
                have S2 := btrans hbel (by assumption : Below wr.heap.size wr _ ∧ _).1
                clear hb Mk hbel
                go_wp2
                go_roundw
                case rel => exact ⟨x + 1, by omega, by go_num, unhide Ht, S2⟩
                case measure => simp [intOf]; omega
            · have hq' : (pi != pj) = true := by simp [hq]
              have hy : ans = false := (unhide Hans).symm.trans (unhide Hno (by rw [unhide Hok]; exact decide_eq_false hq))
              subst hy
              clear hq
              go_region_held3 (fun V => Below wr.heap.size wr V ∧ (V.cell? ⟨W.heap.size, 0, none⟩ = some (.int .i64 g) ∧ V.cell? ⟨W.heap.size, 1, none⟩ = some (.int .i64 w) ∧ V.cell? ⟨W.heap.size, 2, none⟩ = some (.int .i64 h) ∧ V.cell? ⟨W.heap.size, 3, none⟩ = some (.slice (some ⟨b, o, none⟩) n cap)))
                (first
                  | (exact unhide Mk _ (Below.drew (Below.refl _ _)))
                  | (exact unhide Mk _ (btrans (by assumption : Below wr.heap.size wr _ ∧ _).1 hb)))
                (first
                  | (go_at_call_of 38 (x : Int); refine (unhide H1 _ ((unhide R1).keep (by assumption : Below wr.heap.size wr _ ∧ _).1)).mono ?_; rintro e w2 ⟨rfl, hb⟩)
                  | (go_at_call_of 38 Ii; refine (unhide H2 _ ((unhide R1).keep (by assumption : Below wr.heap.size wr _ ∧ _).1)).mono ?_; rintro e w2 ⟨rfl, hb⟩))
              all_goals
                have S2 := btrans hbel (by assumption : Below wr.heap.size wr _ ∧ _).1
                clear hb Mk hbel
                go_wp2
                go_ret
                exact ⟨ret_bool rfl, btrans (unhide HB) S2⟩
        · have e : w = x := by omega
          subst e
          have cl : ¬ ((w : Int) < (w : Int)) := by omega
          have Hs := hide (show allP px w h back over t (y + 1) = true by rw [allP_succ, unhide Hall, hrow]; rfl)
          have c := ((unhide HC0).keep hbel).2
          have HSe := hide hbel
          clear hbel hrow hlx hx
          go_wp2
          go_roundw
          case rel => exact ⟨y + 1, by have := unhide Hlt; omega, by go_num, unhide Hs, unhide HSe⟩
          case measure => have := unhide Hlt; simp [intOf]; omega
    · have e : h = y := by omega
      subst e
      have cl : ¬ ((h : Int) < (h : Int)) := by omega
      have c := ((unhide HC0).keep hbel).2
      have HSe := hide (btrans (unhide HB) hbel)
      have hy : ans = true := by rw [← unhide Hans]; exact hall
      clear hbel hall hlt
      subst hy
      go_wp2
      go_ret
      exact ⟨ret_bool rfl, unhide HSe⟩
end Go.Proofs.YtpcajcgafmmlkaaDoor

namespace Go.Proofs.YtpcajcgafmmlkaaDoor
open Go.RowKit

def anB (k : Nat → Bool) (t : Nat) : Bool := (List.range t).any k
theorem anB_succ (k : Nat → Bool) (t : Nat) : anB k (t + 1) = (anB k t || k t) := by unfold anB; rw [List.range_succ, List.any_append]; simp
/-- the document's choice -/
def rbO (up round slide level : Bool) : Int :=
  if (up && (round && level)) = true then 7 else if (up && round) = true then 6 else if round = true then 5 else if up = true then 4 else if level = true then 3 else if slide = true then 2 else 1
def RBandIs (g w h : Int) (p : Option Addr) (n cap : Nat) (W : World) (kd er : Int) : Prop :=
  Calls Tryd.prog 9 #[Ch.ch g w h p n cap] W fun e w' => e = .returned (.tuple #[.int .i64 kd, .int .i64 er]) ∧ Below W.heap.size W w'

set_option maxHeartbeats 8000000 in
set_option maxRecDepth 100000 in
theorem rband_plain (w h : Nat) (p : Option Addr) (n cap : Nat) (kS kR kL : Nat → Bool) (Rc : World → Prop) (W : World) (hw : 1 ≤ w ∧ w ≤ 64) (hRc : ∀ V V', Rc V → Below V.heap.size V V' → Rc V') (hc : Rc W)
    (H0 : ∀ V, Rc V → Ch.WrongIs 21 4 w h p n cap V 0)
    (H1 : ∀ V, Rc V → ∀ t : Nat, t ≤ 64 → Calls Tryd.prog 22 #[Ch.ch 4 w h p n cap, .bool true, .bool false, .int .i64 t] V fun e w' => e = .returned (.bool (kS t)) ∧ Below V.heap.size V w')
    (H2 : ∀ V, Rc V → ∀ t : Nat, t ≤ 64 → Calls Tryd.prog 22 #[Ch.ch 4 w h p n cap, .bool true, .bool true, .int .i64 t] V fun e w' => e = .returned (.bool (kR t)) ∧ Below V.heap.size V w')
    (H3 : ∀ V, Rc V → ∀ t : Nat, t ≤ 64 → Calls Tryd.prog 22 #[Ch.ch 4 w h p n cap, .bool false, .bool true, .int .i64 t] V fun e w' => e = .returned (.bool (kL t)) ∧ Below V.heap.size V w') :
    RBandIs 4 w h p n cap W (rbO (anB kS w) (anB kR w) (anB kL w) (kL 0)) 0 := by
  have K0 := hide H0
  have K1 := hide H1
  have K2 := hide H2
  have K3 := hide H3
  have K4 := hide (fun V hV => H3 V hV 0 (by omega))
  have HRc := hide hRc
  have B0 := bal (o := .cells #[.int .i64 4, .int .i64 w, .int .i64 h, .slice p n cap] 24) (Below.refl W.heap.size W)
  have Hc := hide (hRc _ _ hc B0)
  have HB := hide B0
  have HC := hide (Ch.OwnC.new W 4 w h p n cap 24)
  generalize hans : rbO (anB kS w) (anB kR w) (anB kL w) (kL 0) = ans
  have Hans := hide hans
  clear H0 H1 H2 H3 hRc hc B0 hans
  unfold RBandIs
  go_enter Tryd.func9, Tryd.ntmps9
  go_wp2_with fail
  generalize W.alloc (.cells #[.int .i64 4, .int .i64 w, .int .i64 h, .slice p n cap] 24) = w0 at *
  refine (unhide K0 _ (unhide Hc)).mono ?_
  rintro e w1 ⟨rfl, hb⟩
  have c := ((unhide HC).keep hb).2
  have H1 := hide hb
  clear hb
  go_wp2
  clear c
  go_loopw [5, 6, 7, 8] (fun a b d i wr => ∃ t : Nat, t ≤ w ∧ i = .int .i64 t ∧ a = .bool (anB kS t) ∧ b = .bool (anB kR t) ∧ d = .bool (anB kL t) ∧ Below w0.heap.size w0 wr) (fun _ _ _ i _ => w - (intOf i).toNat)
  case atStart => exact ⟨0, Nat.zero_le _, rfl, rfl, rfl, rfl, unhide H1⟩
  case round =>
    clear H1
    obtain ⟨t, htw, rfl, rfl, rfl, rfl, hbel⟩ := hrel
    by_cases hlt : t < w
    · have q2 : (t : Int) < (w : Int) := by omega
      have sA := hide (anB_succ kS t)
      have sB := hide (anB_succ kR t)
      have sC := hide (anB_succ kL t)
      generalize anB kS t = A at *
      generalize anB kR t = B at *
      generalize anB kL t = C at *
      cases A <;> cases B <;> cases C
      · have c := ((unhide HC).keep hbel).2
        go_wp2_with fail
        clear c
        refine (unhide K1 _ (unhide HRc _ _ (unhide Hc) hbel) t (by omega)).mono ?_
        rintro e v1 ⟨rfl, hb⟩
        have S1 := btrans hbel hb
        clear hb
        have c := ((unhide HC).keep S1).2
        go_wp2_with fail
        clear c
        refine (unhide K2 _ (unhide HRc _ _ (unhide Hc) S1) t (by omega)).mono ?_
        rintro e v2 ⟨rfl, hb⟩
        have S2 := btrans S1 hb
        clear hb
        have c := ((unhide HC).keep S2).2
        go_wp2_with fail
        clear c
        refine (unhide K3 _ (unhide HRc _ _ (unhide Hc) S2) t (by omega)).mono ?_
        rintro e v3 ⟨rfl, hb⟩
        have S3 := btrans S2 hb
        clear hb
        have c := ((unhide HC).keep S3).2
        have HSf := hide S3
        clear hbel S1 S2 S3
        go_wp2
        go_roundw
        case rel => exact ⟨t + 1, by omega, by go_num, by rw [unhide sA]; simp, by rw [unhide sB]; simp, by rw [unhide sC]; simp, unhide HSf⟩
        case measure => simp [intOf]; omega
      · have c := ((unhide HC).keep hbel).2
        go_wp2_with fail
        clear c
        refine (unhide K1 _ (unhide HRc _ _ (unhide Hc) hbel) t (by omega)).mono ?_
        rintro e v1 ⟨rfl, hb⟩
        have S1 := btrans hbel hb
        clear hb
        have c := ((unhide HC).keep S1).2
        go_wp2_with fail
        clear c
        refine (unhide K2 _ (unhide HRc _ _ (unhide Hc) S1) t (by omega)).mono ?_
        rintro e v2 ⟨rfl, hb⟩
        have S2 := btrans S1 hb
        clear hb
        have c := ((unhide HC).keep S2).2
        have HSf := hide S2
        clear hbel S1 S2
        go_wp2
        go_roundw
        case rel => exact ⟨t + 1, by omega, by go_num, by rw [unhide sA]; simp, by rw [unhide sB]; simp, by rw [unhide sC]; simp, unhide HSf⟩
        case measure => simp [intOf]; omega
      · have c := ((unhide HC).keep hbel).2
        go_wp2_with fail
        clear c
        refine (unhide K1 _ (unhide HRc _ _ (unhide Hc) hbel) t (by omega)).mono ?_
        rintro e v1 ⟨rfl, hb⟩
        have S1 := btrans hbel hb
        clear hb
        have c := ((unhide HC).keep S1).2
        go_wp2_with fail
        clear c
        refine (unhide K3 _ (unhide HRc _ _ (unhide Hc) S1) t (by omega)).mono ?_
        rintro e v2 ⟨rfl, hb⟩
        have S2 := btrans S1 hb
        clear hb
        have c := ((unhide HC).keep S2).2
        have HSf := hide S2
        clear hbel S1 S2
        go_wp2
        go_roundw
        case rel => exact ⟨t + 1, by omega, by go_num, by rw [unhide sA]; simp, by rw [unhide sB]; simp, by rw [unhide sC]; simp, unhide HSf⟩
        case measure => simp [intOf]; omega
      · have c := ((unhide HC).keep hbel).2
        go_wp2_with fail
        clear c
        refine (unhide K1 _ (unhide HRc _ _ (unhide Hc) hbel) t (by omega)).mono ?_
        rintro e v1 ⟨rfl, hb⟩
        have S1 := btrans hbel hb
        clear hb
        have c := ((unhide HC).keep S1).2
        have HSf := hide S1
        clear hbel S1
        go_wp2
        go_roundw
        case rel => exact ⟨t + 1, by omega, by go_num, by rw [unhide sA]; simp, by rw [unhide sB]; simp, by rw [unhide sC]; simp, unhide HSf⟩
        case measure => simp [intOf]; omega
      · have c := ((unhide HC).keep hbel).2
        go_wp2_with fail
        clear c
        refine (unhide K2 _ (unhide HRc _ _ (unhide Hc) hbel) t (by omega)).mono ?_
        rintro e v1 ⟨rfl, hb⟩
        have S1 := btrans hbel hb
        clear hb
        have c := ((unhide HC).keep S1).2
        go_wp2_with fail
        clear c
        refine (unhide K3 _ (unhide HRc _ _ (unhide Hc) S1) t (by omega)).mono ?_
        rintro e v2 ⟨rfl, hb⟩
        have S2 := btrans S1 hb
        clear hb
        have c := ((unhide HC).keep S2).2
        have HSf := hide S2
        clear hbel S1 S2
        go_wp2
        go_roundw
        case rel => exact ⟨t + 1, by omega, by go_num, by rw [unhide sA]; simp, by rw [unhide sB]; simp, by rw [unhide sC]; simp, unhide HSf⟩
        case measure => simp [intOf]; omega
      · have c := ((unhide HC).keep hbel).2
        go_wp2_with fail
        clear c
        refine (unhide K2 _ (unhide HRc _ _ (unhide Hc) hbel) t (by omega)).mono ?_
        rintro e v1 ⟨rfl, hb⟩
        have S1 := btrans hbel hb
        clear hb
        have c := ((unhide HC).keep S1).2
        have HSf := hide S1
        clear hbel S1
        go_wp2
        go_roundw
        case rel => exact ⟨t + 1, by omega, by go_num, by rw [unhide sA]; simp, by rw [unhide sB]; simp, by rw [unhide sC]; simp, unhide HSf⟩
        case measure => simp [intOf]; omega
      · have c := ((unhide HC).keep hbel).2
        go_wp2_with fail
        clear c
        refine (unhide K3 _ (unhide HRc _ _ (unhide Hc) hbel) t (by omega)).mono ?_
        rintro e v1 ⟨rfl, hb⟩
        have S1 := btrans hbel hb
        clear hb
        have c := ((unhide HC).keep S1).2
        have HSf := hide S1
        clear hbel S1
        go_wp2
        go_roundw
        case rel => exact ⟨t + 1, by omega, by go_num, by rw [unhide sA]; simp, by rw [unhide sB]; simp, by rw [unhide sC]; simp, unhide HSf⟩
        case measure => simp [intOf]; omega
      · have c := ((unhide HC).keep hbel).2
        have HSf := hide hbel
        clear hbel
        go_wp2
        go_roundw
        case rel => exact ⟨t + 1, by omega, by go_num, by rw [unhide sA]; simp, by rw [unhide sB]; simp, by rw [unhide sC]; simp, unhide HSf⟩
        case measure => simp [intOf]; omega
    · have e : w = t := by omega
      subst e
      have cl : ¬ ((w : Int) < (w : Int)) := by omega
      have c := ((unhide HC).keep hbel).2
      have Hc6 := unhide HRc _ _ (unhide Hc) hbel
      have S6 := btrans (unhide HB) hbel
      clear hbel hlt htw
      go_wp2_with fail
      clear c
      refine (unhide K4 _ Hc6).mono ?_
      rintro e w9 ⟨rfl, hb⟩
      have S9 := btrans S6 hb
      clear hb S6 Hc6 K4 K3
      generalize anB kS w = A at *
      generalize anB kR w = B at *
      generalize anB kL w = C at *
      generalize kL 0 = l0 at *
      cases A <;> cases B <;> cases C <;> cases l0
      · obtain rfl : ans = 1 := (unhide Hans).symm
        go_wp2
        exact bodyPost_ret (v := .tuple #[.int .i64 1, .int .i64 0]) (by simp [results, Tryd.results9]) rfl ⟨rfl, S9⟩
      · obtain rfl : ans = 3 := (unhide Hans).symm
        go_wp2
        exact bodyPost_ret (v := .tuple #[.int .i64 3, .int .i64 0]) (by simp [results, Tryd.results9]) rfl ⟨rfl, S9⟩
      · obtain rfl : ans = 2 := (unhide Hans).symm
        go_wp2
        exact bodyPost_ret (v := .tuple #[.int .i64 2, .int .i64 0]) (by simp [results, Tryd.results9]) rfl ⟨rfl, S9⟩
      · obtain rfl : ans = 3 := (unhide Hans).symm
        go_wp2
        exact bodyPost_ret (v := .tuple #[.int .i64 3, .int .i64 0]) (by simp [results, Tryd.results9]) rfl ⟨rfl, S9⟩
      · obtain rfl : ans = 5 := (unhide Hans).symm
        go_wp2
        exact bodyPost_ret (v := .tuple #[.int .i64 5, .int .i64 0]) (by simp [results, Tryd.results9]) rfl ⟨rfl, S9⟩
      · obtain rfl : ans = 5 := (unhide Hans).symm
        go_wp2
        exact bodyPost_ret (v := .tuple #[.int .i64 5, .int .i64 0]) (by simp [results, Tryd.results9]) rfl ⟨rfl, S9⟩
      · obtain rfl : ans = 5 := (unhide Hans).symm
        go_wp2
        exact bodyPost_ret (v := .tuple #[.int .i64 5, .int .i64 0]) (by simp [results, Tryd.results9]) rfl ⟨rfl, S9⟩
      · obtain rfl : ans = 5 := (unhide Hans).symm
        go_wp2
        exact bodyPost_ret (v := .tuple #[.int .i64 5, .int .i64 0]) (by simp [results, Tryd.results9]) rfl ⟨rfl, S9⟩
      · obtain rfl : ans = 4 := (unhide Hans).symm
        go_wp2
        exact bodyPost_ret (v := .tuple #[.int .i64 4, .int .i64 0]) (by simp [results, Tryd.results9]) rfl ⟨rfl, S9⟩
      · obtain rfl : ans = 4 := (unhide Hans).symm
        go_wp2
        exact bodyPost_ret (v := .tuple #[.int .i64 4, .int .i64 0]) (by simp [results, Tryd.results9]) rfl ⟨rfl, S9⟩
      · obtain rfl : ans = 4 := (unhide Hans).symm
        go_wp2
        exact bodyPost_ret (v := .tuple #[.int .i64 4, .int .i64 0]) (by simp [results, Tryd.results9]) rfl ⟨rfl, S9⟩
      · obtain rfl : ans = 4 := (unhide Hans).symm
        go_wp2
        exact bodyPost_ret (v := .tuple #[.int .i64 4, .int .i64 0]) (by simp [results, Tryd.results9]) rfl ⟨rfl, S9⟩
      · obtain rfl : ans = 6 := (unhide Hans).symm
        go_wp2
        exact bodyPost_ret (v := .tuple #[.int .i64 6, .int .i64 0]) (by simp [results, Tryd.results9]) rfl ⟨rfl, S9⟩
      · obtain rfl : ans = 7 := (unhide Hans).symm
        go_wp2
        exact bodyPost_ret (v := .tuple #[.int .i64 7, .int .i64 0]) (by simp [results, Tryd.results9]) rfl ⟨rfl, S9⟩
      · obtain rfl : ans = 6 := (unhide Hans).symm
        go_wp2
        exact bodyPost_ret (v := .tuple #[.int .i64 6, .int .i64 0]) (by simp [results, Tryd.results9]) rfl ⟨rfl, S9⟩
      · obtain rfl : ans = 7 := (unhide Hans).symm
        go_wp2
        exact bodyPost_ret (v := .tuple #[.int .i64 7, .int .i64 0]) (by simp [results, Tryd.results9]) rfl ⟨rfl, S9⟩

set_option maxHeartbeats 1000000 in
set_option maxRecDepth 100000 in
theorem rband_err (g w h : Int) (p : Option Addr) (n cap : Nat) (ae er : Int) (Rc : World → Prop) (W : World) (hRc : ∀ V V', Rc V → Below V.heap.size V V' → Rc V') (hc : Rc W) (H0 : ∀ V, Rc V → Ch.WrongIs 21 g w h p n cap V ae)
    (h0 : 1 ≤ ae ∧ er = ae ∨ ae = 0 ∧ g ≠ 4 ∧ er = 8) : RBandIs g w h p n cap W 0 er := by
  have K0 := hide H0
  have B0 := bal (o := .cells #[.int .i64 g, .int .i64 w, .int .i64 h, .slice p n cap] 24) (Below.refl W.heap.size W)
  have Hc := hide (hRc _ _ hc B0)
  have HB := hide B0
  have HC := hide (Ch.OwnC.new W g w h p n cap 24)
  clear H0 hRc hc B0
  unfold RBandIs
  rcases h0 with ⟨h1, rfl⟩ | ⟨rfl, h2, rfl⟩
  · have he : (er != 0) = true := by simp; omega
    clear h1
    go_enter Tryd.func9, Tryd.ntmps9
    go_wp2_with fail
    generalize W.alloc (.cells #[.int .i64 g, .int .i64 w, .int .i64 h, .slice p n cap] 24) = w0 at *
    refine (unhide K0 _ (unhide Hc)).mono ?_
    rintro e w1 ⟨rfl, hb⟩
    have S := btrans (unhide HB) hb
    clear hb
    go_wp2
    exact bodyPost_ret (v := .tuple #[.int .i64 0, .int .i64 er]) (by simp [results, Tryd.results9]) rfl ⟨rfl, S⟩
  · have he : (g != 4) = true := by simp [h2]
    clear h2
    go_enter Tryd.func9, Tryd.ntmps9
    go_wp2_with fail
    generalize W.alloc (.cells #[.int .i64 g, .int .i64 w, .int .i64 h, .slice p n cap] 24) = w0 at *
    refine (unhide K0 _ (unhide Hc)).mono ?_
    rintro e w1 ⟨rfl, hb⟩
    have c := ((unhide HC).keep hb).2
    have S := btrans (unhide HB) hb
    clear hb
    go_wp2
    exact bodyPost_ret (v := .tuple #[.int .i64 0, .int .i64 8]) (by simp [results, Tryd.results9]) rfl ⟨rfl, S⟩
theorem anB_bkA (k : Nat → Bool) (t : Nat) : anB k t = bkA k 0 t := by unfold anB bkA; simp
/-- the document's choice is the program's -/
theorem rb_same (px : Nat → Int) (w h : Nat) (hw : 1 ≤ w) : rbO (anB (kpBand px w h true false) w) (anB (kpBand px w h true true) w) (anB (kpBand px w h false true) w) (kpBand px w h false true 0) = bandO px w h := by
  rw [anB_bkA, anB_bkA]
  have e1 : kpBand px w h false true 0 = bkA (kpBand px w h false true) 0 1 := by unfold bkA; simp [List.range_succ]
  have e2 : anB (kpBand px w h false true) w = (kpBand px w h false true 0 || bkA (kpBand px w h false true) 1 w) := by
    obtain ⟨v, rfl⟩ : ∃ v, w = v + 1 := ⟨w - 1, by omega⟩
    unfold anB bkA
    have ef : ((fun t => decide (1 ≤ t) && kpBand px (v + 1) h false true t) ∘ Nat.succ) = kpBand px (v + 1) h false true ∘ Nat.succ := by
      funext t
      simp [Function.comp]
    rw [List.range_succ_eq_map, List.any_cons, List.any_cons, List.any_map, List.any_map, ef]
    simp
  have e3 : bkA (kpBand px w h true false) 0 w = true → bkA (kpBand px w h false true) 0 1 = true → bkA (kpBand px w h true true) 0 w = true := by
    rw [bkA_all _ _ _ _ hw, bkA_all _ _ _ _ hw, bkA_one _ _ _ hw]
    rintro ⟨t, h1⟩ h2
    refine ⟨t, fun x y hy => ?_⟩
    have a := h1 x y hy
    have b := h2 (t - x) y hy
    simp only [Bool.false_eq_true, if_false, if_true, Int.add_zero] at a b ⊢
    rw [a, b]
  rw [e2, e1]
  unfold bandO
  generalize bkA (kpBand px w h true false) 0 w = A at *
  generalize bkA (kpBand px w h true true) 0 w = B at *
  generalize bkA (kpBand px w h false true) 0 1 = D at *
  generalize bkA (kpBand px w h false true) 1 w = E at *
  clear e1 e2
  revert e3
  cases A <;> cases B <;> cases D <;> cases E <;> decide
theorem rband_any (g w h : Int) (p : Option Addr) (n cap : Nat) (px : Nat → Int) (W : World) (hc : Ch.Cells W p n px) :
    RBandIs g w h p n cap W (if bdE g w h n px = 0 then bandO px w.toNat h.toNat else 0) (bdE g w h n px) := by
  by_cases h0 : Ch.wE g w h n px = 0
  · by_cases hg : g = 4
    · subst hg
      obtain ⟨-, hw, hh, hn, -, b, o, hp, hr⟩ := Ch.wE_zero 4 w h p n px W hc h0
      obtain ⟨w', rfl⟩ : ∃ w' : Nat, w = (w' : Int) := ⟨w.toNat, by omega⟩
      obtain ⟨h', rfl⟩ : ∃ h' : Nat, h = (h' : Int) := ⟨h.toNat, by omega⟩
      subst hp
      have hn' : n = w' * h' := by rw [← Int.natCast_mul] at hn; exact Int.ofNat.inj hn
      have he : bdE 4 w' h' n px = 0 := by unfold bdE; rw [if_pos h0, if_pos rfl]
      rw [if_pos he, he, Int.toNat_natCast, Int.toNat_natCast, ← rb_same px w' h' (by omega)]
      refine rband_plain w' h' (some ⟨b, o, none⟩) n cap _ _ _ (fun V => Ch.Row V b o n px) W (by omega) (fun V V' k hb => k.keep hb) hr ?_ ?_ ?_ ?_
      · intro V hV
        have := Ch.rwrong_any 4 w' h' (some ⟨b, o, none⟩) n cap px V (Or.inr ⟨b, o, rfl, hV⟩)
        rw [h0] at this
        exact this
      · intro V hV t ht
        exact rkept_any 4 w' h' b o n cap px true false t V (by omega) (by omega) ht hn' hV
      · intro V hV t ht
        exact rkept_any 4 w' h' b o n cap px true true t V (by omega) (by omega) ht hn' hV
      · intro V hV t ht
        exact rkept_any 4 w' h' b o n cap px false true t V (by omega) (by omega) ht hn' hV
    · have he : bdE g w h n px = 8 := by unfold bdE; rw [if_pos h0, if_neg hg]
      rw [he, if_neg (by decide)]
      exact rband_err g w h p n cap 0 8 (fun V => Ch.Cells V p n px) W (fun V V' k hb => k.keep hb) hc (fun V hV => by have := Ch.rwrong_any g w h p n cap px V hV; rw [h0] at this; exact this) (Or.inr ⟨rfl, hg, rfl⟩)
  · have he : bdE g w h n px = Ch.wE g w h n px := by unfold bdE; rw [if_neg h0]
    rw [he, if_neg h0]
    exact rband_err g w h p n cap _ _ (fun V => Ch.Cells V p n px) W (fun V V' k hb => k.keep hb) hc (fun V hV => Ch.rwrong_any g w h p n cap px V hV) (Or.inl ⟨Ch.wE_pos g w h n px h0, rfl⟩)
end Go.Proofs.YtpcajcgafmmlkaaDoor

namespace Go.Proofs.YtpcajcgafmmlkaaDoor
open Go.RowKit

def nmL : List (List UInt8) := [[], [112, 49], [112, 50], [112, 109], [112, 103], [99, 109], [112, 109, 109], [112, 109, 103], [112, 103, 103], [99, 109, 109], [112, 52], [112, 52, 109], [112, 52, 103], [112, 51], [112, 51, 109, 49], [112, 51, 49, 109], [112, 54], [112, 54, 109]]
def nm (k : Nat) : ByteArray := ⟨(nmL.getD k []).toArray⟩
/-- the table of names lies in a world -/
def NTab (W : World) : Prop := 0 < W.heap.size ∧ ∀ k, k < 18 → W.cell? ⟨0, k, none⟩ = some (.string (nm k))
theorem NTab.keep {W w1 : World} (h : NTab W) (hb : Below W.heap.size W w1) : NTab w1 := ⟨Nat.lt_of_lt_of_le h.1 hb.size, fun k hk => keepC hb h.1 (h.2 k hk)⟩
def nmV (k : Int) : Value := if 1 ≤ k ∧ k ≤ 17 then .tuple #[.string (nm k.toNat), .int .i64 0] else .tuple #[.string (⟨#[]⟩ : ByteArray), .int .i64 1]

set_option maxHeartbeats 1000000 in
set_option maxRecDepth 100000 in
theorem name_any (k : Int) (W : World) (hT : NTab W) : Calls Tryd.prog 6 #[.int .i64 k] W fun e w' => e = .returned (nmV k) ∧ Below W.heap.size W w' := by
  by_cases h : 1 ≤ k ∧ k ≤ 17
  · obtain ⟨j, rfl⟩ : ∃ j : Nat, k = (j : Int) := ⟨k.toNat, by omega⟩
    have c := hT.2 j (by omega)
    have hv := hide (show nmV (j : Int) = .tuple #[.string (nm j), .int .i64 0] by unfold nmV; rw [if_pos h, Int.toNat_natCast])
    have f1 : decide ((j : Int) < 1) = false := by simp; omega
    have f2 : decide ((17 : Int) < (j : Int)) = false := by simp; omega
    have l1 : (0 : Int) ≤ (j : Int) := by omega
    have l2 : (j : Int) < 18 := by omega
    generalize nm j = s at *
    clear h hT
    go_enter Tryd.func6, Tryd.ntmps6
    go_wp2
    exact bodyPost_ret (v := .tuple #[.string s, .int .i64 0]) (by simp [results, Tryd.results6]) rfl ⟨by rw [unhide hv], Below.refl _ _⟩
  · have hv := hide (show nmV k = .tuple #[.string (⟨#[]⟩ : ByteArray), .int .i64 1] by unfold nmV; rw [if_neg h])
    clear hT
    by_cases h1 : k < 1
    · clear h
      go_enter Tryd.func6, Tryd.ntmps6
      go_wp2
      exact bodyPost_ret (v := .tuple #[.string (⟨#[]⟩ : ByteArray), .int .i64 1]) (by simp [results, Tryd.results6]) rfl ⟨by rw [unhide hv], Below.refl _ _⟩
    · have f1 : decide (k < 1) = false := by simp; omega
      have f2 : (17 : Int) < k := by omega
      clear h
      go_enter Tryd.func6, Tryd.ntmps6
      go_wp2
      exact bodyPost_ret (v := .tuple #[.string (⟨#[]⟩ : ByteArray), .int .i64 1]) (by simp [results, Tryd.results6]) rfl ⟨by rw [unhide hv], Below.refl _ _⟩

set_option maxHeartbeats 8000000 in
set_option maxRecDepth 100000 in
theorem rname_in (j : Nat) (W : World) (hj : j < 17) : Calls Tryd.prog 7 #[.int .i64 ((j : Int) + 1)] W fun e w' => e = .returned (.tuple #[.string (nm (j + 1)), .int .i64 0]) ∧ Below W.heap.size W w' := by
  rcases (show j = 0 ∨ j = 1 ∨ j = 2 ∨ j = 3 ∨ j = 4 ∨ j = 5 ∨ j = 6 ∨ j = 7 ∨ j = 8 ∨ j = 9 ∨ j = 10 ∨ j = 11 ∨ j = 12 ∨ j = 13 ∨ j = 14 ∨ j = 15 ∨ j = 16 by omega) with rfl | rfl | rfl | rfl | rfl | rfl | rfl | rfl | rfl | rfl | rfl | rfl | rfl | rfl | rfl | rfl | rfl
  · go_enter Tryd.func7, Tryd.ntmps7
    go_wp2
    exact bodyPost_ret (v := .tuple #[.string (⟨#[112, 49]⟩ : ByteArray), .int .i64 0]) (by simp [results, Tryd.results7]) rfl ⟨rfl, bal (Below.refl _ _)⟩
  · go_enter Tryd.func7, Tryd.ntmps7
    go_wp2
    exact bodyPost_ret (v := .tuple #[.string (⟨#[112, 50]⟩ : ByteArray), .int .i64 0]) (by simp [results, Tryd.results7]) rfl ⟨rfl, bal (Below.refl _ _)⟩
  · go_enter Tryd.func7, Tryd.ntmps7
    go_wp2
    exact bodyPost_ret (v := .tuple #[.string (⟨#[112, 109]⟩ : ByteArray), .int .i64 0]) (by simp [results, Tryd.results7]) rfl ⟨rfl, bal (Below.refl _ _)⟩
  · go_enter Tryd.func7, Tryd.ntmps7
    go_wp2
    exact bodyPost_ret (v := .tuple #[.string (⟨#[112, 103]⟩ : ByteArray), .int .i64 0]) (by simp [results, Tryd.results7]) rfl ⟨rfl, bal (Below.refl _ _)⟩
  · go_enter Tryd.func7, Tryd.ntmps7
    go_wp2
    exact bodyPost_ret (v := .tuple #[.string (⟨#[99, 109]⟩ : ByteArray), .int .i64 0]) (by simp [results, Tryd.results7]) rfl ⟨rfl, bal (Below.refl _ _)⟩
  · go_enter Tryd.func7, Tryd.ntmps7
    go_wp2
    exact bodyPost_ret (v := .tuple #[.string (⟨#[112, 109, 109]⟩ : ByteArray), .int .i64 0]) (by simp [results, Tryd.results7]) rfl ⟨rfl, bal (Below.refl _ _)⟩
  · go_enter Tryd.func7, Tryd.ntmps7
    go_wp2
    exact bodyPost_ret (v := .tuple #[.string (⟨#[112, 109, 103]⟩ : ByteArray), .int .i64 0]) (by simp [results, Tryd.results7]) rfl ⟨rfl, bal (Below.refl _ _)⟩
  · go_enter Tryd.func7, Tryd.ntmps7
    go_wp2
    exact bodyPost_ret (v := .tuple #[.string (⟨#[112, 103, 103]⟩ : ByteArray), .int .i64 0]) (by simp [results, Tryd.results7]) rfl ⟨rfl, bal (Below.refl _ _)⟩
  · go_enter Tryd.func7, Tryd.ntmps7
    go_wp2
    exact bodyPost_ret (v := .tuple #[.string (⟨#[99, 109, 109]⟩ : ByteArray), .int .i64 0]) (by simp [results, Tryd.results7]) rfl ⟨rfl, bal (Below.refl _ _)⟩
  · go_enter Tryd.func7, Tryd.ntmps7
    go_wp2
    exact bodyPost_ret (v := .tuple #[.string (⟨#[112, 52]⟩ : ByteArray), .int .i64 0]) (by simp [results, Tryd.results7]) rfl ⟨rfl, bal (Below.refl _ _)⟩
  · go_enter Tryd.func7, Tryd.ntmps7
    go_wp2
    exact bodyPost_ret (v := .tuple #[.string (⟨#[112, 52, 109]⟩ : ByteArray), .int .i64 0]) (by simp [results, Tryd.results7]) rfl ⟨rfl, bal (Below.refl _ _)⟩
  · go_enter Tryd.func7, Tryd.ntmps7
    go_wp2
    exact bodyPost_ret (v := .tuple #[.string (⟨#[112, 52, 103]⟩ : ByteArray), .int .i64 0]) (by simp [results, Tryd.results7]) rfl ⟨rfl, bal (Below.refl _ _)⟩
  · go_enter Tryd.func7, Tryd.ntmps7
    go_wp2
    exact bodyPost_ret (v := .tuple #[.string (⟨#[112, 51]⟩ : ByteArray), .int .i64 0]) (by simp [results, Tryd.results7]) rfl ⟨rfl, bal (Below.refl _ _)⟩
  · go_enter Tryd.func7, Tryd.ntmps7
    go_wp2
    exact bodyPost_ret (v := .tuple #[.string (⟨#[112, 51, 109, 49]⟩ : ByteArray), .int .i64 0]) (by simp [results, Tryd.results7]) rfl ⟨rfl, bal (Below.refl _ _)⟩
  · go_enter Tryd.func7, Tryd.ntmps7
    go_wp2
    exact bodyPost_ret (v := .tuple #[.string (⟨#[112, 51, 49, 109]⟩ : ByteArray), .int .i64 0]) (by simp [results, Tryd.results7]) rfl ⟨rfl, bal (Below.refl _ _)⟩
  · go_enter Tryd.func7, Tryd.ntmps7
    go_wp2
    exact bodyPost_ret (v := .tuple #[.string (⟨#[112, 54]⟩ : ByteArray), .int .i64 0]) (by simp [results, Tryd.results7]) rfl ⟨rfl, bal (Below.refl _ _)⟩
  · go_enter Tryd.func7, Tryd.ntmps7
    go_wp2
    exact bodyPost_ret (v := .tuple #[.string (⟨#[112, 54, 109]⟩ : ByteArray), .int .i64 0]) (by simp [results, Tryd.results7]) rfl ⟨rfl, bal (Below.refl _ _)⟩

set_option maxHeartbeats 1000000 in
set_option maxRecDepth 100000 in
theorem rname_any (k : Int) (W : World) : Calls Tryd.prog 7 #[.int .i64 k] W fun e w' => e = .returned (nmV k) ∧ Below W.heap.size W w' := by
  by_cases h : 1 ≤ k ∧ k ≤ 17
  · have := rname_in (k - 1).toNat W (by omega)
    rw [show ((k - 1).toNat : Int) + 1 = k by omega, show (k - 1).toNat + 1 = k.toNat by omega] at this
    unfold nmV
    rw [if_pos h]
    exact this
  · have hv := hide (show nmV k = .tuple #[.string (⟨#[]⟩ : ByteArray), .int .i64 1] by unfold nmV; rw [if_neg h])
    by_cases h1 : k < 1
    · clear h
      go_enter Tryd.func7, Tryd.ntmps7
      go_wp2
      exact bodyPost_ret (v := .tuple #[.string (⟨#[]⟩ : ByteArray), .int .i64 1]) (by simp [results, Tryd.results7]) rfl ⟨by rw [unhide hv], Below.refl _ _⟩
    · have f1 : decide (k < 1) = false := by simp; omega
      have f2 : (17 : Int) < k := by omega
      clear h
      go_enter Tryd.func7, Tryd.ntmps7
      go_wp2
      exact bodyPost_ret (v := .tuple #[.string (⟨#[]⟩ : ByteArray), .int .i64 1]) (by simp [results, Tryd.results7]) rfl ⟨by rw [unhide hv], Below.refl _ _⟩

set_option maxHeartbeats 4000000 in
set_option maxRecDepth 100000 in
theorem tells_plain' (g w h : Int) (p : Option Addr) (n cap : Nat) (k ka ea kb eb : Int) (s : ByteArray) (es : Int) (Rc : World → Prop) (W : World) (hRc : ∀ V V', Rc V → Below V.heap.size V V' → Rc V') (hc : Rc W)
    (H1 : ∀ V, Rc V → KindIs g w h p n cap V ka ea) (H2 : ∀ V, Rc V → RKindIs g w h p n cap V ka ea)
    (H3 : ∀ V, Rc V → Calls Tryd.prog 6 #[.int .i64 k] V fun e w' => e = .returned (.tuple #[.string s, .int .i64 es]) ∧ Below V.heap.size V w')
    (H4 : ∀ V, Rc V → Calls Tryd.prog 7 #[.int .i64 k] V fun e w' => e = .returned (.tuple #[.string s, .int .i64 es]) ∧ Below V.heap.size V w')
    (H5 : ∀ V, Rc V → BandIs g w h p n cap V kb eb) (H6 : ∀ V, Rc V → RBandIs g w h p n cap V kb eb) :
    Calls Tryd.prog 3 #[Ch.ch g w h p n cap, .int .i64 k] W fun e w' => e = .returned (.bool true) ∧ Below W.heap.size W w' := by
  have K1 := hide H1
  have K2 := hide H2
  have K3 := hide H3
  have K4 := hide H4
  have K5 := hide H5
  have K6 := hide H6
  have HRc := hide hRc
  have B0 := bal (o := .cells #[.int .i64 g, .int .i64 w, .int .i64 h, .slice p n cap] 24) (Below.refl W.heap.size W)
  have Hc := hide (hRc _ _ hc B0)
  have HB := hide B0
  have HC := hide (Ch.OwnC.new W g w h p n cap 24)
  clear H1 H2 H3 H4 H5 H6 hRc hc B0
  go_enter Tryd.func3, Tryd.ntmps3
  go_wp2_with fail
  generalize W.alloc (.cells #[.int .i64 g, .int .i64 w, .int .i64 h, .slice p n cap] 24) = w0 at *
  refine (unhide K1 _ (unhide Hc)).mono ?_
  rintro e w1 ⟨rfl, hb⟩
  have S1 := hb
  have c := ((unhide HC).keep S1).2
  clear hb
  go_wp2_with fail
  clear c
  refine (unhide K2 _ (unhide HRc _ _ (unhide Hc) S1)).mono ?_
  rintro e w2 ⟨rfl, hb⟩
  have S2 := btrans S1 hb
  clear hb S1
  have b1 : (ka != ka) = false := by simp
  have b2 : (ea != ea) = false := by simp
  go_wp2_with fail
  refine (unhide K3 _ (unhide HRc _ _ (unhide Hc) S2)).mono ?_
  rintro e w3 ⟨rfl, hb⟩
  have S3 := btrans S2 hb
  clear hb S2
  go_wp2_with fail
  refine (unhide K4 _ (unhide HRc _ _ (unhide Hc) S3)).mono ?_
  rintro e w4 ⟨rfl, hb⟩
  have S4 := btrans S3 hb
  have c := ((unhide HC).keep S4).2
  clear hb S3
  have b4 : (es != es) = false := by simp
  go_wp2_with fail
  clear c
  refine (unhide K5 _ (unhide HRc _ _ (unhide Hc) S4)).mono ?_
  rintro e w5 ⟨rfl, hb⟩
  have S5 := btrans S4 hb
  have c := ((unhide HC).keep S5).2
  clear hb S4
  go_wp2_with fail
  clear c
  refine (unhide K6 _ (unhide HRc _ _ (unhide Hc) S5)).mono ?_
  rintro e w6 ⟨rfl, hb⟩
  have S6 := btrans (unhide HB) (btrans S5 hb)
  clear hb S5
  go_wp2
  go_ret
  exact ⟨ret_bool (by simp), S6⟩
theorem ktells_walk (g w h : Int) (p : Option Addr) (n cap : Nat) (px : Nat → Int) (k : Int) (W : World) (hc : Ch.Cells W p n px) (hT : NTab W) : Calls Tryd.prog 3 #[Ch.ch g w h p n cap, .int .i64 k] W fun e w' => e = .returned (.bool true) ∧ Below W.heap.size W w' := by
  obtain ⟨s, es, hs⟩ : ∃ (s : ByteArray) (es : Int), nmV k = .tuple #[.string s, .int .i64 es] := by
    unfold nmV
    split
    · exact ⟨_, _, rfl⟩
    · exact ⟨_, _, rfl⟩
  have N1 : ∀ V, NTab V → Calls Tryd.prog 6 #[.int .i64 k] V fun e w' => e = .returned (.tuple #[.string s, .int .i64 es]) ∧ Below V.heap.size V w' := fun V hV => by have := name_any k V hV; rw [hs] at this; exact this
  have N2 : ∀ V, Calls Tryd.prog 7 #[.int .i64 k] V fun e w' => e = .returned (.tuple #[.string s, .int .i64 es]) ∧ Below V.heap.size V w' := fun V => by have := rname_any k V; rw [hs] at this; exact this
  by_cases he : toE g w h n px = 0
  · obtain ⟨w', h', N, b, o, r⟩ := right_of hc he
    have hN1 := r.hN1
    obtain ⟨sd, hsd⟩ := side_ex (stepK w' h' N px g) N hN1.1
    obtain ⟨u, v, hu⟩ := up_ex (stepK w' h' N px g) N sd hN1.1 hsd.1.1
    have hF := fine_of w' h' N px g sd u v hN1.1 hsd hu
    have RV : ∀ V, Ch.Cells V p n px → Right V g w h p n px w' h' N b o := fun V hV => by
      rcases hV with h0 | ⟨b2, o2, e, hr⟩
      · have := r.hn
        have := Nat.mul_pos (show 0 < w' by have := r.hw.2; omega) (show 0 < h' by have := r.hh.2; omega)
        omega
      · have e2 := r.hp
        rw [e] at e2
        cases e2
        exact { r with row := hr }
    exact tells_plain' g w h p n cap k (kindO w' h' N px g sd u v) 0 _ _ s es (fun V => Ch.Cells V p n px ∧ NTab V) W (fun V V' k hb => ⟨k.1.keep hb, k.2.keep hb⟩) ⟨hc, hT⟩
      (fun V hV => Kind_right g w h p n cap px w' h' N b o sd u v V (RV V hV.1) hsd hu) (fun V hV => rkind_right g w h p n cap px w' h' N b o sd u v V (RV V hV.1) hF)
      (fun V hV => N1 V hV.2) (fun V _ => N2 V) (fun V hV => band_any g w h p n cap px V hV.1) (fun V hV => rband_any g w h p n cap px V hV.1)
  · exact tells_plain' g w h p n cap k 0 (toE g w h n px) _ _ s es (fun V => Ch.Cells V p n px ∧ NTab V) W (fun V V' k hb => ⟨k.1.keep hb, k.2.keep hb⟩) ⟨hc, hT⟩
      (fun V hV => Kind_bad g w h p n cap px V hV.1 _ rfl (toE_pos he)) (fun V hV => rkind_err g w h p n cap px V hV.1 _ rfl (toE_pos he))
      (fun V hV => N1 V hV.2) (fun V _ => N2 V) (fun V hV => band_any g w h p n cap px V hV.1) (fun V hV => rband_any g w h p n cap px V hV.1)
end Go.Proofs.YtpcajcgafmmlkaaDoor
