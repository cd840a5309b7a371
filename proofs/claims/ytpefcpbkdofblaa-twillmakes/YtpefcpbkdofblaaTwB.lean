/-
  Package twill: woven, Twill.
-/
import Derived.Test.YtpefcpbkdofblaaTwA
import Derived.Test.YtpefcpbkdofblaaLTell
namespace Go.Proofs.Ytpefcpbkdofblaa
open Go.RowKit Go.Shelf

theorem wv_nums (x y n m : Nat) (hn : n ≤ 64) (hx : x < n) (hy : y < n) (hm : m ≤ 64) : ∃ yn ym xm u k : Nat, k = y * n + (x + y * m) % n ∧ wrap64 ((y : Int) * (n : Int)) = (yn : Int) ∧ wrap64 ((y : Int) * (m : Int)) = (ym : Int) ∧ (x : Int) + (ym : Int) = (xm : Int) ∧ (xm : Int) % (n : Int) = (u : Int) ∧ (yn : Int) + (u : Int) = (k : Int) ∧
    (yn : Int) ≤ 4096 ∧ (ym : Int) ≤ 4096 ∧ (xm : Int) ≤ 4160 ∧ (u : Int) < (n : Int) ∧ (0 : Int) ≤ (xm : Int) ∧ (0 : Int) ≤ (k : Int) ∧ (k : Int) ≤ 4160 ∧ ((n : Int) == 0) = false := by
  have h1 : y * n ≤ 4096 := Nat.mul_le_mul (show y ≤ 64 by omega) hn
  have h2 : y * m ≤ 4096 := Nat.mul_le_mul (show y ≤ 64 by omega) hm
  have h3 := Nat.mod_lt (x + y * m) (show 0 < n by omega)
  refine ⟨y * n, y * m, x + y * m, (x + y * m) % n, y * n + (x + y * m) % n, rfl, ?_, ?_, by simp, by simp, by simp, by omega, by omega, by omega, by omega, by omega, by omega, by omega, by simp; omega⟩
  · rw [← Int.natCast_mul]; exact Go.IntWalk.wrap64_in _ (by omega)
  · rw [← Int.natCast_mul]; exact Go.IntWalk.wrap64_in _ (by omega)

set_option maxRecDepth 100000 in
set_option maxHeartbeats 2000000 in
theorem woven_ok {W : World} {q : Option Addr} {n : Nat} (c : Nat) {f : Nat → Bool} (hq : Bs W q n c f) (hn : 0 < n) (hn2 : n ≤ 64) (m : Nat) (hm : m ≤ 64) (nn : Nat) (hnn : nn = n * n) :
    Calls Try.prog 21 #[.slice q n c, .int .i64 m] W fun e V => ∃ q', e = .returned (tr n n (some ⟨q', 0, none⟩) nn nn) ∧ W.heap.size ≤ q' ∧ Rt V n n (some ⟨q', 0, none⟩) nn nn (wvF f n m) ∧ Below W.heap.size W V := by
  obtain ⟨i0, hi, hz0, hz1, hz2⟩ := info_parts info4
  have hn4 : nn ≤ 4096 := by rw [hnn]; exact Nat.mul_le_mul hn2 hn2
  have hby : i0.bytes * nn ≤ 281474976710656 := by rw [hz2]; omega
  have hml : nn ≤ maxLen := by unfold maxLen; omega
  have e1 : wrap64 ((n : Int) * (n : Int)) = (nn : Int) := by
    rw [hnn, ← Int.natCast_mul]
    exact Go.IntWalk.wrap64_in _ (by omega)
  have HQ := hide hq
  have Hnn := hide hnn
  clear hq hnn
  have B0 := bal (o := .cells #[.int .i64 0, .int .i64 0, .slice none 0 0] 25) (Below.refl W.heap.size W)
  have Y0 := OwnY.new W 0 0 none 0 0
  go_enter Try.func21, Try.ntmps21
  go_wp2_with (refine wpList_make_full _ rfl _ _ 23 rfl (W.heap.size + 1) 4 i0 _ 1 Try.underlying23 hi hz0 hz1 .i64 .i64 (wrap64 ((n : Int) * (n : Int))) (wrap64 ((n : Int) * (n : Int))) nn rfl rfl e1 e1 hby hml (by simp) ?_)
  intro wm hown hgrow
  have R0 := brow_made hown
  have S0 := (Below.refl _ (W.alloc (.cells #[.int .i64 0, .int .i64 0, .slice none 0 0] 25))).grown hgrow (Nat.le_refl _) (fun k hk => by cases hk)
  have HS := hide (btrans B0 S0)
  have HY := hide (Y0.keep S0)
  have HR := hide R0
  clear B0 Y0 S0 R0 hown hgrow e1 hi hz0 hz1 hz2 hby hml
  go_wp2
  generalize hbq : W.heap.size + 1 = bq at *
  have Hbq := hide hbq
  clear hbq
  go_loopw [17] (fun i wr => ∃ y : Nat, y ≤ n ∧ i = .int .i64 y ∧ BRow wr bq nn (wvH f n m y 0) ∧ OwnY wr W.heap.size 0 0 none 0 0 ∧ Below W.heap.size W wr) (fun i _ => n - (intOf i).toNat)
  case atStart => exact ⟨0, Nat.zero_le _, rfl, by rw [wvH_zero]; exact unhide HR, unhide HY, unhide HS⟩
  case round =>
    clear HR HY HS
    obtain ⟨y, hy, rfl, hR, hY, hb⟩ := hrel
    have HR := hide hR
    have HY := hide hY
    have Hb := hide hb
    clear hR hY hb
    by_cases hlt : y < n
    · have q0 : (y : Int) < (n : Int) := by omega
      go_wp2
      go_loopw [22] (fun i wr => ∃ x : Nat, x ≤ n ∧ i = .int .i64 x ∧ BRow wr bq nn (wvH f n m y x) ∧ OwnY wr W.heap.size 0 0 none 0 0 ∧ Below W.heap.size W wr) (fun i _ => n - (intOf i).toNat)
      case atStart => exact ⟨0, Nat.zero_le _, rfl, unhide HR, unhide HY, unhide Hb⟩
      case round =>
        clear HR HY Hb
        obtain ⟨x, hx, rfl, hR, hY, hb⟩ := hrel
        by_cases hlx : x < n
        · have qx : (x : Int) < (n : Int) := by omega
          have qx0 : (0 : Int) ≤ (x : Int) := by omega
          obtain ⟨ba, oa, rfl, la, ka⟩ := bs_at ((unhide HQ).keep hb) hlx
          obtain ⟨yn, ym, xm, u, k, hk2, e2, e3, e4, e6, e5, b1, b2, b3, b4, b5, b6, b7, b8⟩ := wv_nums x y n m hn2 hlx hlt hm
          have hk : k < nn := by rw [hk2, unhide Hnn]; exact row_lt (Nat.mod_lt _ hn) hlt
          have hf := (hR.2 k hk).2
          have hc := (hR.2 k hk).1
          have Hnx := hide (show BRow (wr.setCell ⟨bq, k, none⟩ (.bool (f x))) bq nn (wvH f n m y (x + 1)) by
            have := hR.set k (f x)
            rwa [show (fun i => if i = k then f x else wvH f n m y x i) = wvH f n m y (x + 1) by rw [hk2]; exact wvH_succ f n m y x hlx] at this)
          have hbq : W.heap.size < bq := by rw [← unhide Hbq]; exact Nat.lt_succ_self _
          have HYn := hide (hY.grown (gset (World.grownBy.refl wr (some bq)) k (.bool (f x))) (fun e => by rw [Option.some.inj e] at hbq; exact Nat.lt_irrefl _ hbq))
          have Hbn := hide (bset (p := ⟨bq, k, none⟩) (u := .bool (f x)) hb (Nat.le_of_lt hbq))
          have hkn : (k : Int) < (nn : Int) := Int.ofNat_lt.2 hk
          generalize f x = v at *
          clear hR hY hb hk2 la
          go_wp2
          clear e2 e3 e4 e6 e5
          go_roundw
          case rel => exact ⟨x + 1, by omega, by go_num, unhide Hnx, unhide HYn, unhide Hbn⟩
          case measure => simp [intOf]; omega
        · obtain rfl : x = n := by omega
          have cl : ¬ ((x : Int) < (x : Int)) := by omega
          have HR := hide hR
          have HY := hide hY
          have Hb := hide hb
          clear hR hY hb
          go_wp2
          go_roundw
          case rel => exact ⟨y + 1, by omega, by go_num, by rw [← wvH_full f x m y hn]; exact unhide HR, unhide HY, unhide Hb⟩
          case measure => simp [intOf]; omega
    · obtain rfl : y = n := by omega
      have cl : ¬ ((y : Int) < (y : Int)) := by omega
      obtain ⟨⟨-, u0, u1, u2⟩, f0, f1, f2⟩ := unhide HY
      go_wp2
      refine bodyPost_ret (v := tr y y (some ⟨bq, 0, none⟩) nn nn) (by simp [results, Try.results21, go_sem, u0, u1, u2]) rfl ⟨bq, rfl, by have := unhide Hbq; omega, ?_, bset (bset (bset (unhide Hb) (by dsimp only; omega)) (by dsimp only; omega)) (by dsimp only; omega)⟩
      have hbq := unhide Hbq
      refine ⟨hn2, hn2, unhide Hnn, BRow.bs ?_⟩
      refine (((((unhide HR).congr (g := wvF f y m) (fun j hj => wvH_done f y m j (by rw [← unhide Hnn]; exact hj))).far (by omega) 0 _).far (by omega) 1 _).far (by omega) 2 _)

/-- what is wrong with a twill -/
def tE (n : Nat) (r : Nat → Int) (mv : Int) : Int := if rE n r = 0 then (if 1 ≤ mv ∧ mv < suI r n then 0 else 3) else rE n r
/-- a twill's bits -/
def twF (r : Nat → Int) (n : Nat) (mv : Int) : Nat → Bool := wvF (upF (fun i => (r i).toNat) n) (suI r n).toNat mv.toNat
abbrev tZero : Value := tr 0 0 none 0 0

set_option maxHeartbeats 1000000 in
theorem twill_err1 (q : Option Addr) (n c : Nat) (r : Nat → Int) (mv : Int) (W : World) (hq : Is W q n r) (er : Int) (he : rE n r = er) (hp : 1 ≤ er) :
    Calls Try.prog 6 #[.slice q n c, .int .i64 mv] W fun e V => e = .returned (.tuple #[tr 0 0 none 0 0, .int .i64 er]) ∧ Below W.heap.size W V := by
  have B0 := bal (o := .cells #[.int .i64 0, .int .i64 0, .slice none 0 0] 25) (Below.refl W.heap.size W)
  have HW := hide (wruns_any q n c r _ (hq.keep B0))
  rw [he] at HW
  have hp' : (er != 0) = true := by simp; omega
  have Y0 := hide (OwnY.new W 0 0 none 0 0)
  have HB := hide B0
  clear he hq B0
  go_enter Try.func6, Try.ntmps6
  go_wp2_with fail
  refine (unhide HW).mono ?_
  rintro e w1 ⟨rfl, hb⟩
  have HS := hide (btrans (unhide HB) hb)
  obtain ⟨⟨-, u0, u1, u2⟩, f0, f1, f2⟩ := (unhide Y0).keep hb
  clear hb Y0 HB HW
  go_wp2
  exact bodyPost_ret (v := .tuple #[tr 0 0 none 0 0, .int .i64 er]) (by simp [results, Try.results6, go_sem, u0, u1, u2]) rfl ⟨rfl, bset (bset (bset (unhide HS) (by dsimp only; omega)) (by dsimp only; omega)) (by dsimp only; omega)⟩

set_option maxHeartbeats 1000000 in
theorem twill_err2 (q : Option Addr) (n c : Nat) (k : Nat → Nat) (mv : Int) (W : World) (hq : Is W q n (fun i => (k i : Int))) (hr : Rr n k) (hm : ¬ (1 ≤ mv ∧ mv < (sN k n : Int))) :
    Calls Try.prog 6 #[.slice q n c, .int .i64 mv] W fun e V => e = .returned (.tuple #[tr 0 0 none 0 0, .int .i64 3]) ∧ Below W.heap.size W V := by
  have B0 := bal (o := .cells #[.int .i64 0, .int .i64 0, .slice none 0 0] 25) (Below.refl W.heap.size W)
  have HW := hide (wruns_any q n c _ _ (hq.keep B0))
  rw [rE_ok hr] at HW
  have HP := hide (fun V (hV : Below W.heap.size W V) => pick_ok c (hq.keep hV) hr (sN k n) rfl)
  have Y0 := hide (OwnY.new W 0 0 none 0 0)
  have HB := hide B0
  generalize sN k n = s at *
  clear hq hr B0
  go_enter Try.func6, Try.ntmps6
  go_wp2_with fail
  refine (unhide HW).mono ?_
  rintro e w1 ⟨rfl, hb⟩
  have S1 := hide (btrans (unhide HB) hb)
  have Y1 := hide ((unhide Y0).keep hb)
  clear hb Y0 HB HW
  go_wp2_with fail
  refine (unhide HP _ (unhide S1)).mono ?_
  rintro e w2 ⟨q', cp, rfl, -, hb⟩
  have HS := hide (btrans (unhide S1) hb)
  obtain ⟨⟨-, u0, u1, u2⟩, f0, f1, f2⟩ := (unhide Y1).keep hb
  clear hb S1 Y1 HP
  by_cases h1 : mv < 1
  · clear hm
    go_wp2
    exact bodyPost_ret (v := .tuple #[tr 0 0 none 0 0, .int .i64 3]) (by simp [results, Try.results6, go_sem, u0, u1, u2]) rfl ⟨rfl, bset (bset (bset (unhide HS) (by dsimp only; omega)) (by dsimp only; omega)) (by dsimp only; omega)⟩
  · have h2 : (s : Int) ≤ mv := by omega
    have h1' : decide (mv < 1) = false := by simpa using h1
    clear hm
    go_wp2
    exact bodyPost_ret (v := .tuple #[tr 0 0 none 0 0, .int .i64 3]) (by simp [results, Try.results6, go_sem, u0, u1, u2]) rfl ⟨rfl, bset (bset (bset (unhide HS) (by dsimp only; omega)) (by dsimp only; omega)) (by dsimp only; omega)⟩

set_option maxHeartbeats 1000000 in
theorem twill_ok (q : Option Addr) (n c : Nat) (k : Nat → Nat) (mv : Nat) (W : World) (hq : Is W q n (fun i => (k i : Int))) (hr : Rr n k) (s : Nat) (hs : s = sN k n) (h1 : 1 ≤ mv) (h2 : mv < s) (ss : Nat) (hss : ss = s * s) :
    Calls Try.prog 6 #[.slice q n c, .int .i64 mv] W fun e V => ∃ q' cp, e = .returned (.tuple #[tr s s q' ss cp, .int .i64 0]) ∧ (Rt V s s q' ss cp (wvF (upF k n) s mv) ∧ ∀ j, j < W.heap.size → Off q' ss j) ∧ Below W.heap.size W V := by
  have B0 := bal (o := .cells #[.int .i64 0, .int .i64 0, .slice none 0 0] 25) (Below.refl W.heap.size W)
  have HW := hide (wruns_any q n c _ _ (hq.keep B0))
  rw [rE_ok hr] at HW
  have HP := hide (fun V (hV : Below W.heap.size W V) => pick_ok c (hq.keep hV) hr s hs)
  have hs64 : s ≤ 64 := by rw [hs]; exact hr.2.2.2.2
  have Y0 := hide (OwnY.new W 0 0 none 0 0)
  have HB := hide B0
  have Hss := hide hss
  have g1 : ¬ ((mv : Int) < 1) := by omega
  have g1' : decide ((mv : Int) < 1) = false := by simpa using g1
  have g2 : ¬ ((s : Int) ≤ (mv : Int)) := by omega
  have g3 : (mv : Int) < (s : Int) := by omega
  generalize upF k n = f at *
  clear hq hr B0 hs hss
  go_enter Try.func6, Try.ntmps6
  go_wp2_with fail
  refine (unhide HW).mono ?_
  rintro e w1 ⟨rfl, hb⟩
  have S1 := hide (btrans (unhide HB) hb)
  have Y1 := hide ((unhide Y0).keep hb)
  clear hb Y0 HB HW
  go_wp2_with fail
  refine (unhide HP _ (unhide S1)).mono ?_
  rintro e w2 ⟨q', cp, rfl, ⟨hB, -⟩, hb⟩
  have HV := hide (woven_ok cp hB (by omega) hs64 mv (by omega) ss (unhide Hss))
  have S2 := hide (btrans (unhide S1) hb)
  have Y2 := hide ((unhide Y1).keep hb)
  clear hb S1 Y1 HP hB
  go_wp2_with fail
  refine (unhide HV).mono ?_
  rintro e w3 ⟨q3, rfl, hq3, hR, hb⟩
  have HS := hide (btrans (unhide S2) hb)
  have hz := (unhide S2).size
  have hY := (unhide Y2)
  have hy1 := hY.1.1
  obtain ⟨⟨-, u0, u1, u2⟩, f0, f1, f2⟩ := hY.keep hb
  have HR := hide hR
  clear hb S2 Y2 HV hR hY
  go_wp2
  refine bodyPost_ret (v := .tuple #[tr s s (some ⟨q3, 0, none⟩) ss ss, .int .i64 0]) (by simp [results, Try.results6, go_sem, u0, u1, u2]) rfl ⟨some ⟨q3, 0, none⟩, ss, rfl, ⟨⟨hs64, hs64, unhide Hss, ?_⟩, fun j hj => .inr fun a e => by cases e; dsimp only; omega⟩, bset (bset (bset (unhide HS) (by dsimp only; omega)) (by dsimp only; omega)) (by dsimp only; omega)⟩
  have ho : Off (some ⟨q3, 0, none⟩) ss W.heap.size := .inr fun a e => by cases e; dsimp only; omega
  exact (unhide HR).2.2.2.grown (gput W.heap.size _ _ _) ho
end Go.Proofs.Ytpefcpbkdofblaa
