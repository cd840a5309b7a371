/-
  FabricTidy: what is left out was not needed.
-/
import Derived.Test.YtancniamgfppiaaTB
import Derived.Test.YtancniamgfppiaaFA
namespace Go.Proofs.Ytancniamgfppiaa
open Go.RowKit

set_option maxRecDepth 100000 in
set_option maxHeartbeats 4000000 in
theorem tidies_no {W : World} {n : Int} {q : Option Addr} {l c : Nat} {er at_ : Int} (her : er ≠ 0) (h : ∀ V, Below W.heap.size W V → RunNo 7 #[.int .i64 n, .slice q l c] V er at_) : LawIs 5 #[.int .i64 n, .slice q l c] W := by
  unfold LawIs
  have HA := hide (alive_any W)
  unfold Ans at HA
  unfold RunNo at h
  have HK := hide h
  have g0 : (er != 0) = true := by simpa using her
  clear h her
  go_enter Try.func5, Try.ntmps5
  go_wp2_with fail
  refine (unhide HA).mono ?_
  rintro e w1 ⟨rfl, hb1⟩
  have S1 := hide hb1
  clear hb1
  go_wp2_with fail
  refine (unhide HK _ (unhide S1)).mono ?_
  rintro e w2 ⟨rfl, hb2⟩
  have S2 := hide (btrans (unhide S1) hb2)
  clear hb2
  go_wp2
  go_ret
  exact ⟨rfl, bal (bal (unhide S2))⟩

theorem Fit.re {k : Kn} (h : Fit k) (hC : Cs (carF k.loops) k.loops.length) : Fit (reN k) := by
  obtain ⟨m1, m2, m3, m4, m5, m6, m7⟩ := h
  refine ⟨by rw [reN_len hC]; exact m1, ?_, ?_, ?_, fun x hx => ?_, fun x hx => ?_, fun x hx => ?_⟩
  · show (soL _).length ≤ _
    rw [(soL_perm _).length_eq, List.length_map]; exact m2
  · show (List.map _ _).length ≤ _
    rw [List.length_map]; exact m3
  · show (List.map _ _).length ≤ _
    rw [List.length_map]; exact m4
  · obtain ⟨y, hy, rfl⟩ := List.mem_map.1 hx
    rw [List.length_map]; exact m5 y hy
  · obtain ⟨y, hy, rfl⟩ := List.mem_map.1 hx
    rw [List.length_map]; exact m6 y hy
  · obtain ⟨y, hy, rfl⟩ := List.mem_map.1 hx
    dsimp only
    rw [List.length_map]
    obtain ⟨p, hp⟩ := List.mem_iff_getElem?.1 hy
    have hyl := (ixL_back 8 p y hp).1
    rw [← thrF_at hyl]
    exact m7 _ (List.getElem_mem hyl)
theorem fit_re (N : Nat) (f : Nat → Sx) (n : Nat) (hN : N ≤ 128) : Fit (reN (tell N (knS N f n))) := (Fit.of (Iv.kn N f n) (Th.kn N f n) hN).re (Bd.kn N f n).cs
/-- all boxes behind a second Cloth -/
theorem box_put (W : World) (fb : Nat) (v0 v1 v2 v3 : Value) (r : Int) {x y : Int} (hF : FB W fb x y) :
    ∃ V, (((W.setCell ⟨fb, 0, none⟩ (.int .i64 0)).setCell ⟨fb, 1, none⟩ (.int .i64 0)).alloc (.cells #[v0, v1, v2, v3, .int .i64 r] 29)) = V ∧ KB V W.heap.size v0 v1 v2 v3 r ∧ FB V fb 0 0 ∧ Kept (fun i => i = fb) W V := by
  have k1 := put30_kept W fb 0 0
  have k2 := bnew (put30 W fb 0 0) (.cells #[v0, v1, v2, v3, .int .i64 r] 29)
  refine ⟨_, rfl, ?_, (hF.put 0 0).keep k2, k1.below k2⟩
  have := KB.new (put30 W fb 0 0) v0 v1 v2 v3 r
  simpa [put30] using this

set_option maxRecDepth 100000 in
set_option maxHeartbeats 8000000 in
theorem tidies_ok {N : Nat} {W : World} {q : Option Addr} {n c : Nat} {f : Nat → Sx} (h1 : 1 ≤ N) (hN : N ≤ 128) (hs : Sc W q n f) (hn : n * 40 + 4096 ≤ 140737488355328) (hall : ∀ i, i < n → erS N f i = 0) : LawIs 5 #[.int .i64 (N : Int), .slice q n c] W := by
  unfold LawIs
  have HA := hide (alive_any W)
  unfold Ans at HA
  have HK := hide (fun V (hV : Below W.heap.size W V) => cloth_ok (c := c) h1 hN (hs.keep hV) hn hall)
  have HT := hide (fun V (hV : Below W.heap.size W V) => tidy_any (c := c) (hs.keep hV) hn)
  unfold Lst at HT
  have hle := tidy_le (lsG f n)
  rw [lsG_len] at hle
  obtain ⟨k1, k2⟩ := tidy_kn hall
  have HK2 := hide (fun V q c (h : Sc V q (tidyL (lsG f n)).length (fun j => (tidyL (lsG f n)).getD j x0)) => cloth_ok (c := c) h1 hN h (by omega) k1)
  rw [k2] at HK2
  have HT2 := hide (fun V q c (h : Sc V q (tidyL (lsG f n)).length (fun j => (tidyL (lsG f n)).getD j x0)) => tidy_any (c := c) h (by omega))
  unfold Lst at HT2
  rw [lsG_list, tidy_tidy] at HT2
  have HFit := hide (fit_re N f n hN)
  clear hs hall k1 k2
  generalize reN (tell N (knS N f n)) = kn at *
  generalize tidyL (lsG f n) = tl at *
  go_enter Try.func5, Try.ntmps5
  go_wp2_with fail
  refine (unhide HA).mono ?_
  rintro e w1 ⟨rfl, hb1⟩
  have S1 := hide hb1
  clear hb1
  go_wp2_with fail
  refine (unhide HK _ (unhide S1)).mono ?_
  rintro e w2 ⟨v, rfl, hR2, hb2⟩
  have S2 := hide (btrans (unhide S1) hb2)
  obtain ⟨a1, a2, a3, a4, a5, a6, a7, a8, a9, d1, d2, d3, rfl⟩ := hR2.parts
  have HR2 := hide hR2
  clear hb2 hR2 HA HK
  obtain ⟨rk, hrk⟩ : ∃ rk, rk = kn.rack := ⟨_, rfl⟩
  rw [← hrk] at HR2
  rw [← hrk]
  have Hrk := hide hrk
  clear hrk
  obtain ⟨t1, t2, t3⟩ := two_boxes w2 (.slice a1 a2 a3) (.slice a4 a5 a6) (.slice a7 a8 a9) (.slice d1 d3 d2) rk 0 0
  have HKb := hide t1
  have HFb := hide t2
  have S3 := hide (btrans (unhide S2) t3)
  have HR3 := hide ((unhide HR2).keep t3)
  have Hs2 := hide (unhide S2).size
  clear t1 t2 t3 HR2 S2
  go_upto_region 4 with fail
  generalize (w2.alloc (.cells #[.slice a1 a2 a3, .slice a4 a5 a6, .slice a7 a8 a9, .slice d1 d3 d2, .int .i64 rk] 29)).alloc (.cells #[.int .i64 0, .int .i64 0] 32) = w3 at *
  obtain ⟨fb, hfb⟩ : ∃ b, b = w2.heap.size + 1 := ⟨_, rfl⟩
  rw [← hfb] at HFb
  rw [← hfb]
  obtain ⟨kb, hkb⟩ : ∃ b, b = w2.heap.size := ⟨_, rfl⟩
  rw [← hkb] at HKb
  rw [← hkb]
  have Hlo := hide (show W.heap.size ≤ fb by have := unhide Hs2; omega)
  clear hfb hkb
  obtain ⟨-, ⟨f0, f1⟩, -⟩ := unhide HFb
  have HTa := hide (unhide HT w3 (unhide S3))
  clear HT
  go_wp2_with fail
  clear f0 f1
  refine (unhide HTa).mono ?_
  rintro e w4 ⟨tv, rfl, hO4, hb4⟩
  obtain ⟨tq, tc, rfl⟩ := own_form hO4
  have HO4 := hide hO4
  have S4 := hide (btrans (unhide S3) hb4)
  have HR4 := hide ((unhide HR3).keep hb4)
  have HKb4 := hide ((unhide HKb).keep hb4)
  have HFb4 := hide ((unhide HFb).keep hb4)
  have HKc := hide (unhide HK2 w4 tq tc (own_sc hO4))
  clear hO4 hb4 HTa HR3 HKb HFb
  obtain ⟨nt, hnt⟩ : ∃ n, n = tl.length := ⟨_, rfl⟩
  rw [← hnt] at hle HKc
  rw [← hnt]
  have Hnt := hide hnt
  clear hnt
  go_wp2_with fail
  refine (unhide HKc).mono ?_
  rintro e w5 ⟨v5, rfl, hR5, hb5⟩
  have S5 := hide (btrans (unhide S4) hb5)
  obtain ⟨e1, e2, e3, e4, e5, e6, e7, e8, e9, e10, e11, e12, rfl⟩ := hR5.parts
  rw [← unhide Hrk] at hR5
  rw [← unhide Hrk]
  have HR5 := hide hR5
  have HO5 := hide (own_keep (unhide HO4) hb5)
  have HRa := hide ((unhide HR4).keep hb5)
  have HKb5 := hide ((unhide HKb4).keep hb5)
  have HFb5 := hide ((unhide HFb4).keep hb5)
  clear hR5 hb5 HKc HO4 HR4 HKb4 HFb4
  obtain ⟨x8, hx8, hK8, hF8, hP8⟩ := box_put w5 fb (.slice e1 e2 e3) (.slice e4 e5 e6) (.slice e7 e8 e9) (.slice e10 e12 e11) rk (unhide HFb5)
  have t32 : Tg w5 fb 32 := (unhide HFb5).1.2
  have n32 : ∀ {u : TypeId}, (32 : TypeId) ≠ u → ∀ i, i = fb → ¬ Tg w5 i u := fun h i e t => tg_not (show Tg w5 i 32 from e ▸ t32) h t
  have HKb8 := hide ((unhide HKb5).kept hP8 (fun e => n32 (by decide) _ e (unhide HKb5).1.2))
  have HR8 := hide ((unhide HR5).kept hP8 (n32 (by decide)) (n32 (by decide)) (n32 (by decide)))
  have HRb := hide ((unhide HRa).kept hP8 (n32 (by decide)) (n32 (by decide)) (n32 (by decide)))
  have HO8 := hide (own_kept (unhide HO5) hP8 (n32 (by decide)))
  have S8 := hide (Kept.back (unhide S5) hP8 (unhide S5).size (fun i e => by rw [e]; exact unhide Hlo))
  have HK8 := hide hK8
  have HF8 := hide hF8
  have HSame := hide (same_any (unhide HRb) (unhide HR8) (unhide HFit))
  obtain ⟨⟨hfl, -⟩, ⟨y0, y1⟩, g0, g1⟩ := unhide HFb5
  have hfn : fb ≠ w5.heap.size := by omega
  clear hK8 hF8 hP8 t32 n32 HR5 HRa HKb5 HO5 HFb5
  go_upto_region 8 with fail
  clear hx8 hfl hfn y0 y1 g0 g1
  generalize w5.heap.size = kb2 at *
  obtain ⟨-, ⟨y0, y1, y2, y3, y4⟩, -⟩ := unhide HKb8
  obtain ⟨-, ⟨z0, z1, z2, z3, z4⟩, -⟩ := unhide HK8
  obtain ⟨-, ⟨u0, u1⟩, -⟩ := unhide HF8
  have gl : ¬ ((nt : Int) > (n : Int)) := by omega
  have gl2 : decide ((nt : Int) > (n : Int)) = false := by simpa using gl
  go_wp2_with fail
  clear y0 y1 y2 y3 y4 z0 z1 z2 z3 z4 u0 u1
  refine (unhide HSame).mono ?_
  rintro e w9 ⟨rfl, hb9⟩
  have S9 := hide (btrans (unhide S8) hb9)
  have HO9 := hide (own_keep (unhide HO8) hb9)
  have HTb := hide (unhide HT2 w9 tq tc (own_sc (unhide HO9)))
  rw [← unhide Hnt] at HTb
  clear hb9 HSame HR8 HRb HK8 HF8 HKb8 HO8
  go_wp2_with fail
  refine (unhide HTb).mono ?_
  rintro e w10 ⟨uv, rfl, hO10, hb10⟩
  obtain ⟨uq, uc, rfl⟩ := own_form hO10
  have S10 := hide (btrans (unhide S9) hb10)
  have HSu := hide (show Sc w10 uq nt (fun j => tl.getD j x0) from by have := hO10; rw [unhide Hnt] at this; rw [unhide Hnt]; exact own_sc this)
  have HSt := hide (show Sc w10 tq nt (fun j => tl.getD j x0) from by rw [unhide Hnt]; exact own_sc (own_keep (unhide HO9) hb10))
  clear hO10 hb10 HTb HO9
  generalize (fun j => tl.getD j x0) = h at *
  have gq : ((nt : Int) != (nt : Int)) = false := by simp
  go_wp2
  go_loopw [55] (fun i wr => ∃ x : Nat, x ≤ nt ∧ i = .int .i64 x ∧ Below w10.heap.size w10 wr) (fun i _ => nt - (intOf i).toNat)
  case atStart => exact ⟨0, Nat.zero_le _, rfl, Below.refl _ _⟩
  case round =>
    obtain ⟨x, hx, rfl, hB⟩ := hrel
    have HB := hide hB
    clear hB
    by_cases hlt : x < nt
    · have q1 : (x : Int) < (nt : Int) := by omega
      have q2 : (0 : Int) ≤ (x : Int) := by omega
      obtain ⟨b5, o5, rfl, c0, c1, c2, c3, c4⟩ := ((unhide HSu).keep (unhide HB)).at hlt
      obtain ⟨b6, o6, rfl, s0, s1, s2, s3, s4⟩ := ((unhide HSt).keep (unhide HB)).at hlt
      go_wp2
      go_quiet (fail)
      go_wp2
      go_roundw
      case rel => exact ⟨x + 1, by omega, by go_num, (unhide HB).trans (Joins.below_draws _ _ _)⟩
      case measure => simp [intOf]; omega
    · obtain rfl : nt = x := by omega
      have cl : ¬ ((nt : Int) < (nt : Int)) := by omega
      go_wp2
      go_ret
      exact ⟨rfl, btrans (unhide S10) (unhide HB)⟩
theorem tidies_any (n : Int) (W : World) (q : Option Addr) (l c : Nat) (f : Nat → Sx) (hs : Sc W q l f) (hl : l * 40 + 4096 ≤ 140737488355328) : LawIs 5 #[.int .i64 n, .slice q l c] W := by
  rcases cloth_cases n W q l c f hs hl with ⟨er, at_, her, h⟩ | ⟨N, rfl, h1, h2, h3⟩
  · exact tidies_no her h
  · exact tidies_ok h1 h2 hs hl h3
end Go.Proofs.Ytancniamgfppiaa
