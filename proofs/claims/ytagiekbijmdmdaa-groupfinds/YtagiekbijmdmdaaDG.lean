/-
  GroupFinds: the law's walk of a right chart.
-/
import Derived.Test.YtagiekbijmdmdaaDF
namespace Go.Proofs.Ytagiekbijmdmdaa
open Go.RowKit

set_option maxHeartbeats 8000000 in
set_option maxRecDepth 100000 in
theorem finds_plain (g w h : Int) (p : Option Addr) (n cap : Nat) (N : Nat) (s u v : Nat) (L : List Mv) (D : List (Int × Int)) (Rc : World → Prop) (W : World)
    (hRc : ∀ V V', Rc V → Below V.heap.size V V' → Rc V') (hL : L.length ≤ 6912) (hD : 1 ≤ D.length ∧ D.length ≤ 6912)
    (H1 : ∀ V, Rc V → Calls Try.prog 10 #[Ch.ch g w h p n cap] V fun e w' => e = .returned (.tuple #[.int .i64 N, .int .i64 0]) ∧ Below V.heap.size V w')
    (H2 : ∀ V, Rc V → Calls Try.prog 11 #[Ch.ch g w h p n cap] V fun e w' => e = .returned (.tuple #[.int .i64 N, .int .i64 0]) ∧ Below V.heap.size V w')
    (H3 : ∀ V, Rc V → Calls Try.prog 12 #[Ch.ch g w h p n cap] V fun e w' => ∃ q cp, e = .returned (.tuple #[.slice (some ⟨q, 0, none⟩) L.length cp, .int .i64 0]) ∧ MRow w' q L ∧ Below V.heap.size V w')
    (H4 : ∀ V, Rc V → Calls Try.prog 13 #[Ch.ch g w h p n cap] V fun e w' => ∃ q cp, e = .returned (.tuple #[.slice (some ⟨q, 0, none⟩) L.length cp, .int .i64 0]) ∧ MRow w' q L ∧ Below V.heap.size V w')
    (H5 : ∀ V, Rc V → Calls Try.prog 15 #[Ch.ch g w h p n cap] V fun e w' => e = .returned (.tuple #[.agg #[.int .i64 s, .int .i64 0], .agg #[.int .i64 u, .int .i64 v], .int .i64 0]) ∧ Below V.heap.size V w')
    (H6 : ∀ V, Rc V → Calls Try.prog 16 #[Ch.ch g w h p n cap] V fun e w' => ∃ q cp, e = .returned (.tuple #[.slice (some ⟨q, 0, none⟩) D.length cp, .int .i64 0]) ∧ ZRow w' q D ∧ Below V.heap.size V w')
    (H7 : ∀ V, Rc V → Calls Try.prog 17 #[Ch.ch g w h p n cap, .int .i64 N] V fun e w' => e = .returned (.tuple #[.agg #[.int .i64 s, .int .i64 0], .agg #[.int .i64 u, .int .i64 v]]) ∧ Below V.heap.size V w')
    (H8 : ∀ V, Rc V → Calls Try.prog 19 #[Ch.ch g w h p n cap, .int .i64 N] V fun e w' => ∃ q cp, e = .returned (.slice (some ⟨q, 0, none⟩) D.length cp) ∧ ZRow w' q D ∧ Below V.heap.size V w')
    (hc : Rc W) : FindsIs g w h p n cap W := by
  have K1 := hide H1
  have K2 := hide H2
  have K3 := hide H3
  have K4 := hide H4
  have K5 := hide H5
  have K6 := hide H6
  have K7 := hide H7
  have K8 := hide H8
  have HRc := hide hRc
  have B0 := bal (o := .cells #[.int .i64 g, .int .i64 w, .int .i64 h, .slice p n cap] 24) (Below.refl W.heap.size W)
  have Hc := hide (hRc _ _ hc B0)
  have HB := hide B0
  have HC0 := hide (Ch.OwnC.new W g w h p n cap 24)
  clear hc B0 H1 H2 H3 H4 H5 H6 H7 H8 hRc
  unfold FindsIs
  go_enter Try.func3, Try.ntmps3
  go_wp2_with fail
  generalize W.alloc (.cells #[.int .i64 g, .int .i64 w, .int .i64 h, .slice p n cap] 24) = w0 at *
  refine (unhide K1 _ (unhide Hc)).mono ?_
  rintro e w1 ⟨rfl, hb⟩
  have S1 := hb
  have c := ((unhide HC0).keep S1).2
  go_wp2_with fail
  clear c
  refine (unhide K2 _ (unhide HRc _ _ (unhide Hc) S1)).mono ?_
  rintro e w2 ⟨rfl, hb⟩
  have S2 := btrans S1 hb
  have c := ((unhide HC0).keep S2).2
  clear hb S1
  go_wp2_with fail
  clear c
  refine (unhide K3 _ (unhide HRc _ _ (unhide Hc) S2)).mono ?_
  rintro e w3 ⟨q3, cp3, rfl, hm, hb⟩
  have S3 := btrans S2 hb
  have Hm3 := hide hm
  have c := ((unhide HC0).keep S3).2
  clear hb S2 hm
  go_wp2_with fail
  clear c
  refine (unhide K4 _ (unhide HRc _ _ (unhide Hc) S3)).mono ?_
  rintro e w4 ⟨q4, cp4, rfl, hm, hb⟩
  have S4 := btrans S3 hb
  have HSm := hide (sameMoves_any q3 q4 cp3 cp4 L w4 hL ((unhide Hm3).keep hb) hm)
  clear hb S3 hm Hm3
  go_wp2_with fail
  refine (unhide HSm).mono ?_
  rintro e w5 ⟨rfl, hb⟩
  have S5 := btrans S4 hb
  have c := ((unhide HC0).keep S5).2
  clear hb S4 HSm
  go_wp2_with fail
  clear c
  refine (unhide K5 _ (unhide HRc _ _ (unhide Hc) S5)).mono ?_
  rintro e w6 ⟨rfl, hb⟩
  have hb6 := bal (o := .cells #[.int .i64 u, .int .i64 v] 33) (bal (o := .cells #[.int .i64 s, .int .i64 0] 33) hb)
  have S6 := btrans S5 hb6
  have HA := hide ((Own.new w6 s 0 33).alloc (.cells #[.int .i64 u, .int .i64 v] 33))
  have A1 := Own.new (w6.alloc (.cells #[.int .i64 s, .int .i64 0] 33)) u v 33
  rw [World.size_alloc] at A1
  have HU := hide A1
  have c := ((unhide HC0).keep S6).2
  clear hb hb6 S5 A1
  go_wp2_with fail
  clear c
  generalize (w6.alloc (.cells #[.int .i64 s, .int .i64 0] 33)).alloc (.cells #[.int .i64 u, .int .i64 v] 33) = w7 at *
  generalize w6.heap.size = b6 at *
  refine (unhide K6 _ (unhide HRc _ _ (unhide Hc) S6)).mono ?_
  rintro e w8 ⟨q8, cp8, rfl, hz, hb⟩
  have S8 := btrans S6 hb
  have HA8 := hide ((unhide HA).keep hb)
  have HU8 := hide ((unhide HU).keep hb)
  have HZ8 := hide hz
  have c := ((unhide HC0).keep S8).2
  clear hb S6 HA HU hz
  go_wp2_with fail
  clear c
  refine (unhide K7 _ (unhide HRc _ _ (unhide Hc) S8)).mono ?_
  rintro e w9 ⟨rfl, hb⟩
  have hb9 := bal (o := .cells #[.int .i64 u, .int .i64 v] 33) (bal (o := .cells #[.int .i64 s, .int .i64 0] 33) hb)
  have S9 := btrans S8 hb9
  have a := ((unhide HA8).keep hb9).2.1
  have b := ((unhide HU8).keep hb9).2.1
  have HZ9 := hide ((unhide HZ8).keep hb9)
  have c := ((unhide HC0).keep S9).2
  have a' := ((Own.new w9 s 0 33).alloc (.cells #[.int .i64 u, .int .i64 v] 33)).2.1
  have A1 := Own.new (w9.alloc (.cells #[.int .i64 s, .int .i64 0] 33)) u v 33
  rw [World.size_alloc] at A1
  have b' := A1.2.1
  clear hb hb9 S8 HA8 HU8 HZ8 A1
  go_wp2_with fail
  clear c a b a' b'
  generalize (w9.alloc (.cells #[.int .i64 s, .int .i64 0] 33)).alloc (.cells #[.int .i64 u, .int .i64 v] 33) = w10 at *
  refine (unhide K8 _ (unhide HRc _ _ (unhide Hc) S9)).mono ?_
  rintro e w11 ⟨q11, cp11, rfl, hz, hb⟩
  have S11 := btrans S9 hb
  have HSp := hide (samePoints_any q8 q11 cp8 cp11 D w11 hD.2 ((unhide HZ9).keep hb) hz)
  clear hb S9 hz HZ9
  go_wp2_with fail
  refine (unhide HSp).mono ?_
  rintro e w12 ⟨rfl, hb⟩
  have S12 := btrans S11 hb
  clear hb S11 HSp
  go_wp2
  go_ret
  exact ⟨ret_bool (by simp), btrans (unhide HB) S12⟩

theorem finds_ok (g w h : Int) (p : Option Addr) (n cap : Nat) (px : Nat → Int) (w' h' N b o : Nat) (W : World) (r : Right W g w h p n px w' h' N b o) : FindsIs g w h p n cap W := by
  have hN1 := r.hN1
  have hg := r.hg
  obtain ⟨s, hs⟩ := side_ex (stepK w' h' N px g) N hN1.1
  obtain ⟨u, v, hu⟩ := up_ex (stepK w' h' N px g) N s hN1.1 hs.1.1
  have hD1 : 1 ≤ (domL (imgC g N) (movesL w' h' N px g) N (N * N)).length := by
    unfold domL
    rw [List.length_map]
    refine List.length_pos_of_mem (a := 0) (List.mem_filter.2 ⟨List.mem_range.2 (Nat.mul_pos hN1.1 hN1.1), ?_⟩)
    unfold domB
    rw [List.all_eq_true]
    intro m _
    simp
  have hD2 : (domL (imgC g N) (movesL w' h' N px g) N (N * N)).length ≤ 6912 := by
    have := domL_len (imgC g N) (movesL w' h' N px g) N (N * N)
    have : N * N ≤ 576 := Nat.mul_le_mul hN1.2 hN1.2
    omega
  refine finds_plain g w h p n cap N s u v (movesL w' h' N px g) (domL (imgC g N) (movesL w' h' N px g) N (N * N)) (fun V => Right V g w h p n px w' h' N b o) W (fun V V' k hb => k.keep hb) (moves_len w' h' N px g hN1.2 hg) ⟨hD1, hD2⟩
    (fun V k => ?_) (fun V k => ?_) (fun V k => ?_) (fun V k => rmoves_ok g w h p n cap px w' h' N b o V k) (fun V k => ?_) (fun V k => ?_) (fun V k => ?_) (fun V k => ?_) r
  · have := torus_any g w h p n cap px V (Or.inr ⟨b, o, k.hp, k.row⟩)
    rw [k.hE, k.hN] at this
    exact this
  · have := rtorus_any g w h p n cap px V (Or.inr ⟨b, o, k.hp, k.row⟩)
    rw [k.hE, k.hN] at this
    exact this
  · refine (moves_ok g w h p n cap px w' h' N b o V k).mono ?_
    rintro e V' ⟨q, cp, rfl, hm, hb⟩
    exact ⟨q, cp, rfl, hm.1, hb⟩
  · refine (finest_ok g w h p n cap px w' h' N b o V k).mono ?_
    rintro e V' ⟨s', u', v', rfl, ⟨hs', hu'⟩, hb⟩
    obtain rfl := side_one hs' hs
    obtain ⟨rfl, rfl⟩ := up_one hu' hu
    exact ⟨rfl, hb⟩
  · refine (dom_ok g w h p n cap px w' h' N b o V k).mono ?_
    rintro e V' ⟨v, rfl, hown, hb⟩
    obtain ⟨q, cp, rfl⟩ := own_slice hown hD1
    exact ⟨q, cp, rfl, zrow_own hown, hb⟩
  · refine (rfinest_ok g w h p n cap px w' h' N b o V k).mono ?_
    rintro e V' ⟨s', u', v', rfl, ⟨hs', hu'⟩, hb⟩
    obtain rfl := side_one hs' hs
    obtain ⟨rfl, rfl⟩ := up_one hu' hu
    exact ⟨rfl, hb⟩
  · refine (rdomain_ok g w h p n cap px w' h' N b o V k).mono ?_
    rintro e V' ⟨v, rfl, hown, hb⟩
    obtain ⟨q, cp, rfl⟩ := own_slice hown hD1
    exact ⟨q, cp, rfl, zrow_own hown, hb⟩

theorem finds_walk (g w h : Int) (p : Option Addr) (n cap : Nat) (px : Nat → Int) (W : World) (hc : Ch.Cells W p n px) : FindsIs g w h p n cap W := by
  by_cases he : toE g w h n px = 0
  · obtain ⟨w', h', N, b, o, r⟩ := right_of hc he
    exact finds_ok g w h p n cap px w' h' N b o W r
  · exact finds_err g w h p n cap px W hc _ rfl (toE_pos he)
end Go.Proofs.Ytagiekbijmdmdaa
