/-
  Domain of package group.
-/
import Derived.Test.YtagiekbijmdmdaaDD
import Derived.Test.YtagiekbijmdmdaaHC0
import Derived.Test.YtagiekbijmdmdaaFE
import Derived.Test.YtagiekbijmdmdaaHC
import Derived.Test.YtagiekbijmdmdaaLA
import Derived.Test.YtagiekbijmdmdaaGP
namespace Go.Proofs.Ytagiekbijmdmdaa
open Go.RowKit

theorem domain_any (g : Int) (N b cap w' h' : Nat) (px : Nat → Int) (w : World) (hg : g = 4 ∨ g = 6) (hN : 1 ≤ N ∧ N ≤ 24) (hr : Ch.Row w b 0 (N * N) (tcx w' h' N px)) :
    Calls Try.prog 41 #[tv g N (some ⟨b, 0, none⟩) (N * N) cap] w fun e V => ∃ v, e = .returned v ∧ V.ownsRow w.heap.size 33 2 v (domL (imgC g N) (movesL w' h' N px g) N (N * N)).length (zsV (domL (imgC g N) (movesL w' h' N px g) N (N * N))) ∧ Below w.heap.size w V := by
  have hA := acts w' h' N px g hg hN.1
  have hpos := moves_pos w' h' N px g hN.1 hg
  rw [← dO_domL hA]
  refine domain_plain g N b (N * N) cap (movesL w' h' N px g) (imgC g N) (fun V => Ch.Row V b 0 (N * N) (tcx w' h' N px)) w hN rfl (moves_len w' h' N px g hN.2 hg) (fun V V' k hb => k.keep hb) (fun V k => ?_) ?_ hr
  · have := moves_any g.toNat N b (N * N) cap w' h' px V (by omega) hN rfl k
    rw [show ((g.toNat : Nat) : Int) = g by omega] at this
    refine this.mono ?_
    rintro e V' ⟨v, rfl, hown, hb⟩
    obtain ⟨q, cp, rfl⟩ := own_slice hown hpos
    exact ⟨q, cp, rfl, mrow_own hown, hb⟩
  · rintro ⟨a, f, X, Y⟩ hm i hi
    obtain ⟨ha, hX, hY, -⟩ := (mem_moves w' h' N px g a f X Y hN.1).1 hm
    have hc := cell_xy i N hN.1 hi
    have hAp := apply_small g a f X Y ((i : Int) % N) ((i : Int) / N) hg ⟨by omega, by omega⟩ (by omega) (by omega) (by omega) (by omega)
    rw [Int.toNat_natCast] at hAp
    have hcb := cby_lt N (mv g a f X Y ((i : Int) % N) ((i : Int) / N)).1 (mv g a f X Y ((i : Int) % N) ((i : Int) / N)).2 0 0 hN.1
    simp only [Int.add_zero] at hcb
    exact ⟨_, _, hAp, hcb.2, hcb.1⟩

set_option maxHeartbeats 1000000 in
theorem dom_err (g w h : Int) (p : Option Addr) (n cap : Nat) (px : Nat → Int) (W : World) (hc : Ch.Cells W p n px) (er : Int) (her : toE g w h n px = er) (hp : 1 ≤ er) :
    Calls Try.prog 16 #[Ch.ch g w h p n cap] W fun e w' => e = .returned (.tuple #[.slice none 0 0, .int .i64 er]) ∧ Below W.heap.size W w' := by
  have HT := hide (fun V (hc : Ch.Cells V p n px) => torusOf_err g w h p n cap px V hc er her hp)
  have B0 := bal (o := .cells #[.int .i64 g, .int .i64 w, .int .i64 h, .slice p n cap] 24) (Below.refl W.heap.size W)
  have Hc := hide (hc.keep B0)
  have HB := hide B0
  have hee : (er != 0) = true := by simp; omega
  clear hc B0 hp her
  go_enter Try.func16, Try.ntmps16
  go_wp2_with fail
  generalize W.alloc (.cells #[.int .i64 g, .int .i64 w, .int .i64 h, .slice p n cap] 24) = w0 at *
  refine (unhide HT _ (unhide Hc)).mono ?_
  rintro e w1 ⟨rfl, hb⟩
  have S1 := btrans (unhide HB) (bal (o := .cells #[.int .i64 0, .int .i64 0, .slice none 0 0] 66) hb)
  clear hb
  go_wp2
  exact bodyPost_ret (v := .tuple #[.slice none 0 0, .int .i64 er]) (by simp [results, Try.results16]) rfl ⟨rfl, S1⟩

set_option maxHeartbeats 1000000 in
theorem dom_ok (g w h : Int) (p : Option Addr) (n cap : Nat) (px : Nat → Int) (w' h' N b o : Nat) (W : World) (r : Right W g w h p n px w' h' N b o) :
    Calls Try.prog 16 #[Ch.ch g w h p n cap] W fun e V => ∃ v, e = .returned (.tuple #[v, .int .i64 0]) ∧ V.ownsRow W.heap.size 33 2 v (domL (imgC g N) (movesL w' h' N px g) N (N * N)).length (zsV (domL (imgC g N) (movesL w' h' N px g) N (N * N))) ∧ Below W.heap.size W V := by
  have HT := hide (fun V (r : Right V g w h p n px w' h' N b o) => r.torusOf cap)
  have HD := hide (fun V q cp (hr : Ch.Row V q 0 (N * N) (tcx w' h' N px)) => domain_any g N q cp w' h' px V r.hg r.hN1 hr)
  generalize domL (imgC g N) (movesL w' h' N px g) N (N * N) = D at *
  generalize tcx w' h' N px = cx at *
  generalize N * N = k at *
  have B0 := bal (o := .cells #[.int .i64 g, .int .i64 w, .int .i64 h, .slice p n cap] 24) (Below.refl W.heap.size W)
  have Hr := hide (r.keep B0)
  have HB := hide B0
  clear r B0
  go_enter Try.func16, Try.ntmps16
  go_wp2_with fail
  generalize W.alloc (.cells #[.int .i64 g, .int .i64 w, .int .i64 h, .slice p n cap] 24) = w0 at *
  refine (unhide HT _ (unhide Hr)).mono ?_
  rintro e w1 ⟨q, cp, rfl, hrow, hb⟩
  have hb1 := bal (o := .cells #[.int .i64 g, .int .i64 N, .slice (some ⟨q, 0, none⟩) k cp] 66) hb
  have S1 := btrans (unhide HB) hb1
  have HR1 := hide (hrow.keep (bal (o := .cells #[.int .i64 g, .int .i64 N, .slice (some ⟨q, 0, none⟩) k cp] 66) (Below.refl _ _)))
  have t := (OwnT.new w1 g N (some ⟨q, 0, none⟩) k cp 66).2
  clear hb hb1 hrow
  go_wp2_with fail
  clear t
  generalize w1.alloc (.cells #[.int .i64 g, .int .i64 N, .slice (some ⟨q, 0, none⟩) k cp] 66) = w2 at *
  refine (unhide HD _ _ _ (unhide HR1)).mono ?_
  rintro e w3 ⟨v, rfl, hown, hb⟩
  have S3 := btrans S1 hb
  have HO := hide (Joins.ownsRow_le hown S1.size)
  clear hb hown S1
  go_wp2
  exact bodyPost_ret (v := .tuple #[v, .int .i64 0]) (by simp [results, Try.results16]) rfl ⟨v, rfl, unhide HO, S3⟩
end Go.Proofs.Ytagiekbijmdmdaa

namespace Go.Proofs.Ytagiekbijmdmdaa
open Go.RowKit

theorem rdomain_ok (g w h : Int) (p : Option Addr) (n cap : Nat) (px : Nat → Int) (w' h' N b o : Nat) (W : World) (r : Right W g w h p n px w' h' N b o) :
    Calls Try.prog 19 #[Ch.ch g w h p n cap, .int .i64 N] W fun e V => ∃ v, e = .returned v ∧ V.ownsRow W.heap.size 33 2 v (domL (imgC g N) (movesL w' h' N px g) N (N * N)).length (zsV (domL (imgC g N) (movesL w' h' N px g) N (N * N))) ∧ Below W.heap.size W V := by
  have hN1 := r.hN1
  have hg := r.hg
  refine rdomain_plain g w h p n cap N (movesL w' h' N px g) (imgC g N) W hN1 (moves_len w' h' N px g hN1.2 hg) (fun V => Right V g w h p n px w' h' N b o) (fun V V' k hb => k.keep hb) (fun V k => rall_ok g w h p n cap px w' h' N b o V k) ?_ r
  rintro ⟨a, f, X, Y⟩ hm x y hx hy
  obtain ⟨ha, hX, hY, -⟩ := (mem_moves w' h' N px g a f X Y hN1.1).1 hm
  have hT := to_any g a f X Y x y hg ⟨by omega, by omega⟩ ((sz_small (by omega) (by omega)).mono (by decide)) ((sz_small (by omega) (by omega)).mono (by decide))
  rw [Int.toNat_natCast] at hT
  have e := xy_of N x y hx
  have hI : imgC g N (a, f, X, Y) (y * N + x) = cby N (mv g a f X Y x y).1 (mv g a f X Y x y).2 0 0 := by
    unfold imgC tgtR
    rw [e.1, e.2]
  have hc := cby_lt N (mv g a f X Y x y).1 (mv g a f X Y x y).2 0 0 hN1.1
  simp only [Int.add_zero] at hc
  have hNN : N * N ≤ 576 := Nat.mul_le_mul hN1.2 hN1.2
  refine ⟨_, _, hT, by rw [hI]; exact hc.2, ⟨Int.emod_nonneg _ (by omega), Int.emod_lt_of_pos _ (by omega)⟩, ⟨Int.emod_nonneg _ (by omega), Int.emod_lt_of_pos _ (by omega)⟩, by rw [hI]; omega⟩
end Go.Proofs.Ytagiekbijmdmdaa

namespace Go.Proofs.Ytagiekbijmdmdaa
open Go.RowKit

theorem stepK_ab (w h N : Nat) (px : Nat → Int) (g : Int) (x y : Nat) (hN : 1 ≤ N) : abB (pat w h N px) g 0 false x y N (N * N) = stepK w h N px g x y := by
  unfold stepK
  rw [Bool.eq_iff_iff, abB_kp hN (pat_per w h N px), kpV_iff w h N px g 0 false _ _ hN]
theorem stepK_edge (w h N : Nat) (px : Nat → Int) (g : Int) (hN : 1 ≤ N) : stepK w h N px g N 0 = true ∧ stepK w h N px g 0 N = true := by
  have hP := pat_per w h N px
  exact ⟨(stepK_iff w h N px g N 0 hN).2 (by have := St.per hP 1 0; simpa using this), (stepK_iff w h N px g 0 N hN).2 (by have := St.per hP 0 1; simpa using this)⟩

set_option maxHeartbeats 4000000 in
set_option maxRecDepth 100000 in
theorem rfinest_ok (g w h : Int) (p : Option Addr) (n cap : Nat) (px : Nat → Int) (w' h' N b o : Nat) (W : World) (r : Right W g w h p n px w' h' N b o) :
    Calls Try.prog 17 #[Ch.ch g w h p n cap, .int .i64 N] W fun e V => ∃ s u v : Nat, e = .returned (.tuple #[.agg #[.int .i64 s, .int .i64 0], .agg #[.int .i64 u, .int .i64 v]]) ∧ (SideIs (stepK w' h' N px g) N s ∧ UpIs (stepK w' h' N px g) N s u v) ∧ Below W.heap.size W V := by
  have hN1 := r.hN1
  have hg := r.hg
  have HK := hide (fun V (r : Right V g w h p n px w' h' N b o) (x y : Nat) (hx : x ≤ 24) (hy : y ≤ 24) => kept_any g w h p n cap px w' h' N b o 0 false x y V r (by omega) (sm2_of (by omega) (by omega)))
  have HKv := hide (fun x y => stepK_ab w' h' N px g x y hN1.1)
  have hedge := stepK_edge w' h' N px g hN1.1
  have HKs := hide (show ∀ V, Right V g w h p n px w' h' N b o → ∀ x y : Nat, x ≤ 24 → y ≤ 24 → Calls Try.prog 42 #[Ch.ch g w h p n cap, .int .i64 N, .agg #[.int .i64 0, .bool false, .int .i64 x, .int .i64 y]] V fun e V' => e = .returned (.bool (stepK w' h' N px g x y)) ∧ Below V.heap.size V V' from fun V r x y hx hy => by
    have := unhide HK V r x y hx hy
    rw [unhide HKv] at this
    exact this)
  clear HK HKv
  generalize stepK w' h' N px g = K at *
  have Hedge := hide hedge
  have B0 := bal (o := .cells #[.int .i64 0, .int .i64 0] 33) (bal (o := .cells #[.int .i64 0, .int .i64 0] 33) (bal (o := .cells #[.int .i64 g, .int .i64 w, .int .i64 h, .slice p n cap] 24) (Below.refl W.heap.size W)))
  have Hr := hide (r.keep B0)
  have HB := hide B0
  have HC0 := hide (((Ch.OwnC.new W g w h p n cap 24).alloc (.cells #[.int .i64 0, .int .i64 0] 33)).alloc (.cells #[.int .i64 0, .int .i64 0] 33))
  have A0 := (Own.new (W.alloc (.cells #[.int .i64 g, .int .i64 w, .int .i64 h, .slice p n cap] 24)) 0 0 33).alloc (.cells #[.int .i64 0, .int .i64 0] 33)
  have A1 := Own.new ((W.alloc (.cells #[.int .i64 g, .int .i64 w, .int .i64 h, .slice p n cap] 24)).alloc (.cells #[.int .i64 0, .int .i64 0] 33)) 0 0 33
  simp only [World.size_alloc] at A0 A1
  have HA0 := hide A0
  have HA1 := hide A1
  clear r B0 A0 A1 hg hedge
  go_enter Try.func17, Try.ntmps17
  go_wp2
  generalize ((W.alloc (.cells #[.int .i64 g, .int .i64 w, .int .i64 h, .slice p n cap] 24)).alloc (.cells #[.int .i64 0, .int .i64 0] 33)).alloc (.cells #[.int .i64 0, .int .i64 0] 33) = w0 at *
  go_loopw [6] (fun i wr => ∃ s : Nat, (1 ≤ s ∧ s ≤ N) ∧ i = .int .i64 s ∧ Hid (∀ x, 1 ≤ x → x < s → K x 0 = false) ∧ Below w0.heap.size w0 wr) (fun i _ => N - (intOf i).toNat)
  case atStart => exact ⟨1, ⟨Nat.le_refl _, hN1.1⟩, rfl, hide (fun x h1 h2 => by omega), Below.refl _ _⟩
  case round =>
    obtain ⟨s, hs, rfl, Hno, hbel⟩ := hrel
    have HK1 := hide (unhide HKs _ ((unhide Hr).keep hbel) s 0 (by omega) (by omega))
    have c := ((unhide HC0).keep hbel).2
    go_wp2_with fail
    clear c
    refine (unhide HK1).mono ?_
    rintro e w1 ⟨rfl, hb⟩
    have S1 := btrans hbel hb
    clear hb hbel HK1
    cases hks : K s 0 with
    | false =>
      have hsN : s < N := by
        rcases Nat.lt_or_ge s N with h | h
        · exact h
        · rw [show s = N by omega, (unhide Hedge).1] at hks; cases hks
      have Hn2 := hide (show ∀ x, 1 ≤ x → x < s + 1 → K x 0 = false from fun x h1 h2 => by
        rcases Nat.lt_or_ge x s with h | h
        · exact unhide Hno x h1 h
        · rw [show x = s by omega]; exact hks)
      have HS1 := hide S1
      clear S1 Hno hks
      go_wp2
      go_roundw
      case rel => exact ⟨s + 1, ⟨by omega, hsN⟩, by go_num, Hn2, unhide HS1⟩
      case measure => simp [intOf]; omega
    | true =>
      have Hside := hide (show SideIs K N s from ⟨hs, unhide Hno, Or.inr hks⟩)
      have HS1 := hide S1
      clear S1 Hno hks
      go_wp2
      go_loopw [7] (fun i wr => ∃ y : Nat, (1 ≤ y ∧ y ≤ N) ∧ i = .int .i64 y ∧ Hid (∀ y', 1 ≤ y' → y' < y → ∀ x, x < s → K x y' = false) ∧ Below w0.heap.size w0 wr) (fun i _ => N - (intOf i).toNat)
      case atStart => exact ⟨1, ⟨Nat.le_refl _, hN1.1⟩, rfl, hide (fun y h1 h2 => by omega), unhide HS1⟩
      case round =>
        clear HS1
        obtain ⟨y, hy, rfl, Hno, hbel⟩ := hrel
        have hyN : (y : Int) ≤ (N : Int) := by omega
        go_wp2
        obtain ⟨wo, rfl⟩ : ∃ wo : World, wo = wr := ⟨_, rfl⟩
        have Hb1 := hide hbel
        clear hbel
        go_loopw [8] (fun i wr2 => ∃ x : Nat, x ≤ s ∧ i = .int .i64 x ∧ Hid (∀ x', x' < x → K x' y = false) ∧ Below w0.heap.size w0 wr2) (fun i _ => s - (intOf i).toNat)
        case atStart => exact ⟨0, Nat.zero_le _, rfl, hide (fun x h => by omega), unhide Hb1⟩
        case round =>
          clear Hb1
          obtain ⟨x, hx, rfl, Hnx, hbel⟩ := hrel
          by_cases hlt : x < s
          · have hlt' : (x : Int) < (s : Int) := by omega
            have HK1 := hide (unhide HKs _ ((unhide Hr).keep hbel) x y (by omega) (by omega))
            have c := ((unhide HC0).keep hbel).2
            go_wp2_with fail
            clear c
            refine (unhide HK1).mono ?_
            rintro e w2 ⟨rfl, hb⟩
            have S2 := btrans hbel hb
            clear hb hbel HK1
            cases hks : K x y with
            | false =>
              have Hn2 := hide (show ∀ x', x' < x + 1 → K x' y = false from fun x' h2 => by
                rcases Nat.lt_or_ge x' x with h | h
                · exact unhide Hnx x' h
                · rw [show x' = x by omega]; exact hks)
              have HS2 := hide S2
              clear S2 Hnx hks
              go_wp2
              go_roundw
              case rel => exact ⟨x + 1, hlt, by go_num, Hn2, unhide HS2⟩
              case measure => simp [intOf]; omega
            | true =>
              have Hup := hide (show UpIs K N s x y from by
                refine ⟨⟨hy.1, hy.2, hlt⟩, unhide Hno, fun _ => unhide Hnx, ?_⟩
                rcases Nat.lt_or_ge y N with h | h
                · exact Or.inl ⟨h, hks⟩
                · have e : y = N := by omega
                  refine Or.inr ⟨e, ?_⟩
                  rcases Nat.eq_zero_or_pos x with h0 | h0
                  · exact h0
                  · have := unhide Hnx 0 h0
                    rw [e, (unhide Hedge).2] at this
                    cases this)
              obtain ⟨hz0, ⟨a0, a1⟩, f0, f1⟩ := (unhide HA0).keep S2
              obtain ⟨hz1, ⟨b0, b1⟩, f2, f3⟩ := (unhide HA1).keep S2
              have S3 := btrans (unhide HB) S2
              clear S2 Hnx hks Hno
              go_wp2
              exact bodyPost_ret (v := .tuple #[.agg #[.int .i64 s, .int .i64 0], .agg #[.int .i64 x, .int .i64 y]]) (by simp [results, Try.results17, go_sem, a0, a1, b0, b1]) rfl ⟨s, x, y, rfl, ⟨unhide Hside, unhide Hup⟩, bset (bset (bset (bset S3 (by dsimp only; omega)) (by dsimp only; omega)) (by dsimp only; omega)) (by dsimp only; omega)⟩
          · have e : x = s := by omega
            have cl : ¬ ((x : Int) < (s : Int)) := by omega
            have hyl : y < N := by
              rcases Nat.lt_or_ge y N with h | h
              · exact h
              · have := unhide Hnx 0 (by omega)
                rw [show y = N by omega, (unhide Hedge).2] at this
                cases this
            have Hn2 := hide (show ∀ y', 1 ≤ y' → y' < y + 1 → ∀ x, x < s → K x y' = false from fun y' h1 h2 x' hx' => by
              rcases Nat.lt_or_ge y' y with h | h
              · exact unhide Hno y' h1 h x' hx'
              · rw [show y' = y by omega]; exact unhide Hnx x' (by omega))
            have HS2 := hide hbel
            clear hbel Hnx Hno e
            go_wp2
            go_roundw
            case rel => exact ⟨y + 1, ⟨by omega, hyl⟩, by go_num, Hn2, unhide HS2⟩
            case measure => simp [intOf]; omega
end Go.Proofs.Ytagiekbijmdmdaa

namespace Go.Proofs.Ytagiekbijmdmdaa
open Go.RowKit

set_option maxHeartbeats 1000000 in
theorem sameMoves_none (W : World) : Calls Try.prog 14 #[.slice none 0 0, .slice none 0 0] W fun e w' => e = .returned (.bool true) ∧ Below W.heap.size W w' := by
  go_enter Try.func14, Try.ntmps14
  go_wp2
  go_loopw [13] (fun i wr => i = .int .i64 0 ∧ Below W.heap.size W wr) (fun _ _ => 0)
  case atStart => exact ⟨rfl, Below.refl _ _⟩
  case round =>
    obtain ⟨rfl, hbel⟩ := hrel
    have Hb := hide hbel
    clear hbel
    go_wp2
    go_ret
    exact ⟨ret_bool (by simp), unhide Hb⟩

def FindsIs (g w h : Int) (p : Option Addr) (n cap : Nat) (W : World) : Prop :=
  Calls Try.prog 3 #[Ch.ch g w h p n cap] W fun e w' => e = .returned (.bool true) ∧ Below W.heap.size W w'

set_option maxHeartbeats 4000000 in
set_option maxRecDepth 100000 in
theorem finds_err (g w h : Int) (p : Option Addr) (n cap : Nat) (px : Nat → Int) (W : World) (hc : Ch.Cells W p n px) (er : Int) (her : toE g w h n px = er) (hp : 1 ≤ er) : FindsIs g w h p n cap W := by
  have H1 := hide (fun V (hc : Ch.Cells V p n px) => torus_any g w h p n cap px V hc)
  have H2 := hide (fun V (hc : Ch.Cells V p n px) => rtorus_any g w h p n cap px V hc)
  have H3 := hide (fun V (hc : Ch.Cells V p n px) => moves_err g w h p n cap px V hc er her hp)
  have H4 := hide (fun V (hc : Ch.Cells V p n px) => rmoves_err g w h p n cap px V hc er her hp)
  have H5 := hide (fun V (hc : Ch.Cells V p n px) => finest_err g w h p n cap px V hc er her hp)
  have H6 := hide (fun V (hc : Ch.Cells V p n px) => dom_err g w h p n cap px V hc er her hp)
  rw [her] at H1 H2
  generalize toN g w h n px = tn at *
  have B0 := bal (o := .cells #[.int .i64 g, .int .i64 w, .int .i64 h, .slice p n cap] 24) (Below.refl W.heap.size W)
  have Hc := hide (hc.keep B0)
  have HB := hide B0
  have HC0 := hide (Ch.OwnC.new W g w h p n cap 24)
  have hee : (er != 0) = true := by simp; omega
  clear hc B0 hp her
  unfold FindsIs
  go_enter Try.func3, Try.ntmps3
  go_wp2_with fail
  generalize W.alloc (.cells #[.int .i64 g, .int .i64 w, .int .i64 h, .slice p n cap] 24) = w0 at *
  refine (unhide H1 _ (unhide Hc)).mono ?_
  rintro e w1 ⟨rfl, hb⟩
  have S1 := hb
  have c := ((unhide HC0).keep S1).2
  go_wp2_with fail
  clear c
  refine (unhide H2 _ ((unhide Hc).keep S1)).mono ?_
  rintro e w2 ⟨rfl, hb⟩
  have S2 := btrans S1 hb
  have c := ((unhide HC0).keep S2).2
  clear hb S1
  go_wp2_with fail
  clear c
  refine (unhide H3 _ ((unhide Hc).keep S2)).mono ?_
  rintro e w3 ⟨rfl, hb⟩
  have S3 := btrans S2 hb
  have c := ((unhide HC0).keep S3).2
  clear hb S2
  go_wp2_with fail
  clear c
  refine (unhide H4 _ ((unhide Hc).keep S3)).mono ?_
  rintro e w4 ⟨rfl, hb⟩
  have S4 := btrans S3 hb
  clear hb S3
  go_wp2_with fail
  refine (sameMoves_none _).mono ?_
  rintro e w5 ⟨rfl, hb⟩
  have S5 := btrans S4 hb
  have c := ((unhide HC0).keep S5).2
  clear hb S4
  go_wp2_with fail
  clear c
  refine (unhide H5 _ ((unhide Hc).keep S5)).mono ?_
  rintro e w6 ⟨rfl, hb⟩
  have hb6 := bal (o := .cells #[.int .i64 0, .int .i64 0] 33) (bal (o := .cells #[.int .i64 0, .int .i64 0] 33) hb)
  have S6 := btrans S5 hb6
  have HA := hide ((Own.new w6 0 0 33).alloc (.cells #[.int .i64 0, .int .i64 0] 33))
  have A1 := Own.new (w6.alloc (.cells #[.int .i64 0, .int .i64 0] 33)) 0 0 33
  rw [World.size_alloc] at A1
  have HU := hide A1
  have c := ((unhide HC0).keep S6).2
  clear hb hb6 S5 A1
  go_wp2_with fail
  clear c
  generalize (w6.alloc (.cells #[.int .i64 0, .int .i64 0] 33)).alloc (.cells #[.int .i64 0, .int .i64 0] 33) = w7 at *
  refine (unhide H6 _ ((unhide Hc).keep S6)).mono ?_
  rintro e w8 ⟨rfl, hb⟩
  have S8 := btrans S6 hb
  have a := ((unhide HA).keep hb).2.1
  have b := ((unhide HU).keep hb).2.1
  clear hb S6
  go_wp2
  go_ret
  exact ⟨ret_bool (by simp), btrans (unhide HB) S8⟩
end Go.Proofs.Ytagiekbijmdmdaa

namespace Go.Proofs.Ytagiekbijmdmdaa
open Go.RowKit

set_option maxHeartbeats 8000000 in
set_option maxRecDepth 100000 in
theorem finds_plain (g w h : Int) (p : Option Addr) (n cap : Nat) (N : Nat) (s u v : Nat) (L : List Mv) (D : List (Int × Int)) (Rc : World → Prop) (W : World)
    (hRc : ∀ V V', Rc V → Below V.heap.size V V' → Rc V') (hL : L.length ≤ 6912) (hD : 1 ≤ D.length ∧ D.length ≤ 6912)
    (H1 : ∀ V, Rc V → Calls Try.prog 10 #[Ch.ch g w h p n cap] V fun e w' => e = .returned (.tuple #[.int .i64 N, .int .i64 0]) ∧ Below V.heap.size V w')
    (H2 : ∀ V, Rc V → Calls Try.prog 11 #[Ch.ch g w h p n cap] V fun e w' => e = .returned (.tuple #[.int .i64 N, .int .i64 0]) ∧ Below V.heap.size V w')
    (H3 : ∀ V, Rc V → Calls Try.prog 12 #[Ch.ch g w h p n cap] V fun e w' => ∃ q cp, e = .returned (.tuple #[.slice (some ⟨q, 0, none⟩) L.length cp, .int .i64 0]) ∧ MRow w' q L ∧ Below V.heap.size V w')
    (H4 : ∀ V, Rc V → Calls Try.prog 13 #[Ch.ch g w h p n cap] V fun e w' => ∃ q cp, e = .returned (.tuple #[.slice (some ⟨q, 0, none⟩) L.length cp, .int .i64 0]) ∧ MRow w' q L ∧ Below V.heap.size V w')
    (H5 : ∀ V, Rc V → Calls Try.prog 15 #[Ch.ch g w h p n cap] V fun e w' => e = .returned (.tuple #[.agg #[.int .i64 s, .int .i64 0], .agg #[.int .i64 u, .int .i64 v], .int .i64 0]) ∧ Below V.heap.size V w')
    (H6 : ∀ V, Rc V → Calls Try.prog 16 #[Ch.ch g w h p n cap] V fun e w' => ∃ q cp, e = .returned (.tuple #[.slice (some ⟨q, 0, none⟩) D.length cp, .int .i64 0]) ∧ ZRow w' q D ∧ Below V.heap.size V w')
    (H7 : ∀ V, Rc V → Calls Try.prog 17 #[Ch.ch g w h p n cap, .int .i64 N] V fun e w' => e = .returned (.tuple #[.agg #[.int .i64 s, .int .i64 0], .agg #[.int .i64 u, .int .i64 v]]) ∧ Below V.heap.size V w')
    (H8 : ∀ V, Rc V → Calls Try.prog 19 #[Ch.ch g w h p n cap, .int .i64 N] V fun e w' => ∃ q cp, e = .returned (.slice (some ⟨q, 0, none⟩) D.length cp) ∧ ZRow w' q D ∧ Below V.heap.size V w')
    (hc : Rc W) : FindsIs g w h p n cap W := by
  have K1 := hide H1
  have K2 := hide H2
  have K3 := hide H3
  have K4 := hide H4
  have K5 := hide H5
  have K6 := hide H6
  have K7 := hide H7
  have K8 := hide H8
  have HRc := hide hRc
  have B0 := bal (o := .cells #[.int .i64 g, .int .i64 w, .int .i64 h, .slice p n cap] 24) (Below.refl W.heap.size W)
  have Hc := hide (hRc _ _ hc B0)
  have HB := hide B0
  have HC0 := hide (Ch.OwnC.new W g w h p n cap 24)
  clear hc B0 H1 H2 H3 H4 H5 H6 H7 H8 hRc
  unfold FindsIs
  go_enter Try.func3, Try.ntmps3
  go_wp2_with fail
  generalize W.alloc (.cells #[.int .i64 g, .int .i64 w, .int .i64 h, .slice p n cap] 24) = w0 at *
  refine (unhide K1 _ (unhide Hc)).mono ?_
  rintro e w1 ⟨rfl, hb⟩
  have S1 := hb
  have c := ((unhide HC0).keep S1).2
  go_wp2_with fail
  clear c
  refine (unhide K2 _ (unhide HRc _ _ (unhide Hc) S1)).mono ?_
  rintro e w2 ⟨rfl, hb⟩
  have S2 := btrans S1 hb
  have c := ((unhide HC0).keep S2).2
  clear hb S1
  go_wp2_with fail
  clear c
  refine (unhide K3 _ (unhide HRc _ _ (unhide Hc) S2)).mono ?_
  rintro e w3 ⟨q3, cp3, rfl, hm, hb⟩
  have S3 := btrans S2 hb
  have Hm3 := hide hm
  have c := ((unhide HC0).keep S3).2
  clear hb S2 hm
  go_wp2_with fail
  clear c
  refine (unhide K4 _ (unhide HRc _ _ (unhide Hc) S3)).mono ?_
  rintro e w4 ⟨q4, cp4, rfl, hm, hb⟩
  have S4 := btrans S3 hb
  have HSm := hide (sameMoves_any q3 q4 cp3 cp4 L w4 hL ((unhide Hm3).keep hb) hm)
  clear hb S3 hm Hm3
  go_wp2_with fail
  refine (unhide HSm).mono ?_
  rintro e w5 ⟨rfl, hb⟩
  have S5 := btrans S4 hb
  have c := ((unhide HC0).keep S5).2
  clear hb S4 HSm
  go_wp2_with fail
  clear c
  refine (unhide K5 _ (unhide HRc _ _ (unhide Hc) S5)).mono ?_
  rintro e w6 ⟨rfl, hb⟩
  have hb6 := bal (o := .cells #[.int .i64 u, .int .i64 v] 33) (bal (o := .cells #[.int .i64 s, .int .i64 0] 33) hb)
  have S6 := btrans S5 hb6
  have HA := hide ((Own.new w6 s 0 33).alloc (.cells #[.int .i64 u, .int .i64 v] 33))
  have A1 := Own.new (w6.alloc (.cells #[.int .i64 s, .int .i64 0] 33)) u v 33
  rw [World.size_alloc] at A1
  have HU := hide A1
  have c := ((unhide HC0).keep S6).2
  clear hb hb6 S5 A1
  go_wp2_with fail
  clear c
  generalize (w6.alloc (.cells #[.int .i64 s, .int .i64 0] 33)).alloc (.cells #[.int .i64 u, .int .i64 v] 33) = w7 at *
  generalize w6.heap.size = b6 at *
  refine (unhide K6 _ (unhide HRc _ _ (unhide Hc) S6)).mono ?_
  rintro e w8 ⟨q8, cp8, rfl, hz, hb⟩
  have S8 := btrans S6 hb
  have HA8 := hide ((unhide HA).keep hb)
  have HU8 := hide ((unhide HU).keep hb)
  have HZ8 := hide hz
  have c := ((unhide HC0).keep S8).2
  clear hb S6 HA HU hz
  go_wp2_with fail
  clear c
  refine (unhide K7 _ (unhide HRc _ _ (unhide Hc) S8)).mono ?_
  rintro e w9 ⟨rfl, hb⟩
  have hb9 := bal (o := .cells #[.int .i64 u, .int .i64 v] 33) (bal (o := .cells #[.int .i64 s, .int .i64 0] 33) hb)
  have S9 := btrans S8 hb9
  have a := ((unhide HA8).keep hb9).2.1
  have b := ((unhide HU8).keep hb9).2.1
  have HZ9 := hide ((unhide HZ8).keep hb9)
  have c := ((unhide HC0).keep S9).2
  have a' := ((Own.new w9 s 0 33).alloc (.cells #[.int .i64 u, .int .i64 v] 33)).2.1
  have A1 := Own.new (w9.alloc (.cells #[.int .i64 s, .int .i64 0] 33)) u v 33
  rw [World.size_alloc] at A1
  have b' := A1.2.1
  clear hb hb9 S8 HA8 HU8 HZ8 A1
  go_wp2_with fail
  clear c a b a' b'
  generalize (w9.alloc (.cells #[.int .i64 s, .int .i64 0] 33)).alloc (.cells #[.int .i64 u, .int .i64 v] 33) = w10 at *
  refine (unhide K8 _ (unhide HRc _ _ (unhide Hc) S9)).mono ?_
  rintro e w11 ⟨q11, cp11, rfl, hz, hb⟩
  have S11 := btrans S9 hb
  have HSp := hide (samePoints_any q8 q11 cp8 cp11 D w11 hD.2 ((unhide HZ9).keep hb) hz)
  clear hb S9 hz HZ9
  go_wp2_with fail
  refine (unhide HSp).mono ?_
  rintro e w12 ⟨rfl, hb⟩
  have S12 := btrans S11 hb
  clear hb S11 HSp
  go_wp2
  go_ret
  exact ⟨ret_bool (by simp), btrans (unhide HB) S12⟩

theorem finds_ok (g w h : Int) (p : Option Addr) (n cap : Nat) (px : Nat → Int) (w' h' N b o : Nat) (W : World) (r : Right W g w h p n px w' h' N b o) : FindsIs g w h p n cap W := by
  have hN1 := r.hN1
  have hg := r.hg
  obtain ⟨s, hs⟩ := side_ex (stepK w' h' N px g) N hN1.1
  obtain ⟨u, v, hu⟩ := up_ex (stepK w' h' N px g) N s hN1.1 hs.1.1
  have hD1 : 1 ≤ (domL (imgC g N) (movesL w' h' N px g) N (N * N)).length := by
    unfold domL
    rw [List.length_map]
    refine List.length_pos_of_mem (a := 0) (List.mem_filter.2 ⟨List.mem_range.2 (Nat.mul_pos hN1.1 hN1.1), ?_⟩)
    unfold domB
    rw [List.all_eq_true]
    intro m _
    simp
  have hD2 : (domL (imgC g N) (movesL w' h' N px g) N (N * N)).length ≤ 6912 := by
    have := domL_len (imgC g N) (movesL w' h' N px g) N (N * N)
    have : N * N ≤ 576 := Nat.mul_le_mul hN1.2 hN1.2
    omega
  refine finds_plain g w h p n cap N s u v (movesL w' h' N px g) (domL (imgC g N) (movesL w' h' N px g) N (N * N)) (fun V => Right V g w h p n px w' h' N b o) W (fun V V' k hb => k.keep hb) (moves_len w' h' N px g hN1.2 hg) ⟨hD1, hD2⟩
    (fun V k => ?_) (fun V k => ?_) (fun V k => ?_) (fun V k => rmoves_ok g w h p n cap px w' h' N b o V k) (fun V k => ?_) (fun V k => ?_) (fun V k => ?_) (fun V k => ?_) r
  · have := torus_any g w h p n cap px V (Or.inr ⟨b, o, k.hp, k.row⟩)
    rw [k.hE, k.hN] at this
    exact this
  · have := rtorus_any g w h p n cap px V (Or.inr ⟨b, o, k.hp, k.row⟩)
    rw [k.hE, k.hN] at this
    exact this
  · refine (moves_ok g w h p n cap px w' h' N b o V k).mono ?_
    rintro e V' ⟨q, cp, rfl, hm, hb⟩
    exact ⟨q, cp, rfl, hm.1, hb⟩
  · refine (finest_ok g w h p n cap px w' h' N b o V k).mono ?_
    rintro e V' ⟨s', u', v', rfl, ⟨hs', hu'⟩, hb⟩
    obtain rfl := side_one hs' hs
    obtain ⟨rfl, rfl⟩ := up_one hu' hu
    exact ⟨rfl, hb⟩
  · refine (dom_ok g w h p n cap px w' h' N b o V k).mono ?_
    rintro e V' ⟨v, rfl, hown, hb⟩
    obtain ⟨q, cp, rfl⟩ := own_slice hown hD1
    exact ⟨q, cp, rfl, zrow_own hown, hb⟩
  · refine (rfinest_ok g w h p n cap px w' h' N b o V k).mono ?_
    rintro e V' ⟨s', u', v', rfl, ⟨hs', hu'⟩, hb⟩
    obtain rfl := side_one hs' hs
    obtain ⟨rfl, rfl⟩ := up_one hu' hu
    exact ⟨rfl, hb⟩
  · refine (rdomain_ok g w h p n cap px w' h' N b o V k).mono ?_
    rintro e V' ⟨v, rfl, hown, hb⟩
    obtain ⟨q, cp, rfl⟩ := own_slice hown hD1
    exact ⟨q, cp, rfl, zrow_own hown, hb⟩

theorem finds_walk (g w h : Int) (p : Option Addr) (n cap : Nat) (px : Nat → Int) (W : World) (hc : Ch.Cells W p n px) : FindsIs g w h p n cap W := by
  by_cases he : toE g w h n px = 0
  · obtain ⟨w', h', N, b, o, r⟩ := right_of hc he
    exact finds_ok g w h p n cap px w' h' N b o W r
  · exact finds_err g w h p n cap px W hc _ rfl (toE_pos he)
end Go.Proofs.Ytagiekbijmdmdaa
