/-
  What Moves of package group, On of the reference, and has and alive of the laws answer.
-/
import Derived.Test.YtpcajcgafmmlkaaDoorGM
namespace Go.Proofs.YtpcajcgafmmlkaaDoor
open Go.RowKit

def MovesErr (g w h : Int) (p : Option Addr) (n cap : Nat) (W : World) (er : Int) : Prop := Calls Tryd.prog 23 #[Ch.ch g w h p n cap] W fun e w' => e = .returned (.tuple #[.slice none 0 0, .int .i64 er]) ∧ Below W.heap.size W w'
set_option maxHeartbeats 1000000 in
theorem moves_err (g w h : Int) (p : Option Addr) (n cap : Nat) (px : Nat → Int) (W : World) (hc : Ch.Cells W p n px) (er : Int) (her : toE g w h n px = er) (hp : 1 ≤ er) : MovesErr g w h p n cap W er := by
  have HT := hide (fun V (hc : Ch.Cells V p n px) => torusOf_err g w h p n cap px V hc er her hp)
  have B0 := bal (o := .cells #[.int .i64 g, .int .i64 w, .int .i64 h, .slice p n cap] 24) (Below.refl W.heap.size W)
  have Hc := hide (hc.keep B0)
  have HB := hide B0
  clear her hc B0
  unfold MovesErr
  go_enter Tryd.func23, Tryd.ntmps23
  go_wp2_with fail
  refine (unhide HT _ (unhide Hc)).mono ?_
  rintro e w1 ⟨rfl, hb⟩
  have S := bal (o := .cells #[.int .i64 0, .int .i64 0, .slice none 0 0] 74) (btrans (unhide HB) hb)
  clear hb Hc HB
  go_wp2
  exact bodyPost_ret (v := .tuple #[.slice none 0 0, .int .i64 er]) (by simp [results, Tryd.results23, go_sem]) rfl ⟨rfl, S⟩

/-- moves in a row, in a world -/
def MRow (W : World) (b : Nat) (L : List Mv) : Prop := b < W.heap.size ∧ ∀ j m, L[j]? = some m → W.cell? ⟨b, j * 4, none⟩ = some (.int .i64 m.1) ∧ W.cell? ⟨b, j * 4 + 1, none⟩ = some (.bool m.2.1) ∧ W.cell? ⟨b, j * 4 + 2, none⟩ = some (.int .i64 m.2.2.1) ∧ W.cell? ⟨b, j * 4 + 3, none⟩ = some (.int .i64 m.2.2.2)
theorem MRow.keep {W w1 : World} {b : Nat} {L : List Mv} (h : MRow W b L) (hb : Below W.heap.size W w1) : MRow w1 b L :=
  ⟨Nat.lt_of_lt_of_le h.1 hb.size, fun j m hj => ⟨keepC hb h.1 (h.2 j m hj).1, keepC hb h.1 (h.2 j m hj).2.1, keepC hb h.1 (h.2 j m hj).2.2.1, keepC hb h.1 (h.2 j m hj).2.2.2⟩⟩
theorem mvsV_get (L : List Mv) (j : Nat) (m : Mv) (h : L[j]? = some m) (o : Nat) (ho : o < 4) : (mvsV L)[j * 4 + o]? = (mvC m)[o]? := by
  induction L generalizing j with
  | nil => simp at h
  | cons a L ih =>
    have e : mvsV (a :: L) = mvC a ++ mvsV L := by simp [mvsV]
    have hl : (mvC a).length = 4 := rfl
    cases j with
    | zero =>
      simp at h
      subst h
      rw [e, List.getElem?_append_left (by rw [hl]; omega), Nat.zero_mul, Nat.zero_add]
    | succ j =>
      simp at h
      rw [e, List.getElem?_append_right (by rw [hl]; omega), hl, show (j + 1) * 4 + o - 4 = j * 4 + o by omega]
      exact ih j h
theorem mrow_own {W : World} {B b cap : Nat} {L : List Mv} (h : W.ownsRow B 41 4 (.slice (some ⟨b, 0, none⟩) L.length cap) L.length (mvsV L)) : MRow W b L := by
  refine ⟨(h.lt b rfl).2, fun j m hj => ?_⟩
  have hl : j < L.length := (List.getElem?_eq_some_iff.1 hj).1
  refine ⟨?_, ?_, ?_, ?_⟩
  · rw [h.cellAt (j * 4) (by omega)]; exact mvsV_get L j m hj 0 (by omega)
  · rw [h.cellAt (j * 4 + 1) (by omega)]; exact mvsV_get L j m hj 1 (by omega)
  · rw [h.cellAt (j * 4 + 2) (by omega)]; exact mvsV_get L j m hj 2 (by omega)
  · rw [h.cellAt (j * 4 + 3) (by omega)]; exact mvsV_get L j m hj 3 (by omega)
/-- the first move that is told moves nothing -/
theorem moves_head (w h N : Nat) (px : Nat → Int) (g : Int) (hN : 1 ≤ N) (hg : g = 4 ∨ g = 6) : (movesL w h N px g)[0]? = some (0, false, 0, 0) := by
  have hk : keepsK w h N px g 0 false 0 = true := by
    unfold keepsK
    refine (kpV_iff w h N px g 0 false _ _ hN).2 ?_
    rw [Nat.zero_mod, Nat.zero_div]
    exact kp_id _ g
  obtain ⟨n, hn⟩ : ∃ n, N * N = n + 1 := ⟨N * N - 1, by have := Nat.mul_pos hN hN; omega⟩
  have row : ∃ l, rowM (keepsK w h N px g) N 0 false (N * N) = (0, false, 0, 0) :: l := by
    unfold rowM
    rw [hn, List.range_succ_eq_map, List.filter_cons, if_pos hk]
    simp
  obtain ⟨l, hl⟩ := row
  have tu : ∃ l, turnsM (keepsK w h N px g) N false g.toNat = (0, false, 0, 0) :: l := by
    unfold turnsM
    obtain ⟨k, hk⟩ : ∃ k, g.toNat = k + 1 := ⟨g.toNat - 1, by omega⟩
    rw [hk, List.range_succ_eq_map, List.flatMap_cons, hl]
    exact ⟨_, rfl⟩
  obtain ⟨l2, hl2⟩ := tu
  unfold movesL allM
  rw [show List.range 2 = [0, 1] from rfl, List.flatMap_cons, show flipOf 0 = false from rfl, hl2]
  rfl
theorem moves_pos (w h N : Nat) (px : Nat → Int) (g : Int) (hN : 1 ≤ N) (hg : g = 4 ∨ g = 6) : 1 ≤ (movesL w h N px g).length := (List.getElem?_eq_some_iff.1 (moves_head w h N px g hN hg)).1
theorem moves_len (w h N : Nat) (px : Nat → Int) (g : Int) (hN : N ≤ 24) (hg : g = 4 ∨ g = 6) : (movesL w h N px g).length ≤ 6912 := by
  have := allM_len (keepsK w h N px g) N g.toNat 2
  have h2 : N * N ≤ 576 := Nat.mul_le_mul hN hN
  have h3 : g.toNat * (N * N) ≤ 6 * 576 := Nat.mul_le_mul (by omega) h2
  unfold movesL
  omega
theorem own_cap {W : World} {B : Nat} {e : TypeId} {z : Nat} {q : Option Addr} {n cap : Nat} {xs : List Value} (h : W.ownsRow B e z (.slice q n cap) n xs) : n ≤ cap ∧ cap ≤ 9223372036854775807 := by
  rcases h.2 with ⟨hv, h0⟩ | ⟨g, cap', cur, hv, _, _, h1, h2, _⟩
  · cases hv; omega
  · cases hv; unfold maxLen at h2; omega

set_option maxHeartbeats 1000000 in
theorem moves_ok (g w h : Int) (p : Option Addr) (n cap : Nat) (px : Nat → Int) (w' h' N b o : Nat) (W : World) (r : Right W g w h p n px w' h' N b o) :
    Calls Tryd.prog 23 #[Ch.ch g w h p n cap] W fun e V => ∃ q cp, e = .returned (.tuple #[.slice (some ⟨q, 0, none⟩) (movesL w' h' N px g).length cp, .int .i64 0]) ∧ (MRow V q (movesL w' h' N px g) ∧ (movesL w' h' N px g).length ≤ cp ∧ cp ≤ 9223372036854775807) ∧ Below W.heap.size W V := by
  have HT := hide (fun V (r : Right V g w h p n px w' h' N b o) => r.torusOf cap)
  obtain ⟨G, hG⟩ : ∃ G : Nat, g = (G : Int) := ⟨g.toNat, by have := r.hg; omega⟩
  have HM := hide (fun (V : World) (q cp : Nat) (hr : Ch.Row V q 0 (N * N) (tcx w' h' N px)) => moves_any G N q (N * N) cp w' h' px V (by have := r.hg; omega) r.hN1 rfl hr)
  rw [← hG] at HM
  have hpos := moves_pos w' h' N px g r.hN1.1 r.hg
  have B0 := bal (o := .cells #[.int .i64 g, .int .i64 w, .int .i64 h, .slice p n cap] 24) (Below.refl W.heap.size W)
  have Hr := hide (r.keep B0)
  have HB := hide B0
  clear B0 r hG
  generalize movesL w' h' N px g = L at *
  generalize tcx w' h' N px = cx at *
  go_enter Tryd.func23, Tryd.ntmps23
  go_wp2_with fail
  refine (unhide HT _ (unhide Hr)).mono ?_
  rintro e w1 ⟨q, cp, rfl, hrow, hb⟩
  have R1 := hrow.keep (bal (o := .cells #[.int .i64 g, .int .i64 N, .slice (some ⟨q, 0, none⟩) (N * N) cp] 74) (Below.refl _ _))
  have S := bal (o := .cells #[.int .i64 g, .int .i64 N, .slice (some ⟨q, 0, none⟩) (N * N) cp] 74) (btrans (unhide HB) hb)
  clear hb Hr HB hrow HT
  have HR1 := hide R1
  have HMM := hide (unhide HM _ q cp R1)
  clear R1 HM
  generalize N * N = k at *
  go_wp2_with fail
  refine (unhide HMM).mono ?_
  rintro e w2 ⟨v, rfl, hown, hb⟩
  have S2 := btrans S hb
  obtain ⟨a, ca, e⟩ := own_slice hown hpos
  subst e
  have Hm := hide (mrow_own hown)
  have Hc := hide (own_cap hown)
  clear hb S hown HMM
  go_wp2
  exact bodyPost_ret (v := .tuple #[.slice (some ⟨a, 0, none⟩) L.length ca, .int .i64 0]) (by simp [results, Tryd.results23, go_sem]) rfl ⟨a, ca, rfl, ⟨unhide Hm, unhide Hc⟩, S2⟩

set_option maxHeartbeats 1000000 in
theorem on_any (n x y : Int) (w : World) (hn : 1 ≤ n ∧ n ≤ 64) : Calls Tryd.prog 50 #[.int .i64 n, .agg #[.int .i64 x, .int .i64 y]] w fun e w' => e = .returned (.agg #[.int .i64 (x % n), .int .i64 (y % n)]) ∧ Below w.heap.size w w' := by
  have HX := hide (fun W => Ch.rest_any x n W hn)
  have HY := hide (fun W => Ch.rest_any y n W hn)
  generalize x % n = xx at *
  generalize y % n = yy at *
  have Z1 := (Own.new w x y 33).alloc (.cells #[.int .i64 0, .int .i64 0] 33)
  have Z2 := Own.new (w.alloc (.cells #[.int .i64 x, .int .i64 y] 33)) 0 0 33
  have B0 := hide (bal (o := .cells #[.int .i64 0, .int .i64 0] 33) (bal (o := .cells #[.int .i64 x, .int .i64 y] 33) (Below.refl w.heap.size w)))
  simp only [World.size_alloc] at Z2
  go_enter Tryd.func50, Tryd.ntmps50
  go_wp2_with fail
  generalize (w.alloc (.cells #[.int .i64 x, .int .i64 y] 33)).alloc (.cells #[.int .i64 0, .int .i64 0] 33) = w0 at *
  have Mk := hide (show ∀ V, Below (w.heap.size + 1) w0 V → V.cell? ⟨w.heap.size, 0, none⟩ = some (.int .i64 x) ∧ V.cell? ⟨w.heap.size, 1, none⟩ = some (.int .i64 y) from fun V hV =>
    ⟨by rw [hV.cell (p := ⟨w.heap.size, 0, none⟩) (by dsimp only; omega)]; exact Z1.2.1.1, by rw [hV.cell (p := ⟨w.heap.size, 1, none⟩) (by dsimp only; omega)]; exact Z1.2.1.2⟩)
  have Hz := hide Z2
  have z := Z2.2
  clear Z1 Z2
  go_region_held3 (fun V => (Below (w.heap.size + 1) w0 V ∧ w.heap.size + 1 < V.heap.size) ∧ (V.cell? ⟨w.heap.size, 0, none⟩ = some (.int .i64 x) ∧ V.cell? ⟨w.heap.size, 1, none⟩ = some (.int .i64 y)) ∧ R2 V (w.heap.size + 1))
    (first
      | (exact SR.init (unhide Mk) (unhide Hz))
      | assumption
      | (exact SR.set (unhide Mk) (by assumption) _ _))
    (first
      | (go_at_call_of 55 x; refine (unhide HX _).mono ?_; rintro e w1 ⟨rfl, rfl⟩)
      | (go_at_call_of 55 y; refine (unhide HY _).mono ?_; rintro e w1 ⟨rfl, rfl⟩))
  go_wp2
  exact bodyPost_ret (v := .agg #[.int .i64 xx, .int .i64 yy]) (by simp [results, Tryd.results50, go_sem, z]) rfl ⟨rfl, bset (bset (Below.drew (unhide B0)) (by dsimp only; omega)) (by dsimp only; omega)⟩
end Go.Proofs.YtpcajcgafmmlkaaDoor
