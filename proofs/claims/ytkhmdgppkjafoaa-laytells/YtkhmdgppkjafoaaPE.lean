/-
  Lay of package lay.
-/
import Derived.Test.YtkhmdgppkjafoaaPD
namespace Go.Proofs.Ytkhmdgppkjafoaa
open Go.RowKit

theorem info35 : (Try.prog.info? 35).map (fun i => (i.zero, i.size, i.bytes)) = some (some (.agg #[.int .i64 0, .int .i64 0]), 2, 16) := by kernel_rfl
/-- points that may be written -/
def PRw (W : World) (b n : Nat) (X Y : Nat → Int) : Prop := b < W.heap.size ∧ ∀ j, j < n → (W.cell? ⟨b, j * 2, none⟩ = some (.int .i64 (X j)) ∧ W.cell? ⟨b, j * 2 + 1, none⟩ = some (.int .i64 (Y j))) ∧ (W.frozen? ⟨b, j * 2, none⟩ = false ∧ W.frozen? ⟨b, j * 2 + 1, none⟩ = false)
theorem PRw.kept {T : Nat → Prop} {w V : World} {b n : Nat} {X Y : Nat → Int} (h : PRw w b n X Y) (k : Kept T w V) (hT : ¬ T b) : PRw V b n X Y :=
  ⟨Nat.lt_of_lt_of_le h.1 k.size, fun j hj => ⟨⟨k.cell h.1 hT (h.2 j hj).1.1, k.cell h.1 hT (h.2 j hj).1.2⟩, ⟨k.froz h.1 hT (h.2 j hj).2.1, k.froz h.1 hT (h.2 j hj).2.2⟩⟩⟩
theorem PRw.keep {w V : World} {b n : Nat} {X Y : Nat → Int} (h : PRw w b n X Y) (hb : Below w.heap.size w V) : PRw V b n X Y := h.kept (Kept.of (S := fun _ => False) hb) (fun q => q)
theorem PRw.put {W : World} {b n i : Nat} {X Y X' Y' : Nat → Int} {x y : Int} (h : PRw W b n X Y) (hx : X' i = x ∧ Y' i = y) (hr : ∀ j, j < n → j ≠ i → X j = X' j ∧ Y j = Y' j) : PRw ((W.setCell ⟨b, i * 2, none⟩ (.int .i64 x)).setCell ⟨b, i * 2 + 1, none⟩ (.int .i64 y)) b n X' Y' := by
  refine ⟨by simpa using h.1, fun j hj => ⟨?_, ⟨fset (fset (h.2 j hj).2.1), fset (fset (h.2 j hj).2.2)⟩⟩⟩
  by_cases e : j = i
  · subst e
    rw [hx.1, hx.2]
    exact ⟨cset (csame (h.2 j hj).1.1) (by omega), csame (cset (h.2 j hj).1.2 (by omega))⟩
  · rw [← (hr j hj e).1, ← (hr j hj e).2]
    exact ⟨cset (cset (h.2 j hj).1.1 (by omega)) (by omega), cset (cset (h.2 j hj).1.2 (by omega)) (by omega)⟩
theorem PRw.ps {W : World} {b n : Nat} {X Y : Nat → Int} (h : PRw W b n X Y) : Ps W (some ⟨b, 0, none⟩) n X Y :=
  .inr ⟨b, 0, rfl, h.1, fun k hk => by rw [Nat.zero_add]; exact (h.2 k hk).1⟩
theorem made_pair (z : Value) (m j : Nat) (hj : j < m) : (madeCells #[z, z] m).toList[j]? = some z := by
  have h : j % 2 = 0 ∨ j % 2 = 1 := by omega
  rcases h with h | h <;> simp [madeCells, hj, h]
theorem prw_made {w : World} {B b n : Nat} (h : w.ownsRow B 35 2 (.slice (some ⟨b, 0, none⟩) n n) n (madeCells #[.int .i64 0, .int .i64 0] (n * 2)).toList) : PRw w b n (fun _ => 0) (fun _ => 0) :=
  ⟨(h.lt b rfl).2, fun j hj => ⟨⟨by rw [h.cellAt (j * 2) (by omega)]; exact made_pair _ _ _ (by omega), by rw [h.cellAt (j * 2 + 1) (by omega)]; exact made_pair _ _ _ (by omega)⟩, ⟨h.frozenAt _, h.frozenAt _⟩⟩⟩

/-- points, a height and an error are told -/
def PL (W : World) (n : Nat) (w h : Nat → Nat) (wide : Nat) (e : Ending) (V : World) : Prop := ∃ (b : Nat) (g : Nat → Nat), e = .returned (.tuple #[.slice (some ⟨b, 0, none⟩) n n, .int .i64 ((shs wide w h g n).t : Int), .int .i64 0]) ∧ Srt n h g ∧ Ps V (some ⟨b, 0, none⟩) n (fun i => (aX wide w h g n i : Int)) (fun i => (aY wide w h g n i : Int)) ∧ Below W.heap.size W V
theorem PL.mk {W V : World} {n wide t : Nat} {w h : Nat → Nat} (b : Nat) (g : Nat → Nat) (ht : t = (shs wide w h g n).t) (h1 : Srt n h g) (h2 : Ps V (some ⟨b, 0, none⟩) n (fun i => (aX wide w h g n i : Int)) (fun i => (aY wide w h g n i : Int))) (hb : Below W.heap.size W V) : PL W n w h wide (.returned (.tuple #[.slice (some ⟨b, 0, none⟩) n n, .int .i64 (t : Int), .int .i64 0])) V := ⟨b, g, by rw [ht], h1, h2, hb⟩

set_option maxHeartbeats 1000000 in
theorem lay_err (wide : Int) (q : Option Addr) (n cap : Nat) (a b : Nat → Int) (W : World) (hP : Ps W q n a b) (he : wE wide n a b ≠ 0) : Calls Try.prog 6 #[.int .i64 wide, .slice q n cap] W fun e V => e = .returned (.tuple #[.slice none 0 0, .int .i64 0, .int .i64 (wE wide n a b)]) ∧ Below W.heap.size W V := by
  have HC := hide (wrong_any wide q n cap a b W hP)
  generalize wE wide n a b = er at *
  have h1 : (er != 0) = true := by simpa using he
  clear hP he
  go_enter Try.func6, Try.ntmps6
  go_wp2_with fail
  refine (unhide HC).mono ?_
  rintro e w1 ⟨rfl, hb1⟩
  go_wp2
  exact bodyPost_ret (v := .tuple #[.slice none 0 0, .int .i64 0, .int .i64 er]) (by simp [results, Try.results6, go_sem]) rfl ⟨rfl, hb1⟩

/-- what lies about while pieces are laid: the shelves, the points, the order -/
def Ly (W0 : World) (S pb ob n wide : Nat) (w h g : Nat → Nat) (k : Nat) (V : World) : Prop := SX V S wide (shs wide w h g k) ∧ PRw V pb n (fun i => (aX wide w h g k i : Int)) (fun i => (aY wide w h g k i : Int)) ∧ (ob < V.heap.size ∧ ∀ j, j < n → V.cell? ⟨ob, j, none⟩ = some (.int .i64 (g j : Int))) ∧ Below W0.heap.size W0 V

set_option maxRecDepth 100000 in
set_option maxHeartbeats 4000000 in
theorem lay_ok (wide : Nat) (q : Option Addr) (n cap : Nat) (w h : Nat → Nat) (r : Rg wide n w h) (W : World) (hP : Ps W q n (fun k => (w k : Int)) (fun k => (h k : Int))) : Calls Try.prog 6 #[.int .i64 (wide : Int), .slice q n cap] W (PL W n w h wide) := by
  obtain ⟨i0, hi, hz0, hz1, hz2⟩ := info_parts info35
  have hw := r.wide
  have hn := r.many
  have hby : i0.bytes * n ≤ 281474976710656 := by rw [hz2]; omega
  have hml : n ≤ maxLen := by unfold maxLen; omega
  have HC := hide (wrong_any (wide : Int) q n cap _ _ W hP)
  rw [wE_rg r] at HC
  have HO := hide (fun V (hb : Below W.heap.size W V) => order_any q n cap w h hn (fun k hk => (r.each k hk).2.2.2) V (hP.keep hb))
  have HP := hide hP
  have Hr := hide r
  clear hP r
  go_enter Try.func6, Try.ntmps6
  go_wp2_with fail
  refine (unhide HC).mono ?_
  rintro e w1 ⟨rfl, hb1⟩
  have HS0 := hide (show SX (w1.alloc (.cells #[.int .i64 (wide : Int), .int .i64 0, .int .i64 0, .int .i64 0] 40)) w1.heap.size wide (shs wide w h (fun _ => 0) 0) from ⟨by simp, ⟨by simp [go_sem], by simp [go_sem, shs], by simp [go_sem, shs], by simp [go_sem, shs]⟩, fun j => by simp [go_sem]⟩)
  have Hb2 := hide (bal (o := .cells #[.int .i64 (wide : Int), .int .i64 0, .int .i64 0, .int .i64 0] 40) hb1)
  have hS0 : W.heap.size ≤ w1.heap.size := hb1.size
  clear hb1 HC
  go_upto_region 5 with fail
  generalize w1.alloc (.cells #[.int .i64 (wide : Int), .int .i64 0, .int .i64 0, .int .i64 0] 40) = w2 at *
  generalize w1.heap.size = S at *
  go_wp2_with (first | fail | refine wpList_make_full _ rfl _ _ 23 rfl w2.heap.size 35 i0 _ 2 Try.underlying23 hi hz0 hz1 .i64 .i64 (n : Int) (n : Int) n rfl rfl rfl rfl hby hml (Nat.le_refl _) ?_)
  intro wm hown hgrow
  have HR := hide (prw_made hown)
  have hS1 := (Below.refl _ w2).grown hgrow (Nat.le_refl _) (fun k hk => by cases hk)
  have HS1 := hide (S4.keep (unhide HS0) hS1)
  have Hb3 := hide (btrans (unhide Hb2) hS1)
  have hSp : S < w2.heap.size := (unhide HS0).1
  clear hown hgrow hi hz0 hz1 hz2 hby hml hS1 HS0 Hb2
  generalize w2.heap.size = pb at *
  go_wp2_with fail
  refine (unhide HO _ (unhide Hb3)).mono ?_
  rintro e w3 ⟨ob, g, rfl, hG, hrow, hob, hb3⟩
  have Hsrt := hide hG
  have hpo : pb < ob := Nat.lt_of_lt_of_le (unhide HR).1 hob
  have HL := hide (show Ly W S pb ob n wide w h g 0 w3 from ⟨S4.keep (unhide HS1) hb3, by simpa [aX, aY] using (unhide HR).keep hb3, hrow, btrans (unhide Hb3) hb3⟩)
  clear hG hrow hob hb3 HR HS1 Hb3 HO
  go_wp2
  go_loopw [26] (fun i wr => ∃ x : Nat, x ≤ n ∧ i = .int .i64 (x : Int) ∧ Ly W S pb ob n wide w h g x wr) (fun i _ => n - (intOf i).toNat)
  case atStart => exact ⟨0, Nat.zero_le _, rfl, unhide HL⟩
  case round =>
    clear HL
    obtain ⟨x, hx, rfl, hL⟩ := hrel
    by_cases hlt : x < n
    · have q0 : (x : Int) < (n : Int) := by omega
      have q1 : (0 : Int) ≤ (x : Int) := by omega
      have hgx : g x < n := (unhide Hsrt).lt x hlt
      have co := hL.2.2.1.2 x hlt
      obtain ⟨ad, oo, rfl, k0, k1⟩ := ((unhide HP).keep hL.2.2.2).at hgx
      have Hstep := hide (show shs wide w h g (x + 1) = (shs wide w h g x).lay wide (w (g x)) (h (g x)) from rfl)
      have Hgd := hide (gd_any (unhide Hr) (unhide Hsrt) x (by omega))
      have Hea := hide ((unhide Hr).each (g x) hgx)
      have HC := hide (lay14_any S wide (w (g x)) (h (g x)) (shs wide w h g x) (unhide Hgd).x hw.2 (unhide Hea).2.1 (unhide Hea).2.2.2 (by have := (unhide Hgd).high.2; omega) wr hL.1)
      have HaX := hide (show ∀ j, aX wide w h g (x + 1) j = if j = g x then (shs wide w h g (x + 1)).x - w (g x) else aX wide w h g x j from fun _ => rfl)
      have HaY := hide (show ∀ j, aY wide w h g (x + 1) j = if j = g x then (shs wide w h g (x + 1)).f else aY wide w h g x j from fun _ => rfl)
      have HLx := hide hL
      obtain ⟨gi, hgi⟩ : ∃ gi, g x = gi := ⟨_, rfl⟩
      rw [← unhide Hstep] at HC
      rw [hgi] at co k0 k1 hgx HC HaX HaY
      have c0 : (gi : Int) < (n : Int) := by omega
      have c1 : (0 : Int) ≤ (gi : Int) := by omega
      clear hL hgi Hgd Hea
      go_wp2_with fail
      refine (unhide HC).mono ?_
      rintro e w4 ⟨rfl, hSX, hK⟩
      unfold pV
      obtain ⟨⟨m0, m1⟩, m2, m3⟩ := ((unhide HLx).2.1.kept hK (show ¬ pb = S by omega)).2 gi hgx
      generalize ((aX wide w h g x gi : Nat) : Int) = m0v at m0
      generalize ((aY wide w h g x gi : Nat) : Int) = m1v at m1
      have Hn := hide (show Ly W S pb ob n wide w h g (x + 1) ((w4.setCell ⟨pb, gi * 2, none⟩ (.int .i64 (((shs wide w h g (x + 1)).x - w gi : Nat) : Int))).setCell ⟨pb, gi * 2 + 1, none⟩ (.int .i64 ((shs wide w h g (x + 1)).f : Int))) from by
        obtain ⟨l1, l2, l3, l4⟩ := unhide HLx
        have K2 := ((Kept.refl (fun i => i = pb) w4).set (b := pb) (gi * 2) (.int .i64 (((shs wide w h g (x + 1)).x - w gi : Nat) : Int)) (.inl rfl)).set (b := pb) (gi * 2 + 1) (.int .i64 ((shs wide w h g (x + 1)).f : Int)) (.inl rfl)
        refine ⟨S4.kept hSX K2 (show ¬ S = pb by omega), (l2.kept hK (show ¬ pb = S by omega)).put ⟨by rw [unhide HaX, if_pos rfl], by rw [unhide HaY, if_pos rfl]⟩ (fun j _ hj => ⟨by rw [unhide HaX, if_neg hj], by rw [unhide HaY, if_neg hj]⟩), ⟨Nat.lt_of_lt_of_le (Nat.lt_of_lt_of_le l3.1 hK.size) K2.size, fun j hj => K2.cell (Nat.lt_of_lt_of_le l3.1 hK.size) (show ¬ ob = pb by omega) (hK.cell l3.1 (show ¬ ob = S by omega) (l3.2 j hj))⟩, ?_⟩
        have hbk := Kept.back l4 hK l4.size (fun q e => by subst e; exact hS0)
        exact Kept.back hbk K2 hbk.size (fun q e => by subst e; omega))
      clear HLx HC hSX hK HaX HaY Hstep co k0 k1
      generalize (shs wide w h g (x + 1)).x - w gi = px at *
      generalize (shs wide w h g (x + 1)).f = fy at *
      go_wp2
      go_roundw
      case rel => exact ⟨x + 1, by omega, by go_num, unhide Hn⟩
      case measure => simp [intOf]; omega
    · obtain rfl : n = x := by omega
      have cl : ¬ ((n : Int) < (n : Int)) := by omega
      have t3 := hL.1.2.1.2.2.2
      have HL := hide hL
      obtain ⟨tt, htt⟩ : ∃ tt, tt = (shs wide w h g n).t := ⟨_, rfl⟩
      rw [← htt] at t3
      have Htt := hide htt
      clear hL htt
      go_wp2_with fail
      go_quiet (fail)
      have Hb9 := hide (Joins.below_draws wr.heap.size wr nq)
      generalize wr.drewN nq = w9 at *
      go_wp2
      exact bodyPost_ret (v := .tuple #[.slice (some ⟨pb, 0, none⟩) n n, .int .i64 (tt : Int), .int .i64 0]) (by simp [results, Try.results6, go_sem]) rfl (PL.mk pb g (unhide Htt) (unhide Hsrt) ((unhide HL).2.1.keep (unhide Hb9)).ps (btrans (unhide HL).2.2.2 (unhide Hb9)))
end Go.Proofs.Ytkhmdgppkjafoaa
