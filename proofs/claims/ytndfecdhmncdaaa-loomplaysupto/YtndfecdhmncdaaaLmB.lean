/-
  The small questions of package dobby; what the disk says at Open.
-/
import Derived.Test.YtndfecdhmncdaaaLmA
namespace Go.Proofs.Ytndfecdhmncdaaa
open Go.RowKit

/-- is there such an event? -/
def evB (ev : Int) : Bool := decide (1 ≤ ev) && decide (ev ≤ 9)
/-- is a pick begun that is not woven? -/
def amid (st : Int) : Bool := decide (1 ≤ st) && decide (st ≤ 4)
/-- may an event come in a state? -/
def may (ev st : Int) : Bool :=
  if ev = 1 then st == 0 else if ev = 2 then st == 1 else if ev = 3 then st == 2 else if ev = 4 then st == 2 else if ev = 5 then st == 3
  else if ev = 6 then st == 4 else if ev = 7 then amid st else if ev = 8 then st == 5 else if ev = 9 then st == 5 else false

set_option maxHeartbeats 1000000 in
theorem event_any (ev : Int) (W : World) : Calls Try.prog 29 #[.int .i64 ev] W fun e w' => e = .returned (.bool (evB ev)) ∧ w' = W := by
  by_cases h : 1 ≤ ev
  · go_enter Try.func29, Try.ntmps29
    go_wp2
    go_ret
    exact ⟨by simp [evB, h], rfl⟩
  · have h' : decide (1 ≤ ev) = false := by simpa using h
    go_enter Try.func29, Try.ntmps29
    go_wp2
    go_ret
    exact ⟨by rw [evB, h']; rfl, rfl⟩
set_option maxHeartbeats 1000000 in
theorem amid_any (st : Int) (W : World) : Calls Try.prog 32 #[.int .i64 st] W fun e w' => e = .returned (.bool (amid st)) ∧ w' = W := by
  by_cases h : 1 ≤ st
  · go_enter Try.func32, Try.ntmps32
    go_wp2
    go_ret
    exact ⟨by simp [amid, h], rfl⟩
  · have h' : decide (1 ≤ st) = false := by simpa using h
    go_enter Try.func32, Try.ntmps32
    go_wp2
    go_ret
    exact ⟨by rw [amid, h']; rfl, rfl⟩

set_option maxRecDepth 100000 in
set_option maxHeartbeats 2000000 in
theorem may_any (ev st : Int) (W : World) : Calls Try.prog 30 #[.int .i64 ev, .int .i64 st] W fun e w' => e = .returned (.bool (may ev st)) ∧ w' = W := by
  have HA := hide (fun V => amid_any st V)
  rcases Classical.em (ev = 1) with rfl | h1
  · go_enter Try.func30, Try.ntmps30
    go_wp2
    go_ret
    exact ⟨rfl, rfl⟩
  rcases Classical.em (ev = 2) with rfl | h2
  · clear h1
    go_enter Try.func30, Try.ntmps30
    go_wp2
    go_ret
    exact ⟨rfl, rfl⟩
  rcases Classical.em (ev = 3) with rfl | h3
  · clear h1 h2
    go_enter Try.func30, Try.ntmps30
    go_wp2
    go_ret
    exact ⟨rfl, rfl⟩
  rcases Classical.em (ev = 4) with rfl | h4
  · clear h1 h2 h3
    go_enter Try.func30, Try.ntmps30
    go_wp2
    go_ret
    exact ⟨rfl, rfl⟩
  rcases Classical.em (ev = 5) with rfl | h5
  · clear h1 h2 h3 h4
    go_enter Try.func30, Try.ntmps30
    go_wp2
    go_ret
    exact ⟨rfl, rfl⟩
  rcases Classical.em (ev = 6) with rfl | h6
  · clear h1 h2 h3 h4 h5
    go_enter Try.func30, Try.ntmps30
    go_wp2
    go_ret
    exact ⟨rfl, rfl⟩
  rcases Classical.em (ev = 7) with rfl | h7
  · clear h1 h2 h3 h4 h5 h6
    go_enter Try.func30, Try.ntmps30
    go_wp2_with fail
    refine (unhide HA _).mono ?_
    rintro e w1 ⟨rfl, rfl⟩
    go_wp2
    go_ret
    exact ⟨rfl, rfl⟩
  rcases Classical.em (ev = 8) with rfl | h8
  · clear h1 h2 h3 h4 h5 h6 h7
    go_enter Try.func30, Try.ntmps30
    go_wp2
    go_ret
    exact ⟨rfl, rfl⟩
  rcases Classical.em (ev = 9) with rfl | h9
  · clear h1 h2 h3 h4 h5 h6 h7 h8
    go_enter Try.func30, Try.ntmps30
    go_wp2
    go_ret
    exact ⟨rfl, rfl⟩
  have Hm := hide (show may ev st = false by simp [may, h1, h2, h3, h4, h5, h6, h7, h8, h9])
  have g1 : (ev == 1) = false := by simpa using h1
  have g2 : (ev == 2) = false := by simpa using h2
  have g3 : (ev == 3) = false := by simpa using h3
  have g4 : (ev == 4) = false := by simpa using h4
  have g5 : (ev == 5) = false := by simpa using h5
  have g6 : (ev == 6) = false := by simpa using h6
  have g7 : (ev == 7) = false := by simpa using h7
  have g8 : (ev == 8) = false := by simpa using h8
  have g9 : (ev == 9) = false := by simpa using h9
  clear h1 h2 h3 h4 h5 h6 h7 h8 h9
  go_enter Try.func30, Try.ntmps30
  go_wp2
  go_ret
  exact ⟨by rw [unhide Hm]; rfl, rfl⟩

theorem meth_get (a : Addr) (w : World) : (method 203 46 (.pointer (some a)) "Get").run Try.prog w = .ok (51, .pointer (some a)) w := by kernel_rfl
theorem meth_put (a : Addr) (w : World) : (method 203 46 (.pointer (some a)) "Put").run Try.prog w = .ok (52, .pointer (some a)) w := by kernel_rfl
theorem meth_size (a : Addr) (w : World) : (method 203 46 (.pointer (some a)) "Size").run Try.prog w = .ok (53, .pointer (some a)) w := by kernel_rfl

/-- how many picks are woven, by the disk -/
def woN (g0 : Int) (h : Nat) : Nat := if 0 ≤ g0 ∧ g0 ≤ (h : Int) then g0.toNat else 0
theorem woN_le (g0 : Int) (h : Nat) : woN g0 h ≤ h := by unfold woN; split <;> omega
/-- in which state a loom begins -/
def fsS (g1 : Int) (wv h : Nat) : Int := if wv = h then 6 else if g1 = (wv : Int) + 1 then 5 else 0

set_option maxHeartbeats 1000000 in
theorem wovenOn_any {W : World} {d q n cap : Nat} {lf : Int} {g : Nat → Int} (k : DB W d q n cap lf) (r : WR W q n g) (h2 : 2 ≤ n) (h : Nat) :
    Calls Try.prog 27 #[.iface 46 (.pointer (some ⟨d, 0, none⟩)), .int .i64 h] W fun e w' => e = .returned (.int .i64 (woN (g 0) h)) ∧ w' = W := by
  have HG := hide (get_any k r (i := 0) (by omega) (by omega))
  have m1 := meth_get
  obtain ⟨x, hx⟩ : ∃ x, x = g 0 := ⟨_, rfl⟩
  rw [← hx] at HG ⊢
  clear hx k r
  rcases Classical.em (x < 0) with h1 | h1
  · have Hv := hide (show woN x h = 0 by unfold woN; rw [if_neg (by omega)])
    go_enter Try.func27, Try.ntmps27
    go_wp2_with fail
    refine (unhide HG).mono ?_
    rintro e w1 ⟨rfl, rfl⟩
    go_wp2
    go_ret
    exact ⟨by rw [unhide Hv]; rfl, rfl⟩
  · have h1' : decide (x < 0) = false := by simpa using h1
    rcases Classical.em ((h : Int) < x) with h3 | h3
    · have Hv := hide (show woN x h = 0 by unfold woN; rw [if_neg (by omega)])
      go_enter Try.func27, Try.ntmps27
      go_wp2_with fail
      refine (unhide HG).mono ?_
      rintro e w1 ⟨rfl, rfl⟩
      go_wp2
      go_ret
      exact ⟨by rw [unhide Hv]; rfl, rfl⟩
    · have h3' : decide ((h : Int) < x) = false := by simpa using h3
      have Hv := hide (show ((woN x h : Nat) : Int) = x by unfold woN; rw [if_pos (by omega)]; omega)
      go_enter Try.func27, Try.ntmps27
      go_wp2_with fail
      refine (unhide HG).mono ?_
      rintro e w1 ⟨rfl, rfl⟩
      go_wp2
      go_ret
      exact ⟨by rw [unhide Hv]; rfl, rfl⟩

set_option maxHeartbeats 1000000 in
theorem first_any {W : World} {d q n cap : Nat} {lf : Int} {g : Nat → Int} (k : DB W d q n cap lf) (r : WR W q n g) (h2 : 2 ≤ n) (wv h : Nat) (hw : wv ≤ 64) :
    Calls Try.prog 28 #[.iface 46 (.pointer (some ⟨d, 0, none⟩)), .int .i64 wv, .int .i64 h] W fun e w' => e = .returned (.int .i64 (fsS (g 1) wv h)) ∧ w' = W := by
  have HG := hide (get_any k r (i := 1) (by omega) (by omega))
  have m1 := meth_get
  obtain ⟨x, hx⟩ : ∃ x, x = g 1 := ⟨_, rfl⟩
  rw [← hx] at HG ⊢
  clear hx k r
  rcases Classical.em (wv = h) with h1 | h1
  · have Hv := hide (show fsS x wv h = 6 by unfold fsS; rw [if_pos h1])
    have h1' : ((wv : Int) == (h : Int)) = true := by simp [h1]
    clear h1
    go_enter Try.func28, Try.ntmps28
    go_wp2
    go_ret
    exact ⟨by rw [unhide Hv]; rfl, rfl⟩
  · have h1' : ((wv : Int) == (h : Int)) = false := by simp; omega
    rcases Classical.em (x = (wv : Int) + 1) with h3 | h3
    · have Hv := hide (show fsS x wv h = 5 by unfold fsS; rw [if_neg h1, if_pos h3])
      have h3' : (x == (wv : Int) + 1) = true := by simp [h3]
      clear h1 h3
      go_enter Try.func28, Try.ntmps28
      go_wp2_with fail
      refine (unhide HG).mono ?_
      rintro e w1 ⟨rfl, rfl⟩
      go_wp2
      go_ret
      exact ⟨by rw [unhide Hv]; rfl, rfl⟩
    · have Hv := hide (show fsS x wv h = 0 by unfold fsS; rw [if_neg h1, if_neg h3])
      have h3' : (x == (wv : Int) + 1) = false := by simpa using h3
      clear h1 h3
      go_enter Try.func28, Try.ntmps28
      go_wp2_with fail
      refine (unhide HG).mono ?_
      rintro e w1 ⟨rfl, rfl⟩
      go_wp2
      go_ret
      exact ⟨by rw [unhide Hv]; rfl, rfl⟩

/-- bits, as a row has them -/
def bitsV (f : Nat → Bool) (m : Nat) : List Value := (List.range m).map fun j => Value.bool (f j)
theorem bitsV_succ (f : Nat → Bool) (m : Nat) : bitsV f (m + 1) = bitsV f m ++ [.bool (f m)] := by simp [bitsV, List.range_succ]
theorem bitsV_one {f : Nat → Bool} {m : Nat} : ∀ u ∈ bitsV f m, u.oneCell' = true := by
  intro u hu
  obtain ⟨j, -, rfl⟩ := List.mem_map.1 hu
  rfl
theorem bitsV_at {f : Nat → Bool} {m j : Nat} {u : Value} (h : (bitsV f m)[j]? = some u) : j < m ∧ u = .bool (f j) := by
  unfold bitsV at h
  rw [List.getElem?_map] at h
  rcases Nat.lt_or_ge j m with hj | hj
  · rw [List.getElem?_range hj] at h
    exact ⟨hj, by simpa using h.symm⟩
  · rw [List.getElem?_eq_none (by simpa using hj)] at h
    cases h
theorem own_form {B : Nat} {e : TypeId} {n z : Nat} {xs : List Value} {v : Value} {w : World} (h : w.ownsRow B e z v n xs) : ∃ q cap, v = .slice q n cap :=
  h.2.elim (fun k => ⟨none, 0, by rw [k.1, k.2]⟩) (fun ⟨g, c, _, k⟩ => ⟨some ⟨g, 0, none⟩, c, k.1⟩)
theorem own_slice {B : Nat} {e : TypeId} {n z : Nat} {xs : List Value} {v : Value} {w : World} (h : w.ownsRow B e z v n xs) (hm : 1 ≤ n) : ∃ g cap, v = .slice (some ⟨g, 0, none⟩) n cap := by
  rcases h.2 with ⟨hv, h0⟩ | ⟨g, cap, cur, hv, _⟩
  · omega
  · exact ⟨_, _, hv⟩
theorem own_kept {S : Nat → Prop} {W V : World} {B : Nat} {e : TypeId} {z : Nat} {v : Value} {n : Nat} {xs : List Value} (h : W.ownsRow B e z v n xs) (k : Kept S W V) (hS : ∀ i, S i → ¬ Tg W i e) : V.ownsRow B e z v n xs := by
  refine ⟨h.1, ?_⟩
  rcases h.2 with h0 | ⟨g, cap, cur, e1, e2, e3, e4⟩
  · exact .inl h0
  · refine .inr ⟨g, cap, cur, e1, e2, ?_, e4⟩
    have hg : g < W.heap.size := (h.lt g (by rw [e1]; rfl)).2
    rw [k.2.2.2.2 g hg (fun q => hS g q ⟨_, _, e3⟩)]
    exact e3
theorem own_keep {w w1 : World} {B : Nat} {e : TypeId} {size : Nat} {v : Value} {n : Nat} {xs : List Value} (h : w.ownsRow B e size v n xs) (hb : Below w.heap.size w w1) : w1.ownsRow B e size v n xs :=
  own_kept h (Kept.of (S := fun _ => False) hb) (fun _ q => q.elim)
theorem own_bs {W : World} {B m cap : Nat} {q : Option Addr} {f : Nat → Bool} (h : W.ownsRow B 4 1 (.slice q m cap) m (bitsV f m)) : Bs W q m cap f := by
  rcases h.2 with ⟨hv, h0⟩ | ⟨g, cap', cur, hv, hb, hg, hle, _⟩
  · simp at hv
    exact ⟨by omega, .inl h0⟩
  · simp at hv
    obtain ⟨rfl, rfl⟩ := hv
    refine ⟨hle, .inr ⟨g, 0, rfl, (h.lt g rfl).2, fun k hk => ?_⟩⟩
    rw [h.cellAt (0 + k) (by omega)]
    simp [bitsV, hk]
theorem bs_news {W : World} {b o n cap : Nat} {f : Nat → Bool} (h : Bs W (some ⟨b, o, none⟩) n cap f) : ∀ j u, (bitsV f n)[j]? = some u → W.cell? ((⟨b, o, none⟩ : Addr).add j) = some u := by
  intro j u hj
  obtain ⟨h1, rfl⟩ := bitsV_at hj
  obtain ⟨b', o', e, -, c⟩ := bs_at h h1
  cases e
  by_cases j0 : j = 0
  · subst j0
    simpa [Addr.add] using c
  · simpa [Addr.add, j0] using c

set_option maxRecDepth 100000 in
set_option maxHeartbeats 1000000 in
/-- a slice of bits that is not nil is cloned: new bits -/
theorem clone_any {W : World} {b o n cap : Nat} {f : Nat → Bool} (h : Bs W (some ⟨b, o, none⟩) n cap f) (hn : n ≤ 4096) :
    Calls Try.prog 26 #[.slice (some ⟨b, o, none⟩) n cap] W fun e w' => ∃ q c, e = .returned (.slice q n c) ∧ w'.ownsRow W.heap.size 4 1 (.slice q n c) n (bitsV f n) ∧ Below W.heap.size W w' := by
  obtain ⟨i0, hi, hz0, hz1, hz2⟩ := info_parts info4
  have hnw := bs_news (h.keep (bal (o := .cells #[] 4) (Below.refl _ W)))
  have hO := World.ownsRow_made (base := W.heap.size) (e := 4) (size := 1) W #[] 0 (Nat.le_refl _) (by unfold maxLen; omega) (by simp)
  have B0 := hide (bal (o := .cells #[] 4) (Below.refl W.heap.size W))
  have qT : ∀ (w : World) (a : Option Addr) (n c n' c' : Nat), (binOp .eql 22 (.slice a n c) (.slice none n' c')).run Try.prog w = .ok (.bool a.isNone) w := fun w a n c n' c' => Lib.run_eql_slice_nil w _ _ a n c n' c' Try.underlying22
  have hl : (bitsV f n).length = n * 1 := by simp [bitsV]
  go_enter Try.func26, Try.ntmps26
  go_wp2_with (at_builtin; refine wpList_append_own _ rfl _ _ 22 rfl W.heap.size 4 i0 (.bool false) 1 1 Try.underlying22 hi hz0 hz1 hz2 rfl (by decide) _ _ _ rfl hO ⟨b, o, none⟩ n cap (bitsV f n) rfl hl hnw bitsV_one (by unfold maxLen; omega) (by omega) (by simp) ?_)
  intro v' w4 hown' hgrow _
  have S4 := (unhide B0).grown hgrow (by simp) (fun k hk => by have := (hO.lt k hk).1; omega)
  replace hown' : w4.ownsRow W.heap.size 4 1 v' n (bitsV f n) := by simpa using hown'
  obtain ⟨q', cap', rfl⟩ := own_form hown'
  have H4 := hide hown'
  clear hown' hO hnw hgrow
  go_wp2
  go_ret
  exact ⟨_, _, rfl, unhide H4, S4⟩
end Go.Proofs.Ytndfecdhmncdaaa
