/-
  Package dye: give, and dot.
-/
import Derived.Test.YtlilmchlddiacaaDM
namespace Go.Proofs.Ytlilmchlddiacaa
open Go.RowKit

/-- whole numbers in a slice -/
def Is (W : World) (q : Option Addr) (n : Nat) (f : Nat → Int) : Prop := n = 0 ∨ ∃ b o, q = some ⟨b, o, none⟩ ∧ b < W.heap.size ∧ ∀ k, k < n → W.cell? ⟨b, o + k, none⟩ = some (.int .i64 (f k))
theorem Is.keep {W V : World} {q : Option Addr} {n : Nat} {f : Nat → Int} (h : Is W q n f) (hb : Below W.heap.size W V) : Is V q n f := by
  rcases h with h | ⟨b, o, e, hl, hk⟩
  · exact .inl h
  · exact .inr ⟨b, o, e, Nat.lt_of_lt_of_le hl hb.size, fun k hkn => keepC hb hl (hk k hkn)⟩
theorem Is.at {W : World} {q : Option Addr} {n x : Nat} {f : Nat → Int} (h : Is W q n f) (hx : x < n) : ∃ b o, q = some ⟨b, o, none⟩ ∧ b < W.heap.size ∧ ∀ k, k < n → W.cell? ⟨b, o + k, none⟩ = some (.int .i64 (f k)) := by
  rcases h with h | h
  · omega
  · exact h
/-- numbers that may be written -/
def JRow (W : World) (b k : Nat) (f : Nat → Int) : Prop := b < W.heap.size ∧ ∀ j, j < k → W.cell? ⟨b, j, none⟩ = some (.int .i64 (f j)) ∧ W.frozen? ⟨b, j, none⟩ = false
theorem JRow.keep {W V : World} {b k : Nat} {f : Nat → Int} (h : JRow W b k f) (hb : Below W.heap.size W V) : JRow V b k f :=
  ⟨Nat.lt_of_lt_of_le h.1 hb.size, fun j hj => ⟨keepC hb h.1 (h.2 j hj).1, keepF hb h.1 (h.2 j hj).2⟩⟩
theorem JRow.kept {S : Nat → Prop} {W V : World} {b k : Nat} {f : Nat → Int} (h : JRow W b k f) (hK : Kept S W V) (hS : ¬ S b) : JRow V b k f :=
  ⟨Nat.lt_of_lt_of_le h.1 hK.size, fun j hj => ⟨hK.cell h.1 hS (h.2 j hj).1, hK.froz h.1 hS (h.2 j hj).2⟩⟩
theorem JRow.put {W : World} {b k : Nat} {f g : Nat → Int} (h : JRow W b k f) {x : Nat} {v : Int} (hv : g x = v) (hg : ∀ j, j < k → j ≠ x → f j = g j) : JRow (W.setCell ⟨b, x, none⟩ (.int .i64 v)) b k g := by
  refine ⟨by simpa using h.1, fun j hj => ⟨?_, fset (h.2 j hj).2⟩⟩
  by_cases e : j = x
  · subst e; rw [hv]; exact csame (h.2 j hj).1
  · rw [← hg j hj e]; exact cset (h.2 j hj).1 e
theorem JRow.is {W : World} {b k : Nat} {f g : Nat → Int} (h : JRow W b k f) (hg : ∀ j, j < k → f j = g j) : Is W (some ⟨b, 0, none⟩) k g :=
  .inr ⟨b, 0, rfl, h.1, fun j hj => by rw [← hg j hj, Nat.zero_add]; exact (h.2 j hj).1⟩
theorem jrow_made {w : World} {B b k : Nat} (h : w.ownsRow B 3 1 (.slice (some ⟨b, 0, none⟩) k k) k (madeCells #[.int .i64 0] k).toList) : JRow w b k (fun _ => 0) :=
  ⟨(h.lt b rfl).2, fun j hj => ⟨by rw [h.cellAt j (by omega), toList_madeCells_one, List.getElem?_replicate, if_pos (by omega)], h.frozenAt j⟩⟩
/-- the first x are f's, the others nought -/
def upto (f : Nat → Int) (x : Nat) : Nat → Int := fun j => if j < x then f j else 0
theorem upto_zero (f : Nat → Int) : upto f 0 = fun _ => 0 := by funext j; simp [upto]
theorem upto_at (f : Nat → Int) (x : Nat) : upto f (x + 1) x = f x := by simp [upto]
theorem upto_ne (f : Nat → Int) (x j : Nat) (h : j ≠ x) : upto f x j = upto f (x + 1) j := by
  unfold upto
  by_cases h2 : j < x
  · rw [if_pos h2, if_pos (by omega)]
  · rw [if_neg h2, if_neg (by omega)]
theorem wnat (a : Nat) (h : a ≤ 4611686018427387904) : wrap64 ((a : Nat) : Int) = (a : Int) := Go.IntWalk.wrap64_in _ (by omega)

/-- a picture in its box; its light lies in the block q -/
def PB (W : World) (b q w n : Nat) (s : PS) : Prop := b ≠ q ∧ b < W.heap.size ∧ W.cell? ⟨b, 0, none⟩ = some (.int .i64 (w : Nat)) ∧ W.cell? ⟨b, 1, none⟩ = some (.slice (some ⟨q, 0, none⟩) n n) ∧ W.cell? ⟨b, 2, none⟩ = some (.int .i64 s.lost) ∧ W.frozen? ⟨b, 2, none⟩ = false ∧ JRow W q n s.f
theorem PB.lost {W : World} {b q w n : Nat} {s : PS} (h : PB W b q w n s) (x : Int) : PB (W.setCell ⟨b, 2, none⟩ (.int .i64 x)) b q w n ⟨s.f, x⟩ := by
  obtain ⟨h1, h2, h3, h4, h5, h6, h7⟩ := h
  exact ⟨h1, by simpa using h2, cset h3 (by omega), cset h4 (by omega), csame h5, fset h6, h7.kept (kset W b 2 _) (fun e => h1 e.symm)⟩
theorem cfar {W : World} {b c o j : Nat} {u v : Value} (h : W.cell? ⟨b, j, none⟩ = some v) (hb : b ≠ c) : (W.setCell ⟨c, o, none⟩ u).cell? ⟨b, j, none⟩ = some v := by
  rw [World.cell?_setCell_other _ _ _ _ (by intro e; cases e; exact hb rfl)]; exact h
theorem PB.put {W : World} {b q w n : Nat} {s : PS} (h : PB W b q w n s) (t : Nat) (d x : Int) (hx : s.f t + d = x) : PB (W.setCell ⟨q, t, none⟩ (.int .i64 x)) b q w n ⟨ad s.f t d, s.lost⟩ := by
  obtain ⟨h1, h2, h3, h4, h5, h6, h7⟩ := h
  exact ⟨h1, by simpa using h2, cfar h3 h1, cfar h4 h1, cfar h5 h1, fset h6, h7.put (show ad s.f t d t = x by unfold ad; rw [if_pos rfl]; exact hx) (fun j _ hj => show s.f j = ad s.f t d j by unfold ad; rw [if_neg hj])⟩
theorem PB.keep {W V : World} {b q w n : Nat} {s : PS} (h : PB W b q w n s) (hb : Below W.heap.size W V) : PB V b q w n s := by
  obtain ⟨h1, h2, h3, h4, h5, h6, h7⟩ := h
  exact ⟨h1, Nat.lt_of_lt_of_le h2 hb.size, keepC hb h2 h3, keepC hb h2 h4, keepC hb h2 h5, keepF hb h2 h6, h7.keep hb⟩

theorem give_nums (w a : Nat) (down right : Int) (hw : 0 < w) (hw2 : w ≤ 4096) (ha : a < 65536) (hn : Nb down right) : ∃ (m : Nat) (c dw t1 t : Int), c = gC w a right ∧ t = gT w a down right ∧ (a : Int) % (w : Int) = (m : Int) ∧ (m : Int) + right = c ∧ wrap64 (down * (w : Int)) = dw ∧ (a : Int) + dw = t1 ∧ t1 + right = t ∧
    (m : Int) ≤ 4096 ∧ -1 ≤ right ∧ right ≤ 1 ∧ 0 ≤ dw ∧ dw ≤ 4096 ∧ 0 ≤ t1 ∧ t1 ≤ 80000 ∧ -1 ≤ t ∧ t ≤ 80000 ∧ -1 ≤ c ∧ c ≤ 4097 ∧ ((w : Int) == 0) = false ∧ (0 : Int) ≤ (a : Int) := by
  have hm := Nat.mod_lt a hw
  refine ⟨a % w, _, down * (w : Int), _, _, rfl, rfl, by simp, rfl, ?_, rfl, rfl, ?_⟩
  · rcases hn with ⟨rfl, -⟩ | ⟨rfl, -⟩
    · simp; exact Go.IntWalk.wrap64_in _ (by omega)
    · simp only [Int.one_mul]; exact Go.IntWalk.wrap64_in _ (by omega)
  · unfold gC gT
    refine ⟨?_, ?_, ?_, ?_, ?_, ?_, ?_, ?_, ?_, ?_, ?_, ?_, ?_⟩ <;> (rcases hn with ⟨rfl, rfl⟩ | ⟨rfl, rfl | rfl | rfl⟩ <;> (try simp only [Int.zero_mul, Int.one_mul]) <;> first | omega | (simp; omega))

/-- behind a call of give -/
def GiP (W : World) (b q w n : Nat) (s : PS) (e : Ending) (V : World) : Prop := e = .returned (.tuple #[]) ∧ PB V b q w n s ∧ Kept (fun i => i = b ∨ i = q) W V

set_option maxRecDepth 100000 in
set_option maxHeartbeats 2000000 in
theorem give_any (b q w n a : Nat) (down right d : Int) (s : PS) (hw : 0 < w) (hw2 : w ≤ 4096) (ha : a < n) (hn : n ≤ 65536) (hnb : Nb down right) (hd : -1000000000 ≤ d ∧ d ≤ 1000000000) (hl : -1000000000000 ≤ s.lost ∧ s.lost ≤ 1000000000000)
    (hf : ∀ j, a < j → j < n → -1000000000000 ≤ s.f j ∧ s.f j ≤ 1000000000000) (W : World) (hP : PB W b q w n s) :
    Calls Try.prog 31 #[.pointer (some ⟨b, 0, none⟩), .int .i64 a, .int .i64 down, .int .i64 right, .int .i64 d] W (GiP W b q w n (giS w n a down right d s)) := by
  obtain ⟨m, c, dw, t1, t, hc, ht, e1, e2, e3, e4, e5, b1, b2, b3, b4, b5, b6, b7, b8, b9, b10, b11, b12, b13⟩ := give_nums w a down right hw hw2 (by omega) hnb
  obtain ⟨P1, P2, P3, P4, P5, P6, P7⟩ := id hP
  have HP := hide hP
  obtain ⟨d1, d2⟩ := hd
  obtain ⟨l1, l2⟩ := hl
  by_cases ho : gOut w n a down right
  · have Hg : Hid (giS w n a down right d s = ⟨s.f, s.lost + d⟩) := hide (by unfold giS; rw [if_pos ho])
    rw [unhide Hg]
    have Hx := hide ((unhide HP).lost (s.lost + d))
    have HK := hide ((kset W b 2 (.int .i64 (s.lost + d))).more (T := fun i => i = b ∨ i = q) (fun i h => .inl (.inl h)))
    have hx1 : -4000000000000 ≤ s.lost + d := by omega
    have hx2 : s.lost + d ≤ 4000000000000 := by omega
    unfold gOut at ho
    rw [← hc, ← ht] at ho
    clear hc ht P1 P7 hP HP Hg hf
    by_cases c1 : c < 0
    · have c1' : decide (c < 0) = true := decide_eq_true c1
      clear ho
      go_enter Try.func31, Try.ntmps31
      go_wp2
      first | go_end0 | refine bodyPost_ret (results_none rfl _ _ _) rfl ?_
      exact ⟨rfl, unhide Hx, unhide HK⟩
    · have c1' : decide (c < 0) = false := decide_eq_false c1
      by_cases c2 : (w : Int) ≤ c
      · have c2' : decide ((w : Int) ≤ c) = true := decide_eq_true c2
        clear ho
        go_enter Try.func31, Try.ntmps31
        go_wp2
        first | go_end0 | refine bodyPost_ret (results_none rfl _ _ _) rfl ?_
        exact ⟨rfl, unhide Hx, unhide HK⟩
      · have c2' : decide ((w : Int) ≤ c) = false := decide_eq_false c2
        have c3 : (n : Int) ≤ t := by omega
        have c3' : decide ((n : Int) ≤ t) = true := decide_eq_true c3
        clear ho
        go_enter Try.func31, Try.ntmps31
        go_wp2
        first | go_end0 | refine bodyPost_ret (results_none rfl _ _ _) rfl ?_
        exact ⟨rfl, unhide Hx, unhide HK⟩
  · obtain ⟨T, hT⟩ : ∃ T : Nat, gT w a down right = (T : Int) := ⟨(gT w a down right).toNat, by have := gT_ahead hw hnb ho; omega⟩
    have hTa := gT_ahead hw hnb ho
    rw [hT] at hTa
    have Hg : Hid (giS w n a down right d s = ⟨ad s.f T d, s.lost⟩) := hide (by unfold giS; rw [if_neg ho, hT]; rfl)
    rw [unhide Hg]
    obtain ⟨x, hx⟩ : ∃ x, s.f T = x := ⟨_, rfl⟩
    obtain ⟨x1, x2⟩ := hf T (by omega) (by omega)
    rw [hx] at x1 x2
    have Hx := hide ((unhide HP).put T d (x + d) (by rw [hx]))
    have HK := hide ((kset W q T (.int .i64 (x + d))).more (T := fun i => i = b ∨ i = q) (fun i h => .inl (.inr h)))
    have k1 := (P7.2 T (by omega)).1
    rw [hx] at k1
    have k2 := (P7.2 T (by omega)).2
    have ht' : t = (T : Int) := by omega
    subst ht'
    unfold gOut at ho
    rw [← hc, hT] at ho
    have c1 : ¬ c < 0 := fun h => ho (.inl h)
    have c1' : decide (c < 0) = false := decide_eq_false c1
    have c2 : ¬ (w : Int) ≤ c := fun h => ho (.inr (.inl h))
    have c2' : decide ((w : Int) ≤ c) = false := decide_eq_false c2
    have c3 : ¬ (n : Int) ≤ (T : Int) := fun h => ho (.inr (.inr h))
    have c3' : decide ((n : Int) ≤ (T : Int)) = false := decide_eq_false c3
    have c4 : (T : Int) < (n : Int) := by omega
    have c5 : (0 : Int) ≤ (T : Int) := by omega
    clear hc ht P1 P7 hP HP Hg hf hT hTa hx ho
    go_enter Try.func31, Try.ntmps31
    go_wp2
    first | go_end0 | refine bodyPost_ret (results_none rfl _ _ _) rfl ?_
    exact ⟨rfl, unhide Hx, unhide HK⟩
end Go.Proofs.Ytlilmchlddiacaa
