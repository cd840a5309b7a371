/-
  copyBed, copyLoops.
-/
import Derived.Test.YtancniamgfppiaaStA
namespace Go.Proofs.Ytancniamgfppiaa
open Go.RowKit

/-- whose rows these are -/
def Og (o : Nat → Nat × Nat) (c : Nat × Nat) (v : Value) : Prop := ∀ k, v.ownBlock = some k → o k = c
theorem Og.nil (o : Nat → Nat × Nat) (c : Nat × Nat) (n m : Nat) : Og o c (.slice none n m) := fun k hk => by cases hk
/-- from a place on all rows are another one's -/
def ogX (o : Nat → Nat × Nat) (z : Nat) (c : Nat × Nat) : Nat → Nat × Nat := fun k => if k < z then o k else c
theorem Og.old {W : World} {B z : Nat} {e : TypeId} {y : Nat} {v : Value} {n : Nat} {xs : List Value} {o : Nat → Nat × Nat} {c d : Nat × Nat} (h : Og o c v) (r : W.ownsRow B e y v n xs) (hz : W.heap.size ≤ z) : Og (ogX o z d) c v := by
  intro k hk
  unfold ogX
  rw [if_pos (Nat.lt_of_lt_of_le (r.lt k hk).2 hz)]
  exact h k hk
theorem Og.new {W : World} {z : Nat} {e : TypeId} {y : Nat} {v : Value} {n : Nat} {xs : List Value} {o : Nat → Nat × Nat} {d : Nat × Nat} (r : W.ownsRow z e y v n xs) : Og (ogX o z d) d v := by
  intro k hk
  unfold ogX
  rw [if_neg (Nat.not_lt.2 (r.lt k hk).1)]
/-- rows of numbers, told apart by whose they are -/
def LRo (W : World) (B : Nat) (v : Value) (xss : List (List Nat)) (o : Nat → Nat × Nat) (c : Nat) : Prop := (v = .slice none 0 0 ∧ xss = []) ∨ ∃ (q cap : Nat) (h : Nat → Value), v = .slice (some ⟨q, 0, none⟩) xss.length cap ∧ BR W q xss.length h ∧ B ≤ q ∧ ∀ n x, xss[n]? = some x → NR W B (h n) x ∧ Og o (c, n) (h n)
def LPRo (W : World) (B : Nat) (v : Value) (ls : List (Int × List Nat)) (o : Nat → Nat × Nat) : Prop := (v = .slice none 0 0 ∧ ls = []) ∨ ∃ (q cap : Nat) (c : Nat → Int) (h : Nat → Value), v = .slice (some ⟨q, 0, none⟩) ls.length cap ∧ CR W q ls.length c h ∧ B ≤ q ∧ ∀ n x, ls[n]? = some x → c n = x.1 ∧ NR W B (h n) x.2 ∧ Og o (0, n) (h n)
theorem LRo.lr {W : World} {B : Nat} {v : Value} {xss : List (List Nat)} {o : Nat → Nat × Nat} {c : Nat} (k : LRo W B v xss o c) : LR W B v xss := by
  rcases k with k | ⟨q, cap, h, k1, k2, k3, k4⟩
  · exact .inl k
  · exact .inr ⟨q, cap, h, k1, k2, k3, fun n x hx => (k4 n x hx).1⟩
theorem LPRo.lr {W : World} {B : Nat} {v : Value} {ls : List (Int × List Nat)} {o : Nat → Nat × Nat} (k : LPRo W B v ls o) : LPR W B v ls := by
  rcases k with k | ⟨q, cap, c, h, k1, k2, k3, k4⟩
  · exact .inl k
  · exact .inr ⟨q, cap, c, h, k1, k2, k3, fun n x hx => ⟨(k4 n x hx).1, (k4 n x hx).2.1⟩⟩
theorem LRo.kept {S : Nat → Prop} {W V : World} {B : Nat} {v : Value} {xss : List (List Nat)} {o : Nat → Nat × Nat} {c : Nat} (k : LRo W B v xss o c) (e : Kept S W V) (h1 : ∀ i, S i → ¬ Tg W i 27) (h2 : ∀ i, S i → ¬ Tg W i 3) : LRo V B v xss o c := by
  rcases k with k | ⟨q, cap, h, k1, k2, k3, k4⟩
  · exact .inl k
  · exact .inr ⟨q, cap, h, k1, k2.kept e (fun q => h1 _ q k2.1.2), k3, fun n x hx => ⟨(k4 n x hx).1.kept e h2, (k4 n x hx).2⟩⟩
theorem LRo.keep {W V : World} {B : Nat} {v : Value} {xss : List (List Nat)} {o : Nat → Nat × Nat} {c : Nat} (k : LRo W B v xss o c) (e : Below W.heap.size W V) : LRo V B v xss o c := k.kept (Kept.of (S := fun _ => False) e) (fun _ q => q.elim) (fun _ q => q.elim)
theorem LRo.le {W : World} {B C : Nat} {v : Value} {xss : List (List Nat)} {o : Nat → Nat × Nat} {c : Nat} (k : LRo W B v xss o c) (h : C ≤ B) : LRo W C v xss o c := by
  rcases k with k | ⟨q, cap, f, k1, k2, k3, k4⟩
  · exact .inl k
  · exact .inr ⟨q, cap, f, k1, k2, by omega, fun n x hx => ⟨(k4 n x hx).1.le h, (k4 n x hx).2⟩⟩
theorem LRo.mix {W : World} {B : Nat} {v : Value} {xss : List (List Nat)} {o o' : Nat → Nat × Nat} {c : Nat} (k : LRo W B v xss o c) (h : ∀ i, B ≤ i → i < W.heap.size → o' i = o i) : LRo W B v xss o' c := by
  rcases k with k | ⟨q, cap, f, k1, k2, k3, k4⟩
  · exact .inl k
  · exact .inr ⟨q, cap, f, k1, k2, k3, fun n x hx => ⟨(k4 n x hx).1, fun i hi => by have := World.ownsRow.lt (k4 n x hx).1 i hi; rw [h i this.1 this.2]; exact (k4 n x hx).2 i hi⟩⟩
theorem LPRo.kept {S : Nat → Prop} {W V : World} {B : Nat} {v : Value} {ls : List (Int × List Nat)} {o : Nat → Nat × Nat} (k : LPRo W B v ls o) (e : Kept S W V) (h1 : ∀ i, S i → ¬ Tg W i 43) (h2 : ∀ i, S i → ¬ Tg W i 3) : LPRo V B v ls o := by
  rcases k with k | ⟨q, cap, c, h, k1, k2, k3, k4⟩
  · exact .inl k
  · exact .inr ⟨q, cap, c, h, k1, k2.kept e (fun q => h1 _ q k2.1.2), k3, fun n x hx => ⟨(k4 n x hx).1, (k4 n x hx).2.1.kept e h2, (k4 n x hx).2.2⟩⟩
theorem LPRo.keep {W V : World} {B : Nat} {v : Value} {ls : List (Int × List Nat)} {o : Nat → Nat × Nat} (k : LPRo W B v ls o) (e : Below W.heap.size W V) : LPRo V B v ls o := k.kept (Kept.of (S := fun _ => False) e) (fun _ q => q.elim) (fun _ q => q.elim)
theorem LPRo.le {W : World} {B C : Nat} {v : Value} {ls : List (Int × List Nat)} {o : Nat → Nat × Nat} (k : LPRo W B v ls o) (h : C ≤ B) : LPRo W C v ls o := by
  rcases k with k | ⟨q, cap, c, f, k1, k2, k3, k4⟩
  · exact .inl k
  · exact .inr ⟨q, cap, c, f, k1, k2, by omega, fun n x hx => ⟨(k4 n x hx).1, (k4 n x hx).2.1.le h, (k4 n x hx).2.2⟩⟩
theorem LPRo.mix {W : World} {B : Nat} {v : Value} {ls : List (Int × List Nat)} {o o' : Nat → Nat × Nat} (k : LPRo W B v ls o) (h : ∀ i, B ≤ i → i < W.heap.size → o' i = o i) : LPRo W B v ls o' := by
  rcases k with k | ⟨q, cap, c, f, k1, k2, k3, k4⟩
  · exact .inl k
  · exact .inr ⟨q, cap, c, f, k1, k2, k3, fun n x hx => ⟨(k4 n x hx).1, (k4 n x hx).2.1, fun i hi => by have := World.ownsRow.lt (k4 n x hx).2.1 i hi; rw [h i this.1 this.2]; exact (k4 n x hx).2.2 i hi⟩⟩
theorem LRo.form {W : World} {B : Nat} {v : Value} {xss : List (List Nat)} {o : Nat → Nat × Nat} {c : Nat} (k : LRo W B v xss o c) : ∃ q n c, v = .slice q n c := by
  rcases k with k | ⟨q, cap, h, k1, -⟩
  · exact ⟨_, _, _, k.1⟩
  · exact ⟨_, _, _, k1⟩
theorem LPRo.form {W : World} {B : Nat} {v : Value} {ls : List (Int × List Nat)} {o : Nat → Nat × Nat} (k : LPRo W B v ls o) : ∃ q n c, v = .slice q n c := by
  rcases k with k | ⟨q, cap, c, h, k1, -⟩
  · exact ⟨_, _, _, k.1⟩
  · exact ⟨_, _, _, k1⟩
/-- what is told, in memory; no two lists share any -/
def KRo (W : World) (B : Nat) (v : Value) (k : Kn) (o : Nat → Nat × Nat) : Prop := ∃ v1 v2 v3 v4, v = .agg #[v1, v2, v3, v4, .int .i64 k.rack] ∧ LPRo W B v1 k.loops o ∧ LRo W B v2 k.front o 1 ∧ LRo W B v3 k.back o 2 ∧ NR W B v4 k.loose ∧ Og o (3, 0) v4
theorem KRo.kr {W : World} {B : Nat} {v : Value} {k : Kn} {o : Nat → Nat × Nat} (h : KRo W B v k o) : KR W B v k := by
  obtain ⟨v1, v2, v3, v4, h0, h1, h2, h3, h4, -⟩ := h
  exact ⟨v1, v2, v3, v4, h0, h1.lr, h2.lr, h3.lr, h4⟩
theorem KRo.keep {W V : World} {B : Nat} {v : Value} {k : Kn} {o : Nat → Nat × Nat} (h : KRo W B v k o) (e : Below W.heap.size W V) : KRo V B v k o := by
  obtain ⟨v1, v2, v3, v4, h0, h1, h2, h3, h4, h5⟩ := h
  exact ⟨v1, v2, v3, v4, h0, h1.keep e, h2.keep e, h3.keep e, h4.keep e, h5⟩
theorem KRo.le {W : World} {B C : Nat} {v : Value} {k : Kn} {o : Nat → Nat × Nat} (h : KRo W B v k o) (e : C ≤ B) : KRo W C v k o := by
  obtain ⟨v1, v2, v3, v4, h0, h1, h2, h3, h4, h5⟩ := h
  exact ⟨v1, v2, v3, v4, h0, h1.le e, h2.le e, h3.le e, h4.le e, h5⟩

def LRe (W : World) (B : Nat) (v : Value) (xss : List (List Nat)) (c : Nat) : Prop := ∃ o, LRo W B v xss o c
def LPRe (W : World) (B : Nat) (v : Value) (ls : List (Int × List Nat)) : Prop := ∃ o, LPRo W B v ls o
def KRe (W : World) (B : Nat) (v : Value) (k : Kn) : Prop := ∃ o, KRo W B v k o
theorem KRe.kr {W : World} {B : Nat} {v : Value} {k : Kn} (h : KRe W B v k) : KR W B v k := by
  obtain ⟨o, h⟩ := h
  exact h.kr

/-- the first ones are copied -/
def mixV (h h' : Nat → Value) (i : Nat) : Nat → Value := fun j => if j < i then h' j else h j
theorem BR.congr {W : World} {q k : Nat} {f g : Nat → Value} (r : BR W q k f) (e : ∀ j, j < k → f j = g j) : BR W q k g := ⟨r.1, fun j hj => by rw [← e j hj]; exact r.2 j hj⟩
theorem CR.congr {W : World} {q k : Nat} {c : Nat → Int} {f g : Nat → Value} (r : CR W q k c f) (e : ∀ j, j < k → f j = g j) : CR W q k c g := ⟨r.1, fun j hj => by rw [← e j hj]; exact r.2 j hj⟩
theorem put_mix (h h' : Nat → Value) (i : Nat) (v : Value) : ∀ j, putV (mixV h h' i) i v j = mixV h (putV h' i v) (i + 1) j := by
  intro j
  unfold putV mixV
  by_cases c1 : j = i
  · subst c1; simp
  · by_cases c2 : j < i
    · have c3 : j < i + 1 := by omega
      simp [c1, c2, c3]
    · have c3 : ¬ j < i + 1 := by omega
      simp [c1, c2, c3]

set_option maxRecDepth 100000 in
set_option maxHeartbeats 2000000 in
theorem copyBed_any {W : World} {B g N cap : Nat} {h : Nat → Value} {f : Nat → List Nat} (r : BR W g N h) (hn : ∀ j, j < N → NR W B (h j) (f j)) (hf : ∀ j, (f j).length ≤ 8) (hN : N ≤ 128) (h1 : 1 ≤ N) (kl : Nat) :
    Calls Try.prog 47 #[.slice (some ⟨g, 0, none⟩) N cap] W fun e w' => ∃ v', e = .returned v' ∧ LRe w' W.heap.size v' ((List.range N).map f) kl ∧ Below W.heap.size W w' := by
  have HC := hide (clone25 (cap := cap) r (fun j hj => (hn j hj).one) hN)
  have HN := hide (fun V (hV : Below W.heap.size W V) j (hj : j < N) => (hn j hj).keep hV)
  clear r hn
  go_enter Try.func47, Try.ntmps47
  go_wp2_with fail
  refine (unhide HC).mono ?_
  rintro e w1 ⟨v1, rfl, hO1, -, hb1⟩
  obtain ⟨q, c, rfl⟩ := own_slice hO1 h1
  have HR := hide (own_br hO1)
  have Hq := hide (hO1.lt q rfl).1
  have HB := hide hb1
  clear HC hO1 hb1
  go_wp2
  go_loopw [9] (fun i wr => ∃ (x : Nat) (h' : Nat → Value) (o : Nat → Nat × Nat), x ≤ N ∧ i = .int .i64 x ∧ BR wr q N (mixV h h' x) ∧ (∀ j, j < x → NR wr W.heap.size (h' j) (f j) ∧ Og o (kl, j) (h' j)) ∧ Below W.heap.size W wr) (fun i _ => N - (intOf i).toNat)
  case atStart => exact ⟨0, h, fun _ => (0, 0), Nat.zero_le _, rfl, (unhide HR).congr (fun j _ => by simp [mixV]), fun j hj => by omega, unhide HB⟩
  case round =>
    clear HR HB
    obtain ⟨x, h', o, hx, rfl, hR, hD, hB⟩ := hrel
    have HR := hide hR
    have HD := hide hD
    have HB := hide hB
    clear hR hD hB
    by_cases hlt : x < N
    · have q1 : (x : Int) < (N : Int) := by omega
      have q2 : (0 : Int) ≤ (x : Int) := by omega
      have hm : mixV h h' x x = h x := by simp [mixV]
      obtain ⟨tq, tc, htv⟩ := (unhide HN wr (unhide HB) x hlt).form
      have c1 := ((unhide HR).2 x hlt).1
      have f1 := ((unhide HR).2 x hlt).2
      rw [hm, htv] at c1
      have HK := hide (clone3 (unhide HN wr (unhide HB) x hlt) (by have := hf x; omega))
      rw [htv] at HK
      clear htv hm
      generalize (f x).length = tl at *
      go_wp2_with fail
      refine (unhide HK).mono ?_
      rintro e w2 ⟨v2, rfl, hN2, hb2⟩
      have R2 := (unhide HR).kept (Kept.of (S := fun _ => False) hb2) id
      have c2 := (R2.2 x hlt).1
      have f2 := (R2.2 x hlt).2
      have hR3 := hide ((R2.put x v2).congr (fun j _ => put_mix h h' x v2 j))
      have hq3 : ∀ i, i = q → ¬ Tg w2 i 3 := fun i e t => tg_not (show Tg w2 i 27 from e ▸ R2.1.2) (by decide) t
      have hD3 := hide (show ∀ j, j < x + 1 → NR (w2.setCell ⟨q, x, none⟩ v2) W.heap.size (putV h' x v2 j) (f j) ∧ Og (ogX o wr.heap.size (kl, x)) (kl, j) (putV h' x v2 j) from fun j hj => by
        unfold putV
        by_cases c : j = x
        · subst c
          rw [if_pos rfl]
          exact ⟨(hN2.le (unhide HB).size).kept (kset w2 q j v2) hq3, Og.new hN2⟩
        · rw [if_neg c]
          exact ⟨((unhide HD j (by omega)).1.keep hb2).kept (kset w2 q x v2) hq3, Og.old (unhide HD j (by omega)).2 (unhide HD j (by omega)).1 (Nat.le_refl _)⟩)
      have hB3 := hide (bset (p := ⟨q, x, none⟩) (u := v2) (btrans (unhide HB) hb2) (unhide Hq))
      obtain ⟨q2', c2', rfl⟩ := hN2.form
      clear R2 hq3 hN2 hb2 HR HD HB c1 f1 HK
      go_wp2
      go_roundw
      case rel => exact ⟨x + 1, _, _, by omega, by go_num, unhide hR3, unhide hD3, unhide hB3⟩
      case measure => simp [intOf]; omega
    · obtain rfl : N = x := by omega
      have cl : ¬ ((N : Int) < (N : Int)) := by omega
      go_wp2
      go_ret
      refine ⟨_, rfl, ⟨o, .inr ⟨q, c, h', by simp, ?_, unhide Hq, fun n y hy => ?_⟩⟩, unhide HB⟩
      · rw [List.length_map, List.length_range]
        exact (unhide HR).congr (fun j hj => by simp [mixV, hj])
      · rw [List.getElem?_map] at hy
        rcases Nat.lt_or_ge n N with c | c
        · rw [List.getElem?_range c] at hy
          simp at hy
          rw [← hy]
          exact unhide HD n c
        · rw [List.getElem?_eq_none (by simpa using c)] at hy
          cases hy

/-- loops in a row that is owned, as cells -/
theorem own_cr {W : World} {B cap g : Nat} {ls : List (Int × Value × List Nat)} (o : W.ownsRow B 43 2 (.slice (some ⟨g, 0, none⟩) ls.length cap) ls.length (lpC ls)) : CR W g ls.length (fun j => (ls.getD j (0, .slice none 0 0, [])).1) (fun j => (ls.getD j (0, .slice none 0 0, [])).2.1) := by
  refine ⟨⟨(o.lt g rfl).2, own_tg o rfl⟩, fun j hj => ?_⟩
  have e : ls[j]? = some (ls.getD j (0, .slice none 0 0, [])) := by rw [List.getD_eq_getElem?_getD, List.getElem?_eq_getElem hj]; rfl
  have := lpC_get ls j _ e
  exact ⟨by rw [o.cellAt _ (by omega)]; exact this.1, by rw [o.cellAt _ (by omega)]; exact this.2, o.frozenAt _⟩

set_option maxRecDepth 100000 in
set_option maxHeartbeats 2000000 in
theorem copyLoops_any {W : World} {B : Nat} {v : Value} {ls : List (Int × Value × List Nat)} (h : W.ownsRow B 43 2 v ls.length (lpC ls)) (hn : ∀ e ∈ ls, NR W B e.2.1 e.2.2) (hf : ∀ e ∈ ls, e.2.2.length ≤ 8) (hl : ls.length ≤ 4096) :
    Calls Try.prog 46 #[v] W fun e w' => ∃ v', e = .returned v' ∧ LPRe w' W.heap.size v' (ls.map lpA) ∧ Below W.heap.size W w' := by
  have HC := hide (clone41 h (fun e he => (hn e he).one) hl)
  obtain ⟨nl, hnl⟩ : ∃ nl, nl = ls.length := ⟨_, rfl⟩
  obtain ⟨th, hth⟩ : ∃ th : Nat → Value, th = fun j => (ls.getD j (0, .slice none 0 0, [])).2.1 := ⟨_, rfl⟩
  obtain ⟨ca, hca⟩ : ∃ ca : Nat → Int, ca = fun j => (ls.getD j (0, .slice none 0 0, [])).1 := ⟨_, rfl⟩
  obtain ⟨f, hff⟩ : ∃ f : Nat → List Nat, f = fun j => (ls.getD j (0, .slice none 0 0, [])).2.2 := ⟨_, rfl⟩
  have hmem : ∀ j, j < nl → ls.getD j (0, .slice none 0 0, []) ∈ ls := fun j hj => by
    rw [hnl] at hj
    rw [List.getD_eq_getElem?_getD, List.getElem?_eq_getElem hj]
    exact List.getElem_mem hj
  have HN := hide (show ∀ V, Below W.heap.size W V → ∀ j, j < nl → NR V B (th j) (f j) from fun V hV j hj => by rw [hth, hff]; exact (hn _ (hmem j hj)).keep hV)
  have HF := hide (show ∀ j, j < nl → (f j).length ≤ 8 from fun j hj => by rw [hff]; exact hf _ (hmem j hj))
  rcases Nat.eq_zero_or_pos nl with h0 | h0
  · have e : ls = [] := List.eq_nil_of_length_eq_zero (by omega)
    subst e
    rcases h.2 with ⟨rfl, -⟩ | ⟨g, cap, cur, rfl, -⟩
    all_goals
      clear HN HF hmem hn hf hth hca hff hnl h0
      go_enter Try.func46, Try.ntmps46
      go_wp2_with fail
      refine (unhide HC).mono ?_
      rintro e w1 ⟨v1, rfl, hO1, hb1⟩
      obtain ⟨q1, c1, rfl⟩ := own_form hO1
      have H1 := hide hO1
      have HB := hide hb1
      clear HC hO1 hb1
      go_wp2
      go_loopw [9] (fun i wr => i = .int .i64 0 ∧ wr = w1) (fun _ _ => 0)
      case atStart => exact ⟨rfl, rfl⟩
      case round =>
        obtain ⟨rfl, rfl⟩ := hrel
        go_wp2
        go_ret
        refine ⟨_, rfl, ⟨fun _ => (0, 0), ?_⟩, unhide HB⟩
        rcases (unhide H1).2 with ⟨e1, -⟩ | ⟨g1, cap1, cur1, e1, e2, -⟩
        · exact .inl ⟨e1, rfl⟩
        · exact .inr ⟨g1, cap1, fun _ => 0, fun _ => .slice none 0 0, e1, ⟨⟨((unhide H1).lt g1 (by rw [e1]; rfl)).2, own_tg (unhide H1) (by rw [e1]; rfl)⟩, fun j hj => by simp at hj⟩, e2, fun n x hx => by simp at hx⟩
  have Hend := hide (show ∀ (V : World) (q c : Nat) (h' : Nat → Value) (o : Nat → Nat × Nat), CR V q nl ca h' → W.heap.size ≤ q → (∀ j, j < nl → NR V W.heap.size (h' j) (f j) ∧ Og o (0, j) (h' j)) → LPRo V W.heap.size (.slice (some ⟨q, 0, none⟩) nl c) (ls.map lpA) o from fun V q c h' o h1 h2 h3 => by
    refine .inr ⟨q, c, ca, h', by rw [List.length_map, hnl], by rw [List.length_map, ← hnl]; exact h1, h2, fun n x hx => ?_⟩
    rw [List.getElem?_map] at hx
    rcases Nat.lt_or_ge n nl with c | c
    · rw [List.getElem?_eq_getElem (by omega)] at hx
      simp at hx
      have e : ls.getD n (0, .slice none 0 0, []) = ls[n]'(by omega) := by rw [List.getD_eq_getElem?_getD, List.getElem?_eq_getElem (by omega)]; rfl
      have := h3 n c
      rw [hff] at this
      dsimp only at this
      rw [e] at this
      rw [← hx, hca]
      dsimp only
      rw [e]
      exact ⟨rfl, this⟩
    · rw [List.getElem?_eq_none (by omega)] at hx
      cases hx)
  have Hcr := hide (show ∀ (V : World) (q c : Nat), V.ownsRow W.heap.size 43 2 (.slice (some ⟨q, 0, none⟩) nl c) nl (lpC ls) → CR V q nl ca th from fun V q c o => by rw [hnl] at o; have := own_cr o; rw [hca, hth, hnl]; exact this)
  rw [← hnl] at HC hl
  clear h hn hf hmem hth hca hff hnl
  obtain ⟨L, hL⟩ : ∃ L, L = ls.map lpA := ⟨_, rfl⟩
  rw [← hL] at Hend
  rw [← hL]
  clear hL
  go_enter Try.func46, Try.ntmps46
  go_wp2_with fail
  refine (unhide HC).mono ?_
  rintro e w1 ⟨v1, rfl, hO1, hb1⟩
  obtain ⟨q, c, rfl⟩ := own_slice hO1 h0
  have HR := hide (unhide Hcr w1 q c hO1)
  have Hq := hide (hO1.lt q rfl).1
  have HB := hide hb1
  clear HC hO1 hb1 Hcr
  go_wp2
  go_loopw [9] (fun i wr => ∃ (x : Nat) (h' : Nat → Value) (o : Nat → Nat × Nat), x ≤ nl ∧ i = .int .i64 x ∧ CR wr q nl ca (mixV th h' x) ∧ (∀ j, j < x → NR wr W.heap.size (h' j) (f j) ∧ Og o (0, j) (h' j)) ∧ Below W.heap.size W wr) (fun i _ => nl - (intOf i).toNat)
  case atStart => exact ⟨0, th, fun _ => (0, 0), Nat.zero_le _, rfl, (unhide HR).congr (fun j _ => by simp [mixV]), fun j hj => by omega, unhide HB⟩
  case round =>
    clear HR HB
    obtain ⟨x, h', o, hx, rfl, hR, hD, hB⟩ := hrel
    have HR := hide hR
    have HD := hide hD
    have HB := hide hB
    clear hR hD hB
    by_cases hlt : x < nl
    · have q1 : (x : Int) < (nl : Int) := by omega
      have q2 : (0 : Int) ≤ (x : Int) := by omega
      have hm : mixV th h' x x = th x := by simp [mixV]
      obtain ⟨tq, tc, htv⟩ := (unhide HN wr (unhide HB) x hlt).form
      have c1 := ((unhide HR).2 x hlt).2.1
      have f1 := ((unhide HR).2 x hlt).2.2
      rw [hm, htv] at c1
      have HK := hide (clone3 (unhide HN wr (unhide HB) x hlt) (by have := unhide HF x hlt; omega))
      rw [htv] at HK
      clear htv hm
      generalize (f x).length = tl at *
      go_wp2_with fail
      refine (unhide HK).mono ?_
      rintro e w2 ⟨v2, rfl, hN2, hb2⟩
      have R2 := (unhide HR).kept (Kept.of (S := fun _ => False) hb2) id
      have c2 := (R2.2 x hlt).2.1
      have f2 := (R2.2 x hlt).2.2
      have hR3 := hide ((R2.put x v2).congr (fun j _ => put_mix th h' x v2 j))
      have hq3 : ∀ i, i = q → ¬ Tg w2 i 3 := fun i e t => tg_not (show Tg w2 i 43 from e ▸ R2.1.2) (by decide) t
      have hD3 := hide (show ∀ j, j < x + 1 → NR (w2.setCell ⟨q, x * 2 + 1, none⟩ v2) W.heap.size (putV h' x v2 j) (f j) ∧ Og (ogX o wr.heap.size (0, x)) (0, j) (putV h' x v2 j) from fun j hj => by
        unfold putV
        by_cases c : j = x
        · subst c
          rw [if_pos rfl]
          exact ⟨(hN2.le (unhide HB).size).kept (kset w2 q _ v2) hq3, Og.new hN2⟩
        · rw [if_neg c]
          exact ⟨((unhide HD j (by omega)).1.keep hb2).kept (kset w2 q _ v2) hq3, Og.old (unhide HD j (by omega)).2 (unhide HD j (by omega)).1 (Nat.le_refl _)⟩)
      have hB3 := hide (bset (p := ⟨q, x * 2 + 1, none⟩) (u := v2) (btrans (unhide HB) hb2) (unhide Hq))
      obtain ⟨q2', c2', rfl⟩ := hN2.form
      clear R2 hq3 hN2 hb2 HR HD HB c1 f1 HK
      go_wp2
      go_roundw
      case rel => exact ⟨x + 1, _, _, by omega, by go_num, unhide hR3, unhide hD3, unhide hB3⟩
      case measure => simp [intOf]; omega
    · obtain rfl : nl = x := by omega
      have cl : ¬ ((nl : Int) < (nl : Int)) := by omega
      have HE := hide (unhide Hend wr q c h' o ((unhide HR).congr (fun j hj => by simp [mixV, hj])) (unhide Hq) (unhide HD))
      go_wp2
      go_ret
      exact ⟨_, rfl, ⟨o, unhide HE⟩, unhide HB⟩
end Go.Proofs.Ytancniamgfppiaa
