/-
  Rows that are copied: numbers, rows of rows, loops.
-/
import Derived.Test.YtancniamgfppiaaMaA
namespace Go.Proofs.Ytancniamgfppiaa
open Go.RowKit

/-- what append takes from: cells that lie one behind the other -/
def Src (W : World) (z : Nat) (y : Value) (m : Nat) (ys : List Value) : Prop := ys.length = m * z ∧ (y = .slice none 0 0 ∧ m = 0 ∨ ∃ a c, y = .slice (some a) m c ∧ ∀ j u, ys[j]? = some u → W.cell? (a.add j) = some u)
theorem Src.of {W : World} {C m z : Nat} {e : TypeId} {y : Value} {ys : List Value} (h : W.ownsRow C e z y m ys) : Src W z y m ys := by
  refine ⟨h.1, ?_⟩
  rcases h.2 with k | ⟨g, cap, cur, rfl, -⟩
  · exact .inl k
  · exact .inr ⟨_, _, rfl, h.cells rfl⟩
theorem add_zero (g j : Nat) : (⟨g, 0, none⟩ : Addr).add j = ⟨g, j, none⟩ := by
  unfold Addr.add
  by_cases e : j = 0 <;> simp [e]
/-- append in a walk, from anything -/
theorem wl_src {t e : TypeId} {zero : Value} {z byt : Nat} {ops : Array Oper} {rest : List Oper} {o : Oper} {a : Act} {Q : Exit → Act → World → Prop} {W : World} {s x : Operand} (hgd : o.guard = none) (ho : o.op = .call { callee := .builtin .append, args := #[s, x], argTypes := #[t, t] })
    (ht : Try.prog.underlying t = some (.slice e)) (hinf : (Try.prog.info? e).map (fun i => (i.zero, i.size, i.bytes)) = some (some zero, z, byt)) (hzs : zero.cells.size = z) (hz : 0 < z)
    {B n m : Nat} {v y : Value} {xs ys : List Value} (hs : a.eval s = v) (hx : a.eval x = y) (hv : W.ownsRow B e z v n xs) (hy : Src W z y m ys) (h1 : ∀ u ∈ ys, u.oneCell' = true) (hml : n + m ≤ maxLen) (hb : (n + m) * byt ≤ 140737488355328) (hB : B ≤ W.heap.size)
    (h : ∀ v' w', w'.ownsRow B e z v' (n + m) (xs ++ ys) → W.grownBy w' v.ownBlock → (v'.ownBlock = v.ownBlock ∨ v'.ownBlock = some W.heap.size) → wpList Try.prog ops Q rest (a.put o.dst v') w') : wpList Try.prog ops Q (o :: rest) a W := by
  obtain ⟨i, hi, hz0, hz1, hz2⟩ := info_parts hinf
  rcases hy.2 with ⟨rfl, rfl⟩ | ⟨ad, c, rfl, hc⟩
  · obtain rfl : ys = [] := List.eq_nil_of_length_eq_zero (by simpa using hy.1)
    exact wpList_append_own_none hgd s x t ho B e i z ht hi v n xs hs hv hx (h v W (by simpa using hv) (World.grownBy.refl _ _) (.inl rfl))
  · exact wpList_append_own_at W hgd s x t ho B e i zero z byt ht hi hz0 hz1 hz2 hzs hz v n xs hs hv ad m c ys hx hy.1 hc h1 hml hb hB (fun v' w' a1 a2 _ a4 => h v' w' a1 a2 a4)

/-- rows of numbers -/
def LR (W : World) (B : Nat) (v : Value) (xss : List (List Nat)) : Prop := (v = .slice none 0 0 ∧ xss = []) ∨ ∃ (q cap : Nat) (h : Nat → Value), v = .slice (some ⟨q, 0, none⟩) xss.length cap ∧ BR W q xss.length h ∧ B ≤ q ∧ ∀ n x, xss[n]? = some x → NR W B (h n) x
theorem LR.kept {S : Nat → Prop} {W V : World} {B : Nat} {v : Value} {xss : List (List Nat)} (k : LR W B v xss) (e : Kept S W V) (h1 : ∀ i, S i → ¬ Tg W i 27) (h2 : ∀ i, S i → ¬ Tg W i 3) : LR V B v xss := by
  rcases k with k | ⟨q, cap, h, k1, k2, k3, k4⟩
  · exact .inl k
  · exact .inr ⟨q, cap, h, k1, k2.kept e (fun q => h1 _ q k2.1.2), k3, fun n x hx => (k4 n x hx).kept e h2⟩
theorem LR.keep {W V : World} {B : Nat} {v : Value} {xss : List (List Nat)} (k : LR W B v xss) (e : Below W.heap.size W V) : LR V B v xss := k.kept (Kept.of (S := fun _ => False) e) (fun _ q => q.elim) (fun _ q => q.elim)
theorem LR.le {W : World} {B C : Nat} {v : Value} {xss : List (List Nat)} (k : LR W B v xss) (h : C ≤ B) : LR W C v xss := by
  rcases k with k | ⟨q, cap, f, k1, k2, k3, k4⟩
  · exact .inl k
  · exact .inr ⟨q, cap, f, k1, k2, by omega, fun n x hx => (k4 n x hx).le h⟩
/-- loops in a row -/
def CR (W : World) (q n : Nat) (c : Nat → Int) (h : Nat → Value) : Prop := (q < W.heap.size ∧ Tg W q 43) ∧ ∀ j, j < n → W.cell? ⟨q, j * 2, none⟩ = some (.int .i64 (c j)) ∧ W.cell? ⟨q, j * 2 + 1, none⟩ = some (h j) ∧ W.frozen? ⟨q, j * 2 + 1, none⟩ = false
theorem CR.kept {S : Nat → Prop} {W V : World} {q n : Nat} {c : Nat → Int} {h : Nat → Value} (r : CR W q n c h) (e : Kept S W V) (hS : ¬ S q) : CR V q n c h :=
  ⟨⟨Nat.lt_of_lt_of_le r.1.1 e.size, r.1.2.kept e r.1.1 hS⟩, fun j hj => ⟨e.cell r.1.1 hS (r.2 j hj).1, e.cell r.1.1 hS (r.2 j hj).2.1, e.froz r.1.1 hS (r.2 j hj).2.2⟩⟩
theorem CR.put {W : World} {q n : Nat} {c : Nat → Int} {h : Nat → Value} (r : CR W q n c h) (i : Nat) (v : Value) : CR (W.setCell ⟨q, i * 2 + 1, none⟩ v) q n c (putV h i v) := by
  refine ⟨⟨by simpa using r.1.1, r.1.2.set _ _⟩, fun j hj => ⟨cset (r.2 j hj).1 (by omega), ?_, fset (r.2 j hj).2.2⟩⟩
  unfold putV
  by_cases e : j = i
  · subst e
    rw [if_pos rfl]
    exact csame (r.2 j hj).2.1
  · rw [if_neg e]
    exact cset (r.2 j hj).2.1 (by omega)
def LPR (W : World) (B : Nat) (v : Value) (ls : List (Int × List Nat)) : Prop := (v = .slice none 0 0 ∧ ls = []) ∨ ∃ (q cap : Nat) (c : Nat → Int) (h : Nat → Value), v = .slice (some ⟨q, 0, none⟩) ls.length cap ∧ CR W q ls.length c h ∧ B ≤ q ∧ ∀ n x, ls[n]? = some x → c n = x.1 ∧ NR W B (h n) x.2
theorem LPR.kept {S : Nat → Prop} {W V : World} {B : Nat} {v : Value} {ls : List (Int × List Nat)} (k : LPR W B v ls) (e : Kept S W V) (h1 : ∀ i, S i → ¬ Tg W i 43) (h2 : ∀ i, S i → ¬ Tg W i 3) : LPR V B v ls := by
  rcases k with k | ⟨q, cap, c, h, k1, k2, k3, k4⟩
  · exact .inl k
  · exact .inr ⟨q, cap, c, h, k1, k2.kept e (fun q => h1 _ q k2.1.2), k3, fun n x hx => ⟨(k4 n x hx).1, (k4 n x hx).2.kept e h2⟩⟩
theorem LPR.keep {W V : World} {B : Nat} {v : Value} {ls : List (Int × List Nat)} (k : LPR W B v ls) (e : Below W.heap.size W V) : LPR V B v ls := k.kept (Kept.of (S := fun _ => False) e) (fun _ q => q.elim) (fun _ q => q.elim)
theorem LPR.le {W : World} {B C : Nat} {v : Value} {ls : List (Int × List Nat)} (k : LPR W B v ls) (h : C ≤ B) : LPR W C v ls := by
  rcases k with k | ⟨q, cap, c, f, k1, k2, k3, k4⟩
  · exact .inl k
  · exact .inr ⟨q, cap, c, f, k1, k2, by omega, fun n x hx => ⟨(k4 n x hx).1, (k4 n x hx).2.le h⟩⟩
/-- what is told, in memory -/
def KR (W : World) (B : Nat) (v : Value) (k : Kn) : Prop := ∃ v1 v2 v3 v4, v = .agg #[v1, v2, v3, v4, .int .i64 k.rack] ∧ LPR W B v1 k.loops ∧ LR W B v2 k.front ∧ LR W B v3 k.back ∧ NR W B v4 k.loose
theorem KR.keep {W V : World} {B : Nat} {v : Value} {k : Kn} (h : KR W B v k) (e : Below W.heap.size W V) : KR V B v k := by
  obtain ⟨v1, v2, v3, v4, h0, h1, h2, h3, h4⟩ := h
  exact ⟨v1, v2, v3, v4, h0, h1.keep e, h2.keep e, h3.keep e, h4.keep e⟩
theorem KR.le {W : World} {B C : Nat} {v : Value} {k : Kn} (h : KR W B v k) (e : C ≤ B) : KR W C v k := by
  obtain ⟨v1, v2, v3, v4, h0, h1, h2, h3, h4⟩ := h
  exact ⟨v1, v2, v3, v4, h0, h1.le e, h2.le e, h3.le e, h4.le e⟩
theorem KR.zero (W : World) (B : Nat) : KR W B (.agg #[.slice none 0 0, .slice none 0 0, .slice none 0 0, .slice none 0 0, .int .i64 0]) k0 :=
  ⟨_, _, _, _, rfl, .inl ⟨rfl, rfl⟩, .inl ⟨rfl, rfl⟩, .inl ⟨rfl, rfl⟩, NR.nil _ _⟩

/-- a row of values that is owned, as cells -/
theorem own_br {W : World} {B k cap g : Nat} {h : Nat → Value} (o : W.ownsRow B 27 1 (.slice (some ⟨g, 0, none⟩) k cap) k ((List.range k).map h)) : BR W g k h :=
  ⟨⟨(o.lt g rfl).2, own_tg o rfl⟩, fun j hj => ⟨by rw [o.cellAt j (by simpa using hj)]; simp [hj], o.frozenAt j⟩⟩
theorem br_src {W : World} {g k cap : Nat} {h : Nat → Value} (r : BR W g k h) : Src W 1 (.slice (some ⟨g, 0, none⟩) k cap) k ((List.range k).map h) := by
  refine ⟨by simp, .inr ⟨_, _, rfl, fun j u hj => ?_⟩⟩
  rw [add_zero]
  rw [List.getElem?_map] at hj
  rcases Nat.lt_or_ge j k with c | c
  · rw [List.getElem?_range c] at hj
    simp at hj
    rw [← hj]
    exact (r.2 j c).1
  · rw [List.getElem?_eq_none (by simpa using c)] at hj
    cases hj

set_option maxRecDepth 100000 in
set_option maxHeartbeats 1000000 in
/-- numbers are copied -/
theorem clone3 {W : World} {B : Nat} {v : Value} {xs : List Nat} (h : NR W B v xs) (hl : xs.length ≤ 100000) :
    Calls Try.prog 48 #[v] W fun e w' => ∃ v', e = .returned v' ∧ NR w' W.heap.size v' xs ∧ Below W.heap.size W w' := by
  have qT : ∀ (w : World) (a : Option Addr) (n c n' c' : Nat), (binOp .eql 27 (.slice a n c) (.slice none n' c')).run Try.prog w = .ok (.bool a.isNone) w := fun w a n c n' c' => Lib.run_eql_slice_nil w _ _ a n c n' c' Try.underlying27
  rcases h.2 with ⟨rfl, h0⟩ | ⟨g, cap, cur, rfl, -⟩
  · obtain rfl : xs = [] := List.eq_nil_of_length_eq_zero h0
    go_enter Try.func48, Try.ntmps48
    go_wp2
    go_ret
    exact ⟨_, rfl, NR.nil _ _, Below.refl _ _⟩
  · have HY := hide (Src.of (own_keep h (bnew W (.cells #[] 3))))
    have HO := hide (own_lit (B := W.heap.size) (e := 3) (z := 1) (k := 0) W #[] (Nat.le_refl _) (by unfold maxLen; omega) rfl)
    have B0 := hide (bnew W (.cells #[] 3))
    clear h
    go_enter Try.func48, Try.ntmps48
    go_wp2_with (at_builtin; refine wl_src rfl rfl Try.underlying27 info3 rfl (by decide) rfl rfl (unhide HO) (unhide HY) numsV_one (by unfold maxLen; omega) (by omega) (by simp) ?_)
    intro v' w4 hown' hgrow _
    have S4 := hide ((unhide B0).grown hgrow (by simp) (fun k hk => by have := ((unhide HO).lt k hk).1; omega))
    have H4 := hide (show NR w4 W.heap.size v' xs from by simpa [NR] using hown')
    obtain ⟨q', cap', rfl⟩ := own_form hown'
    clear hown' hgrow
    go_wp2
    go_ret
    exact ⟨_, rfl, unhide H4, unhide S4⟩
set_option maxRecDepth 100000 in
set_option maxHeartbeats 1000000 in
/-- a bed's row is copied -/
theorem clone25 {W : World} {g N cap : Nat} {h : Nat → Value} (r : BR W g N h) (h1 : ∀ j, j < N → (h j).oneCell' = true) (hN : N ≤ 128) :
    Calls Try.prog 59 #[.slice (some ⟨g, 0, none⟩) N cap] W fun e w' => ∃ v', e = .returned v' ∧ w'.ownsRow W.heap.size 27 1 v' N ((List.range N).map h) ∧ v' ≠ .slice none 0 0 ∧ Below W.heap.size W w' := by
  have qT : ∀ (w : World) (a : Option Addr) (n c n' c' : Nat), (binOp .eql 26 (.slice a n c) (.slice none n' c')).run Try.prog w = .ok (.bool a.isNone) w := fun w a n c n' c' => Lib.run_eql_slice_nil w _ _ a n c n' c' Try.underlying26
  have HY := hide (br_src (cap := cap) (r.kept (Kept.of (S := fun _ => False) (bnew W (.cells #[] 27))) id))
  have HO := hide (own_lit (B := W.heap.size) (e := 27) (z := 1) (k := 0) W #[] (Nat.le_refl _) (by unfold maxLen; omega) rfl)
  have B0 := hide (bnew W (.cells #[] 27))
  have H1 := hide (show ∀ u ∈ (List.range N).map h, u.oneCell' = true by
    intro u hu
    obtain ⟨j, hj, rfl⟩ := List.mem_map.1 hu
    exact h1 j (by simpa using hj))
  clear r h1
  go_enter Try.func59, Try.ntmps59
  go_wp2_with (at_builtin; refine wl_src rfl rfl Try.underlying26 info25 rfl (by decide) rfl rfl (unhide HO) (unhide HY) (unhide H1) (by unfold maxLen; omega) (by omega) (by simp) ?_)
  intro v' w4 hown' hgrow hat
  have S4 := hide ((unhide B0).grown hgrow (by simp) (fun k hk => by have := ((unhide HO).lt k hk).1; omega))
  have H4 := hide (show w4.ownsRow W.heap.size 27 1 v' N ((List.range N).map h) from by simpa using hown')
  have H5 := hide (show v' ≠ .slice none 0 0 from fun e => by subst e; rcases hat with q | q <;> cases q)
  obtain ⟨q', cap', rfl⟩ := own_form hown'
  clear hown' hgrow hat
  go_wp2
  go_ret
  refine ⟨_, rfl, by simpa using unhide H4, ?_, unhide S4⟩
  have := unhide H5
  simpa using this
set_option maxRecDepth 100000 in
set_option maxHeartbeats 1000000 in
/-- loops are copied -/
theorem clone41 {W : World} {B : Nat} {v : Value} {ls : List (Int × Value × List Nat)} (h : W.ownsRow B 43 2 v ls.length (lpC ls)) (h1 : ∀ e ∈ ls, e.2.1.oneCell' = true) (hl : ls.length ≤ 4096) :
    Calls Try.prog 58 #[v] W fun e w' => ∃ v', e = .returned v' ∧ w'.ownsRow W.heap.size 43 2 v' ls.length (lpC ls) ∧ Below W.heap.size W w' := by
  have qT : ∀ (w : World) (a : Option Addr) (n c n' c' : Nat), (binOp .eql 25 (.slice a n c) (.slice none n' c')).run Try.prog w = .ok (.bool a.isNone) w := fun w a n c n' c' => Lib.run_eql_slice_nil w _ _ a n c n' c' Try.underlying25
  rcases h.2 with ⟨rfl, h0⟩ | ⟨g, cap, cur, rfl, -⟩
  · obtain rfl : ls = [] := List.eq_nil_of_length_eq_zero h0
    go_enter Try.func58, Try.ntmps58
    go_wp2
    go_ret
    exact ⟨_, rfl, World.ownsRow_nil _ _ _ _, Below.refl _ _⟩
  · have HY := hide (Src.of (own_keep h (bnew W (.cells #[] 43))))
    have HO := hide (own_lit (B := W.heap.size) (e := 43) (z := 2) (k := 0) W #[] (Nat.le_refl _) (by unfold maxLen; omega) rfl)
    have B0 := hide (bnew W (.cells #[] 43))
    have H1 := hide (lpC_one h1)
    obtain ⟨nl, hnl⟩ : ∃ nl, nl = ls.length := ⟨_, rfl⟩
    rw [← hnl] at HY hl
    rw [← hnl]
    clear h h1 hnl
    go_enter Try.func58, Try.ntmps58
    go_wp2_with (at_builtin; refine wl_src rfl rfl Try.underlying25 info41 rfl (by decide) rfl rfl (unhide HO) (unhide HY) (unhide H1) (by unfold maxLen; omega) (by omega) (by simp) ?_)
    intro v' w4 hown' hgrow _
    have S4 := hide ((unhide B0).grown hgrow (by simp) (fun k hk => by have := ((unhide HO).lt k hk).1; omega))
    have H4 := hide (show w4.ownsRow W.heap.size 43 2 v' nl (lpC ls) from by simpa using hown')
    obtain ⟨q', cap', rfl⟩ := own_form (unhide H4)
    clear hown' hgrow
    go_wp2
    go_ret
    exact ⟨_, rfl, unhide H4, unhide S4⟩
end Go.Proofs.Ytancniamgfppiaa
