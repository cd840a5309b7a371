/-
  Rows of numbers: appended, copied.
-/
import Derived.Test.YtbmgjoocpbikkaaGv
import Derived.Laws.IdiomCopy
namespace Go.Proofs.Ytbmgjoocpbikkaa
open Go.RowKit

/-- what append takes from: cells that lie one behind the other -/
def Src (W : World) (z : Nat) (y : Value) (m : Nat) (ys : List Value) : Prop := ys.length = m * z ∧ (y = .slice none 0 0 ∧ m = 0 ∨ ∃ a c, y = .slice (some a) m c ∧ ∀ j u, ys[j]? = some u → W.cell? (a.add j) = some u)
theorem Src.of {W : World} {C m z : Nat} {e : TypeId} {y : Value} {ys : List Value} (h : W.ownsRow C e z y m ys) : Src W z y m ys := by
  refine ⟨h.1, ?_⟩
  rcases h.2 with k | ⟨g, cap, cur, rfl, -⟩
  · exact .inl k
  · exact .inr ⟨_, _, rfl, h.cells rfl⟩
theorem add_zero (g j : Nat) : (⟨g, 0, none⟩ : Addr).add j = ⟨g, j, none⟩ := by
  unfold Addr.add
  by_cases e : j = 0 <;> simp [e]
/-- append in a walk, from anything -/
theorem wl_src {t e : TypeId} {zero : Value} {z byt : Nat} {ops : Array Oper} {rest : List Oper} {o : Oper} {a : Act} {Q : Exit → Act → World → Prop} {W : World} {s x : Operand} (hgd : o.guard = none) (ho : o.op = .call { callee := .builtin .append, args := #[s, x], argTypes := #[t, t] })
    (ht : Try.prog.underlying t = some (.slice e)) (hinf : (Try.prog.info? e).map (fun i => (i.zero, i.size, i.bytes)) = some (some zero, z, byt)) (hzs : zero.cells.size = z) (hz : 0 < z)
    {B n m : Nat} {v y : Value} {xs ys : List Value} (hs : a.eval s = v) (hx : a.eval x = y) (hv : W.ownsRow B e z v n xs) (hy : Src W z y m ys) (h1 : ∀ u ∈ ys, u.oneCell' = true) (hml : n + m ≤ maxLen) (hb : (n + m) * byt ≤ 140737488355328) (hB : B ≤ W.heap.size)
    (h : ∀ v' w', w'.ownsRow B e z v' (n + m) (xs ++ ys) → W.grownBy w' v.ownBlock → (v'.ownBlock = v.ownBlock ∨ v'.ownBlock = some W.heap.size) → wpList Try.prog ops Q rest (a.put o.dst v') w') : wpList Try.prog ops Q (o :: rest) a W := by
  obtain ⟨i, hi, hz0, hz1, hz2⟩ := info_parts hinf
  rcases hy.2 with ⟨rfl, rfl⟩ | ⟨ad, c, rfl, hc⟩
  · obtain rfl : ys = [] := List.eq_nil_of_length_eq_zero (by simpa using hy.1)
    exact wpList_append_own_none hgd s x t ho B e i z ht hi v n xs hs hv hx (h v W (by simpa using hv) (World.grownBy.refl _ _) (.inl rfl))
  · exact wpList_append_own_at W hgd s x t ho B e i zero z byt ht hi hz0 hz1 hz2 hzs hz v n xs hs hv ad m c ys hx hy.1 hc h1 hml hb hB (fun v' w' a1 a2 _ a4 => h v' w' a1 a2 a4)

/-- append inside a region whose order is drawn, from anything -/
theorem wp_src {t e : TypeId} {zero : Value} {z byt : Nat} {o : Oper} {a : Act} {K : Act → World → Prop} {Q : Exit → Act → World → Prop} {W : World} {s x : Operand} (ho : o.op = .call { callee := .builtin .append, args := #[s, x], argTypes := #[t, t] })
    (ht : Try.prog.underlying t = some (.slice e)) (hinf : (Try.prog.info? e).map (fun i => (i.zero, i.size, i.bytes)) = some (some zero, z, byt)) (hzs : zero.cells.size = z) (hz : 0 < z)
    {B n m : Nat} {v y : Value} {xs ys : List Value} (hs : a.eval s = v) (hx : a.eval x = y) (hv : W.ownsRow B e z v n xs) (hy : Src W z y m ys) (h1 : ∀ u ∈ ys, u.oneCell' = true) (hml : n + m ≤ maxLen) (hb : (n + m) * byt ≤ 140737488355328) (hB : B ≤ W.heap.size)
    (h : ∀ v' w', w'.ownsRow B e z v' (n + m) (xs ++ ys) → W.grownBy w' v.ownBlock → (v'.ownBlock = v.ownBlock ∨ v'.ownBlock = some W.heap.size) → K (a.put o.dst v') w') : o.wp Try.prog a W K Q := by
  obtain ⟨i, hi, hz0, hz1, hz2⟩ := info_parts hinf
  rcases hy.2 with ⟨rfl, rfl⟩ | ⟨ad, c, rfl, hc⟩
  · obtain rfl : ys = [] := List.eq_nil_of_length_eq_zero (by simpa using hy.1)
    have hr := run_append_owned_none (P := Try.prog) (w := W) B t o.type e i z ht hi v n xs hv
    have hn := h v W (by simpa using hv) (World.grownBy.refl _ _) (.inl rfl)
    unfold Oper.wp
    simp [execOp, builtin, invoke, resolve, Result.andThen, hr, hx, hs, ho]
    exact hn
  · obtain ⟨v', w', hr, h3, h4, -, h5⟩ := run_append_own_at (P := Try.prog) (ty := o.type) W B t e i zero z byt ht hi hz0 hz1 hz2 hzs hz v n xs hv ad m c ys hy.1 hc h1 hml hb hB
    have hn := h v' w' h3 h4 h5
    unfold Oper.wp
    simp [execOp, builtin, invoke, resolve, Result.andThen, hr, hx, hs, ho]
    exact hn

/-- numbers as cells -/
def vals (f : Nat → Int) (n : Nat) : List Value := (List.range n).map fun k => Value.int .i64 (f k)
theorem vals_len (f : Nat → Int) (n : Nat) : (vals f n).length = n := by simp [vals]
theorem vals_get {f : Nat → Int} {n j : Nat} {u : Value} (h : (vals f n)[j]? = some u) : j < n ∧ u = .int .i64 (f j) := by
  unfold vals at h
  rw [List.getElem?_map] at h
  rcases Nat.lt_or_ge j n with c | c
  · rw [List.getElem?_range c] at h
    simp at h
    exact ⟨c, h.symm⟩
  · rw [List.getElem?_eq_none (by simpa using c)] at h
    cases h
theorem vals_one (f : Nat → Int) (n : Nat) : ∀ u ∈ vals f n, u.oneCell' = true := by
  intro u hu
  obtain ⟨j, _, rfl⟩ := List.mem_map.1 hu
  rfl
theorem vals_congr {f g : Nat → Int} {n : Nat} (h : ∀ k, k < n → f k = g k) : vals f n = vals g n := by
  unfold vals
  refine List.map_congr_left fun k hk => ?_
  rw [h k (by simpa using hk)]
theorem vals_succ (f : Nat → Int) (n : Nat) : vals f (n + 1) = vals f n ++ [.int .i64 (f n)] := by simp [vals, List.range_succ]
theorem vals_app (f g : Nat → Int) (n m : Nat) : vals f n ++ vals g m = vals (fun k => if k < n then f k else g (k - n)) (n + m) := by
  induction m with
  | zero =>
    show vals f n ++ [] = _
    rw [List.append_nil]
    exact vals_congr fun k hk => by rw [if_pos hk]
  | succ m ih =>
    rw [vals_succ, ← List.append_assoc, ih, ← Nat.add_assoc, vals_succ]
    rw [if_neg (by omega), Nat.add_sub_cancel_left]
/-- a row of numbers that is one's own -/
def IR (W : World) (B : Nat) (v : Value) (n : Nat) (f : Nat → Int) : Prop := W.ownsRow B 3 1 v n (vals f n)
theorem IR.keep {W V : World} {B : Nat} {v : Value} {n : Nat} {f : Nat → Int} (h : IR W B v n f) (hb : Below W.heap.size W V) : IR V B v n f := own_keep h hb
theorem IR.but {S : Nat → Prop} {W V : World} {B : Nat} {v : Value} {n : Nat} {f : Nat → Int} (h : IR W B v n f) (k : Kept S W V) (hS : ∀ i, v.ownBlock = some i → ¬ S i) : IR V B v n f := own_but h k hS
theorem IR.nil (W : World) (B : Nat) (f : Nat → Int) : IR W B (.slice none 0 0) 0 f := World.ownsRow_nil _ _ _ _
theorem IR.form {W : World} {B : Nat} {v : Value} {n : Nat} {f : Nat → Int} (h : IR W B v n f) : ∃ q cap, v = .slice q n cap := own_form h
theorem IR.congr {W : World} {B : Nat} {v : Value} {n : Nat} {f g : Nat → Int} (h : IR W B v n f) (e : ∀ k, k < n → f k = g k) : IR W B v n g := by
  unfold IR at h ⊢
  rw [← vals_congr e]; exact h
theorem IR.cr {W : World} {B b n cap : Nat} {f : Nat → Int} (h : IR W B (.slice (some ⟨b, 0, none⟩) n cap) n f) : CR W b n f :=
  ⟨(h.lt b rfl).2, fun j hj => ⟨by rw [h.cellAt j (by simpa using hj)]; simp [vals, hj], h.frozenAt j⟩⟩
theorem IR.slice {W : World} {B : Nat} {v : Value} {n : Nat} {f : Nat → Int} (h : IR W B v n f) (hn : 1 ≤ n) : ∃ b cap, v = .slice (some ⟨b, 0, none⟩) n cap ∧ CR W b n f ∧ B ≤ b := by
  obtain ⟨b, cap, rfl⟩ := own_slice h hn
  exact ⟨b, cap, rfl, h.cr, (h.lt b rfl).1⟩
theorem CR.is {W : World} {b K : Nat} {g : Nat → Int} (h : CR W b K g) {o n : Nat} (ho : o + n ≤ K) : T.Is W (some ⟨b, o, none⟩) n (fun j => g (o + j)) :=
  .inr ⟨b, o, rfl, h.1, fun j hj => (h.2 (o + j) (by omega)).1⟩
theorem CR.is0 {W : World} {b K : Nat} {g : Nat → Int} (h : CR W b K g) : T.Is W (some ⟨b, 0, none⟩) K g :=
  .inr ⟨b, 0, rfl, h.1, fun j hj => by rw [Nat.zero_add]; exact (h.2 j hj).1⟩
theorem CR.but {S : Nat → Prop} {W V : World} {b K : Nat} {g : Nat → Int} (h : CR W b K g) (k : Kept S W V) (hS : ¬ S b) : CR V b K g :=
  ⟨Nat.lt_of_lt_of_le h.1 k.size, fun j hj => ⟨k.cell h.1 hS (h.2 j hj).1, k.froz h.1 hS (h.2 j hj).2⟩⟩
theorem CR.congr {W : World} {b K : Nat} {f g : Nat → Int} (h : CR W b K f) (e : ∀ j, j < K → f j = g j) : CR W b K g := ⟨h.1, fun j hj => by rw [← e j hj]; exact h.2 j hj⟩
theorem IR.is {W : World} {B : Nat} {n cap : Nat} {q : Option Addr} {f : Nat → Int} (h : IR W B (.slice q n cap) n f) : T.Is W q n f := by
  rcases Nat.eq_zero_or_pos n with e | e
  · exact .inl e
  · obtain ⟨b, c, e1, e2, _⟩ := h.slice e
    cases e1
    exact e2.is0
theorem is_src {W : World} {q : Option Addr} {n : Nat} {f : Nat → Int} (h : T.Is W q n f) (hn : 1 ≤ n) (cap : Nat) : Src W 1 (.slice q n cap) n (vals f n) := by
  rcases h with h | ⟨b, o, rfl, _, hc⟩
  · omega
  · refine ⟨by simp [vals], .inr ⟨_, _, rfl, fun j u hj => ?_⟩⟩
    obtain ⟨c, rfl⟩ := vals_get hj
    rw [Addr.add_lit]
    exact hc j c
theorem ir_src {W : World} {B : Nat} {v : Value} {n : Nat} {f : Nat → Int} (h : IR W B v n f) : Src W 1 v n (vals f n) := Src.of h

set_option maxRecDepth 100000 in
set_option maxHeartbeats 1000000 in
/-- numbers are copied -/
theorem clone_any {W : World} {cb K : Nat} {g : Nat → Int} (hC : CR W cb K g) (h1 : 1 ≤ K) (hK : K ≤ 128) : Calls Try.prog 40 #[.slice (some ⟨cb, 0, none⟩) K K] W fun e w' =>
    ∃ q c, e = .returned (.slice (some ⟨q, 0, none⟩) K c) ∧ W.heap.size ≤ q ∧ CR w' q K g ∧ Below W.heap.size W w' := by
  have qT : ∀ (w : World) (a : Option Addr) (n c n' c' : Nat), (binOp .eql 22 (.slice a n c) (.slice none n' c')).run Try.prog w = .ok (.bool a.isNone) w := fun w a n c n' c' => Lib.run_eql_slice_nil w _ _ a n c n' c' Try.underlying22
  have HY := hide (is_src (hC.keep (bnew W (.cells #[] 3))).is0 h1 K)
  have HO := hide (own_lit (B := W.heap.size) (e := 3) (z := 1) (k := 0) W #[] (Nat.le_refl _) (by unfold maxLen; omega) rfl)
  have B0 := hide (bnew W (.cells #[] 3))
  have H1 := hide (vals_one g K)
  clear hC
  go_enter Try.func40, Try.ntmps40
  go_wp2_with (at_builtin; refine wl_src rfl rfl Try.underlying22 info3 rfl (by decide) rfl rfl (unhide HO) (unhide HY) (unhide H1) (by unfold maxLen; omega) (by omega) (by simp) ?_)
  intro v' w4 hown' hgrow _
  have S4 := hide ((unhide B0).grown hgrow (by simp) (fun k hk => by have := ((unhide HO).lt k hk).1; omega))
  have H4 := hide (show IR w4 W.heap.size v' K g from by simpa [IR] using hown')
  obtain ⟨q', cap', rfl, hcr, hq⟩ := (unhide H4).slice h1
  have HR := hide hcr
  clear hown' hgrow hcr
  go_wp2
  go_ret
  exact ⟨q', cap', rfl, hq, unhide HR, unhide S4⟩

theorem kept_cells {S : Nat → Prop} {b : Nat} (hS : S b) : ∀ (vs : List Value) (o : Nat) (W : World), Kept S W (W.setCells b o vs)
  | [], _, _ => Kept.refl _ _
  | v :: r, o, W => ((Kept.refl S W).set o v (.inl hS)).trans (kept_cells hS r (o + 1) _)
/-- numbers are copied over others -/
theorem copy_law {W : World} {cb q K c : Nat} {g g' : Nat → Int} (h1 : CR W cb K g') (h2 : CR W q K g) (ty : TypeId) :
    (Builtin.copy_ #[22, 22] ty #[.slice (some ⟨cb, 0, none⟩) K K, .slice (some ⟨q, 0, none⟩) K c]).run Try.prog W = .ok (goInt K) (W.setCells cb 0 (vals g K)) := by
  have := run_copy_cells (P := Try.prog) W 22 22 ty 3 cb 0 K K ⟨q, 0, none⟩ K c (vals g K) Try.underlying22 (by have := info3; cases e : Try.prog.info? 3 with | none => rw [e] at this; cases this | some i => rw [e] at this; simp at this; simp [this]) (by rw [vals_len]; exact (Nat.min_self K).symm)
    (fun j v hj => by obtain ⟨a, rfl⟩ := vals_get hj; rw [add_zero]; exact (h2.2 j a).1) (fun j hj => by rw [vals_len] at hj; rw [Nat.zero_add, (h1.2 j hj).1]; rfl) (fun j hj => by rw [vals_len] at hj; rw [Nat.zero_add]; exact (h1.2 j hj).2) (vals_one g K)
  rw [this, vals_len]
theorem copy_cr {W : World} {cb K : Nat} {g g' : Nat → Int} (h1 : CR W cb K g') : CR (W.setCells cb 0 (vals g K)) cb K g ∧ Kept (fun i => i = cb) W (W.setCells cb 0 (vals g K)) := by
  have hk : Kept (fun i => i = cb) W (W.setCells cb 0 (vals g K)) := kept_cells (S := fun i => i = cb) rfl _ _ _
  refine ⟨⟨Nat.lt_of_lt_of_le h1.1 hk.size, fun j hj => ⟨?_, by rw [World.frozen?_setCells]; exact (h1.2 j hj).2⟩⟩, hk⟩
  have := World.cell?_setCells_in cb (vals g K) 0 W (fun j hj => by rw [vals_len] at hj; rw [Nat.zero_add, (h1.2 j hj).1]; rfl) j (by rw [vals_len]; exact hj)
  rw [Nat.zero_add] at this
  rw [this]
  simp [vals]
end Go.Proofs.Ytbmgjoocpbikkaa
