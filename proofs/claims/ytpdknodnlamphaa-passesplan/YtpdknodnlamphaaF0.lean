/-
  Package passes: what howFar has in memory.
-/
import Derived.Test.YtpdknodnlamphaaE
import Derived.Test.YtpdknodnlamphaaRr
import Derived.Deep.RegionHeld3
import Derived.DeepKeys
import Derived.Sort.QuietIn
namespace Go.Proofs.Ytpdknodnlamphaa
open Go.RowKit Go.Shelf

attribute [local go_sem] Oper.semAt_some

theorem lits_st {l : List Int} (h : ∀ i, 0 ≤ gt l i ∧ gt l i ≤ 11) : Try.prog.keyLits 2 38 (stV l).cells.toList = some [.int .i64 (gt l 0), .int .i64 (gt l 1), .int .i64 (gt l 2), .int .i64 (gt l 3), .int .i64 (gt l 4)] := by
  have w : ∀ i, (Lit.int .i64 (gt l i)).wf = true := fun i => wf64 (by have := h i; omega)
  unfold Program.keyLits
  simp only [arr38.hu, Value.cells]
  rw [if_pos (by rw [arr38.size]; rfl), show List.range 5 = [0, 1, 2, 3, 4] from rfl]
  simp [List.mapM_cons, List.mapM_nil, arr38.one, Program.keyLits, Try.underlying3, w]
theorem keyAt38 : Try.prog.keyTypeAt 2 38 = true := by kernel_rfl
theorem equal_st {l m : List Int} (hl : ∀ i, 0 ≤ gt l i ∧ gt l i ≤ 11) (hm : ∀ i, 0 ≤ gt m i ∧ gt m i ≤ 11) (W : World) : ∃ r : Bool, (Op.equalIn 10000 38 (stV l) (stV m)).run Try.prog W = .ok r W ∧ (r = true ↔ stV l = stV m) := by
  have f : ∀ x, (stV x).formed Try.prog 38 = true := fun x => by simp [Value.formed, arr38.hu, arr38.size]
  obtain ⟨r, h1, h2⟩ := run_equalIn_deep (P := Try.prog) 9998 2 38 keyAt38 W 2 2 (stV l) (stV m) _ _ (f l) (f m) (lits_st hl) (lits_st hm)
  exact ⟨r, h1, by rw [h2]; simp⟩
theorem equal_yes {l : List Int} (hl : ∀ i, 0 ≤ gt l i ∧ gt l i ≤ 11) (W : World) : (Op.equalIn 10000 38 (stV l) (stV l)).run Try.prog W = .ok true W := by
  obtain ⟨r, h1, h2⟩ := equal_st hl hl W
  rw [h1, h2.2 rfl]
theorem equal_no {l m : List Int} (hl : ∀ i, 0 ≤ gt l i ∧ gt l i ≤ 11) (hm : ∀ i, 0 ≤ gt m i ∧ gt m i ≤ 11) (hlen : l.length = m.length) (h5 : l.length < 6) (hne : l ≠ m) (W : World) : (Op.equalIn 10000 38 (stV l) (stV m)).run Try.prog W = .ok false W := by
  obtain ⟨r, h1, h2⟩ := equal_st hl hm W
  have : r = false := Bool.eq_false_iff.2 (fun e => hne (stV_inj hlen h5 (h2.1 e)))
  rw [h1, this]
/-- ways to stand in a row -/
def rowsG (G : Gd) : List Value := G.flatMap fun g => [.int .i64 (gt g.1 0), .int .i64 (gt g.1 1), .int .i64 (gt g.1 2), .int .i64 (gt g.1 3), .int .i64 (gt g.1 4)]
theorem rowsG_app (G H : Gd) : rowsG (G ++ H) = rowsG G ++ rowsG H := by simp [rowsG]
theorem rowsG_len (G : Gd) : (rowsG G).length = G.length * 5 := by
  induction G with
  | nil => rfl
  | cons g G ih => simp [rowsG] at ih ⊢; omega
theorem rowsG_at : ∀ {G : Gd} {i : Nat} {g : List Int × Nat}, G[i]? = some g → ∀ j, j < 5 → (rowsG G)[i * 5 + j]? = some (.int .i64 (gt g.1 j))
  | [], _, _, h, _, _ => by simp at h
  | x :: G, 0, g, h, j, hj => by
    simp at h
    subst h
    rcases j with _ | _ | _ | _ | _ | j
    · rfl
    · rfl
    · rfl
    · rfl
    · rfl
    · omega
  | x :: G, i + 1, g, h, j, hj => by
    have := rowsG_at (G := G) (i := i) (g := g) (by simpa using h) j hj
    rw [← this, show (i + 1) * 5 + j = i * 5 + j + 1 + 1 + 1 + 1 + 1 by omega]
    rfl
theorem Bf.small {z : Pz} {G : Gd} {i : Nat} (h : Bf z G i) (hE : OkS z z.E) (hn : z.n < 6) {m : List Int} {k : Nat} (hi : G[i]? = some (m, k)) : k + 1 ≤ 248832 := by
  have chain : ∀ d j : Nat, ∀ x : List Int, dst z (j + d) x → ∃ y, dst z j y := by
    intro d
    induction d with
    | zero => exact fun j x hx => ⟨x, hx⟩
    | succ d ih => exact fun j x hx => ih j _ (pick_ok hE (show dst z (j + d + 1) x from hx)).2.2
  have hk := h.ok _ (List.mem_of_getElem? hi)
  have := inj_len (fun j : Nat => j) (List.range (k + 1)) (G.map (·.2)) List.nodup_range (fun j hj => by
    have hj := List.mem_range.1 hj
    obtain ⟨y, hy⟩ := chain (k - j) j m (by rw [show j + (k - j) = k by omega]; exact hk)
    obtain ⟨j', hj'⟩ := h.full hi (by omega) hy.1
    have : j' = j := dst_unique (h.ok _ hj') hy
    exact List.mem_map.2 ⟨_, hj', this⟩) (fun _ _ _ _ e => e)
  have hl := h.few hE hn
  simp at this
  omega
theorem rowsG_one (G : Gd) : ∀ x ∈ rowsG G, x.oneCell' = true := by
  intro x hx
  obtain ⟨g, -, hg⟩ := List.mem_flatMap.1 hx
  simp at hg
  rcases hg with rfl | rfl | rfl | rfl | rfl <;> rfl
theorem info38 : (Try.prog.info? 38).map (fun i => (i.zero, i.size, i.bytes)) = some (some (.agg #[.int .i64 0, .int .i64 0, .int .i64 0, .int .i64 0, .int .i64 0]), 5, 40) := by kernel_rfl
/-- what lies in memory while it is gone through -/
structure Hw (z : Pz) (W : World) (st : List Int) (q : Option Addr) (c B0 bm e6 e7 Bg : Nat) (G : Gd) (v : Value) (V : World) : Prop where
  w : KB V W.heap.size q z.n c z.sl
  s : SR V (W.heap.size + 1) (gt st)
  m : V.cell? ⟨e6, 0, none⟩ = some (.map (some bm))
  f : Boxed V e7 58 v
  r : V.ownsRow Bg 38 5 v G.length (rowsG G)
  mp : MpI V 38 bm (encG G)
  d : Iq B0 V q z.n z.t
  b : Below W.heap.size W V
theorem boxed_keep {V V' : World} {b : Nat} {t : TypeId} {v : Value} (h : Boxed V b t v) (hb : Below V.heap.size V V') : Boxed V' b t v := (hb.block b h.lt).trans h
theorem Hw.keep {z : Pz} {W : World} {st : List Int} {q : Option Addr} {c B0 bm e6 e7 Bg : Nat} {G : Gd} {v : Value} {V V' : World} (h : Hw z W st q c B0 bm e6 e7 Bg G v V) (hb : Below V.heap.size V V') : Hw z W st q c B0 bm e6 e7 Bg G v V' where
  w := h.w.keep hb
  s := h.s.keep hb
  m := keepC hb (World.block_lt_of_cell? V _ h.m) h.m
  f := boxed_keep h.f hb
  r := own_keep h.r hb
  mp := h.mp.keep hb
  d := by
    obtain ⟨b, o, e, h1, h2⟩ := h.d
    exact ⟨b, o, e, h1, fun k hk => keepC hb (World.block_lt_of_cell? V _ (h2 k hk)) (h2 k hk)⟩
  b := h.b.trans (hb.mono h.b.size)
theorem row_own {β : Type} {B Bg n : Nat} {v : Value} {xs : List Value} : OwnFrom B (fun (_ : β) V => V.ownsRow Bg 38 5 v n xs) := fun _ X Y row h hg hr =>
  own_but h (grown_kept (S := fun i => row = some i) hg (fun r e => .inl e)) (fun i hi e => by
    obtain ⟨o, ho, hc⟩ := (hr i e).2
    obtain ⟨cur, fr, e2⟩ := own_tg h hi
    rw [ho] at e2
    cases e2
    cases hc)
theorem Hw.own {β : Type} {B : Nat} {z : Pz} {W : World} {st : List Int} {q : Option Addr} {c B0 bm e6 e7 Bg : Nat} {G : Gd} {v : Value} (hB : W.heap.size ≤ B) (hb : bm < B) : OwnFrom B (fun (_ : β) V => Hw z W st q c B0 bm e6 e7 Bg G v V) := fun u X Y row h hg hr =>
  ⟨⟨Nat.lt_of_lt_of_le h.w.1 hg.size, cell_own u X Y row h.w.2.1 hg hr, cell_own u X Y row h.w.2.2 hg hr⟩, SR.own u X Y row h.s hg hr, cell_own u X Y row h.m hg hr, (boxed_own e7 58 (fun _ : β => v)) u X Y row h.f hg (fun r e => (hr r e).2),
    row_own u X Y row h.r hg hr, MpI.own hb u X Y row h.mp hg hr, by
      obtain ⟨b, o, e, h1, h2⟩ := h.d
      exact ⟨b, o, e, h1, fun k hk => cell_own u X Y row (h2 k hk) hg hr⟩, ownFrom_below (Nat.le_refl _) hB u X Y row h.b hg hr⟩
/-- the marks that loops have left -/
def Mk (B T : Nat) (ds : List Deferred) (V : World) : Prop := ∃ Ds : List Nat, ds = Ds.map mark ∧ Ds.Pairwise (fun a b => b < a) ∧ ∀ D ∈ Ds, (B ≤ D ∧ D < T) ∧ V.heap[D]? = some (.deferred (some []))
theorem Mk.nil (B T : Nat) (V : World) : Mk B T [] V := ⟨[], rfl, by simp, fun D hD => by cases hD⟩
theorem Mk.keep {B T : Nat} {ds : List Deferred} {V V' : World} (h : Mk B T ds V) (hb : Below V.heap.size V V') : Mk B T ds V' := by
  obtain ⟨Ds, e, hp, hD⟩ := h
  exact ⟨Ds, e, hp, fun D hm => ⟨(hD D hm).1, (hb.block D (Array.getElem?_eq_some_iff.1 (hD D hm).2).1).trans (hD D hm).2⟩⟩
theorem Mk.more {B T T' : Nat} {ds : List Deferred} {V : World} (h : Mk B T ds V) (hT : T ≤ T') : Mk B T' ds V := by
  obtain ⟨Ds, e, hp, hD⟩ := h
  exact ⟨Ds, e, hp, fun D hm => ⟨⟨(hD D hm).1.1, by have := (hD D hm).1.2; omega⟩, (hD D hm).2⟩⟩
theorem Mk.cons {B T D : Nat} {ds : List Deferred} {V : World} (h : Mk B T ds V) (hB : B ≤ D) (hT : T ≤ D) (hD : V.heap[D]? = some (.deferred (some []))) : Mk B (D + 1) (mark D :: ds) V := by
  obtain ⟨Ds, e, hp, hDs⟩ := h
  refine ⟨D :: Ds, by rw [e]; rfl, List.pairwise_cons.2 ⟨fun a ha => by have := (hDs a ha).1.2; omega, hp⟩, fun a ha => ?_⟩
  rcases List.mem_cons.1 ha with rfl | ha
  · exact ⟨⟨hB, by omega⟩, hD⟩
  · exact ⟨⟨(hDs a ha).1.1, by have := (hDs a ha).1.2; omega⟩, (hDs a ha).2⟩
theorem Mk.own {β : Type} {B C T : Nat} {ds : List Deferred} (hT : T ≤ C) : OwnFrom C (fun (_ : β) V => Mk B T ds V) := fun _ X Y row h hg hr => by
  obtain ⟨Ds, e, hp, hD⟩ := h
  exact ⟨Ds, e, hp, fun D hm => ⟨(hD D hm).1, (hg.block D (Array.getElem?_eq_some_iff.1 (hD D hm).2).1 (fun e => by have := (hr D e.symm).1; have := (hD D hm).1.2; omega)).trans (hD D hm).2⟩⟩
/-- all are known -/
def AllK (z : Pz) (m : List Int) (G : Gd) (pre : List (Fx z m)) : Prop := ∀ x ∈ pre, Kn G (bh m x.1)
theorem AllK.snoc {z : Pz} {m : List Int} {G : Gd} {pre : List (Fx z m)} (h : AllK z m G pre) {x : Fx z m} (hx : Kn G (bh m x.1)) : AllK z m G (pre ++ [x]) := fun y hy => by
  rcases List.mem_append.1 hy with hy | hy
  · exact h y hy
  · rw [List.mem_singleton.1 hy]; exact hx
/-- one way to stand more is known: what becomes of memory -/
theorem Hw.added {z : Pz} {W : World} {st : List Int} {q : Option Addr} {c B0 N : Nat} {G : Gd} {v : Value} {V V1 : World} {x : List Int} {k : Nat} (hB0 : B0 ≤ W.heap.size) (hN : W.heap.size + 2 ≤ N) (hG : G.length ≤ 248832)
    (h : Hw z W st q c B0 (N + 1) (N + 1 + 1) (N + 1 + 1 + 1 + 1) (N + 1 + 1 + 1) G v V) (hmp : MpI V1 38 (N + 1) (encG G ++ [(stV x, k + 1)])) (hK : Kept (fun i => i = N + 1) V V1) :
    ∃ g cap V2 V3, (Builtin.append_ #[58, 58] 58 #[v, .slice (some ⟨V1.heap.size, 0, none⟩) 1 1]).run Try.prog (V1.alloc (.cells #[.int .i64 (gt x 0), .int .i64 (gt x 1), .int .i64 (gt x 2), .int .i64 (gt x 3), .int .i64 (gt x 4)] 38)) = .ok (.slice (some ⟨g, 0, none⟩) (G.length + 1) cap) V2 ∧
      Boxed V2 (N + 1 + 1 + 1 + 1) 58 v ∧ V2.setCell ⟨N + 1 + 1 + 1 + 1, 0, none⟩ (.slice (some ⟨g, 0, none⟩) (G.length + 1) cap) = V3 ∧ Hw z W st q c B0 (N + 1) (N + 1 + 1) (N + 1 + 1 + 1 + 1) (N + 1 + 1 + 1) (G ++ [(x, k + 1)]) (.slice (some ⟨g, 0, none⟩) (G.length + 1) cap) V3 ∧
      Kept (fun i => i = N + 1 ∨ i = N + 1 + 1 + 1 + 1 ∨ v.ownBlock = some i) V V3 ∧ (v.ownBlock = some g ∨ V1.heap.size + 1 ≤ g) := by
  have hle : ∀ i, v.ownBlock = some i → N + 1 + 1 + 1 ≤ i := fun i hi => (h.r.lt i hi).1
  have hf := h.f.lt
  have f1 : Boxed V1 (N + 1 + 1 + 1 + 1) 58 v := (hK.2.2.2.2 _ hf (by omega)).trans h.f
  have r1 := own_but h.r hK (fun i hi e => by have := hle i hi; omega)
  have ba := bnew V1 (.cells #[.int .i64 (gt x 0), .int .i64 (gt x 1), .int .i64 (gt x 2), .int .i64 (gt x 3), .int .i64 (gt x 4)] 38)
  have y1 := own_lit (B := 0) (e := 38) (z := 5) (k := 1) V1 #[.int .i64 (gt x 0), .int .i64 (gt x 1), .int .i64 (gt x 2), .int .i64 (gt x 3), .int .i64 (gt x 4)] (Nat.zero_le _) (by unfold maxLen; omega) rfl
  have f2 := boxed_keep f1 ba
  have r2 := own_keep r1 ba
  have m2 := hmp.keep ba
  have hsa : (V1.alloc (.cells #[.int .i64 (gt x 0), .int .i64 (gt x 1), .int .i64 (gt x 2), .int .i64 (gt x 3), .int .i64 (gt x 4)] 38)).heap.size = V1.heap.size + 1 := by simp
  have Ka := hK.below ba
  generalize V1.alloc (.cells #[.int .i64 (gt x 0), .int .i64 (gt x 1), .int .i64 (gt x 2), .int .i64 (gt x 3), .int .i64 (gt x 4)] 38) = Va at *
  have hsz := hK.size
  obtain ⟨v', V2, ha, ro, gr, hat⟩ := app_any (t := 58) (e := 38) (ty := 58) Try.underlying58 info38 rfl (by decide) r2 y1 (by simp [Value.oneCell']) (by unfold maxLen; omega) (by omega) (by omega)
  obtain ⟨g, cap, rfl⟩ := own_slice ro (by omega)
  have hv' : Value.ownBlock (.slice (some ⟨g, 0, none⟩) (G.length + 1) cap) = some g := rfl
  have f3 : Boxed V2 (N + 1 + 1 + 1 + 1) 58 v := f2.kept gr (f2.not_row (by decide) r2)
  have K2 : Kept (fun i => i = N + 1 ∨ v.ownBlock = some i) V V2 := (Ka.more (fun i hi => .inl (.inl hi))).trans (grown_kept gr (fun r e => .inl (.inr e)))
  have m3 := m2.other gr (fun e => by have := hle _ e.symm; omega)
  have hne : N + 1 + 1 + 1 + 1 ≠ g := fun e => f3.not_row (by decide) ro (by rw [hv', e])
  have K3 : Kept (fun i => i = N + 1 ∨ i = N + 1 + 1 + 1 + 1 ∨ v.ownBlock = some i) V (V2.setCell ⟨N + 1 + 1 + 1 + 1, 0, none⟩ (.slice (some ⟨g, 0, none⟩) (G.length + 1) cap)) := (K2.more (fun i hi => by rcases hi with e | e; exact .inl (.inl e); exact .inl (.inr (.inr e)))).set 0 _ (.inl (.inr (.inl rfl)))
  have ks := kset V2 (N + 1 + 1 + 1 + 1) 0 (.slice (some ⟨g, 0, none⟩) (G.length + 1) cap)
  have out : ∀ i, i < N + 1 → ¬ (i = N + 1 ∨ i = N + 1 + 1 + 1 + 1 ∨ v.ownBlock = some i) := fun i hi e => by
    rcases e with e | e | e
    · omega
    · omega
    · have := hle i e; omega
  refine ⟨g, cap, V2, _, ha, f3, rfl, ⟨?_, h.s.kept K3 (out _ (by omega)), ?_, f3.set _, ?_, ?_, ?_, K3.back h.b (h.b.size) (fun i hi => by
    rcases hi with e | e | e
    · omega
    · omega
    · have := hle i e; omega)⟩, K3, ?_⟩
  · exact ⟨Nat.lt_of_lt_of_le h.w.1 K3.size, K3.cell h.w.1 (out _ (by omega)) h.w.2.1, K3.cell h.w.1 (out _ (by omega)) h.w.2.2⟩
  · refine K3.cell (World.block_lt_of_cell? V _ h.m) (fun e => ?_) h.m
    rcases e with e | e | e
    · omega
    · omega
    · have := hle _ e; omega
  · rw [List.length_append, rowsG_app]
    exact own_but ro ks (fun i hi e => hne (by rw [hv'] at hi; rw [← e]; exact (Option.some.inj hi).symm))
  · rw [show encG (G ++ [(x, k + 1)]) = encG G ++ [(stV x, k + 1)] by simp [encG]]
    exact m3.block (ks.2.2.2.2 _ m3.lt (by omega))
  · obtain ⟨b, o, e, hb, hc⟩ := h.d
    exact ⟨b, o, e, hb, fun j hj => K3.cell (World.block_lt_of_cell? V _ (hc j hj)) (out _ (by omega)) (hc j hj)⟩
  · rcases hat with e | e
    · exact .inl (by rw [← e]; rfl)
    · exact .inr (by rw [hv'] at e; have := Option.some.inj e; omega)
/-- what lies in memory between two rounds -/
def Rw (z : Pz) (W : World) (st : List Int) (q : Option Addr) (c B0 N : Nat) (m : List Int) (k i e8 n2 : Nat) (ds : List Deferred) (pre : List (Fx z m)) (V : World) : Prop :=
  ∃ G v, Hw z W st q c B0 (N + 1) (N + 1 + 1) (N + 1 + 1 + 1 + 1) (N + 1 + 1 + 1) G v V ∧ Boxed V e8 3 (.int .i64 (i : Nat)) ∧ Mk (N + 1 + 1 + 1) n2 ds V ∧ Bf z G i ∧ G[i]? = some (m, k) ∧ AllK z m G pre ∧ ∀ g, v.ownBlock = some g → g < n2 ∨ n2 + 8 ≤ g
theorem Rw.own {z : Pz} {W : World} {st : List Int} {q : Option Addr} {c B0 N : Nat} {m : List Int} {k i e8 n2 B : Nat} {ds : List Deferred} (hB : W.heap.size ≤ B) (hb : N + 1 < B) (hn : n2 ≤ B) : OwnFrom B (Rw z W st q c B0 N m k i e8 n2 ds) := fun u X Y row h hg hr => by
  obtain ⟨G, v, h1, h2, h3, h4, h5, h6, h7⟩ := h
  exact ⟨G, v, Hw.own hB hb u X Y row h1 hg hr, (boxed_own e8 3 (fun _ : List (Fx z m) => _)) u X Y row h2 hg (fun r e => (hr r e).2), Mk.own hn u X Y row h3 hg hr, h4, h5, h6, h7⟩
/-- a function that leaves with marks: they are shut one by one -/
theorem leave_marks {fn : Func} {tmps : Array Value} {R : Ending → World → Prop} {B T : Nat} {X : World → Prop} (hX : ∀ V D, B ≤ D → X V → V.heap[D]? = some (.deferred (some [])) → X (V.putObj D (.deferred none))) (hL : ∀ V, X V → LeavesIn Fence.wide 9 Try.prog fn tmps R [] .returning V) :
    ∀ (ds : List Deferred) (V : World), Mk B T ds V → X V → LeavesInM Fence.wide 9 Try.prog fn tmps R ds .returning V := by
  have go : ∀ (Ds : List Nat) (V : World), Ds.Pairwise (fun a b => b < a) → (∀ D ∈ Ds, (B ≤ D ∧ D < T) ∧ V.heap[D]? = some (.deferred (some []))) → X V → LeavesInM Fence.wide 9 Try.prog fn tmps R (Ds.map mark) .returning V := by
    intro Ds
    induction Ds with
    | nil => exact fun V _ _ hx => hL V hx
    | cons D Ds ih =>
      intro V hp hD hx
      rw [List.pairwise_cons] at hp
      have h0 := hD D (by simp)
      refine ⟨by simp, .inl ⟨D, _, rfl, run_takeDeferred h0.2, ih _ hp.2 (fun a ha => ⟨(hD a (by simp [ha])).1, ?_⟩) (hX V D h0.1.1 hx h0.2)⟩⟩
      have := hp.1 a ha
      rw [World.putObj_heap_other (by omega)]
      exact (hD a (by simp [ha])).2
  rintro ds V ⟨Ds, rfl, hp, hD⟩ hx
  exact go Ds V hp hD hx
/-- one way out alone -/
def Just (a0 : Act) (w0 : World) : Exit → Act → World → Prop
  | .normal, a, w => a = a0 ∧ w = w0
  | _, _, _ => False
theorem lit66 (T : Array Value) (h : T.size = 66) (v0 v1 v2 v3 v4 v5 v6 v7 v8 : Value) (h0 : T.getD 0 undef = v0) (h1 : T.getD 1 undef = v1) (h2 : T.getD 2 undef = v2) (h3 : T.getD 3 undef = v3) (h4 : T.getD 4 undef = v4) (h5 : T.getD 5 undef = v5) (h6 : T.getD 6 undef = v6) (h7 : T.getD 7 undef = v7) (h8 : T.getD 8 undef = v8) :
    ∃ u : Nat → Value, T = #[v0, v1, v2, v3, v4, v5, v6, v7, v8, u 9, u 10, u 11, u 12, u 13, u 14, u 15, u 16, u 17, u 18, u 19, u 20, u 21, u 22, u 23, u 24, u 25, u 26, u 27, u 28, u 29, u 30, u 31, u 32, u 33, u 34, u 35, u 36, u 37, u 38, u 39, u 40, u 41, u 42, u 43, u 44, u 45, u 46, u 47, u 48, u 49, u 50, u 51, u 52, u 53, u 54, u 55, u 56, u 57, u 58, u 59, u 60, u 61, u 62, u 63, u 64, u 65] := by
  refine ⟨fun i => T.getD i undef, ?_⟩
  subst h0 h1 h2 h3 h4 h5 h6 h7 h8
  have e : T = ((List.range 66).map fun i => T.getD i undef).toArray := by
    refine Array.ext (by simp [h]) fun i h1 h2 => ?_
    simp [Array.getD, h1]
  exact e
/-- the frame of howFar, where its loop stands -/
def Fr66 (T : Array Value) (v0 v1 v2 v3 v4 v5 v6 v7 v8 : Value) : Prop := T.size = 66 ∧ T.getD 0 undef = v0 ∧ T.getD 1 undef = v1 ∧ T.getD 2 undef = v2 ∧ T.getD 3 undef = v3 ∧ T.getD 4 undef = v4 ∧ T.getD 5 undef = v5 ∧ T.getD 6 undef = v6 ∧ T.getD 7 undef = v7 ∧ T.getD 8 undef = v8
/-- the place that has been come to -/
def ixOf (a : Act) (V : World) : Nat := match a.tmps.getD 8 undef with
  | .pointer (some p) => (intOf ((V.cell? p).getD undef)).toNat
  | _ => 0

/-- what is known where the loop of howFar stands -/
def HfI (z : Pz) (W : World) (st : List Int) (q : Option Addr) (c B0 N : Nat) (a : Act) (V : World) : Prop := ∃ (e8 i : Nat) (G : Gd) (v : Value), Fr66 a.tmps (wkV q z.n c z.sl) (stV st) (.pointer (some ⟨W.heap.size, 0, none⟩)) (.pointer (some ⟨W.heap.size + 1, 0, none⟩)) (.map none) (.pointer (some ⟨N, 0, none⟩)) (.pointer (some ⟨N + 1 + 1, 0, none⟩)) (.pointer (some ⟨N + 1 + 1 + 1 + 1, 0, none⟩)) (.pointer (some ⟨e8, 0, none⟩)) ∧
      N + 1 + 1 + 1 + 1 + 1 ≤ e8 ∧ Boxed V e8 3 (.int .i64 (i : Nat)) ∧ Hw z W st q c B0 (N + 1) (N + 1 + 1) (N + 1 + 1 + 1 + 1) (N + 1 + 1 + 1) G v V ∧ Mk (N + 1 + 1 + 1) V.heap.size a.defers V ∧ Bf z G i ∧ i ≤ G.length
end Go.Proofs.Ytpdknodnlamphaa
