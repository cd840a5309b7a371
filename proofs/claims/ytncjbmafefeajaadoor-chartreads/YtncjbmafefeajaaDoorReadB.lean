/-
  What wrongRow and readRows of package chart answer.
-/
import Derived.Test.YtncjbmafefeajaaDoorReadA
namespace Go.Proofs.YtncjbmafefeajaaDoor
open Go.RowKit

/-- what is wrong with a row behind others -/
def wrongR (rows : List (List Int)) (cs : List Int) : Int := if rows ≠ [] ∧ cs.length ≠ (rows.headD []).length then 8 else if 64 < cs.length ∨ 64 ≤ rows.length then 5 else 0
def wrongN (k n0 n : Nat) : Int := if 0 < k ∧ n ≠ n0 then 8 else if 64 < n ∨ 64 ≤ k then 5 else 0

set_option maxHeartbeats 2000000 in
theorem wrongRow_none (q : Option Addr) (n c : Nat) (W : World) (hn : n ≤ 65536) : Calls Tryd.prog 21 #[.slice none 0 0, .slice q n c] W fun e w' => e = .returned (.int .i64 (wrongN 0 0 n)) ∧ w' = W := by
  by_cases h : 64 < n
  · have e := hide (show wrongN 0 0 n = 5 by simp [wrongN, h])
    have h' : (64 : Int) < n := by omega
    go_enter Tryd.func21, Tryd.ntmps21
    go_wp2
    go_ret
    exact ⟨ret_int (unhide e).symm, rfl⟩
  · have e := hide (show wrongN 0 0 n = 0 by simp [wrongN, h])
    have h' : ¬ (64 : Int) < n := by omega
    have h'' : decide ((64 : Int) < n) = false := by simp; omega
    go_enter Tryd.func21, Tryd.ntmps21
    go_wp2
    go_ret
    exact ⟨ret_int (unhide e).symm, rfl⟩

set_option maxHeartbeats 2000000 in
theorem wrongRow_some (g k cap n0 c0 n c : Nat) (q0 q : Option Addr) (W : World) (hn : n ≤ 65536) (hn0 : n0 ≤ 65536) (hk : 1 ≤ k ∧ k ≤ 65536) (hc : W.cell? ⟨g, 0, none⟩ = some (.slice q0 n0 c0)) :
    Calls Tryd.prog 21 #[.slice (some ⟨g, 0, none⟩) k cap, .slice q n c] W fun e w' => e = .returned (.int .i64 (wrongN k n0 n)) ∧ w' = W := by
  have hk0 : (0 : Int) < k := by omega
  have hk1 : 0 < k := by omega
  by_cases h0 : n = n0
  · subst h0
    by_cases h : 64 < n
    · have e := hide (show wrongN k n n = 5 by simp [wrongN, h])
      have h' : (64 : Int) < n := by omega
      go_enter Tryd.func21, Tryd.ntmps21
      go_wp2
      go_ret
      exact ⟨ret_int (unhide e).symm, rfl⟩
    · have h' : ¬ (64 : Int) < n := by omega
      have h'' : decide ((64 : Int) < n) = false := by simp; omega
      by_cases h3 : 64 ≤ k
      · have e := hide (show wrongN k n n = 5 by simp [wrongN, h3])
        have h4 : (64 : Int) ≤ k := by omega
        go_enter Tryd.func21, Tryd.ntmps21
        go_wp2
        go_ret
        exact ⟨ret_int (unhide e).symm, rfl⟩
      · have e := hide (show wrongN k n n = 0 by simp [wrongN, h3, h])
        have h4 : ¬ (64 : Int) ≤ k := by omega
        have h5 : decide ((64 : Int) ≤ k) = false := by simp; omega
        go_enter Tryd.func21, Tryd.ntmps21
        go_wp2
        go_ret
        exact ⟨ret_int (unhide e).symm, rfl⟩
  · have e := hide (show wrongN k n0 n = 8 by simp [wrongN, h0, hk1])
    have h1 : ((n : Int) != (n0 : Int)) = true := by simp; omega
    clear h0
    go_enter Tryd.func21, Tryd.ntmps21
    go_wp2
    go_ret
    exact ⟨ret_int (unhide e).symm, rfl⟩

/-! ### rows -/
theorem info22 : (Tryd.prog.info? 25).map (fun i => (i.zero, i.size, i.bytes)) = some (some (.slice none 0 0), 1, 24) := by kernel_rfl
/-- rows one behind the other -/
def RowsPre (s : ByteArray) (a : Nat) (rows : List (List Int)) (p : Nat) : Prop := ∀ P : List (List Int) → Nat → Prop, P [] a → (∀ (rows : List (List Int)) (p e : Nat) (cs : List Int), P rows p → Pre s p cs e → signAt s e = none → cs ≠ [] → lf s e = true → wrongR rows cs = 0 → P (rows ++ [cs]) (e + 1)) → P rows p
theorem RowsPre.nil {s : ByteArray} {a : Nat} : RowsPre s a [] a := fun _ h _ => h
theorem RowsPre.snoc {s : ByteArray} {a : Nat} {rows : List (List Int)} {p e : Nat} {cs : List Int} (h : RowsPre s a rows p) (h1 : Pre s p cs e) (h2 : signAt s e = none) (h3 : cs ≠ []) (h4 : lf s e = true) (h5 : wrongR rows cs = 0) : RowsPre s a (rows ++ [cs]) (e + 1) := fun P p0 p1 => p1 _ _ _ _ (h P p0 p1) h1 h2 h3 h4 h5
theorem RowsPre.ind {s : ByteArray} {a : Nat} {motive : (rows : List (List Int)) → (p : Nat) → RowsPre s a rows p → Prop} (nil : motive [] a RowsPre.nil)
    (snoc : ∀ {rows : List (List Int)} {p e : Nat} {cs : List Int} (h : RowsPre s a rows p) (h1 : Pre s p cs e) (h2 : signAt s e = none) (h3 : cs ≠ []) (h4 : lf s e = true) (h5 : wrongR rows cs = 0), motive rows p h → motive (rows ++ [cs]) (e + 1) (RowsPre.snoc h h1 h2 h3 h4 h5)) {rows : List (List Int)} {p : Nat} (h : RowsPre s a rows p) : motive rows p h := by
  have : ∃ h', motive rows p h' := h (fun rows p => ∃ h', motive rows p h') ⟨_, nil⟩ (fun _ _ _ _ ⟨h1, m⟩ h2 h3 h4 h5 h6 => ⟨_, snoc h1 h2 h3 h4 h5 h6 m⟩)
  obtain ⟨_, m⟩ := this
  exact m
theorem lf_lt {s : ByteArray} {p : Nat} (h : lf s p = true) : p < s.size := by
  unfold lf at h
  by_cases hp : p < s.data.size
  · exact hp
  · rw [Array.getElem?_eq_none (by omega)] at h
    cases h
theorem RowsPre.range {s : ByteArray} {a p : Nat} {rows : List (List Int)} (h : RowsPre s a rows p) : (a ≤ s.size → p ≤ s.size) ∧ rows.length ≤ 64 ∧ (∀ cs ∈ rows, 1 ≤ cs.length ∧ cs.length ≤ 64 ∧ cs.length = (rows.headD []).length ∧ ∀ c ∈ cs, 0 ≤ c ∧ c ≤ 61) := by
  induction h using RowsPre.ind with
  | nil => simp
  | @snoc rows p e cs h1 h2 h3 h4 h5 h6 ih =>
    have hlt := lf_lt h5
    have hw : ¬ (rows ≠ [] ∧ cs.length ≠ (rows.headD []).length) ∧ ¬ (64 < cs.length ∨ 64 ≤ rows.length) := by
      unfold wrongR at h6
      split at h6
      · omega
      · split at h6
        · omega
        · constructor <;> assumption
    have hc1 : 1 ≤ cs.length := by
      rcases cs with _ | ⟨c, cs⟩
      · exact absurd rfl h4
      · simp
    refine ⟨fun _ => by omega, by simp; omega, fun x hx => ?_⟩
    have hhead : ((rows ++ [cs]).headD []).length = if rows = [] then cs.length else (rows.headD []).length := by
      rcases rows with _ | ⟨r, rs⟩ <;> simp
    rw [hhead]
    simp at hx
    rcases hx with hx | rfl
    · have hne : rows ≠ [] := fun e => by rw [e] at hx; simp at hx
      rw [if_neg hne]
      exact ih.2.2 x hx
    · refine ⟨hc1, by omega, ?_, h2.range.2.2⟩
      split
      · rfl
      · rename_i hne
        have := hw.1
        by_cases he : x.length = (rows.headD []).length
        · exact he
        · exact absurd ⟨hne, he⟩ this
/-- the rows that were read, in memory -/
def RowsAt (W : World) (B : Nat) (vs : List Value) (rows : List (List Int)) : Prop := vs.length = rows.length ∧ ∀ (j : Nat) (v : Value) (cs : List Int), vs[j]? = some v → rows[j]? = some cs → W.ownsRow B 3 1 v cs.length (intsV cs)
theorem RowsAt.keep {W w1 : World} {B : Nat} {vs : List Value} {rows : List (List Int)} (h : RowsAt W B vs rows) (hb : Below W.heap.size W w1) : RowsAt w1 B vs rows := ⟨h.1, fun j v cs h1 h2 => own_keep (h.2 j v cs h1 h2) hb⟩
theorem kinds_ne {w : World} {B : Nat} {e e' : TypeId} {v u : Value} {n m : Nat} {xs ys : List Value} (h : w.ownsRow B e 1 v n xs) (k : w.ownsRow B e' 1 u m ys) (hne : e ≠ e') : v.ownBlock = none ∨ v.ownBlock ≠ u.ownBlock := by
  cases hv : v.ownBlock with
  | none => exact Or.inl rfl
  | some g =>
    refine Or.inr fun hu => ?_
    obtain ⟨c, fz, hc⟩ := Lib.ownsRow_kind h g hv
    obtain ⟨c', fz', hc'⟩ := Lib.ownsRow_kind k g hu.symm
    rw [hc] at hc'
    cases hc'
    exact hne rfl
theorem RowsAt.grown {W w1 : World} {B : Nat} {vs ys : List Value} {rows : List (List Int)} {v : Value} {n : Nat} {o : Obj} (h : RowsAt W B vs rows) (hv : W.ownsRow B 25 1 v n ys) (hg : (W.alloc o).grownBy w1 v.ownBlock) : RowsAt w1 B vs rows :=
  ⟨h.1, fun j u cs h1 h2 => ((h.2 j u cs h1 h2).alloc o).kept hg (kinds_ne (h.2 j u cs h1 h2) hv (by decide))⟩
theorem RowsAt.snoc {W : World} {B : Nat} {vs : List Value} {rows : List (List Int)} {v : Value} {cs : List Int} (h : RowsAt W B vs rows) (hv : W.ownsRow B 3 1 v cs.length (intsV cs)) : RowsAt W B (vs ++ [v]) (rows ++ [cs]) := by
  refine ⟨by simp [h.1], fun j u ds h1 h2 => ?_⟩
  by_cases hj : j < vs.length
  · rw [List.getElem?_append_left hj] at h1
    rw [List.getElem?_append_left (by have := h.1; omega)] at h2
    exact h.2 j u ds h1 h2
  · have e : j = vs.length := by
      have := (List.getElem?_eq_some_iff.1 h1).1
      simp at this
      omega
    subst e
    simp at h1
    rw [h.1] at h2
    simp at h2
    subst h1 h2
    exact hv
/-- a fault in a box -/
def OwnW (W : World) (b : Nat) (x y : Int) : Prop := b < W.heap.size ∧ (W.cell? ⟨b, 0, none⟩ = some (.int .i64 x) ∧ W.cell? ⟨b, 1, none⟩ = some (.int .i64 y)) ∧ W.frozen? ⟨b, 0, none⟩ = false ∧ W.frozen? ⟨b, 1, none⟩ = false
theorem OwnW.below {W w1 : World} {B b : Nat} {x y : Int} (h : OwnW W b x y) (hb : Below B W w1) (hB : b < B) : OwnW w1 b x y :=
  ⟨by have := hb.size; have := h.1; omega, ⟨by rw [hb.cell (p := ⟨b, 0, none⟩) hB]; exact h.2.1.1, by rw [hb.cell (p := ⟨b, 1, none⟩) hB]; exact h.2.1.2⟩, by rw [hb.frozen (p := ⟨b, 0, none⟩) hB]; exact h.2.2.1, by rw [hb.frozen (p := ⟨b, 1, none⟩) hB]; exact h.2.2.2⟩
theorem OwnW.new (W : World) (x y : Int) (t : TypeId) : OwnW (W.alloc (.cells #[.int .i64 x, .int .i64 y] t)) W.heap.size x y :=
  ⟨by simp, ⟨by simp [go_sem], by simp [go_sem]⟩, by simp [go_sem], by simp [go_sem]⟩

/-- how reading the rows ends -/
def RowsEnd (s : ByteArray) (a : Nat) (B : Nat) (v : Value) (er at' : Int) (w' : World) : Prop :=
  (er = 0 ∧ at' = 0 ∧ ∃ rows p vs, RowsPre s a rows p ∧ rows ≠ [] ∧ ¬ p < s.size ∧ w'.ownsRow B 25 1 v rows.length vs ∧ RowsAt w' B vs rows) ∨
  (v = .slice none 0 0 ∧ ∃ rows p cs e, RowsPre s a rows p ∧ (rows = [] ∨ p < s.size) ∧ Pre s p cs e ∧ signAt s e = none ∧
    ((cs = [] ∨ lf s e = false) ∧ er = 2 ∧ at' = e ∨ (cs ≠ [] ∧ lf s e = true) ∧ wrongR rows cs ≠ 0 ∧ er = wrongR rows cs ∧ at' = p))

theorem own_form {B : Nat} {e : TypeId} {n : Nat} {xs : List Value} {v : Value} {w : World} (h : w.ownsRow B e 1 v n xs) : ∃ q cap, v = .slice q n cap := by
  exact h.2.elim (fun k => ⟨none, 0, by rw [k.1, k.2]⟩) (fun ⟨g, c, _, k⟩ => ⟨some ⟨g, 0, none⟩, c, k.1⟩)
theorem wrongRow_any (rows : List (List Int)) (vs : List Value) (q qv : Option Addr) (k cap c B : Nat) (cs : List Int) (W : World) (hk : k = rows.length) (hown : W.ownsRow B 25 1 (.slice q k cap) k vs) (hrows : RowsAt W B vs rows) (h0 : rows = [] → q = none ∧ cap = 0) (hl : ∀ cs ∈ rows, cs.length ≤ 64) (hk64 : k ≤ 64) (hn : cs.length ≤ 65536) :
    Calls Tryd.prog 21 #[.slice q k cap, .slice qv cs.length c] W fun e w' => e = .returned (.int .i64 (wrongR rows cs)) ∧ w' = W := by
  rcases rows with _ | ⟨r, rs⟩
  · obtain ⟨rfl, rfl⟩ := h0 rfl
    simp at hk
    subst hk
    have := wrongRow_none qv cs.length c W hn
    simpa [wrongR, wrongN] using this
  · simp at hk
    obtain ⟨g, cap', e⟩ := own_slice hown (by omega)
    cases e
    rcases vs with _ | ⟨v0, vs'⟩
    · have := hrows.1; simp at this
    · have hv0 := hrows.2 0 v0 r rfl rfl
      obtain ⟨q0, c0, rfl⟩ := own_form hv0
      have hc : W.cell? ⟨g, 0, none⟩ = some (.slice q0 r.length c0) := by rw [hown.cellAt 0 (by omega)]; rfl
      have := wrongRow_some g k cap r.length c0 cs.length c q0 qv W hn (by have := hl r (by simp); omega) (by omega) hc
      rw [show wrongR (r :: rs) cs = wrongN k r.length cs.length by simp [wrongR, wrongN, hk]]
      exact this

theorem S1w {W w0 w1 : World} (h : Below (W.heap.size + 1) w0 w1) (hw : w0.heap.size = W.heap.size + 1) : Below w0.heap.size w0 w1 := by rw [hw]; exact h

set_option maxHeartbeats 4000000 in
set_option maxRecDepth 100000 in
theorem readRows_any (s : ByteArray) (a : Nat) (W : World) (hs : s.size ≤ 65536) (ha : a ≤ s.size) (hT : Tabs W) :
    Calls Tryd.prog 15 #[.string s, .int .i64 a] W fun e w' => ∃ v er at', e = .returned (.tuple #[v, .agg #[.int .i64 er, .int .i64 at']]) ∧ RowsEnd s a (W.heap.size + 1) v er at' w' ∧ Below W.heap.size W w' := by
  obtain ⟨i0, hi, hz0, hz1, hz2⟩ := info_parts info22
  have HT := hide (hT.keep (bal (o := .cells #[.int .i64 0, .int .i64 0] 30) (Below.refl _ _)))
  have HF := hide (OwnW.new W 0 0 30)
  have HB := hide (bal (o := .cells #[.int .i64 0, .int .i64 0] 30) (Below.refl W.heap.size W))
  clear hT
  go_enter Tryd.func15, Tryd.ntmps15
  go_wp2
  have hw0 : (W.alloc (.cells #[.int .i64 0, .int .i64 0] 30)).heap.size = W.heap.size + 1 := by simp
  generalize W.alloc (.cells #[.int .i64 0, .int .i64 0] 30) = w0 at *
  go_loopw [1, 6] (fun i v wr => ∃ (p k cap : Nat) (q : Option Addr) (rows : List (List Int)) (vs : List Value), i = .int .i64 p ∧ v = .slice q k cap ∧ k = rows.length ∧ (rows = [] → q = none ∧ cap = 0) ∧ RowsPre s a rows p ∧ wr.ownsRow (W.heap.size + 1) 25 1 (.slice q k cap) k vs ∧ RowsAt wr (W.heap.size + 1) vs rows ∧ Below (W.heap.size + 1) w0 wr) (fun i _ _ => s.size + 1 - (intOf i).toNat)
  case atStart => exact ⟨a, 0, 0, none, [], [], rfl, rfl, rfl, fun _ => ⟨rfl, rfl⟩, .nil, World.ownsRow_nil _ _ _ _, ⟨rfl, fun j v cs h => by simp at h⟩, Below.refl _ _⟩
  case round =>
    obtain ⟨p, k, cap, q, rows, vs, rfl, rfl, hkl, hq0, hpre, hown, hrows, hbel⟩ := hrel
    have hr := hpre.range
    have hp := hr.1 ha
    have hk : k ≤ 64 := by have := hr.2.1; omega
    have Hpre := hide hpre
    have Hwide := hide (show ∀ cs ∈ rows, cs.length ≤ 64 from fun cs hc => (hr.2.2 cs hc).2.1)
    have Hq0 := hide hq0
    have Hkl := hide hkl
    clear hr hpre hq0 hkl
    have hF := (unhide HF).below hbel (by omega)
    have HS := hide (readSigns_any s p wr hs hp ((unhide HT).keep (hw0 ▸ hbel)))
    by_cases hkz : k = 0
    · have Hgo := hide (show rows = [] ∨ p < s.size from Or.inl (List.length_eq_zero_iff.1 (by rw [← unhide Hkl]; exact hkz)))
      subst hkz
      go_wp2_with fail
      refine (unhide HS).mono ?_
      rintro e w1 ⟨vc, cs, e1, rfl, hcs, hstop, hownc, hb⟩
      have own1 := own_keep hown hb
      have rows1 := hrows.keep hb
      have S1 := hbel.trans (hb.mono (by have := hbel.size; omega))
      have ownc := Joins.ownsRow_le hownc (show W.heap.size + 1 ≤ wr.heap.size by have := hbel.size; omega)
      have hF1 := hF.below hb hF.1
      have hrc := hcs.range
      have hcl : cs.length ≤ 65536 := by have := hrc.2.1 hp; omega
      have he1 : e1 ≤ s.size := hrc.2.1 hp
      have hpe : p ≤ e1 := by omega
      have Hcs := hide hcs
      have Hstop := hide hstop
      clear hown hrows hbel hb hownc HS hF hrc hcs hstop
      obtain ⟨qv, c, rfl⟩ := own_form ownc
      have HL := hide (fun W => lineEnds_any s e1 W)
      by_cases hz : cs.length = 0
      · have hcz : cs = [] := List.length_eq_zero_iff.1 hz
        have hzz : ((cs.length : Int) == 0) = true := by simp [hz]
        have f1 := hF1.2
        go_wp2
        exact bodyPost_ret (v := .tuple #[.slice none 0 0, .agg #[.int .i64 2, .int .i64 e1]]) (by simp [results, Tryd.results15, go_sem, f1]) rfl ⟨_, 2, e1, rfl, Or.inr ⟨rfl, rows, p, cs, e1, unhide Hpre, unhide Hgo, unhide Hcs, unhide Hstop, Or.inl ⟨Or.inl hcz, rfl, rfl⟩⟩, bset (bset (btrans (unhide HB) (S1w S1 hw0)) (by dsimp only; omega)) (by dsimp only; omega)⟩
      · have Hcz := hide (show cs ≠ [] from fun h => hz (by rw [h]; rfl))
        have hzz : ((cs.length : Int) == 0) = false := by simp [hz]
        cases hl : lf s e1 with
        | false =>
          rw [hl] at HL
          have f1 := hF1.2
          go_wp2_with fail
          refine (unhide HL _).mono ?_
          rintro e w2 ⟨rfl, rfl⟩
          go_wp2
          exact bodyPost_ret (v := .tuple #[.slice none 0 0, .agg #[.int .i64 2, .int .i64 e1]]) (by simp [results, Tryd.results15, go_sem, f1]) rfl ⟨_, 2, e1, rfl, Or.inr ⟨rfl, rows, p, cs, e1, unhide Hpre, unhide Hgo, unhide Hcs, unhide Hstop, Or.inl ⟨Or.inr hl, rfl, rfl⟩⟩, bset (bset (btrans (unhide HB) (S1w S1 hw0)) (by dsimp only; omega)) (by dsimp only; omega)⟩
        | true =>
          rw [hl] at HL
          have Hl := hide hl
          clear hl
          have HW := hide (wrongRow_any rows vs q qv 0 cap c (W.heap.size + 1) cs w1 (unhide Hkl) own1 rows1 (unhide Hq0) (unhide Hwide) hk hcl)
          by_cases hwr : wrongR rows cs = 0
          · rw [hwr] at HW
            have Hwr := hide hwr
            clear hwr
            go_wp2_with fail
            refine (unhide HL _).mono ?_
            rintro e w2 ⟨rfl, rfl⟩
            go_wp2_with fail
            refine (unhide HW).mono ?_
            rintro e w2 ⟨rfl, rfl⟩
            have hs1 := S1.size
            go_wp2_with (at_builtin; refine wpList_append_own _ rfl _ _ 45 rfl (W.heap.size + 1) 25 i0 (.slice none 0 0) 1 24 Tryd.underlying45 hi hz0 hz1 hz2 rfl (by decide) _ _ _ rfl (own1.alloc _) ⟨w2.heap.size, 0, none⟩ 1 1 [.slice qv cs.length c] rfl rfl ?at_ ?one_ ?max_ ?fit_ ?base_ ?_)
            case base_ => rw [show (w2.alloc _).heap.size = w2.heap.size + 1 by simp]; omega
            case fit_ => omega
            case max_ => unfold maxLen; omega
            case one_ => exact fun u hu => by rw [List.mem_singleton.1 hu]; rfl
            case at_ =>
              intro j u hj
              cases j with
              | succ j => simp at hj
              | zero =>
                have hu : Value.slice qv cs.length c = u := Option.some.inj hj
                rw [← hu]
                simp [Addr.add]
            intro v' w3 hown' hgrow _
            have S3 := (S1.alloc (by omega) _).grown hgrow (by simp; omega) (fun k hk => (own1.lt k hk).1)
            have rows3 := (rows1.snoc ownc).grown own1 hgrow
            obtain ⟨g', cap', rfl⟩ := own_slice hown' (by omega)
            clear S1 rows1 own1 ownc hgrow hF1
            go_wp2
            go_roundw
            case rel => exact ⟨e1 + 1, 0 + 1, cap', _, rows ++ [cs], _, by go_num, rfl, by simp [unhide Hkl], fun h => by simp at h, .snoc (unhide Hpre) (unhide Hcs) (unhide Hstop) (unhide Hcz) (unhide Hl) (unhide Hwr), hown', rows3, S3⟩
            case measure => simp [intOf]; omega
          · have hw1 : (wrongR rows cs != 0) = true := by simp [hwr]
            have Hwr := hide hwr
            clear hwr
            generalize hwe : wrongR rows cs = er at *
            have f1 := hF1.2
            go_wp2_with fail
            refine (unhide HL _).mono ?_
            rintro e w2 ⟨rfl, rfl⟩
            go_wp2_with fail
            refine (unhide HW).mono ?_
            rintro e w2 ⟨rfl, rfl⟩
            go_wp2
            exact bodyPost_ret (v := .tuple #[.slice none 0 0, .agg #[.int .i64 er, .int .i64 p]]) (by simp [results, Tryd.results15, go_sem, f1]) rfl ⟨_, er, p, rfl, Or.inr ⟨rfl, rows, p, cs, e1, unhide Hpre, unhide Hgo, unhide Hcs, unhide Hstop, Or.inr ⟨⟨unhide Hcz, unhide Hl⟩, by rw [hwe]; exact unhide Hwr, hwe.symm, rfl⟩⟩, bset (bset (btrans (unhide HB) (S1w S1 hw0)) (by dsimp only; omega)) (by dsimp only; omega)⟩
    · by_cases hps0 : p < s.size
      · have Hgo := hide (show rows = [] ∨ p < s.size from Or.inr hps0)
        have hk0 : ((k : Int) == 0) = false := by simp [hkz]
        have hps : (p : Int) < (s.size : Int) := by omega
        go_wp2_with fail
        refine (unhide HS).mono ?_
        rintro e w1 ⟨vc, cs, e1, rfl, hcs, hstop, hownc, hb⟩
        have own1 := own_keep hown hb
        have rows1 := hrows.keep hb
        have S1 := hbel.trans (hb.mono (by have := hbel.size; omega))
        have ownc := Joins.ownsRow_le hownc (show W.heap.size + 1 ≤ wr.heap.size by have := hbel.size; omega)
        have hF1 := hF.below hb hF.1
        have hrc := hcs.range
        have hcl : cs.length ≤ 65536 := by have := hrc.2.1 hp; omega
        have he1 : e1 ≤ s.size := hrc.2.1 hp
        have hpe : p ≤ e1 := by omega
        have Hcs := hide hcs
        have Hstop := hide hstop
        clear hown hrows hbel hb hownc HS hF hrc hcs hstop
        obtain ⟨qv, c, rfl⟩ := own_form ownc
        have HL := hide (fun W => lineEnds_any s e1 W)
        by_cases hz : cs.length = 0
        · have hcz : cs = [] := List.length_eq_zero_iff.1 hz
          have hzz : ((cs.length : Int) == 0) = true := by simp [hz]
          have f1 := hF1.2
          go_wp2
          exact bodyPost_ret (v := .tuple #[.slice none 0 0, .agg #[.int .i64 2, .int .i64 e1]]) (by simp [results, Tryd.results15, go_sem, f1]) rfl ⟨_, 2, e1, rfl, Or.inr ⟨rfl, rows, p, cs, e1, unhide Hpre, unhide Hgo, unhide Hcs, unhide Hstop, Or.inl ⟨Or.inl hcz, rfl, rfl⟩⟩, bset (bset (btrans (unhide HB) (S1w S1 hw0)) (by dsimp only; omega)) (by dsimp only; omega)⟩
        · have Hcz := hide (show cs ≠ [] from fun h => hz (by rw [h]; rfl))
          have hzz : ((cs.length : Int) == 0) = false := by simp [hz]
          cases hl : lf s e1 with
          | false =>
            rw [hl] at HL
            have f1 := hF1.2
            go_wp2_with fail
            refine (unhide HL _).mono ?_
            rintro e w2 ⟨rfl, rfl⟩
            go_wp2
            exact bodyPost_ret (v := .tuple #[.slice none 0 0, .agg #[.int .i64 2, .int .i64 e1]]) (by simp [results, Tryd.results15, go_sem, f1]) rfl ⟨_, 2, e1, rfl, Or.inr ⟨rfl, rows, p, cs, e1, unhide Hpre, unhide Hgo, unhide Hcs, unhide Hstop, Or.inl ⟨Or.inr hl, rfl, rfl⟩⟩, bset (bset (btrans (unhide HB) (S1w S1 hw0)) (by dsimp only; omega)) (by dsimp only; omega)⟩
          | true =>
            rw [hl] at HL
            have Hl := hide hl
            clear hl
            have HW := hide (wrongRow_any rows vs q qv k cap c (W.heap.size + 1) cs w1 (unhide Hkl) own1 rows1 (unhide Hq0) (unhide Hwide) hk hcl)
            by_cases hwr : wrongR rows cs = 0
            · rw [hwr] at HW
              have Hwr := hide hwr
              clear hwr
              go_wp2_with fail
              refine (unhide HL _).mono ?_
              rintro e w2 ⟨rfl, rfl⟩
              go_wp2_with fail
              refine (unhide HW).mono ?_
              rintro e w2 ⟨rfl, rfl⟩
              have hs1 := S1.size
              go_wp2_with (at_builtin; refine wpList_append_own _ rfl _ _ 45 rfl (W.heap.size + 1) 25 i0 (.slice none 0 0) 1 24 Tryd.underlying45 hi hz0 hz1 hz2 rfl (by decide) _ _ _ rfl (own1.alloc _) ⟨w2.heap.size, 0, none⟩ 1 1 [.slice qv cs.length c] rfl rfl ?at_ ?one_ ?max_ ?fit_ ?base_ ?_)
              case base_ => rw [show (w2.alloc _).heap.size = w2.heap.size + 1 by simp]; omega
              case fit_ => omega
              case max_ => unfold maxLen; omega
              case one_ => exact fun u hu => by rw [List.mem_singleton.1 hu]; rfl
              case at_ =>
                intro j u hj
                cases j with
                | succ j => simp at hj
                | zero =>
                  have hu : Value.slice qv cs.length c = u := Option.some.inj hj
                  rw [← hu]
                  simp [Addr.add]
              intro v' w3 hown' hgrow _
              have S3 := (S1.alloc (by omega) _).grown hgrow (by simp; omega) (fun k hk => (own1.lt k hk).1)
              have rows3 := (rows1.snoc ownc).grown own1 hgrow
              obtain ⟨g', cap', rfl⟩ := own_slice hown' (by omega)
              clear S1 rows1 own1 ownc hgrow hF1
              go_wp2
              go_roundw
              case rel => exact ⟨e1 + 1, k + 1, cap', _, rows ++ [cs], _, by go_num, rfl, by simp [unhide Hkl], fun h => by simp at h, .snoc (unhide Hpre) (unhide Hcs) (unhide Hstop) (unhide Hcz) (unhide Hl) (unhide Hwr), hown', rows3, S3⟩
              case measure => simp [intOf]; omega
            · have hw1 : (wrongR rows cs != 0) = true := by simp [hwr]
              have Hwr := hide hwr
              clear hwr
              generalize hwe : wrongR rows cs = er at *
              have f1 := hF1.2
              go_wp2_with fail
              refine (unhide HL _).mono ?_
              rintro e w2 ⟨rfl, rfl⟩
              go_wp2_with fail
              refine (unhide HW).mono ?_
              rintro e w2 ⟨rfl, rfl⟩
              go_wp2
              exact bodyPost_ret (v := .tuple #[.slice none 0 0, .agg #[.int .i64 er, .int .i64 p]]) (by simp [results, Tryd.results15, go_sem, f1]) rfl ⟨_, er, p, rfl, Or.inr ⟨rfl, rows, p, cs, e1, unhide Hpre, unhide Hgo, unhide Hcs, unhide Hstop, Or.inr ⟨⟨unhide Hcz, unhide Hl⟩, by rw [hwe]; exact unhide Hwr, hwe.symm, rfl⟩⟩, bset (bset (btrans (unhide HB) (S1w S1 hw0)) (by dsimp only; omega)) (by dsimp only; omega)⟩
      · have hk0 : ((k : Int) == 0) = false := by simp [hkz]
        have hps : ¬ (p : Int) < (s.size : Int) := by omega
        have hps2 : decide ((p : Int) < (s.size : Int)) = false := by simp; omega
        have Hne := hide (show rows ≠ [] from fun h => hkz (by rw [unhide Hkl, h]; rfl))
        have f1 := hF.2
        clear HS
        go_wp2
        refine bodyPost_ret (v := .tuple #[.slice q k cap, .agg #[.int .i64 0, .int .i64 0]]) (by simp [results, Tryd.results15, go_sem, f1]) rfl ⟨_, 0, 0, rfl, Or.inl ⟨rfl, rfl, rows, p, vs, unhide Hpre, unhide Hne, hps0, ?_, ?_⟩, bset (bset (btrans (unhide HB) (S1w hbel hw0)) (by dsimp only; omega)) (by dsimp only; omega)⟩
        · rw [← unhide Hkl]
          exact ownsRow_setCell_below (ownsRow_setCell_below hown (by dsimp only; omega) _) (by dsimp only; omega) _
        · exact ⟨hrows.1, fun j v cs h1 h2 => ownsRow_setCell_below (ownsRow_setCell_below (hrows.2 j v cs h1 h2) (by dsimp only; omega) _) (by dsimp only; omega) _⟩
end Go.Proofs.YtncjbmafefeajaaDoor
