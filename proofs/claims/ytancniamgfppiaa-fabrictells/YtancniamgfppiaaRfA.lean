/-
  The document's machine: a list of who is where; its mathematics, and how it lies in memory; On.
-/
import Derived.Test.YtancniamgfppiaaRnB
namespace Go.Proofs.Ytancniamgfppiaa
open Go.RowKit

/-- the document's machine -/
structure Rs where
  loops : List (Int × List Nat)
  held : List (Nat × Nat × Nat)
  loose : List Nat
  rack : Int
  done : Nat
/-- is it on that needle? -/
def isAt (bed ndl : Int) (h : Nat × Nat × Nat) : Bool := (h.2.1 : Int) == bed && (h.2.2 : Int) == ndl
/-- the loops of a needle -/
def onL (l : List (Nat × Nat × Nat)) (bed ndl : Int) : List Nat := (l.filter (isAt bed ndl)).map (·.1)
/-- all others -/
def tkL (l : List (Nat × Nat × Nat)) (bed ndl : Int) : List (Nat × Nat × Nat) := l.filter fun h => !isAt bed ndl h
/-- what it means -/
def absS (r : Rs) : St := ⟨fun b n => onL r.held b n, r.rack, r.loops, r.loose, r.done⟩
theorem onL_app (l m : List (Nat × Nat × Nat)) (b n : Int) : onL (l ++ m) b n = onL l b n ++ onL m b n := by simp [onL]
theorem onL_tk (l : List (Nat × Nat × Nat)) (b n b' n' : Nat) : onL (tkL l b n) b' n' = if b' = b ∧ n' = n then [] else onL l b' n' := by
  unfold onL tkL
  rw [List.filter_filter]
  by_cases h : b' = b ∧ n' = n
  · rw [if_pos h, h.1, h.2]
    have : l.filter (fun a => isAt b n a && !isAt b n a) = [] := by
      rw [List.filter_eq_nil_iff]
      intro a _
      cases isAt b n a <;> simp
    rw [this]
    rfl
  · rw [if_neg h]
    congr 1
    apply List.filter_congr
    intro a _
    unfold isAt
    by_cases h1 : (a.2.1 : Int) = b' <;> by_cases h2 : (a.2.2 : Int) = n'
    · have h3 : ¬ ((a.2.1 : Int) = b ∧ (a.2.2 : Int) = n) := fun q => h ⟨by omega, by omega⟩
      have h4 : ((a.2.1 : Int) == (b : Int) && (a.2.2 : Int) == (n : Int)) = false := by
        cases q : ((a.2.1 : Int) == (b : Int) && (a.2.2 : Int) == (n : Int)) with
        | false => rfl
        | true => simp at q; exact absurd ⟨by omega, by omega⟩ h3
      rw [h4]; simp
    · simp [h2]
    · simp [h1]
    · simp [h1]
theorem onL_one (k b n b' n' : Nat) : onL [(k, b, n)] b' n' = if b' = b ∧ n' = n then [k] else [] := by
  unfold onL isAt
  by_cases h : b' = b ∧ n' = n
  · rw [if_pos h, h.1, h.2]; simp
  · rw [if_neg h]
    have : ((b : Int) == (b' : Int) && (n : Int) == (n' : Int)) = false := by
      cases q : ((b : Int) == (b' : Int) && (n : Int) == (n' : Int)) with
      | false => rfl
      | true => simp at q; exact absurd ⟨by omega, by omega⟩ h
    simp [this]
theorem onL_many (ks : List Nat) (b n b' n' : Nat) : onL (ks.map fun k => (k, b, n)) b' n' = if b' = b ∧ n' = n then ks else [] := by
  induction ks with
  | nil => simp [onL]
  | cons k ks ih =>
    rw [List.map_cons, show ((k, b, n) :: ks.map fun k => (k, b, n)) = [(k, b, n)] ++ ks.map fun k => (k, b, n) from rfl, onL_app, ih, onL_one]
    split <;> simp
theorem tk_len (l : List (Nat × Nat × Nat)) (b n : Int) : (tkL l b n).length + (onL l b n).length = l.length := by
  unfold tkL onL
  rw [List.length_map]
  induction l with
  | nil => rfl
  | cons a l ih =>
    rw [List.filter_cons, List.filter_cons]
    cases isAt b n a <;> simp <;> omega
/-- what a stitch does -/
def rdX (r : Rs) (x : Sx) : Rs :=
  if x.dk = 6 then { r with rack := x.tt }
  else if x.dk = 1 then { r with held := tkL r.held x.bed x.ndl ++ [(r.loops.length, x.bed.toNat, x.ndl.toNat)], loops := r.loops ++ [(x.car, onL r.held x.bed x.ndl)] }
  else if x.dk = 2 then { r with held := r.held ++ [(r.loops.length, x.bed.toNat, x.ndl.toNat)], loops := r.loops ++ [(x.car, [])] }
  else if x.dk = 4 then { r with held := tkL r.held x.bed x.ndl ++ (onL r.held x.bed x.ndl).map fun k => (k, fcB x.bed.toNat, (fcN r.rack x.bed.toNat x.ndl).toNat) }
  else if x.dk = 5 then { r with held := tkL r.held x.bed x.ndl, loose := r.loose ++ onL r.held x.bed x.ndl }
  else r
def rdS (r : Rs) (x : Sx) : Rs := { rdX r x with done := r.done + 1 }
theorem st_ext {a b : St} (h1 : ∀ x y, a.on x y = b.on x y) (h2 : a.rack = b.rack) (h3 : a.loops = b.loops) (h4 : a.loose = b.loose) (h5 : a.done = b.done) : a = b := by
  cases a; cases b
  simp only [St.mk.injEq]
  exact ⟨funext fun x => funext fun y => h1 x y, h2, h3, h4, h5⟩
theorem abs_do {N : Nat} {r : Rs} {x : Sx} (hz : wrE N (absS r) x = 0) : absS (rdS r x) = doS (absS r) x := by
  obtain ⟨d1, d2, d3, d6, dn⟩ := wrE_zero hz
  by_cases e6 : x.dk = 6
  · have a : rdS r x = { r with rack := x.tt, done := r.done + 1 } := by unfold rdS rdX; rw [if_pos e6]
    have b : doS (absS r) x = { absS r with rack := x.tt, done := r.done + 1 } := by unfold doS cnt doX; rw [if_neg (by omega), if_neg (by omega), if_neg (by omega), if_neg (by omega), if_pos e6]; rfl
    rw [a, b]
    rfl
  obtain ⟨b, n, hb, hn, b2, nN, -, hw⟩ := dn e6
  have e9 : x.bed.toNat = b := by omega
  have e10 : x.ndl.toNat = n := by omega
  unfold rdS rdX doS cnt doX
  rw [if_neg e6, e9, e10, hb, hn]
  by_cases e1 : x.dk = 1
  · rw [if_pos e1, if_pos e1]
    refine st_ext (fun b' n' => ?_) rfl rfl rfl rfl
    show onL (tkL r.held b n ++ [(r.loops.length, b, n)]) b' n' = upd (fun b n => onL r.held b n) b n [r.loops.length] b' n'
    rw [onL_app, onL_tk, onL_one]
    unfold upd
    split <;> simp
  rw [if_neg e1, if_neg e1]
  by_cases e2 : x.dk = 2
  · rw [if_pos e2, if_pos e2]
    refine st_ext (fun b' n' => ?_) rfl rfl rfl rfl
    show onL (r.held ++ [(r.loops.length, b, n)]) b' n' = upd (fun b n => onL r.held b n) b n (onL r.held b n ++ [r.loops.length]) b' n'
    rw [onL_app, onL_one]
    unfold upd
    split
    · rename_i h; rw [h.1, h.2]
    · simp
  rw [if_neg e2, if_neg e2]
  by_cases e4 : x.dk = 4
  · rw [if_pos e4, if_pos e4]
    refine st_ext (fun b' n' => ?_) rfl rfl rfl rfl
    show onL (tkL r.held b n ++ (onL r.held b n).map fun k => (k, fcB b, (fcN r.rack b n).toNat)) b' n' = upd (upd (fun b n => onL r.held b n) b n []) (fcB b) (fcN r.rack b n).toNat (onL r.held (fcB b : Nat) ((fcN r.rack b n).toNat : Nat) ++ onL r.held b n) b' n'
    rw [onL_app, onL_tk, onL_many]
    generalize (fcN r.rack b n).toNat = fn
    have hne : fcB b ≠ b := by unfold fcB; split <;> omega
    unfold upd
    by_cases h : b' = fcB b ∧ n' = fn
    · rw [if_pos h, if_pos h, if_neg (fun q => hne (by omega)), h.1, h.2]
    · rw [if_neg h, if_neg h, List.append_nil]
  rw [if_neg e4, if_neg e4]
  by_cases e5 : x.dk = 5
  · rw [if_pos e5, if_pos e5]
    refine st_ext (fun b' n' => ?_) rfl rfl rfl rfl
    show onL (tkL r.held b n) b' n' = upd (fun b n => onL r.held b n) b n [] b' n'
    rw [onL_tk]
    rfl
  rw [if_neg e5, if_neg e5, if_neg e6]
  rfl
/-- there are not too many -/
def RIv (r : Rs) : Prop := Iv (absS r) ∧ Th (absS r) ∧ r.held.length ≤ r.done
theorem RIv.next {N : Nat} {r : Rs} {x : Sx} (h : RIv r) (hz : wrE N (absS r) x = 0) : RIv (rdS r x) := by
  obtain ⟨h1, h2, h3⟩ := h
  refine ⟨by rw [abs_do hz]; exact h1.next hz, by rw [abs_do hz]; exact h2.next h1, ?_⟩
  have t := tk_len r.held x.bed x.ndl
  show (rdX r x).held.length ≤ r.done + 1
  unfold rdX
  by_cases e6 : x.dk = 6
  · rw [if_pos e6]; show r.held.length ≤ _; omega
  rw [if_neg e6]
  by_cases e1 : x.dk = 1
  · rw [if_pos e1]; simp; omega
  rw [if_neg e1]
  by_cases e2 : x.dk = 2
  · rw [if_pos e2]; simp; omega
  rw [if_neg e2]
  by_cases e4 : x.dk = 4
  · rw [if_pos e4]; simp; omega
  rw [if_neg e4]
  by_cases e5 : x.dk = 5
  · rw [if_pos e5]; show (tkL r.held x.bed x.ndl).length ≤ _; omega
  rw [if_neg e5]
  omega
def r0 : Rs := ⟨[], [], [], 0, 0⟩
theorem abs0 : absS r0 = s0 := st_ext (fun _ _ => rfl) rfl rfl rfl rfl
/-- the document's machine behind the first stitches -/
def rkS (N : Nat) (f : Nat → Sx) : Nat → Rs
  | 0 => r0
  | k + 1 => if wrE N (absS (rkS N f k)) (f k) = 0 then rdS (rkS N f k) (f k) else rkS N f k
theorem rk_abs (N : Nat) (f : Nat → Sx) (k : Nat) : absS (rkS N f k) = knS N f k ∧ RIv (rkS N f k) := by
  induction k with
  | zero => exact ⟨abs0, by rw [show rkS N f 0 = r0 from rfl]; exact ⟨by rw [abs0]; exact Iv.zero, by rw [abs0]; exact Th.zero, Nat.le_refl _⟩⟩
  | succ k ih =>
    simp only [rkS, knS]
    rw [ih.1]
    by_cases h : wrE N (knS N f k) (f k) = 0
    · have h' : wrE N (absS (rkS N f k)) (f k) = 0 := by rw [ih.1]; exact h
      rw [if_pos h, if_pos h]
      exact ⟨by rw [abs_do h', ih.1], ih.2.next h'⟩
    · rw [if_neg h, if_neg h]
      exact ih

/-- who is where, as a row has it -/
def hdV (l : List (Nat × Nat × Nat)) : List Value := (l.map fun h => [Value.int .i64 (h.1 : Int), Value.int .i64 (h.2.1 : Int), Value.int .i64 (h.2.2 : Int)]).flatten
theorem hdV_app (l m : List (Nat × Nat × Nat)) : hdV (l ++ m) = hdV l ++ hdV m := by simp [hdV]
theorem hdV_one {l : List (Nat × Nat × Nat)} : ∀ u ∈ hdV l, u.oneCell' = true := by
  intro u hu
  obtain ⟨c, hc, hu⟩ := List.mem_flatten.1 hu
  obtain ⟨e, -, rfl⟩ := List.mem_map.1 hc
  simp at hu
  rcases hu with rfl | rfl | rfl <;> rfl
theorem hdV_get (l : List (Nat × Nat × Nat)) : ∀ (k : Nat) (h : Nat × Nat × Nat), l[k]? = some h → (hdV l)[k * 3]? = some (.int .i64 (h.1 : Int)) ∧ (hdV l)[k * 3 + 1]? = some (.int .i64 (h.2.1 : Int)) ∧ (hdV l)[k * 3 + 2]? = some (.int .i64 (h.2.2 : Int)) := by
  induction l with
  | nil => intro k h e; simp at e
  | cons x l ih =>
    intro k h e
    rw [show hdV (x :: l) = [Value.int .i64 (x.1 : Int), Value.int .i64 (x.2.1 : Int), Value.int .i64 (x.2.2 : Int)] ++ hdV l by simp [hdV]]
    cases k with
    | zero =>
      simp at e
      subst e
      simp
    | succ k =>
      simp at e
      have := ih k h e
      rw [List.getElem?_append_right (by simp; omega), List.getElem?_append_right (by simp; omega), List.getElem?_append_right (by simp; omega)]
      simp only [List.length_cons, List.length_nil]
      rw [show (k + 1) * 3 - (0 + 1 + 1 + 1) = k * 3 by omega, show (k + 1) * 3 + 1 - (0 + 1 + 1 + 1) = k * 3 + 1 by omega, show (k + 1) * 3 + 2 - (0 + 1 + 1 + 1) = k * 3 + 2 by omega]
      exact this
def HR (W : World) (B : Nat) (v : Value) (l : List (Nat × Nat × Nat)) : Prop := W.ownsRow B 113 3 v l.length (hdV l)
theorem HR.keep {W V : World} {B : Nat} {v : Value} {l : List (Nat × Nat × Nat)} (h : HR W B v l) (e : Below W.heap.size W V) : HR V B v l := own_keep h e
theorem HR.form {W : World} {B : Nat} {v : Value} {l : List (Nat × Nat × Nat)} (h : HR W B v l) : ∃ q c, v = .slice q l.length c := own_form h
theorem HR.at {W : World} {B k : Nat} {v : Value} {l : List (Nat × Nat × Nat)} (h : HR W B v l) (hk : k < l.length) : ∃ g cap, v = .slice (some ⟨g, 0, none⟩) l.length cap ∧ W.cell? ⟨g, k * 3, none⟩ = some (.int .i64 ((l[k].1 : Nat) : Int)) ∧ W.cell? ⟨g, k * 3 + 1, none⟩ = some (.int .i64 ((l[k].2.1 : Nat) : Int)) ∧ W.cell? ⟨g, k * 3 + 2, none⟩ = some (.int .i64 ((l[k].2.2 : Nat) : Int)) := by
  obtain ⟨g, cap, rfl⟩ := own_slice h (by omega)
  have := hdV_get l k _ (List.getElem?_eq_getElem hk)
  exact ⟨g, cap, rfl, by rw [World.ownsRow.cellAt h _ (by omega)]; exact this.1, by rw [World.ownsRow.cellAt h _ (by omega)]; exact this.2.1, by rw [World.ownsRow.cellAt h _ (by omega)]; exact this.2.2⟩
/-- loops in a row of one's own -/
def LO (W : World) (B : Nat) (v : Value) (ls : List (Int × List Nat)) : Prop := ∃ hs : List (Int × Value × List Nat), hs.map lpA = ls ∧ W.ownsRow B 43 2 v hs.length (lpC hs) ∧ ∀ e ∈ hs, NR W 0 e.2.1 e.2.2
theorem LO.keep {W V : World} {B : Nat} {v : Value} {ls : List (Int × List Nat)} (h : LO W B v ls) (e : Below W.heap.size W V) : LO V B v ls := by
  obtain ⟨hs, h1, h2, h3⟩ := h
  exact ⟨hs, h1, own_keep h2 e, fun x hx => (h3 x hx).keep e⟩
theorem LO.form {W : World} {B : Nat} {v : Value} {ls : List (Int × List Nat)} (h : LO W B v ls) : ∃ q c, v = .slice q ls.length c := by
  obtain ⟨hs, h1, h2, -⟩ := h
  obtain ⟨q, c, e⟩ := own_form h2
  exact ⟨q, c, by rw [e, ← h1, List.length_map]⟩
/-- the document's machine as a value -/
abbrev rsV (N : Nat) (lv hv sv : Value) (rk : Int) (dn : Nat) : Value := .agg #[.int .i64 (N : Int), lv, hv, sv, .int .i64 rk, .int .i64 (dn : Int)]
/-- what it is made of, in memory -/
def SR (W : World) (N : Nat) (v : Value) (r : Rs) : Prop := ∃ lv hv sv, v = rsV N lv hv sv r.rack r.done ∧ LO W 0 lv r.loops ∧ HR W 0 hv r.held ∧ NR W 0 sv r.loose
theorem SR.keep {W V : World} {N : Nat} {v : Value} {r : Rs} (h : SR W N v r) (e : Below W.heap.size W V) : SR V N v r := by
  obtain ⟨lv, hv, sv, h0, h1, h2, h3⟩ := h
  exact ⟨lv, hv, sv, h0, h1.keep e, h2.keep e, h3.keep e⟩
/-- the box -/
def SB (W : World) (b N : Nat) (lv hv sv : Value) (rk : Int) (dn : Nat) : Prop := (b < W.heap.size ∧ Tg W b 87) ∧ (W.cell? ⟨b, 0, none⟩ = some (.int .i64 (N : Int)) ∧ W.cell? ⟨b, 1, none⟩ = some lv ∧ W.cell? ⟨b, 2, none⟩ = some hv ∧ W.cell? ⟨b, 3, none⟩ = some sv ∧ W.cell? ⟨b, 4, none⟩ = some (.int .i64 rk) ∧ W.cell? ⟨b, 5, none⟩ = some (.int .i64 (dn : Int))) ∧ ∀ j, j < 6 → W.frozen? ⟨b, j, none⟩ = false
theorem SB.kept {S : Nat → Prop} {W V : World} {b N : Nat} {lv hv sv : Value} {rk : Int} {dn : Nat} (k : SB W b N lv hv sv rk dn) (e : Kept S W V) (hS : ¬ S b) : SB V b N lv hv sv rk dn := by
  obtain ⟨⟨l, t⟩, ⟨a0, a1, a2, a3, a4, a5⟩, f⟩ := k
  exact ⟨⟨Nat.lt_of_lt_of_le l e.size, t.kept e l hS⟩, ⟨e.cell l hS a0, e.cell l hS a1, e.cell l hS a2, e.cell l hS a3, e.cell l hS a4, e.cell l hS a5⟩, fun j hj => e.froz l hS (f j hj)⟩
theorem SB.keep {W V : World} {b N : Nat} {lv hv sv : Value} {rk : Int} {dn : Nat} (k : SB W b N lv hv sv rk dn) (e : Below W.heap.size W V) : SB V b N lv hv sv rk dn := k.kept (Kept.of (S := fun _ => False) e) id
theorem SB.new (W : World) (N : Nat) (lv hv sv : Value) (rk : Int) (dn : Nat) : SB (W.alloc (.cells #[.int .i64 (N : Int), lv, hv, sv, .int .i64 rk, .int .i64 (dn : Int)] 87)) W.heap.size N lv hv sv rk dn :=
  ⟨⟨by simp, Tg.new _ _ _⟩, ⟨by simp [go_sem], by simp [go_sem], by simp [go_sem], by simp [go_sem], by simp [go_sem], by simp [go_sem]⟩, fun j hj => by simp [go_sem]⟩

theorem onL_take {l : List (Nat × Nat × Nat)} {k : Nat} (h : k < l.length) (b n : Int) : onL (l.take (k + 1)) b n = onL (l.take k) b n ++ if isAt b n l[k] then [l[k].1] else [] := by
  rw [List.take_succ_eq_append_getElem h, onL_app]
  congr 1
  unfold onL
  cases q : isAt b n l[k] <;> simp [q]
theorem tkL_take {l : List (Nat × Nat × Nat)} {k : Nat} (h : k < l.length) (b n : Int) : tkL (l.take (k + 1)) b n = tkL (l.take k) b n ++ if isAt b n l[k] then [] else [l[k]] := by
  rw [List.take_succ_eq_append_getElem h]
  unfold tkL
  rw [List.filter_append]
  congr 1
  cases q : isAt b n l[k] <;> simp [q]

set_option maxRecDepth 100000 in
set_option maxHeartbeats 4000000 in
theorem on_any {W : World} {N : Nat} {lv hv sv : Value} {rk : Int} {dn : Nat} {l : List (Nat × Nat × Nat)} (hh : HR W 0 hv l) (hl : l.length ≤ 4096) (bed ndl : Int) :
    Calls Try.prog 71 #[rsV N lv hv sv rk dn, .int .i64 bed, .int .i64 ndl] W fun e w' => ∃ v, e = .returned v ∧ NR w' W.heap.size v (onL l bed ndl) ∧ Below W.heap.size W w' := by
  obtain ⟨hq, hc, rfl⟩ := hh.form
  have B0 := hide (bnew W (.cells #[.int .i64 (N : Int), lv, .slice hq l.length hc, sv, .int .i64 rk, .int .i64 (dn : Int)] 87))
  have HSB := hide (SB.new W N lv (.slice hq l.length hc) sv rk dn)
  have HH := hide (fun V (hV : Below W.heap.size W V) => hh.keep hV)
  obtain ⟨n, hn⟩ : ∃ n, n = l.length := ⟨_, rfl⟩
  rw [← hn] at HSB B0 hl
  rw [← hn]
  have Hn := hide hn
  clear hh
  go_enter Try.func71, Try.ntmps71
  clear hn
  go_upto_region 1 with fail
  generalize W.alloc (.cells #[.int .i64 (N : Int), lv, .slice hq n hc, sv, .int .i64 rk, .int .i64 (dn : Int)] 87) = w0 at *
  obtain ⟨-, ⟨s0', s1', s2', s3', s4', s5'⟩, -⟩ := unhide HSB
  go_wp2
  go_loopw [7, 13] (fun ov i wr => ∃ x : Nat, x ≤ n ∧ i = .int .i64 x ∧ NR wr W.heap.size ov (onL (l.take x) bed ndl) ∧ Below W.heap.size W wr) (fun _ i _ => n - (intOf i).toNat)
  case atStart => exact ⟨0, Nat.zero_le _, rfl, NR.nil _ _, unhide B0⟩
  case round =>
    clear s0' s1' s2' s3' s4' s5'
    obtain ⟨x, hx, rfl, hO, hB⟩ := hrel
    obtain ⟨oq, oc, rfl⟩ := hO.form
    have HO := hide hO
    have HB := hide hB
    clear hO hB
    by_cases hlt : x < n
    · have q1 : (x : Int) < (n : Int) := by omega
      have q2 : (0 : Int) ≤ (x : Int) := by omega
      have hx' : x < l.length := by rw [← unhide Hn]; exact hlt
      obtain ⟨g, cap, e1, c0, c1, c2⟩ := (unhide HH _ (unhide HB)).at hx'
      simp only [Value.slice.injEq] at e1
      obtain ⟨rfl, -, rfl⟩ := e1
      have Hts := hide (onL_take hx' bed ndl)
      have hol : (onL (l.take x) bed ndl).length ≤ x := by
        unfold onL
        rw [List.length_map]
        exact Nat.le_trans (List.length_filter_le _ _) (List.length_take_le _ _)
      obtain ⟨y, hy⟩ : ∃ y, l[x] = y := ⟨_, rfl⟩
      rw [hy] at c0 c1 c2 Hts
      obtain ⟨lp, lb, ln⟩ := y
      dsimp only at c0 c1 c2
      clear hy hx'
      have HO1 := hide ((unhide HO).keep (bnew wr (.cells #[.int .i64 (lp : Int), .int .i64 (lb : Int), .int .i64 (ln : Int)] 113)))
      have HB1 := hide (btrans (unhide HB) (bnew wr (.cells #[.int .i64 (lp : Int), .int .i64 (lb : Int), .int .i64 (ln : Int)] 113)))
      have HX := hide (show (wr.alloc (.cells #[.int .i64 (lp : Int), .int .i64 (lb : Int), .int .i64 (ln : Int)] 113)).cell? ⟨wr.heap.size, 0, none⟩ = some (.int .i64 (lp : Int)) ∧ (wr.alloc (.cells #[.int .i64 (lp : Int), .int .i64 (lb : Int), .int .i64 (ln : Int)] 113)).cell? ⟨wr.heap.size, 1, none⟩ = some (.int .i64 (lb : Int)) ∧ (wr.alloc (.cells #[.int .i64 (lp : Int), .int .i64 (lb : Int), .int .i64 (ln : Int)] 113)).cell? ⟨wr.heap.size, 2, none⟩ = some (.int .i64 (ln : Int)) from ⟨by simp [go_sem], by simp [go_sem], by simp [go_sem]⟩)
      have hsz := (unhide HB).size
      have hsz1 : W.heap.size ≤ (wr.alloc (.cells #[.int .i64 (lp : Int), .int .i64 (lb : Int), .int .i64 (ln : Int)] 113)).heap.size := (unhide HB1).size
      go_upto_region 5 with fail
      generalize wr.alloc (.cells #[.int .i64 (lp : Int), .int .i64 (lb : Int), .int .i64 (ln : Int)] 113) = w2 at *
      obtain ⟨x0, x1, x2⟩ := unhide HX
      cases g1 : ((lb : Int) == bed) with
      | false =>
        have Hr := hide (show isAt bed ndl (lp, lb, ln) = false by unfold isAt; rw [g1]; rfl)
        go_wp2
        go_roundw
        case rel => exact ⟨x + 1, by omega, by go_num, by rw [unhide Hts, unhide Hr]; simpa using unhide HO1, unhide HB1⟩
        case measure => simp [intOf]; omega
      | true =>
        cases g2 : ((ln : Int) == ndl) with
        | false =>
          have Hr := hide (show isAt bed ndl (lp, lb, ln) = false by unfold isAt; rw [g2]; simp)
          go_wp2
          go_roundw
          case rel => exact ⟨x + 1, by omega, by go_num, by rw [unhide Hts, unhide Hr]; simpa using unhide HO1, unhide HB1⟩
          case measure => simp [intOf]; omega
        | true =>
          have Hr := hide (show isAt bed ndl (lp, lb, ln) = true by unfold isAt; rw [g1, g2]; rfl)
          have HO2 := hide ((unhide HO1).keep (bnew w2 (.cells #[.int .i64 (lp : Int)] 3)))
          have HY2 := hide (NR.lit w2 0 lp (Nat.zero_le _))
          unfold NR at HO2 HY2
          obtain ⟨on, hon⟩ : ∃ on, on = (onL (l.take x) bed ndl).length := ⟨_, rfl⟩
          rw [← hon] at HO2 hol
          have Hon := hide hon
          clear hon
          go_wp2_with (at_builtin; refine wl_app rfl rfl Try.underlying27 info3 rfl (by decide) (B := W.heap.size) (C := 0) (n := on) (m := 1) ?e1 rfl (unhide HO2) (unhide HY2) numsV_one (by unfold maxLen; omega) (by omega) (by simp; omega) ?_)
          case e1 => rw [unhide Hon]
          intro v' w6 hown' hgrow _
          have HB6 := hide ((btrans (unhide HB1) (bnew w2 (.cells #[.int .i64 (lp : Int)] 3))).grown hgrow (by simp; omega) (fun k hk => ((unhide HO2).lt k hk).1))
          have HO6 := hide (show NR w6 W.heap.size v' (onL (l.take x) bed ndl ++ [lp]) by unfold NR; rw [numsV_app, List.length_append, ← unhide Hon]; exact hown')
          obtain ⟨q', cap', rfl⟩ := own_form hown'
          clear hown' hgrow x0 x1 x2 c0 c1 c2
          go_wp2
          go_roundw
          case rel => exact ⟨x + 1, by omega, by go_num, by rw [unhide Hts, unhide Hr]; exact unhide HO6, unhide HB6⟩
          case measure => simp [intOf]; omega
    · obtain rfl : n = x := by omega
      have cl : ¬ ((n : Int) < (n : Int)) := by omega
      go_wp2
      go_ret
      refine ⟨_, rfl, ?_, unhide HB⟩
      have e : onL (l.take n) bed ndl = onL l bed ndl := by rw [unhide Hn, List.take_length]
      show NR wr W.heap.size (.slice oq (onL (l.take n) bed ndl).length oc) (onL l bed ndl)
      rw [← e]
      exact unhide HO
end Go.Proofs.Ytancniamgfppiaa
