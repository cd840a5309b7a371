/-
  The mathematics of the three laws: seen from behind; without what was refused; no loop is lost.
-/
import Derived.Test.YtnolblcfafdnpaaRnB
namespace Go.Proofs.Ytnolblcfafdnpaa

/-- a stitch seen from behind -/
def tuX (x : Sx) : Sx := { x with bed := if x.bed = 0 ∨ x.bed = 1 then 1 - x.bed else x.bed, tt := if x.dk = 6 ∧ -4 ≤ x.tt ∧ x.tt ≤ 4 then -x.tt else x.tt }
/-- one machine is the other one seen from behind -/
def Bh (s s' : St) : Prop := s'.rack = -s.rack ∧ s'.loops = s.loops ∧ s'.loose = s.loose ∧ s'.done = s.done ∧ ∀ b n, b < 2 → s'.on b n = s.on (fcB b) n
theorem fcB_two {b : Nat} : fcB b < 2 := by unfold fcB; split <;> omega
theorem fcB_twice {b : Nat} (h : b < 2) : fcB (fcB b) = b := by unfold fcB; split <;> split <;> omega
theorem fc_turn (r : Int) {b : Nat} (h : b < 2) (n : Int) : fcN (-r) (fcB b) n = fcN r b n := by
  unfold fcN fcB
  rcases (show b = 0 ∨ b = 1 by omega) with rfl | rfl
  · simp; omega
  · simp
theorem has_bed (N : Nat) {b c : Nat} (hb : b < 2) (hc : c < 2) (n : Int) : hasB N b n = hasB N c n := by
  have h1 : decide ((b : Int) < 2) = true := by simp; omega
  have h2 : decide ((c : Int) < 2) = true := by simp; omega
  simp [hasB, h1, h2]
theorem wn_turn {N : Nat} {s s' : St} (h : Bh s s') {d : Int} {b n : Nat} (hb : b < 2) : wnE N s' d (fcB b) n = wnE N s d b n := by
  obtain ⟨h1, h2, h3, h4, h5⟩ := h
  unfold wnE whN
  rw [h1, fc_turn _ hb, fcB_twice hb, h5 _ _ fcB_two, h5 _ _ hb, fcB_twice hb, has_bed N hb (fcB_two (b := b))]
theorem tu_bed {x : Sx} {b : Nat} (h : x.bed = b) (hb : b < 2) : (tuX x).bed = (fcB b : Nat) := by
  show (if x.bed = 0 ∨ x.bed = 1 then 1 - x.bed else x.bed) = _
  rw [if_pos (by omega), h]
  unfold fcB
  rcases (show b = 0 ∨ b = 1 by omega) with rfl | rfl <;> rfl
theorem has_tu (N : Nat) (x : Sx) : hasB N (tuX x).bed (tuX x).ndl = hasB N x.bed x.ndl := by
  by_cases h : x.bed = 0 ∨ x.bed = 1
  · obtain ⟨b, hb⟩ : ∃ b : Nat, x.bed = b := ⟨x.bed.toNat, by omega⟩
    rw [tu_bed hb (by omega), hb]
    exact has_bed N fcB_two (by omega) _
  · have : (tuX x).bed = x.bed := if_neg h
    rw [this]
    rfl
theorem wr_turn {N : Nat} {s s' : St} (h : Bh s s') (x : Sx) : wrE N s' (tuX x) = wrE N s x := by
  unfold wrE
  rw [h.2.2.2.1, has_tu]
  show (if x.dk < 1 ∨ 6 < x.dk then (1 : Int) else if 4096 ≤ s.done then 4 else if x.dk = 6 then raE (tuX x).tt else if hasB N x.bed x.ndl = false then 3 else if usB x.dk = true ∧ (x.car < 0 ∨ 8 ≤ x.car) then 3 else wnE N s' x.dk (tuX x).bed.toNat x.ndl.toNat) = _
  by_cases e1 : x.dk < 1 ∨ 6 < x.dk
  · rw [if_pos e1, if_pos e1]
  rw [if_neg e1, if_neg e1]
  by_cases e2 : 4096 ≤ s.done
  · rw [if_pos e2, if_pos e2]
  rw [if_neg e2, if_neg e2]
  by_cases e3 : x.dk = 6
  · rw [if_pos e3, if_pos e3]
    show raE (if x.dk = 6 ∧ -4 ≤ x.tt ∧ x.tt ≤ 4 then -x.tt else x.tt) = raE x.tt
    by_cases e4 : x.dk = 6 ∧ -4 ≤ x.tt ∧ x.tt ≤ 4
    · rw [if_pos e4]
      unfold raE
      rw [if_neg (by omega), if_neg (by omega)]
    · rw [if_neg e4]
  rw [if_neg e3, if_neg e3]
  cases e4 : hasB N x.bed x.ndl with
  | false => rfl
  | true =>
    have := (hasB_iff _ _ _).1 e4
    obtain ⟨b, hb⟩ : ∃ b : Nat, x.bed = b := ⟨x.bed.toNat, by omega⟩
    rw [tu_bed hb (by omega), hb]
    have e5 : ((fcB b : Nat) : Int).toNat = fcB b := rfl
    have e6 : ((b : Nat) : Int).toNat = b := rfl
    rw [e5, e6, wn_turn h (by omega)]
theorem do_turn {N : Nat} {s s' : St} (h : Bh s s') {x : Sx} (hz : wrE N s x = 0) : Bh (doS s x) (doS s' (tuX x)) := by
  obtain ⟨h1, h2, h3, h4, h5⟩ := id h
  obtain ⟨d1, d2, d3, d6, dn⟩ := wrE_zero hz
  unfold doS cnt doX
  have ek : (tuX x).dk = x.dk := rfl
  have ec : (tuX x).car = x.car := rfl
  have en' : (tuX x).ndl = x.ndl := rfl
  rw [ek]
  by_cases e6 : x.dk = 6
  · rw [if_neg (by omega), if_neg (by omega), if_neg (by omega), if_neg (by omega), if_pos e6, if_neg (by omega), if_neg (by omega), if_neg (by omega), if_neg (by omega), if_pos e6]
    refine ⟨?_, h2, h3, by dsimp only; rw [h4], h5⟩
    show (if x.dk = 6 ∧ -4 ≤ x.tt ∧ x.tt ≤ 4 then -x.tt else x.tt) = -x.tt
    rw [if_pos ⟨e6, d6 e6⟩]
  obtain ⟨b, n, hb, hn, b2, nN, -, -⟩ := dn e6
  have e8 : (tuX x).bed.toNat = fcB b := by rw [tu_bed hb b2]; rfl
  have e9 : x.bed.toNat = b := by omega
  have e10 : x.ndl.toNat = n := by omega
  rw [ec, en', e8, e9, e10, h2, h3, h5 _ _ fcB_two, fcB_twice b2]
  have hne : ∀ b', b' < 2 → ((fcB b' = b) ↔ (b' = fcB b)) := by
    intro b' hb'
    unfold fcB
    constructor <;> intro q <;> (split at q <;> split <;> omega)
  have key : ∀ (f f' : Nat → Nat → List Nat) (xs : List Nat), (∀ b n, b < 2 → f' b n = f (fcB b) n) → ∀ b' n', b' < 2 → upd f' (fcB b) n xs b' n' = upd f b n xs (fcB b') n' := by
    intro f f' xs hf b' n' hb'
    unfold upd
    rw [hf b' n' hb']
    have := hne b' hb'
    by_cases q : b' = fcB b ∧ n' = n
    · rw [if_pos q, if_pos ⟨this.2 q.1, q.2⟩]
    · rw [if_neg q, if_neg (fun q' => q ⟨this.1 q'.1, q'.2⟩)]
  by_cases e1 : x.dk = 1
  · rw [if_pos e1, if_pos e1]
    exact ⟨h1, rfl, rfl, by dsimp only; rw [h4], key _ _ _ h5⟩
  rw [if_neg e1, if_neg e1]
  by_cases e2 : x.dk = 2
  · rw [if_pos e2, if_pos e2]
    exact ⟨h1, rfl, rfl, by dsimp only; rw [h4], key _ _ _ h5⟩
  rw [if_neg e2, if_neg e2]
  by_cases e4 : x.dk = 4
  · rw [if_pos e4, if_pos e4]
    refine ⟨h1, rfl, rfl, by dsimp only; rw [h4], ?_⟩
    intro b' n' hb'
    show upd (upd s'.on (fcB b) n []) b (fcN s'.rack (fcB b) x.ndl).toNat (s'.on b (fcN s'.rack (fcB b) x.ndl).toNat ++ s.on b n) b' n' = upd (upd s.on b n []) (fcB b) (fcN s.rack b x.ndl).toNat (s.on (fcB b) (fcN s.rack b x.ndl).toNat ++ s.on b n) (fcB b') n'
    rw [h1, fc_turn _ b2, h5 _ _ b2]
    have k2 := key s.on s'.on [] h5
    have hne2 := hne b' hb'
    generalize (fcN s.rack b x.ndl).toNat = z
    generalize s.on (fcB b) z ++ s.on b n = ys
    show (if b' = b ∧ n' = z then ys else upd s'.on (fcB b) n [] b' n') = if fcB b' = fcB b ∧ n' = z then ys else upd s.on b n [] (fcB b') n'
    rw [k2 b' n' hb']
    have q1 : b' = b ↔ fcB b' = fcB b := ⟨fun q => by rw [q], fun q => by have := congrArg fcB q; rw [fcB_twice hb', fcB_twice b2] at this; exact this⟩
    by_cases q : b' = b ∧ n' = z
    · rw [if_pos q, if_pos ⟨q1.1 q.1, q.2⟩]
    · rw [if_neg q, if_neg (fun q' => q ⟨q1.2 q'.1, q'.2⟩)]
  rw [if_neg e4, if_neg e4]
  by_cases e5 : x.dk = 5
  · rw [if_pos e5, if_pos e5]
    exact ⟨h1, rfl, rfl, by dsimp only; rw [h4], key _ _ _ h5⟩
  rw [if_neg e5, if_neg e5, if_neg e6, if_neg e6]
  exact ⟨h1, h2, h3, by dsimp only; rw [h4], h5⟩
theorem kn_turn (N : Nat) (f : Nat → Sx) (k : Nat) : Bh (knS N f k) (knS N (fun j => tuX (f j)) k) := by
  induction k with
  | zero => exact ⟨rfl, rfl, rfl, rfl, fun _ _ _ => rfl⟩
  | succ k ih =>
    simp only [knS]
    rw [wr_turn ih]
    split
    · rename_i h; exact do_turn ih h
    · exact ih
theorem er_turn (N : Nat) (f : Nat → Sx) (k : Nat) : erS N (fun j => tuX (f j)) k = erS N f k := wr_turn (kn_turn N f k) (f k)
theorem tell_turn {N : Nat} {s s' : St} (h : Bh s s') : (⟨(tell N s').loops, (tell N s').back, (tell N s').front, (tell N s').loose, -(tell N s').rack⟩ : Kn) = tell N s := by
  obtain ⟨h1, h2, h3, h4, h5⟩ := h
  have a0 : (List.range N).map (s'.on 1) = (List.range N).map (s.on 0) := List.map_congr_left (fun n _ => h5 1 n (by omega))
  have a1 : (List.range N).map (s'.on 0) = (List.range N).map (s.on 1) := List.map_congr_left (fun n _ => h5 0 n (by omega))
  unfold tell
  dsimp only
  rw [a0, a1, h1, h2, h3, Int.neg_neg]

/-- only the first stitches count -/
theorem kn_congr {N : Nat} {f g : Nat → Sx} {k : Nat} (h : ∀ j, j < k → f j = g j) : knS N f k = knS N g k := by
  induction k with
  | zero => rfl
  | succ k ih =>
    simp only [knS]
    rw [ih (fun j hj => h j (by omega)), h k (by omega)]
def x0 : Sx := ⟨0, 0, 0, 0, 0⟩
/-- what was not refused -/
def okL (N : Nat) (f : Nat → Sx) : Nat → List Sx
  | 0 => []
  | k + 1 => if erS N f k = 0 then okL N f k ++ [f k] else okL N f k
theorem okL_le (N : Nat) (f : Nat → Sx) (k : Nat) : (okL N f k).length ≤ k := by
  induction k with
  | zero => simp [okL]
  | succ k ih =>
    simp only [okL]
    split
    · simp; omega
    · omega
theorem skips (N : Nat) (f : Nat → Sx) (k : Nat) : knS N (fun j => (okL N f k).getD j x0) (okL N f k).length = knS N f k ∧ ∀ i, i < (okL N f k).length → erS N (fun j => (okL N f k).getD j x0) i = 0 := by
  induction k with
  | zero => exact ⟨rfl, fun i hi => by simp [okL] at hi⟩
  | succ k ih =>
    by_cases h : erS N f k = 0
    · have e : okL N f (k + 1) = okL N f k ++ [f k] := by simp only [okL]; rw [if_pos h]
      have hw : wrE N (knS N f k) (f k) = 0 := h
      have e2 : knS N f (k + 1) = doS (knS N f k) (f k) := by simp only [knS]; rw [if_pos hw]
      have hl : ∀ j, j < (okL N f k).length → (okL N f k ++ [f k]).getD j x0 = (okL N f k).getD j x0 := fun j hj => by simp [List.getD_eq_getElem?_getD, List.getElem?_append_left hj]
      have hlast : (okL N f k ++ [f k]).getD (okL N f k).length x0 = f k := by simp [List.getD_eq_getElem?_getD]
      have hst : knS N (fun j => (okL N f k ++ [f k]).getD j x0) (okL N f k).length = knS N f k := (kn_congr hl).trans ih.1
      rw [e, e2]
      refine ⟨?_, fun i hi => ?_⟩
      · rw [List.length_append]
        show knS N _ ((okL N f k).length + 1) = _
        simp only [knS]
        rw [hst, hlast, if_pos hw]
      · rw [List.length_append] at hi
        simp at hi
        unfold erS
        by_cases c : i < (okL N f k).length
        · rw [kn_congr (g := fun j => (okL N f k).getD j x0) (fun j hj => hl j (by omega))]
          dsimp only
          rw [hl i c]
          exact ih.2 i c
        · obtain rfl : i = (okL N f k).length := by omega
          rw [hst]
          dsimp only
          rw [hlast]
          exact h
    · have e : okL N f (k + 1) = okL N f k := by simp only [okL]; rw [if_neg h]
      have hw : ¬ wrE N (knS N f k) (f k) = 0 := h
      have e2 : knS N f (k + 1) = knS N f k := by simp only [knS]; rw [if_neg hw]
      rw [e, e2]
      exact ih

/-- how often a loop is on the needles of a bed -/
def ct (x N : Nat) (f : Nat → List Nat) : Nat := (((List.range N).map f).flatten).count x
theorem ct_succ (x N : Nat) (f : Nat → List Nat) : ct x (N + 1) f = ct x N f + (f N).count x := by simp [ct, List.range_succ, List.count_append]
theorem ct_same {x N : Nat} {f g : Nat → List Nat} (h : ∀ j, j < N → f j = g j) : ct x N f = ct x N g := by
  unfold ct
  rw [List.map_congr_left (fun j hj => h j (by simpa using hj))]
theorem ct_put {x N n : Nat} {f g : Nat → List Nat} (hn : n < N) (h : ∀ j, j ≠ n → g j = f j) : ct x N g + (f n).count x = ct x N f + (g n).count x := by
  induction N with
  | zero => omega
  | succ N ih =>
    rw [ct_succ, ct_succ]
    by_cases e : n = N
    · subst e
      rw [ct_same (fun j hj => h j (by omega))]
      omega
    · have := ih (by omega)
      rw [h N (fun q => e q.symm)]
      omega
theorem ct_mem {x N n : Nat} {f : Nat → List Nat} (hn : n < N) (h : x ∈ f n) : 1 ≤ ct x N f := by
  unfold ct
  exact List.count_pos_iff.2 (List.mem_flatten.2 ⟨f n, List.mem_map.2 ⟨n, by simpa using hn, rfl⟩, h⟩)
/-- how often a loop was pulled through -/
def th (x : Nat) (ls : List (Int × List Nat)) : Nat := ((ls.map (·.2)).flatten).count x
theorem th_snoc (x : Nat) (ls : List (Int × List Nat)) (e : Int × List Nat) : th x (ls ++ [e]) = th x ls + e.2.count x := by simp [th, List.count_append]
/-- no loop is lost, and none is held twice -/
def Kp (N : Nat) (s : St) : Prop := (∀ x, ct x N (s.on 0) + ct x N (s.on 1) + s.loose.count x + th x s.loops = if x < s.loops.length then 1 else 0) ∧ ∀ (i : Nat) (e : Int × List Nat), s.loops[i]? = some e → ∀ y, y ∈ e.2 → y < i
theorem Kp.zero (N : Nat) : Kp N s0 := by
  refine ⟨fun x => ?_, fun i e h => by simp [s0] at h⟩
  have : ct x N (fun _ => []) = 0 := by
    unfold ct
    rw [List.count_eq_zero]
    intro h
    obtain ⟨l, hl, hx⟩ := List.mem_flatten.1 h
    obtain ⟨j, -, rfl⟩ := List.mem_map.1 hl
    simp at hx
  show ct x N (fun _ => []) + ct x N (fun _ => []) + List.count x [] + th x [] = if x < ([] : List (Int × List Nat)).length then 1 else 0
  rw [this]
  simp [th]
theorem Kp.on {N : Nat} {s : St} (h : Kp N s) {b n y : Nat} (hb : b < 2) (hn : n < N) (hy : y ∈ s.on b n) : y < s.loops.length := by
  have h1 := h.1 y
  rcases (show b = 0 ∨ b = 1 by omega) with rfl | rfl
  · have := ct_mem hn hy
    split at h1
    · assumption
    · omega
  · have := ct_mem hn hy
    split at h1
    · assumption
    · omega
theorem ct_upd {x N b n b' : Nat} {f : Nat → Nat → List Nat} {ys : List Nat} (hn : n < N) : ct x N (upd f b n ys b') + (if b' = b then (f b n).count x else 0) = ct x N (f b') + (if b' = b then ys.count x else 0) := by
  by_cases e : b' = b
  · subst e
    rw [if_pos rfl, if_pos rfl]
    have := ct_put (x := x) (f := f b') (g := upd f b' n ys b') hn (fun j hj => upd_other _ _ (fun q => hj q.2))
    rw [upd_same] at this
    exact this
  · rw [if_neg e, if_neg e]
    rw [ct_same (g := f b') (fun j _ => upd_other _ _ (fun q => e q.1))]
theorem Kp.next {N : Nat} {s : St} {x : Sx} (h : Kp N s) (hz : wrE N s x = 0) : Kp N (doS s x) := by
  obtain ⟨d1, d2, d3, d6, dn⟩ := wrE_zero hz
  unfold doS cnt doX
  by_cases e6 : x.dk = 6
  · rw [if_neg (by omega), if_neg (by omega), if_neg (by omega), if_neg (by omega), if_pos e6]
    exact h
  obtain ⟨b, n, hb, hn, b2, nN, -, hw⟩ := dn e6
  obtain ⟨z1, -, -⟩ := wnE_zero hw
  have e9 : x.bed.toNat = b := by omega
  have e10 : x.ndl.toNat = n := by omega
  rw [e9, e10]
  have hlow := fun y => h.on b2 nN (y := y)
  have hs : ∀ y, (s.on b n).count y = if y < s.loops.length then (s.on b n).count y else 0 := by
    intro y
    split
    · rfl
    · exact List.count_eq_zero.2 (fun q => by have := hlow y q; omega)
  have new : ∀ (e : Int × List Nat), (∀ y, y ∈ e.2 → y < s.loops.length) → ∀ (i : Nat) (e' : Int × List Nat), (s.loops ++ [e])[i]? = some e' → ∀ y, y ∈ e'.2 → y < i := by
    intro e he i e' hi y hy
    rcases Nat.lt_or_ge i s.loops.length with c | c
    · rw [List.getElem?_append_left c] at hi
      exact h.2 i e' hi y hy
    · rw [List.getElem?_append_right c] at hi
      obtain hi0 : i - s.loops.length = 0 := by
        rcases Nat.eq_zero_or_pos (i - s.loops.length) with q | q
        · exact q
        · rw [List.getElem?_eq_none (by simp; omega)] at hi; cases hi
      rw [hi0] at hi
      simp at hi
      rw [← hi] at hy
      have := he y hy
      omega
  have sum : ∀ (f : Nat → Nat → List Nat) (ys : List Nat) (b : Nat), b < 2 → ∀ y n, n < N → ct y N (upd f b n ys 0) + ct y N (upd f b n ys 1) + (f b n).count y = ct y N (f 0) + ct y N (f 1) + ys.count y := by
    intro f ys b hb y n hn
    have a0 := ct_upd (x := y) (b := b) (b' := 0) (f := f) (ys := ys) hn
    have a1 := ct_upd (x := y) (b := b) (b' := 1) (f := f) (ys := ys) hn
    rcases (show b = 0 ∨ b = 1 by omega) with rfl | rfl
    · simp at a0 a1; omega
    · simp at a0 a1; omega
  by_cases e1 : x.dk = 1
  · rw [if_pos e1]
    refine ⟨fun y => ?_, new _ (fun y hy => hlow y hy)⟩
    have h1 := h.1 y
    have h2 := sum s.on [s.loops.length] b b2 y n nN
    show ct y N (upd s.on b n [s.loops.length] 0) + ct y N (upd s.on b n [s.loops.length] 1) + s.loose.count y + th y (s.loops ++ [(x.car, s.on b n)]) = if y < (s.loops ++ [(x.car, s.on b n)]).length then 1 else 0
    rw [th_snoc, List.length_append]
    have h3 : [s.loops.length].count y = if y = s.loops.length then 1 else 0 := by
      rw [List.count_singleton]
      by_cases q : y = s.loops.length
      · simp [q]
      · rw [if_neg q, if_neg (by simpa using fun q' => q q'.symm)]
    rw [h3] at h2
    simp only [List.length_cons, List.length_nil]
    by_cases c : y < s.loops.length
    · rw [if_pos c] at h1
      rw [if_neg (by omega)] at h2
      rw [if_pos (by omega)]
      omega
    · rw [if_neg c] at h1
      by_cases c2 : y = s.loops.length
      · rw [if_pos c2] at h2
        rw [if_pos (by omega)]
        omega
      · rw [if_neg c2] at h2
        rw [if_neg (by omega)]
        omega
  rw [if_neg e1]
  by_cases e2 : x.dk = 2
  · rw [if_pos e2]
    refine ⟨fun y => ?_, new _ (fun y hy => by simp at hy)⟩
    have h1 := h.1 y
    have h2 := sum s.on (s.on b n ++ [s.loops.length]) b b2 y n nN
    show ct y N (upd s.on b n (s.on b n ++ [s.loops.length]) 0) + ct y N (upd s.on b n (s.on b n ++ [s.loops.length]) 1) + s.loose.count y + th y (s.loops ++ [(x.car, [])]) = if y < (s.loops ++ [(x.car, ([] : List Nat))]).length then 1 else 0
    rw [th_snoc, List.length_append]
    have h3 : [s.loops.length].count y = if y = s.loops.length then 1 else 0 := by
      rw [List.count_singleton]
      by_cases q : y = s.loops.length
      · simp [q]
      · rw [if_neg q, if_neg (by simpa using fun q' => q q'.symm)]
    rw [List.count_append, h3] at h2
    simp only [List.length_cons, List.length_nil, List.count_nil]
    by_cases c : y < s.loops.length
    · rw [if_pos c] at h1
      rw [if_neg (by omega)] at h2
      rw [if_pos (by omega)]
      omega
    · rw [if_neg c] at h1
      by_cases c2 : y = s.loops.length
      · rw [if_pos c2] at h2
        rw [if_pos (by omega)]
        omega
      · rw [if_neg c2] at h2
        rw [if_neg (by omega)]
        omega
  rw [if_neg e2]
  by_cases e4 : x.dk = 4
  · rw [if_pos e4]
    have hf := (hasB_iff _ _ _).1 (z1 e4)
    rw [hn]
    obtain ⟨fn, hfn⟩ : ∃ fn : Nat, fcN s.rack b n = fn := ⟨(fcN s.rack b n).toNat, by omega⟩
    rw [hfn]
    have e11 : ((fn : Nat) : Int).toNat = fn := rfl
    rw [e11]
    have hne : ¬ (fcB b = b ∧ fn = n) := fun q => by have := q.1; unfold fcB at this; split at this <;> omega
    refine ⟨fun y => ?_, h.2⟩
    have h1 := h.1 y
    have h2 := sum s.on [] b b2 y n nN
    have h3 := sum (upd s.on b n []) (s.on (fcB b) fn ++ s.on b n) (fcB b) fcB_two y fn (by omega)
    rw [upd_other _ _ hne, List.count_append] at h3
    simp at h2
    show ct y N (upd (upd s.on b n []) (fcB b) fn (s.on (fcB b) fn ++ s.on b n) 0) + ct y N (upd (upd s.on b n []) (fcB b) fn (s.on (fcB b) fn ++ s.on b n) 1) + s.loose.count y + th y s.loops = _
    rw [← h1]
    omega
  rw [if_neg e4]
  by_cases e5 : x.dk = 5
  · rw [if_pos e5]
    refine ⟨fun y => ?_, h.2⟩
    have h1 := h.1 y
    have h2 := sum s.on [] b b2 y n nN
    simp at h2
    show ct y N (upd s.on b n [] 0) + ct y N (upd s.on b n [] 1) + (s.loose ++ s.on b n).count y + th y s.loops = _
    rw [List.count_append, ← h1]
    omega
  rw [if_neg e5, if_neg e6]
  exact h
theorem Kp.kn (N : Nat) (f : Nat → Sx) (k : Nat) : Kp N (knS N f k) := by
  induction k with
  | zero => exact Kp.zero N
  | succ k ih =>
    simp only [knS]
    split
    · rename_i h; exact ih.next h
    · exact ih
end Go.Proofs.Ytnolblcfafdnpaa
