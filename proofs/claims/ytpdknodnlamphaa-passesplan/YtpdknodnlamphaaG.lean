/-
  Package passes: Plan.
-/
import Derived.Test.YtpdknodnlamphaaF
namespace Go.Proofs.Ytpdknodnlamphaa
open Go.RowKit

/-- passes that lie in a slice -/
def Sp (W : World) (q : Option Addr) (m : Nat) (f : Nat → Int × Int) : Prop := m = 0 ∨ ∃ b o, q = some ⟨b, o, none⟩ ∧ b < W.heap.size ∧ ∀ k, k < m → W.cell? ⟨b, o + k * 2, none⟩ = some (.int .i64 (f k).1) ∧ W.cell? ⟨b, o + k * 2 + 1, none⟩ = some (.int .i64 (f k).2)
theorem Sp.keep {W V : World} {q : Option Addr} {n : Nat} {f : Nat → Int × Int} (h : Sp W q n f) (hb : Below W.heap.size W V) : Sp V q n f := by
  rcases h with h | ⟨b, o, e, hl, hk⟩
  · exact .inl h
  · exact .inr ⟨b, o, e, Nat.lt_of_lt_of_le hl hb.size, fun k hkn => ⟨keepC hb hl (hk k hkn).1, keepC hb hl (hk k hkn).2⟩⟩
/-- passes in a row that may be written -/
def PRow (W : World) (g d : Nat) (f : Nat → Int × Int) : Prop := g < W.heap.size ∧ ∀ j, j < d → (W.cell? ⟨g, j * 2, none⟩ = some (.int .i64 (f j).1) ∧ W.frozen? ⟨g, j * 2, none⟩ = false) ∧ (W.cell? ⟨g, j * 2 + 1, none⟩ = some (.int .i64 (f j).2) ∧ W.frozen? ⟨g, j * 2 + 1, none⟩ = false)
theorem PRow.keep {W V : World} {g d : Nat} {f : Nat → Int × Int} (h : PRow W g d f) (hb : Below W.heap.size W V) : PRow V g d f :=
  ⟨Nat.lt_of_lt_of_le h.1 hb.size, fun j hj => ⟨⟨keepC hb h.1 (h.2 j hj).1.1, keepF hb h.1 (h.2 j hj).1.2⟩, keepC hb h.1 (h.2 j hj).2.1, keepF hb h.1 (h.2 j hj).2.2⟩⟩
theorem PRow.kept {S : Nat → Prop} {W V : World} {g d : Nat} {f : Nat → Int × Int} (h : PRow W g d f) (k : Kept S W V) (hS : ¬ S g) : PRow V g d f :=
  ⟨Nat.lt_of_lt_of_le h.1 k.size, fun j hj => ⟨⟨k.cell h.1 hS (h.2 j hj).1.1, k.froz h.1 hS (h.2 j hj).1.2⟩, k.cell h.1 hS (h.2 j hj).2.1, k.froz h.1 hS (h.2 j hj).2.2⟩⟩
theorem PRow.set {W : World} {g d : Nat} {f : Nat → Int × Int} (h : PRow W g d f) (i : Nat) (x y : Int) : PRow ((W.setCell ⟨g, i * 2, none⟩ (.int .i64 x)).setCell ⟨g, i * 2 + 1, none⟩ (.int .i64 y)) g d (fun j => if j = i then (x, y) else f j) := by
  refine ⟨by simpa using h.1, fun j hj => ?_⟩
  obtain ⟨⟨a1, a2⟩, a3, a4⟩ := h.2 j hj
  refine ⟨⟨?_, fset (fset a2)⟩, ?_, fset (fset a4)⟩
  all_goals dsimp only
  · by_cases e : j = i
    · subst e
      rw [if_pos rfl]
      exact cset (csame a1) (by omega)
    · rw [if_neg e]
      exact cset (cset a1 (by omega)) (by omega)
  · by_cases e : j = i
    · subst e
      rw [if_pos rfl]
      exact csame (cset a3 (by omega))
    · rw [if_neg e]
      exact cset (cset a3 (by omega)) (by omega)
theorem PRow.congr {W : World} {g d : Nat} {f f' : Nat → Int × Int} (h : PRow W g d f) (e : ∀ j, j < d → f j = f' j) : PRow W g d f' := ⟨h.1, fun j hj => by rw [← e j hj]; exact h.2 j hj⟩
theorem PRow.sp {W : World} {g d : Nat} {f : Nat → Int × Int} (h : PRow W g d f) : Sp W (some ⟨g, 0, none⟩) d f := .inr ⟨g, 0, rfl, h.1, fun k hk => by simpa using ⟨(h.2 k hk).1.1, (h.2 k hk).2.1⟩⟩
theorem info44 : (Try.prog.info? 44).map (fun i => (i.zero, i.size, i.bytes)) = some (some (.agg #[.int .i64 0, .int .i64 0]), 2, 16) := by kernel_rfl
theorem made_two (z : Value) (m j : Nat) (hj : j < m) : (madeCells #[z, z] m).toList[j]? = some z := by
  have h : j % 2 = 0 ∨ j % 2 = 1 := by omega
  rcases h with h | h <;> simp [madeCells, hj, h]
theorem prow_made {w : World} {B b k : Nat} {f : Nat → Int × Int} (h : w.ownsRow B 44 2 (.slice (some ⟨b, 0, none⟩) k k) k (madeCells #[.int .i64 0, .int .i64 0] (k * 2)).toList) : PRow w b k (fun j => if j < 0 then f j else (0, 0)) :=
  ⟨(h.lt b rfl).2, fun j hj => ⟨⟨by rw [h.cellAt (j * 2) (by omega), made_two _ _ _ (by omega)]; simp, h.frozenAt _⟩, by rw [h.cellAt (j * 2 + 1) (by omega), made_two _ _ _ (by omega)]; simp, h.frozenAt _⟩⟩
theorem dst_small {z : Pz} (hE : OkS z z.E) (hn : z.n < 6) {k : Nat} {l : List Int} (h : dst z k l) : k + 1 ≤ 248832 := by
  have hd : ((List.range (k + 1)).map (planAt z k l)).Nodup := by
    rw [List.Nodup, List.pairwise_map]
    refine List.nodup_range.imp_of_mem ?_
    intro a b ha hb hne e
    have ha := List.mem_range.1 ha
    have hb := List.mem_range.1 hb
    have h1 := planAt_dst hE (i := a) (by omega) h
    have h2 := planAt_dst hE (i := b) (by omega) h
    rw [e] at h1
    have := dst_unique h1 h2
    omega
  have := few_of hn hd (fun x hx => by
    obtain ⟨i, hi, rfl⟩ := List.mem_map.1 hx
    have hi := List.mem_range.1 hi
    exact rc_ok hE (planAt_dst hE (i := i) (by omega) h).1)
  simpa using this
/-- a list of passes, by their places -/
def plF (l : List Ps) (j : Nat) : Int × Int := ((l.getD j (0, 0)).1, ((l.getD j (0, 0)).2 : Nat))
theorem plF_at {l : List Ps} {j : Nat} {p : Ps} (h : l[j]? = some p) : plF l j = (p.1, ((p.2 : Nat) : Int)) := by simp [plF, List.getD, h]

/-- a pass put into its place, and a way to stand into its box -/
theorem put_step {V : World} {g b k : Nat} {f : Nat → Int × Int} {f0 : Nat → Int} (h : PRow V g k f) (a : SR V b f0) (hne : g ≠ b) (i : Nat) (x y : Int) (f1 : Nat → Int) :
    ∃ V', (((((((V.setCell ⟨g, i * 2, none⟩ (.int .i64 x)).setCell ⟨g, i * 2 + 1, none⟩ (.int .i64 y)).setCell ⟨b, 0, none⟩ (.int .i64 (f1 0))).setCell ⟨b, 1, none⟩ (.int .i64 (f1 1))).setCell ⟨b, 2, none⟩ (.int .i64 (f1 2))).setCell ⟨b, 3, none⟩ (.int .i64 (f1 3))).setCell ⟨b, 4, none⟩ (.int .i64 (f1 4))) = V' ∧
      PRow V' g k (fun j => if j = i then (x, y) else f j) ∧ SR V' b f1 ∧ Kept (fun j => j = g ∨ j = b) V V' := by
  have K : Kept (fun j => j = g ∨ j = b) V _ := ((((((((Kept.refl _ V).set (b := g) (i * 2) (.int .i64 x) (.inl (.inl rfl))).set (b := g) (i * 2 + 1) (.int .i64 y) (.inl (.inl rfl))).set (b := b) 0 (.int .i64 (f1 0)) (.inl (.inr rfl))).set (b := b) 1 (.int .i64 (f1 1)) (.inl (.inr rfl))).set (b := b) 2 (.int .i64 (f1 2)) (.inl (.inr rfl))).set (b := b) 3 (.int .i64 (f1 3)) (.inl (.inr rfl))).set (b := b) 4 (.int .i64 (f1 4)) (.inl (.inr rfl)))
  have k2 : SR ((V.setCell ⟨g, i * 2, none⟩ (.int .i64 x)).setCell ⟨g, i * 2 + 1, none⟩ (.int .i64 y)) b f0 := (a.kept (kset V g _ _) (fun e => hne e.symm)).kept (kset _ g _ _) (fun e => hne e.symm)
  have pk : ∀ {U : World} {j : Nat} {v : Value} {f' : Nat → Int × Int}, PRow U g k f' → PRow (U.setCell ⟨b, j, none⟩ v) g k f' := fun hU => hU.kept (kset _ b _ _) hne
  refine ⟨_, rfl, pk (pk (pk (pk (pk (h.set i x y))))), (((((k2.set 0 (f1 0)).set 1 (f1 1)).set 2 (f1 2)).set 3 (f1 3)).set 4 (f1 4)).congr ?_, K⟩
  intro j hj
  rcases j with _ | _ | _ | _ | _ | j
  · rfl
  · rfl
  · rfl
  · rfl
  · rfl
  · omega
/-- a start and an end that are right -/
structure Rt (z : Pz) (f : Nat → Int) : Prop where
  n1 : 1 ≤ z.n
  n5 : z.n ≤ 5
  sl : 1 ≤ z.sl ∧ z.sl ≤ 11
  e : OkS z z.E
  s : OkS z (tl z.n f)
theorem wE_ok {n m : Nat} {f t : Nat → Int} {sl : Int} (h : wE n m f t sl = 0) : m = n ∧ Rt ⟨n, t, sl⟩ f ∧ ¬ ShN n f := by
  unfold wE at h
  by_cases h1 : n < 1 ∨ 5 < n ∨ m ≠ n
  · rw [if_pos h1] at h; omega
  · rw [if_neg h1] at h
    by_cases h2 : sl < 1 ∨ 12 ≤ sl
    · rw [if_pos h2] at h; omega
    · rw [if_neg h2] at h
      by_cases h3 : shB n f = true
      · rw [if_pos h3] at h; omega
      · rw [if_neg h3] at h
        by_cases h4 : stB n t sl f = false
        · rw [if_pos h4] at h; omega
        · rw [if_neg h4] at h
          by_cases h5 : stB n t sl t = false
          · rw [if_pos h5] at h; omega
          · have e4 : stB n t sl f = true := by simpa using h4
            have e5 : stB n t sl t = true := by simpa using h5
            refine ⟨by omega, ⟨by show 1 ≤ n; omega, by show n ≤ 5; omega, by show 1 ≤ sl ∧ sl ≤ 11; omega, ⟨by simp [Pz.E], ?_⟩, ⟨by simp, ?_⟩⟩, fun k => h3 (by unfold shB; simpa using k)⟩
            · exact (stB_iff.1 e5).congr (fun _ _ => rfl) (fun i hi => (gt_tl t hi).symm)
            · exact (stB_iff.1 e4).congr (fun _ _ => rfl) (fun i hi => (gt_tl f hi).symm)

set_option maxRecDepth 100000 in
set_option maxHeartbeats 4000000 in
theorem plan_err (q p : Option Addr) (n m c d : Nat) (f t : Nat → Int) (sl : Int) (W : World) (hq : Is W q n f) (hp : Is W p m t) (he : wE n m f t sl ≠ 0) :
    Calls Try.prog 8 #[.slice q n c, .slice p m d, .int .i64 sl] W fun e w' => e = .returned (.tuple #[.slice none 0 0, .int .i64 (wE n m f t sl)]) ∧ Below W.heap.size W w' := by
  have HW := hide (wrong_any q p n m c d f t sl W hq hp)
  generalize hx : wE n m f t sl = x at *
  have hx' : (x != 0) = true := by simpa using he
  clear hx hq hp
  go_enter Try.func8, Try.ntmps8
  go_wp2_with fail
  refine (unhide HW).mono ?_
  rintro e w1 ⟨rfl, j, hj⟩
  have B1 : Below W.heap.size W w1 := by rw [hj]; exact Joins.below_draws _ W j
  have HB := hide B1
  clear hj B1 he
  go_wp2
  exact bodyPost_ret (v := .tuple #[.slice none 0 0, .int .i64 x]) (by simp [results, Try.results8, go_sem]) rfl ⟨rfl, unhide HB⟩

/-- what Plan answers, of what is right -/
def PlanPost (W : World) (z : Pz) (f : Nat → Int) (e : Ending) (w' : World) : Prop := Below W.heap.size W w' ∧
  ((e = .returned (.tuple #[.slice none 0 0, .int .i64 6]) ∧ ∀ k, ¬ rc z k (tl z.n f)) ∨ ∃ k g, dst z k (tl z.n f) ∧ e = .returned (.tuple #[.slice (some ⟨g, 0, none⟩) k k, .int .i64 0]) ∧ W.heap.size ≤ g ∧ PRow w' g k (plF (plan z k (tl z.n f))))
set_option maxRecDepth 100000 in
set_option maxHeartbeats 4000000 in
theorem plan_mid (q p : Option Addr) (c d : Nat) (f : Nat → Int) (z : Pz) (W : World) (hq : Is W q z.n f) (hp : Is W p z.n z.t) (he : wE z.n z.n f z.t z.sl = 0) :
    Calls Try.prog 8 #[.slice q z.n c, .slice p z.n d, .int .i64 z.sl] W (PlanPost W z f) := by
  obtain ⟨-, hR, -⟩ := wE_ok he
  have hR : Rt z f := hR
  have HW := hide (wrong_any q p z.n z.n c d f z.t z.sl W hq hp)
  rw [he] at HW
  have hp' : Iq W.heap.size W p z.n z.t := by
    rcases hp with h | ⟨b, o, e, hb, hc⟩
    · have := hR.n1; omega
    · exact ⟨b, o, e, hb, hc⟩
  go_enter Try.func8, Try.ntmps8
  go_wp2_with fail
  refine (unhide HW).mono ?_
  rintro e w1 ⟨rfl, j, hj⟩
  have B1 : Below W.heap.size W w1 := by rw [hj]; exact Joins.below_draws _ W j
  have HB1 := hide B1
  clear hj
  have b2 := btrans B1 (bnew w1 (.cells #[.slice p z.n d, .int .i64 z.sl] 36))
  have K2 := KB.new w1 p z.n d z.sl 36
  have HSt := hide (fun V (hb : Below W.heap.size W V) => standingOn_any q z.n c f V (hq.keep hb) hR.n1 hR.n5)
  go_wp2_with fail
  obtain ⟨w2, hw2⟩ : ∃ w2, w1.alloc (.cells #[.slice p z.n d, .int .i64 z.sl] 36) = w2 := ⟨_, rfl⟩
  rw [hw2] at b2 K2
  rw [hw2]
  have hb9 : W.heap.size ≤ w1.heap.size := B1.size
  clear hw2
  generalize w1.heap.size = b9 at *
  refine (unhide HSt w2 b2).mono ?_
  rintro e u ⟨rfl, hbu⟩
  obtain ⟨l, hl⟩ : ∃ l, l = tl z.n f := ⟨_, rfl⟩
  rw [← hl]
  have Hl := hide hl
  have b4 := btrans hbu (bnew u (.cells #[.int .i64 (gt l 0), .int .i64 (gt l 1), .int .i64 (gt l 2), .int .i64 (gt l 3), .int .i64 (gt l 4)] 38))
  have A4 := SR.new u (gt l) 38
  obtain ⟨w4, hw4⟩ : ∃ w4, u.alloc (.cells #[.int .i64 (gt l 0), .int .i64 (gt l 1), .int .i64 (gt l 2), .int .i64 (gt l 3), .int .i64 (gt l 4)] 38) = w4 := ⟨_, rfl⟩
  rw [hw4] at b4 A4
  have hb10 : b9 < u.heap.size := Nat.lt_of_lt_of_le K2.1 hbu.size
  generalize hb10' : u.heap.size = b10 at *
  have K4 := K2.keep b4
  have B4 := btrans b2 b4
  have I4 : Iq W.heap.size w4 p z.n z.t := by
    obtain ⟨b, o, e, hb, hc⟩ := hp'
    exact ⟨b, o, e, hb, fun i hi => keepC B4 hb (hc i hi)⟩
  have hls : OkS z l := hl ▸ hR.s
  have HHf := hide (howFar_any z hR.n1 hR.n5 hR.sl hR.e l hls p d W.heap.size w4 B4.size I4)
  obtain ⟨-, k0, k1⟩ := id K4
  have a0 := (A4.2 0 (by omega)).1
  have a1 := (A4.2 1 (by omega)).1
  have a2 := (A4.2 2 (by omega)).1
  have a3 := (A4.2 3 (by omega)).1
  have a4 := (A4.2 4 (by omega)).1
  have HB4 := hide B4
  have HK4 := hide K4
  have HA4 := hide A4
  clear HSt b2 hbu K2 b4 hl HW B1 HB1 hq hp hp' K4 A4 B4
  go_wp2_with fail
  refine (unhide HHf).mono ?_
  rintro e w5 ⟨bm, G, rfl, hM5, hF5, hb5⟩
  have K5 := (unhide HK4).keep hb5
  have A5 := (unhide HA4).keep hb5
  have B5 := btrans (unhide HB4) hb5
  have I5 : Iq W.heap.size w5 p z.n z.t := by
    obtain ⟨b, o, e, hb, hc⟩ := I4
    exact ⟨b, o, e, hb, fun i hi => keepC hb5 (by have := (unhide HB4).size; omega) (hc i hi)⟩
  obtain ⟨kl, hkl⟩ := key_st (okS_bound hls)
  clear k0 k1 a0 a1 a2 a3 a4 HK4 HA4 HHf hw4 I4
  have a0 := (A5.2 0 (by omega)).1
  have a1 := (A5.2 1 (by omega)).1
  have a2 := (A5.2 2 (by omega)).1
  have a3 := (A5.2 3 (by omega)).1
  have a4 := (A5.2 4 (by omega)).1
  by_cases hkn : Kn G l
  · obtain ⟨k, hk⟩ := hkn
    have hdk := hF5.ok _ hk
    have L1 := hM5.found keyed38 Try.underlying40 (x := stV l) (v := k) (List.mem_map.2 ⟨_, hk, rfl⟩) true
    simp only [if_true] at L1
    have HK5 := hide K5
    have HA5 := hide A5
    have HB5 := hide B5
    have HM5 := hide hM5
    clear K5 A5 B5 hM5 hb5
    obtain ⟨i0, hi, hz0, hz1, hz2⟩ := info_parts info44
    have hks : k + 1 ≤ 248832 := dst_small hR.e (by have := hR.n5; omega) hdk
    go_wp2_with (refine wpList_make_full _ rfl _ _ 23 rfl W.heap.size 44 i0 _ 2 Try.underlying23 hi hz0 hz1 .i64 .i64 ((k : Nat) : Int) ((k : Nat) : Int) k rfl rfl rfl rfl (by rw [hz2]; omega) (by unfold maxLen; omega) (by have := (unhide HB5).size; omega) ?_)
    intro w6 hown hgrow
    have R6 := prow_made (f := plF (plan z k l)) hown
    have B56 := (Below.refl _ w5).grown hgrow (Nat.le_refl _) (fun j hj => by cases hj)
    have K6 := (unhide HK5).keep B56
    have A6 := (unhide HA5).keep B56
    have B6 := btrans (unhide HB5) B56
    have M6 := (unhide HM5).keep B56
    have I6 : Iq W.heap.size w6 p z.n z.t := by
      obtain ⟨b, o, e, hb, hc⟩ := I5
      exact ⟨b, o, e, hb, fun i hi => keepC B56 (by have := (unhide HB5).size; omega) (hc i hi)⟩
    have hg : b10 < w5.heap.size := (unhide HA5).1
    have hbg : W.heap.size ≤ w5.heap.size := (unhide HB5).size
    have hmg : bm < w5.heap.size := (unhide HM5).lt
    clear hown hgrow HK5 HA5 HB5 HM5 I5 L1 a0 a1 a2 a3 a4 B56
    generalize w5.heap.size = g at *
    go_wp2
    go_loopw [43] (fun i wr => ∃ x : Nat, x ≤ k ∧ i = .int .i64 x ∧ PRow wr g k (fun j => if j < x then plF (plan z k l) j else (0, 0)) ∧ KB wr b9 p z.n d z.sl ∧ SR wr b10 (gt (planAt z k l x)) ∧ MpI wr 38 bm (encG G) ∧ Iq W.heap.size wr p z.n z.t ∧ Below W.heap.size W wr) (fun i _ => k - (intOf i).toNat)
    case atStart => exact ⟨0, Nat.zero_le _, rfl, R6, K6, by rw [show planAt z k l 0 = l from by cases k <;> rfl]; exact A6, M6, I6, B6⟩
    case round =>
      clear R6 K6 A6 M6 I6 B6
      obtain ⟨x, hx, rfl, R, K, A, M, I, B⟩ := hrel
      by_cases hlt : x < k
      · have hdx := planAt_dst hR.e (i := x) (by omega) hdk
        have hstp := planAt_step (z := z) (k := k) (l := l) hlt
        obtain ⟨y, hy⟩ : ∃ y, y = k - x - 1 := ⟨_, rfl⟩
        rw [← hy] at hstp
        rw [show k - x = y + 1 by omega] at hdx
        have hmem : (planAt z k l x, y + 1) ∈ G := by
          obtain ⟨j', hj'⟩ := hF5.all k hdk (y + 1) _ (by omega) hdx.1
          have : j' = y + 1 := dst_unique (hF5.ok _ hj') hdx
          rw [this] at hj'
          exact hj'
        have HN := hide (nearer_any z hR.n1 hR.n5 hR.sl hR.e (planAt z k l x) y hdx G hF5.ok hmem (fun j' x' hj' hr => hF5.all k hdk j' x' (by omega) hr) p d bm W.heap.size wr B.size I M)
        have Hst := hide hstp
        generalize planAt z k l x = at0 at *
        generalize pick z y at0 = ps at *
        obtain ⟨-, k0, k1⟩ := id K
        have a0 := (A.2 0 (by omega)).1
        have a1 := (A.2 1 (by omega)).1
        have a2 := (A.2 2 (by omega)).1
        have a3 := (A.2 3 (by omega)).1
        have a4 := (A.2 4 (by omega)).1
        have p0 : (x : Int) < (k : Int) := by omega
        have HRo := hide R
        have HK := hide K
        have HA := hide A
        have HM := hide M
        have HI := hide I
        have HB := hide B
        clear R K A M I B hstp hdx hmem hy
        go_wp2_with fail
        refine (unhide HN).mono ?_
        rintro e w7 ⟨rfl, hb7⟩
        have R7 := (unhide HRo).keep hb7
        have K7 := (unhide HK).keep hb7
        have A7 := (unhide HA).keep hb7
        have M7 := (unhide HM).keep hb7
        have B7 := btrans (unhide HB) hb7
        have I7 : Iq W.heap.size w7 p z.n z.t := by
          obtain ⟨b, o, e, hb, hc⟩ := unhide HI
          exact ⟨b, o, e, hb, fun i hi => keepC hb7 (by have := (unhide HB).size; omega) (hc i hi)⟩
        clear k0 k1 a0 a1 a2 a3 a4 HRo HK HA HM HI HB HN hb7
        obtain ⟨w8, hw8, R8, A8, K8⟩ := put_step R7 A7 (by omega) x ps.1 (ps.2 : Nat) (gt (bh at0 ps))
        obtain ⟨⟨c0, z0⟩, c1, z1⟩ := R7.2 x hlt
        dsimp only at c0 c1
        rw [if_neg (Nat.lt_irrefl x)] at c0 c1
        obtain ⟨a0, y0⟩ := A7.2 0 (by omega)
        obtain ⟨a1, y1⟩ := A7.2 1 (by omega)
        obtain ⟨a2, y2⟩ := A7.2 2 (by omega)
        obtain ⟨a3, y3⟩ := A7.2 3 (by omega)
        obtain ⟨a4, y4⟩ := A7.2 4 (by omega)
        have HFin := hide (show PRow w8 g k (fun j => if j < x + 1 then plF (plan z k l) j else (0, 0)) ∧ KB w8 b9 p z.n d z.sl ∧ SR w8 b10 (gt (planAt z k l (x + 1))) ∧ MpI w8 38 bm (encG G) ∧ Iq W.heap.size w8 p z.n z.t ∧ Below W.heap.size W w8 from by
          refine ⟨R8.congr (fun j' _ => ?_), ⟨Nat.lt_of_lt_of_le K7.1 K8.size, K8.cell K7.1 (by omega) K7.2.1, K8.cell K7.1 (by omega) K7.2.2⟩, by rw [(unhide Hst).1]; exact A8, ?_, ?_, K8.back B7 (B7.size) (fun i' hi' => by omega)⟩
          · by_cases e : j' = x
            · subst e
              rw [if_pos rfl, if_pos (by omega), plF_at (unhide Hst).2]
            · rw [if_neg e]
              by_cases e2 : j' < x
              · rw [if_pos e2, if_pos (by omega)]
              · rw [if_neg e2, if_neg (by omega)]
          · obtain ⟨es, cl, h0, -⟩ := id M7
            refine M7.block (K8.2.2.2.2 bm M7.lt (fun e => ?_))
            obtain ⟨o, ho, hcs⟩ := cells_of_cell a0
            rcases e with e | e
            · omega
            · rw [show (⟨b10, 0, none⟩ : Addr).block = bm from e.symm, h0] at ho; cases ho; cases hcs
          · obtain ⟨b, o, e, hb, hc⟩ := I7
            exact ⟨b, o, e, hb, fun i' hi' => K8.cell (World.block_lt_of_cell? w7 _ (hc i' hi')) (by omega) (hc i' hi')⟩)
        clear R8 A8 K8 R7 K7 A7 M7 I7 B7
        go_wp2
        go_roundw
        case rel => exact ⟨x + 1, by omega, by go_num, unhide HFin⟩
        case measure => simp [intOf]; omega
      · obtain rfl : x = k := by omega
        have cl : ¬ ((x : Int) < (x : Int)) := by omega
        have HFin := hide (show PRow wr g x (plF (plan z x (tl z.n f))) from by rw [← unhide Hl]; exact R.congr (fun j' hj' => if_pos hj'))
        have HB := hide B
        have Hd := hide (show dst z x (tl z.n f) from unhide Hl ▸ hdk)
        clear R K A M I B hlt
        go_wp2
        exact bodyPost_ret (v := .tuple #[.slice (some ⟨g, 0, none⟩) x x, .int .i64 0]) (by simp [results, Try.results8, go_sem]) rfl ⟨unhide HB, .inr ⟨x, g, unhide Hd, rfl, hbg, unhide HFin⟩⟩
  · have L1 := hM5.missed keyed38 Try.underlying40 hkl (fun p hp e => by
      obtain ⟨g, hg, rfl⟩ := List.mem_map.1 hp
      have hgo := rc_ok hR.e (hF5.ok g hg).1
      have e2 : g.1 = l := stV_inj (hgo.1.trans hls.1.symm) (by have := hgo.1; have := hR.n5; omega) e
      exact hkn ⟨g.2, by rw [← e2]; exact hg⟩) true
    simp only [if_true] at L1
    have HFin := hide (show ∀ k, ¬ rc z k (tl z.n f) from fun k hr => by
      rw [← unhide Hl] at hr
      obtain ⟨j, -, hdj⟩ := rc_dst hr
      exact hkn (hF5.all j hdj j l (Nat.le_refl _) hdj.1))
    have HB5 := hide B5
    clear K5 A5 hM5 hF5 hb5 hkn
    go_wp2
    exact bodyPost_ret (v := .tuple #[.slice none 0 0, .int .i64 6]) (by simp [results, Try.results8, go_sem]) rfl ⟨unhide HB5, .inl ⟨rfl, unhide HFin⟩⟩
end Go.Proofs.Ytpdknodnlamphaa
