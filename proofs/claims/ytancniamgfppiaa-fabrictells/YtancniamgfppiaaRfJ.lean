/-
  The document's Told.
-/
import Derived.Test.YtancniamgfppiaaRfG
namespace Go.Proofs.Ytancniamgfppiaa
open Go.RowKit

/-- rows of numbers in a row of one's own -/
def FR (W : World) (B : Nat) (v : Value) (xss : List (List Nat)) : Prop := ∃ hs : List (Value × List Nat), hs.map (·.2) = xss ∧ W.ownsRow B 27 1 v hs.length (hs.map (·.1)) ∧ ∀ e, e ∈ hs → NR W 0 e.1 e.2
theorem FR.form {W : World} {B : Nat} {v : Value} {xss : List (List Nat)} (h : FR W B v xss) : ∃ q c, v = .slice q xss.length c := by
  obtain ⟨hs, h1, h2, -⟩ := h
  obtain ⟨q, c, e⟩ := own_form h2
  exact ⟨q, c, by rw [e, ← h1, List.length_map]⟩
theorem FR.lr {W : World} {B : Nat} {v : Value} {xss : List (List Nat)} (h : FR W B v xss) : LR W 0 v xss := by
  obtain ⟨hs, h1, h2, h3⟩ := h
  rcases h2.2 with ⟨e, h0⟩ | ⟨g, cap, cur, e, -⟩
  · refine .inl ⟨e, ?_⟩
    rw [← h1, List.eq_nil_of_length_eq_zero h0]
    rfl
  · have hx : xss.length = hs.length := by rw [← h1, List.length_map]
    refine .inr ⟨g, cap, fun j => (hs.getD j (.slice none 0 0, [])).1, by rw [e, hx], ?_, Nat.zero_le _, fun n x hn => ?_⟩
    · rw [hx]
      subst e
      refine own_br (cap := cap) (B := B) ?_
      have : hs.map (·.1) = (List.range hs.length).map (fun j => (hs.getD j (.slice none 0 0, [])).1) := by
        apply List.ext_getElem
        · simp
        · intro i a b
          simp at a
          simp [a]
      rw [← this]
      exact h2
    · rw [← h1, List.getElem?_map] at hn
      rcases Nat.lt_or_ge n hs.length with c | c
      · rw [List.getElem?_eq_getElem c] at hn
        simp at hn
        have e : hs.getD n (.slice none 0 0, []) = hs[n] := by simp [c]
        rw [← hn]
        dsimp only
        rw [e]
        exact h3 _ (List.getElem_mem c)
      · rw [List.getElem?_eq_none c] at hn; cases hn
theorem LO.lpr {W : World} {B : Nat} {v : Value} {ls : List (Int × List Nat)} (h : LO W B v ls) : LPR W 0 v ls := by
  obtain ⟨hs, h1, h2, h3⟩ := h
  rcases h2.2 with ⟨e, h0⟩ | ⟨g, cap, cur, e, -⟩
  · refine .inl ⟨e, ?_⟩
    rw [← h1, List.eq_nil_of_length_eq_zero h0]
    rfl
  · have hx : ls.length = hs.length := by rw [← h1, List.length_map]
    subst e
    refine .inr ⟨g, cap, _, _, by rw [hx], by rw [hx]; exact own_cr h2, Nat.zero_le _, fun n x hn => ?_⟩
    rw [← h1, List.getElem?_map] at hn
    rcases Nat.lt_or_ge n hs.length with c | c
    · rw [List.getElem?_eq_getElem c] at hn
      simp at hn
      have e : hs.getD n (0, .slice none 0 0, []) = hs[n] := by simp [c]
      rw [← hn]
      dsimp only
      rw [e]
      exact ⟨rfl, h3 _ (List.getElem_mem c)⟩
    · rw [List.getElem?_eq_none c] at hn; cases hn
theorem KB.front {W : World} {b : Nat} {v0 v1 v2 v3 : Value} {r : Int} (k : KB W b v0 v1 v2 v3 r) (u : Value) : KB (W.setCell ⟨b, 1, none⟩ u) b v0 u v2 v3 r := by
  obtain ⟨⟨l, t⟩, ⟨a0, a1, a2, a3, a4⟩, f⟩ := k
  exact ⟨⟨by simpa using l, t.set _ _⟩, ⟨cset a0 (by decide), csame a1, cset a2 (by decide), cset a3 (by decide), cset a4 (by decide)⟩, fun j hj => fset (f j hj)⟩
theorem KB.back {W : World} {b : Nat} {v0 v1 v2 v3 : Value} {r : Int} (k : KB W b v0 v1 v2 v3 r) (u : Value) : KB (W.setCell ⟨b, 2, none⟩ u) b v0 v1 u v3 r := by
  obtain ⟨⟨l, t⟩, ⟨a0, a1, a2, a3, a4⟩, f⟩ := k
  exact ⟨⟨by simpa using l, t.set _ _⟩, ⟨cset a0 (by decide), cset a1 (by decide), csame a2, cset a3 (by decide), cset a4 (by decide)⟩, fun j hj => fset (f j hj)⟩
/-- two rows apart -/
def Sep (u v : Value) : Prop := ∀ g, u.ownBlock = some g → v.ownBlock ≠ some g
/-- what is told so far -/
def TQ (w0 : World) (kb : Nat) (lv sv : Value) (rk : Int) (fs bs : List (List Nat)) (wr : World) : Prop := ∃ vf vb, KB wr kb lv vf vb sv rk ∧ FR wr w0.heap.size vf fs ∧ FR wr w0.heap.size vb bs ∧ Sep vf vb ∧ Kept (fun i => i = kb) w0 wr
theorem FR.grow {wr wc w6 : World} {B n : Nat} {vf vf' ov : Value} {ys : List Nat} {hs : List (Value × List Nat)} (he : n = hs.length) (hb : Below wr.heap.size wr wc) (h3 : ∀ e, e ∈ hs → NR wr 0 e.1 e.2) (hv : wc.ownsRow B 27 1 vf n (hs.map (·.1))) (hy : NR wc 0 ov ys) (hg : wc.grownBy w6 vf.ownBlock) (ho : w6.ownsRow B 27 1 vf' (n + 1) (hs.map (·.1) ++ [ov])) {kb : Nat} (hk : Tg w6 kb 29) (o : Nat) : FR (w6.setCell ⟨kb, o, none⟩ vf') B vf' (hs.map (·.2) ++ [ys]) := by
  subst he
  have k1 : Kept (fun i => Tg wc i 27) wc w6 := grown_kept hg (fun i e => .inl (own_tg hv e))
  have k2 := kset w6 kb o vf'
  have n1 : ∀ i, Tg wc i 27 → ¬ Tg wc i 3 := fun i q t => tg_not q (by decide) t
  have n2 : ∀ {u : TypeId}, (29 : TypeId) ≠ u → ∀ i, i = kb → ¬ Tg w6 i u := fun h i e t => tg_not (show Tg w6 i 29 from e ▸ hk) h t
  refine ⟨hs ++ [(ov, ys)], by simp, ?_, fun e he => ?_⟩
  · rw [List.length_append, List.map_append]
    exact own_kept ho k2 (n2 (by decide))
  · rcases List.mem_append.1 he with q | q
    · exact (((h3 e q).keep hb).kept k1 n1).kept k2 (n2 (by decide))
    · rw [List.mem_singleton.1 q]
      exact (hy.kept k1 n1).kept k2 (n2 (by decide))
theorem FR.stay {wr wc w6 : World} {B C n : Nat} {v vf vf' : Value} {xs : List Value} {xss : List (List Nat)} (h : FR wr B v xss) (hb : Below wr.heap.size wr wc) (hv : wc.ownsRow C 27 1 vf n xs) (hs : Sep vf v) (hg : wc.grownBy w6 vf.ownBlock) {kb : Nat} (hk : Tg w6 kb 29) (o : Nat) : FR (w6.setCell ⟨kb, o, none⟩ vf') B v xss := by
  obtain ⟨l, h1, h2, h3⟩ := h
  have k0 : Kept (fun i => vf.ownBlock = some i) wc w6 := grown_kept hg (fun i e => .inl e)
  have k1 : Kept (fun i => Tg wc i 27) wc w6 := grown_kept hg (fun i e => .inl (own_tg hv e))
  have k2 := kset w6 kb o vf'
  have n1 : ∀ i, Tg wc i 27 → ¬ Tg wc i 3 := fun i q t => tg_not q (by decide) t
  have n2 : ∀ {u : TypeId}, (29 : TypeId) ≠ u → ∀ i, i = kb → ¬ Tg w6 i u := fun h i e t => tg_not (show Tg w6 i 29 from e ▸ hk) h t
  exact ⟨l, h1, own_kept (own_but (own_keep h2 hb) k0 (fun i hi q => hs i q hi)) k2 (n2 (by decide)), fun e he => (((h3 e he).keep hb).kept k1 n1).kept k2 (n2 (by decide))⟩
theorem Sep.new {wr wc : World} {B C n m : Nat} {vf v vf' : Value} {xs ys : List Value} (h : Sep vf v) (hv : wr.ownsRow C 27 1 v m ys) (hb : wr.heap.size ≤ wc.heap.size) (_ : wc.ownsRow B 27 1 vf n xs) (hat : vf'.ownBlock = vf.ownBlock ∨ vf'.ownBlock = some wc.heap.size) : Sep vf' v := by
  intro g hg hq
  rcases hat with e | e
  · exact h g (e ▸ hg) hq
  · rw [e] at hg
    have := (hv.lt g hq).2
    cases hg
    omega
theorem Sep.symm {u v : Value} (h : Sep u v) : Sep v u := fun g h1 h2 => h g h2 h1
theorem tq_front {w0 wr wc w6 : World} {kb n : Nat} {lv vf vb sv vf' ov : Value} {rk : Int} {ys : List Nat} {hs : List (Value × List Nat)} {bs : List (List Nat)} (he : n = hs.length) (hK : KB wr kb lv vf vb sv rk) (h3 : ∀ e, e ∈ hs → NR wr 0 e.1 e.2) (hB : FR wr w0.heap.size vb bs) (hS : Sep vf vb) (hk : Kept (fun i => i = kb) w0 wr) (hb : Below wr.heap.size wr wc) (hv : wc.ownsRow w0.heap.size 27 1 vf n (hs.map (·.1))) (hy : NR wc 0 ov ys) (hg : wc.grownBy w6 vf.ownBlock) (ho : w6.ownsRow w0.heap.size 27 1 vf' (n + 1) (hs.map (·.1) ++ [ov])) (hat : vf'.ownBlock = vf.ownBlock ∨ vf'.ownBlock = some wc.heap.size) :
    KB w6 kb lv vf vb sv rk ∧ TQ w0 kb lv sv rk (hs.map (·.2) ++ [ys]) bs (w6.setCell ⟨kb, 1, none⟩ vf') := by
  have k1 : Kept (fun i => Tg wc i 27) wc w6 := grown_kept hg (fun i e => .inl (own_tg hv e))
  have K6 := (hK.keep hb).kept k1 (fun q => tg_not q (by decide) (hK.keep hb).1.2)
  obtain ⟨l, -, h2, -⟩ := id hB
  exact ⟨K6, vf', vb, K6.front vf', FR.grow he hb h3 hv hy hg ho K6.1.2 1, hB.stay hb hv hS hg K6.1.2 1, hS.new h2 hb.size hv hat, (kept_step (hk.below hb) hg (fun i e => (hv.lt i e).1)).set 1 vf' (.inl rfl)⟩
theorem tq_back {w0 wr wc w6 : World} {kb n : Nat} {lv vf vb sv vb' ov : Value} {rk : Int} {ys : List Nat} {hs : List (Value × List Nat)} {fs : List (List Nat)} (he : n = hs.length) (hK : KB wr kb lv vf vb sv rk) (h3 : ∀ e, e ∈ hs → NR wr 0 e.1 e.2) (hB : FR wr w0.heap.size vf fs) (hS : Sep vf vb) (hk : Kept (fun i => i = kb) w0 wr) (hb : Below wr.heap.size wr wc) (hv : wc.ownsRow w0.heap.size 27 1 vb n (hs.map (·.1))) (hy : NR wc 0 ov ys) (hg : wc.grownBy w6 vb.ownBlock) (ho : w6.ownsRow w0.heap.size 27 1 vb' (n + 1) (hs.map (·.1) ++ [ov])) (hat : vb'.ownBlock = vb.ownBlock ∨ vb'.ownBlock = some wc.heap.size) :
    KB w6 kb lv vf vb sv rk ∧ TQ w0 kb lv sv rk fs (hs.map (·.2) ++ [ys]) (w6.setCell ⟨kb, 2, none⟩ vb') := by
  have k1 : Kept (fun i => Tg wc i 27) wc w6 := grown_kept hg (fun i e => .inl (own_tg hv e))
  have K6 := (hK.keep hb).kept k1 (fun q => tg_not q (by decide) (hK.keep hb).1.2)
  obtain ⟨l, -, h2, -⟩ := id hB
  exact ⟨K6, vf, vb', K6.back vb', hB.stay hb hv hS.symm hg K6.1.2 2, FR.grow he hb h3 hv hy hg ho K6.1.2 2, (hS.symm.new h2 hb.size hv hat).symm, (kept_step (hk.below hb) hg (fun i e => (hv.lt i e).1)).set 2 vb' (.inl rfl)⟩

set_option maxRecDepth 100000 in
set_option maxHeartbeats 4000000 in
theorem told_any {W : World} {N : Nat} {v : Value} {r : Rs} (hs0 : SR W N v r) (hI : RIv r) (hN : N ≤ 128) : Calls Try.prog 53 #[v] W fun e w' => ∃ u, e = .returned u ∧ KR w' 0 u (tell N (absS r)) ∧ Below W.heap.size W w' := by
  obtain ⟨lv, hv, sv, rfl, hlo, hhr, hnr⟩ := hs0
  obtain ⟨q1, c1, rfl⟩ := hlo.form
  obtain ⟨q2, c2, rfl⟩ := hhr.form
  obtain ⟨q3, c3, rfl⟩ := hnr.form
  have hml : r.held.length ≤ 4096 := by have := hI.2.2; have : r.done ≤ 4096 := hI.1.1; omega
  have Hrk := hide (show (tell N (absS r)).rack = r.rack from rfl)
  have Hls := hide (show (tell N (absS r)).loops = r.loops from rfl)
  have Hlo2 := hide (show (tell N (absS r)).loose = r.loose from rfl)
  have Hfr := hide (show (tell N (absS r)).front = (List.range N).map (fun n : Nat => onL r.held 0 n) from rfl)
  have Hbk := hide (show (tell N (absS r)).back = (List.range N).map (fun n : Nat => onL r.held 1 n) from rfl)
  obtain ⟨K, hK⟩ : ∃ K, K = tell N (absS r) := ⟨_, rfl⟩
  rw [← hK] at Hrk Hls Hlo2 Hfr Hbk
  rw [← hK]
  clear hK
  obtain ⟨rk, hrk⟩ : ∃ rk, rk = r.rack := ⟨_, rfl⟩
  obtain ⟨dn, hdn⟩ : ∃ dn, dn = r.done := ⟨_, rfl⟩
  obtain ⟨m1, hm1⟩ : ∃ m, m = r.loops.length := ⟨_, rfl⟩
  obtain ⟨m2, hm2⟩ : ∃ m, m = r.held.length := ⟨_, rfl⟩
  obtain ⟨m3, hm3⟩ : ∃ m, m = r.loose.length := ⟨_, rfl⟩
  rw [← hrk] at Hrk
  rw [← hm1] at hlo
  rw [← hm2] at hhr
  rw [← hm3] at hnr
  rw [← hrk, ← hdn, ← hm1, ← hm2, ← hm3]
  clear hrk hdn hm1 hm2 hm3 hI
  have B0 := hide (btrans (bnew W (.cells #[.int .i64 (N : Int), .slice q1 m1 c1, .slice q2 m2 c2, .slice q3 m3 c3, .int .i64 rk, .int .i64 (dn : Int)] 87)) (bnew _ (.cells #[.slice none 0 0, .slice none 0 0, .slice none 0 0, .slice none 0 0, .int .i64 0] 29)))
  have HSB0 := hide ((SB.new W N (.slice q1 m1 c1) (.slice q2 m2 c2) (.slice q3 m3 c3) rk dn).keep (bnew _ (.cells #[.slice none 0 0, .slice none 0 0, .slice none 0 0, .slice none 0 0, .int .i64 0] 29)))
  have HZ0 := hide (show KB ((W.alloc (.cells #[.int .i64 (N : Int), .slice q1 m1 c1, .slice q2 m2 c2, .slice q3 m3 c3, .int .i64 rk, .int .i64 (dn : Int)] 87)).alloc (.cells #[.slice none 0 0, .slice none 0 0, .slice none 0 0, .slice none 0 0, .int .i64 0] 29)) (W.heap.size + 1) (.slice none 0 0) (.slice none 0 0) (.slice none 0 0) (.slice none 0 0) 0 by have := KB.new (W.alloc (.cells #[.int .i64 (N : Int), .slice q1 m1 c1, .slice q2 m2 c2, .slice q3 m3 c3, .int .i64 rk, .int .i64 (dn : Int)] 87)) (.slice none 0 0) (.slice none 0 0) (.slice none 0 0) (.slice none 0 0) 0; simpa using this)
  have HLO0 := hide (hlo.keep (unhide B0))
  have HHR0 := hide (hhr.keep (unhide B0))
  have HNR0 := hide (hnr.keep (unhide B0))
  clear hlo hhr hnr
  go_enter Try.func53, Try.ntmps53
  go_upto_region 1 with fail
  generalize (W.alloc (.cells #[.int .i64 (N : Int), .slice q1 m1 c1, .slice q2 m2 c2, .slice q3 m3 c3, .int .i64 rk, .int .i64 (dn : Int)] 87)).alloc (.cells #[.slice none 0 0, .slice none 0 0, .slice none 0 0, .slice none 0 0, .int .i64 0] 29) = wz at *
  obtain ⟨sb, hsb⟩ : ∃ sb, sb = W.heap.size := ⟨_, rfl⟩
  obtain ⟨zb, hzb⟩ : ∃ zb, zb = W.heap.size + 1 := ⟨_, rfl⟩
  rw [← hzb] at HZ0
  rw [← hsb] at HSB0
  rw [← hzb, ← hsb]
  have Hzb := hide (show W.heap.size ≤ zb by omega)
  clear hsb hzb
  obtain ⟨-, ⟨s0', s1', s2', s3', s4', s5'⟩, -⟩ := unhide HSB0
  have b1 := bnew wz (.cells #[.slice q1 m1 c1, .slice none 0 0, .slice none 0 0, .slice q3 m3 c3, .int .i64 rk] 29)
  have HSB := hide ((unhide HSB0).keep b1)
  have HZ := hide ((unhide HZ0).keep b1)
  have HLO := hide ((unhide HLO0).keep b1)
  have HHR := hide ((unhide HHR0).keep b1)
  have HNR := hide ((unhide HNR0).keep b1)
  have HKB := hide (KB.new wz (.slice q1 m1 c1) (.slice none 0 0) (.slice none 0 0) (.slice q3 m3 c3) rk)
  have B1 := hide (btrans (unhide B0) b1)
  have hzs := (unhide HZ0).1.1
  have hss := (unhide HSB0).1.1
  clear b1 HSB0 HZ0 HLO0 HHR0 HNR0
  go_upto_region 2 with fail
  generalize wz.alloc (.cells #[.slice q1 m1 c1, .slice none 0 0, .slice none 0 0, .slice q3 m3 c3, .int .i64 rk] 29) = w0 at *
  obtain ⟨kb, hkb⟩ : ∃ kb, kb = wz.heap.size := ⟨_, rfl⟩
  rw [← hkb] at HKB
  rw [← hkb]
  have Hsk := hide (show ¬ sb = kb by omega)
  have Hzk := hide (show ¬ zb = kb by omega)
  have Hkb := hide (show W.heap.size ≤ kb by have := (unhide B0).size; omega)
  have HT27 := hide (unhide HKB).1.2
  clear hkb hzs hss s0' s1' s2' s3' s4' s5' B0
  go_wp2
  go_loopw [4] (fun i wr => ∃ n : Nat, n ≤ N ∧ i = .int .i64 n ∧ TQ w0 kb (.slice q1 m1 c1) (.slice q3 m3 c3) rk ((List.range n).map (fun j : Nat => onL r.held 0 j)) ((List.range n).map (fun j : Nat => onL r.held 1 j)) wr) (fun i _ => N - (intOf i).toNat)
  case atStart => exact ⟨0, Nat.zero_le _, rfl, .slice none 0 0, .slice none 0 0, unhide HKB, ⟨[], rfl, World.ownsRow_nil _ _ _ _, fun e he => by cases he⟩, ⟨[], rfl, World.ownsRow_nil _ _ _ _, fun e he => by cases he⟩, (fun g hg => by cases hg), Kept.refl _ _⟩
  case round =>
    obtain ⟨n, hn, rfl, vf, vb, hK, hF, hB, hSep, hKe⟩ := hrel
    have HK := hide hK
    have HFr := hide hF
    have HBk := hide hB
    have HSep := hide hSep
    have HKe := hide hKe
    clear hK hF hB hSep hKe
    have HSBr := hide ((unhide HSB).kept (unhide HKe) (unhide Hsk))
    by_cases hlt : n < N
    · have p1 : (n : Int) < (N : Int) := by omega
      have p2 : (0 : Int) ≤ (n : Int) := by omega
      obtain ⟨-, ⟨s0', s1', s2', s3', s4', s5'⟩, -⟩ := unhide HSBr
      have Hsu0 := hide (show (List.range (n + 1)).map (fun j : Nat => onL r.held 0 j) = (List.range n).map (fun j : Nat => onL r.held 0 j) ++ [onL r.held 0 n] by simp [List.range_succ])
      have Hsu1 := hide (show (List.range (n + 1)).map (fun j : Nat => onL r.held 1 j) = (List.range n).map (fun j : Nat => onL r.held 1 j) ++ [onL r.held 1 n] by simp [List.range_succ])
      obtain ⟨hs, hs1, hs2, hs3⟩ := unhide HFr
      have hhl : n = hs.length := by
        have h := congrArg List.length hs1
        simp at h
        omega
      rw [← hhl] at hs2
      have HRow := hide hs2
      have Hnr := hide hs3
      have Hhl := hide hhl
      have Hs1 := hide hs1
      have HOn := hide (show ∀ V, Below wr.heap.size wr V → Calls Try.prog 71 #[rsV N (.slice q1 m1 c1) (.slice q2 m2 c2) (.slice q3 m3 c3) rk dn, .int .i64 0, .int .i64 n] V fun e w' => ∃ v, e = .returned v ∧ NR w' V.heap.size v (onL r.held 0 n) ∧ Below V.heap.size V w' from fun V hV => on_any (own_keep (own_kept (unhide HHR) (unhide HKe) (fun i e t => tg_not (show Tg w0 i 29 from e ▸ unhide HT27) (by decide) t)) hV) hml 0 n)
      obtain ⟨yl, hyl⟩ : ∃ yl, yl = (onL r.held 0 n).length := ⟨_, rfl⟩
      have Hyl := hide hyl
      clear hyl
      have H1 := hide (show ∀ (og : Option Addr) (oc : Nat), ∀ u ∈ (#[Value.slice og yl oc] : Array Value).toList, u.oneCell' = true from fun og oc u hu => by simp at hu; subst hu; rfl)
      clear hs1 hs2 hs3 hhl
      go_upto_region 5 with fail
      clear s0' s1' s2' s3' s4' s5'
      go_cut [] (fun wd => TQ w0 kb (.slice q1 m1 c1) (.slice q3 m3 c3) rk ((List.range n).map (fun j : Nat => onL r.held 0 j) ++ [onL r.held 0 n]) ((List.range n).map (fun j : Nat => onL r.held 1 j)) wd)
      case first =>
        refine wp_region_noPanic ?_
        refine wp_region_held_drew (S := fun V => Kept (fun i => i = kb) w0 V) (by kernel_rfl) ((unhide HKe).dr) ?_
        intro _
        obtain ⟨wd0, hwd0⟩ : ∃ w, w = wr.drew := ⟨_, rfl⟩
        have Bd := hide (show Below wr.heap.size wr wd0 from by rw [hwd0]; exact bdrew _)
        rw [← hwd0]
        clear hwd0
        have hS0 : Kept (fun i => i = kb) w0 wd0 := (unhide HKe).below (unhide Bd)
        refine wpAnyH_take (i := 0) (oi := _) (v := .pointer (some ⟨kb, 1, none⟩)) g9_0 (by kernel_rfl) (by kernel_rfl) (by kernel_rfl) (fun _ _ _ h => h) (Or.inl ⟨by rfl, ?_⟩) (by assumption) ?_
        · intro V hSw
          try dsimp only at hSw
          go_simp
        simp only [Act.put, List.setIfInBounds_toArray, List.set_cons_zero, List.set_cons_succ]
        refine wpAnyH_take (i := 2) (oi := _) (v := rsV N (.slice q1 m1 c1) (.slice q2 m2 c2) (.slice q3 m3 c3) rk dn) g9_2 (by kernel_rfl) (by kernel_rfl) (by kernel_rfl) (fun _ _ _ h => h) (Or.inl ⟨by rfl, ?_⟩) (by assumption) ?_
        · intro V hSw
          try dsimp only at hSw
          obtain ⟨-, ⟨u0, u1, u2, u3, u4, u5⟩, -⟩ := (unhide HSB).kept hSw (unhide Hsk)
          go_simp
        simp only [Act.put, List.setIfInBounds_toArray, List.set_cons_zero, List.set_cons_succ]
        refine wpAnyH_take (i := 3) (oi := _) (v := .int .i64 n) g9_3 (by kernel_rfl) (by kernel_rfl) (by kernel_rfl) (fun _ _ _ h => h) (Or.inl ⟨by rfl, ?_⟩) (by assumption) ?_
        · intro V hSw
          try dsimp only at hSw
          go_simp
        simp only [Act.put, List.setIfInBounds_toArray, List.set_cons_zero, List.set_cons_succ]
        refine wpAnyH_ready (rs := [1, 4]) (by kernel_rfl) (by simp) ?_
        refine (AllReadyH.cons (o := _) g9_1 (fun K hK => ?_) (AllReadyH.cons (o := _) g9_4 (fun K hK => ?_) AllReadyH.nil))
        · have c1 := ((unhide HK).keep (unhide Bd)).2.1.2.1
          go_simp
          refine hK.out _ _ ((unhide HKe).below (unhide Bd)) (fun _ => ?_)
          clear hK K
          clear c1
          refine wpAnyH_ready (rs := [4]) (by kernel_rfl) (by simp) ?_
          refine AllReadyH.cons (o := _) g9_4 (fun K hK => ?_) AllReadyH.nil
          go_simp
          refine (unhide HOn _ (unhide Bd)).mono ?_
          rintro e w2x ⟨ov, rfl, hov, hbo⟩
          have Bq2 := hide (btrans (unhide Bd) hbo)
          have HV := hide (hov.le (Nat.zero_le _))
          obtain ⟨og, oc, rfl⟩ : ∃ og oc, ov = .slice og yl oc := by obtain ⟨a, b, e⟩ := hov.form; exact ⟨a, b, by rw [e, unhide Hyl]⟩
          clear hov hbo
          refine hK.out _ _ ((unhide HKe).below (unhide Bq2)) (fun _ => ?_)
          clear hK K
          refine wpAnyH_ready (rs := [5]) (by kernel_rfl) (by simp) ?_
          refine AllReadyH.cons (o := _) g9_5 (fun K hK => ?_) AllReadyH.nil
          go_simp
          have EC := hide (own_lit (B := 0) (e := 27) (z := 1) (k := 1) w2x #[.slice og yl oc] (Nat.zero_le _) (by unfold maxLen; omega) rfl)
          have Bq3 := hide (btrans (unhide Bq2) (bnew w2x (.cells #[.slice og yl oc] 27)))
          have HV := hide ((unhide HV).keep (bnew w2x (.cells #[.slice og yl oc] 27)))
          refine hK.out _ _ ((unhide HKe).below (unhide Bq3)) (fun _ => ?_)
          clear hK K
          generalize w2x.alloc (.cells #[.slice og yl oc] 27) = w3x at *
          obtain ⟨ec, hec⟩ : ∃ ec, ec = w2x.heap.size := ⟨_, rfl⟩
          rw [← hec] at EC
          rw [← hec]
          clear hec
          refine wpAnyH_ready (rs := [6]) (by kernel_rfl) (by simp) ?_
          refine AllReadyH.cons (o := _) g9_6 (fun K hK => ?_) AllReadyH.nil
          refine wp_app rfl Try.underlying26 info25 rfl (by decide) (v := vf) (y := .slice (some ⟨ec, 0, none⟩) 1 1) rfl rfl (own_keep (unhide HRow) (unhide Bq3)) (unhide EC) (unhide H1 og oc) (by unfold maxLen; omega) (by omega) (by have := (unhide HKe).size; have := (unhide Bq3).size; omega) ?_
          intro v2 w4x hown hgrow hat
          have HF := hide (tq_front (unhide Hhl) (unhide HK) (unhide Hnr) (unhide HBk) (unhide HSep) (unhide HKe) (unhide Bq3) (own_keep (unhide HRow) (unhide Bq3)) (unhide HV) hgrow hown hat)
          have HKx := hide (kept_step ((unhide HKe).below (unhide Bq3)) hgrow (fun i e => ((own_keep (unhide HRow) (unhide Bq3)).lt i e).1))
          obtain ⟨f2, h2x, rfl⟩ := own_form hown
          clear hown hgrow hat
          refine hK.out _ _ (unhide HKx) (fun _ => ?_)
          clear hK K
          refine wpAnyH_take (i := 7) (oi := _) (v := .pointer (some ⟨kb, 1, none⟩)) g9_7 (by kernel_rfl) (by kernel_rfl) (by kernel_rfl) (fun _ _ _ h => h) (Or.inl ⟨by rfl, ?_⟩) (by assumption) ?_
          · intro V hSw
            try dsimp only at hSw
            go_simp
          simp only [Act.put, List.setIfInBounds_toArray, List.set_cons_zero, List.set_cons_succ]
          refine wpAnyH_ready (rs := [8]) (by kernel_rfl) (by simp) ?_
          refine AllReadyH.cons (o := _) g9_8 (fun K hK => ?_) AllReadyH.nil
          have c1 := (unhide HF).1.2.1.2.1
          have f1' := (unhide HF).1.2.2 1 (by decide)
          go_simp
          refine hK.out _ _ ((unhide HKx).set 1 _ (.inl rfl)) (fun _ => ?_)
          clear hK K c1 f1'
          refine wpAnyH_done (by kernel_rfl) ?_ _
          refine NoPanic.normal ?_
          go_wp2
          go_meet
          case rel => rw [← unhide Hs1]; exact (unhide HF).2
        · go_simp
          refine (unhide HOn _ (unhide Bd)).mono ?_
          rintro e w5x ⟨ov, rfl, hov, hbo⟩
          have Bq5 := hide (btrans (unhide Bd) hbo)
          have HV := hide (hov.le (Nat.zero_le _))
          obtain ⟨og, oc, rfl⟩ : ∃ og oc, ov = .slice og yl oc := by obtain ⟨a, b, e⟩ := hov.form; exact ⟨a, b, by rw [e, unhide Hyl]⟩
          clear hov hbo
          refine hK.out _ _ ((unhide HKe).below (unhide Bq5)) (fun _ => ?_)
          clear hK K
          refine wpAnyH_ready (rs := [1, 5]) (by kernel_rfl) (by simp) ?_
          refine (AllReadyH.cons (o := _) g9_1 (fun K hK => ?_) (AllReadyH.cons (o := _) g9_5 (fun K hK => ?_) AllReadyH.nil))
          · have c1 := ((unhide HK).keep (unhide Bq5)).2.1.2.1
            go_simp
            refine hK.out _ _ ((unhide HKe).below (unhide Bq5)) (fun _ => ?_)
            clear hK K
            clear c1
            refine wpAnyH_ready (rs := [5]) (by kernel_rfl) (by simp) ?_
            refine AllReadyH.cons (o := _) g9_5 (fun K hK => ?_) AllReadyH.nil
            go_simp
            have EC := hide (own_lit (B := 0) (e := 27) (z := 1) (k := 1) w5x #[.slice og yl oc] (Nat.zero_le _) (by unfold maxLen; omega) rfl)
            have Bq7 := hide (btrans (unhide Bq5) (bnew w5x (.cells #[.slice og yl oc] 27)))
            have HV := hide ((unhide HV).keep (bnew w5x (.cells #[.slice og yl oc] 27)))
            refine hK.out _ _ ((unhide HKe).below (unhide Bq7)) (fun _ => ?_)
            clear hK K
            generalize w5x.alloc (.cells #[.slice og yl oc] 27) = w7x at *
            obtain ⟨ec, hec⟩ : ∃ ec, ec = w5x.heap.size := ⟨_, rfl⟩
            rw [← hec] at EC
            rw [← hec]
            clear hec
            refine wpAnyH_ready (rs := [6]) (by kernel_rfl) (by simp) ?_
            refine AllReadyH.cons (o := _) g9_6 (fun K hK => ?_) AllReadyH.nil
            refine wp_app rfl Try.underlying26 info25 rfl (by decide) (v := vf) (y := .slice (some ⟨ec, 0, none⟩) 1 1) rfl rfl (own_keep (unhide HRow) (unhide Bq7)) (unhide EC) (unhide H1 og oc) (by unfold maxLen; omega) (by omega) (by have := (unhide HKe).size; have := (unhide Bq7).size; omega) ?_
            intro v2 w8x hown hgrow hat
            have HF := hide (tq_front (unhide Hhl) (unhide HK) (unhide Hnr) (unhide HBk) (unhide HSep) (unhide HKe) (unhide Bq7) (own_keep (unhide HRow) (unhide Bq7)) (unhide HV) hgrow hown hat)
            have HKx := hide (kept_step ((unhide HKe).below (unhide Bq7)) hgrow (fun i e => ((own_keep (unhide HRow) (unhide Bq7)).lt i e).1))
            obtain ⟨f2, h2x, rfl⟩ := own_form hown
            clear hown hgrow hat
            refine hK.out _ _ (unhide HKx) (fun _ => ?_)
            clear hK K
            refine wpAnyH_take (i := 7) (oi := _) (v := .pointer (some ⟨kb, 1, none⟩)) g9_7 (by kernel_rfl) (by kernel_rfl) (by kernel_rfl) (fun _ _ _ h => h) (Or.inl ⟨by rfl, ?_⟩) (by assumption) ?_
            · intro V hSw
              try dsimp only at hSw
              go_simp
            simp only [Act.put, List.setIfInBounds_toArray, List.set_cons_zero, List.set_cons_succ]
            refine wpAnyH_ready (rs := [8]) (by kernel_rfl) (by simp) ?_
            refine AllReadyH.cons (o := _) g9_8 (fun K hK => ?_) AllReadyH.nil
            have c1 := (unhide HF).1.2.1.2.1
            have f1' := (unhide HF).1.2.2 1 (by decide)
            go_simp
            refine hK.out _ _ ((unhide HKx).set 1 _ (.inl rfl)) (fun _ => ?_)
            clear hK K c1 f1'
            refine wpAnyH_done (by kernel_rfl) ?_ _
            refine NoPanic.normal ?_
            go_wp2
            go_meet
            case rel => rw [← unhide Hs1]; exact (unhide HF).2
          · go_simp
            have EC := hide (own_lit (B := 0) (e := 27) (z := 1) (k := 1) w5x #[.slice og yl oc] (Nat.zero_le _) (by unfold maxLen; omega) rfl)
            have Bq9 := hide (btrans (unhide Bq5) (bnew w5x (.cells #[.slice og yl oc] 27)))
            have HV := hide ((unhide HV).keep (bnew w5x (.cells #[.slice og yl oc] 27)))
            refine hK.out _ _ ((unhide HKe).below (unhide Bq9)) (fun _ => ?_)
            clear hK K
            generalize w5x.alloc (.cells #[.slice og yl oc] 27) = w9x at *
            obtain ⟨ec, hec⟩ : ∃ ec, ec = w5x.heap.size := ⟨_, rfl⟩
            rw [← hec] at EC
            rw [← hec]
            clear hec
            refine wpAnyH_ready (rs := [1]) (by kernel_rfl) (by simp) ?_
            refine AllReadyH.cons (o := _) g9_1 (fun K hK => ?_) AllReadyH.nil
            have c1 := ((unhide HK).keep (unhide Bq9)).2.1.2.1
            go_simp
            refine hK.out _ _ ((unhide HKe).below (unhide Bq9)) (fun _ => ?_)
            clear hK K
            clear c1
            refine wpAnyH_ready (rs := [6]) (by kernel_rfl) (by simp) ?_
            refine AllReadyH.cons (o := _) g9_6 (fun K hK => ?_) AllReadyH.nil
            refine wp_app rfl Try.underlying26 info25 rfl (by decide) (v := vf) (y := .slice (some ⟨ec, 0, none⟩) 1 1) rfl rfl (own_keep (unhide HRow) (unhide Bq9)) (unhide EC) (unhide H1 og oc) (by unfold maxLen; omega) (by omega) (by have := (unhide HKe).size; have := (unhide Bq9).size; omega) ?_
            intro v2 w11x hown hgrow hat
            have HF := hide (tq_front (unhide Hhl) (unhide HK) (unhide Hnr) (unhide HBk) (unhide HSep) (unhide HKe) (unhide Bq9) (own_keep (unhide HRow) (unhide Bq9)) (unhide HV) hgrow hown hat)
            have HKx := hide (kept_step ((unhide HKe).below (unhide Bq9)) hgrow (fun i e => ((own_keep (unhide HRow) (unhide Bq9)).lt i e).1))
            obtain ⟨f2, h2x, rfl⟩ := own_form hown
            clear hown hgrow hat
            refine hK.out _ _ (unhide HKx) (fun _ => ?_)
            clear hK K
            refine wpAnyH_take (i := 7) (oi := _) (v := .pointer (some ⟨kb, 1, none⟩)) g9_7 (by kernel_rfl) (by kernel_rfl) (by kernel_rfl) (fun _ _ _ h => h) (Or.inl ⟨by rfl, ?_⟩) (by assumption) ?_
            · intro V hSw
              try dsimp only at hSw
              go_simp
            simp only [Act.put, List.setIfInBounds_toArray, List.set_cons_zero, List.set_cons_succ]
            refine wpAnyH_ready (rs := [8]) (by kernel_rfl) (by simp) ?_
            refine AllReadyH.cons (o := _) g9_8 (fun K hK => ?_) AllReadyH.nil
            have c1 := (unhide HF).1.2.1.2.1
            have f1' := (unhide HF).1.2.2 1 (by decide)
            go_simp
            refine hK.out _ _ ((unhide HKx).set 1 _ (.inl rfl)) (fun _ => ?_)
            clear hK K c1 f1'
            refine wpAnyH_done (by kernel_rfl) ?_ _
            refine NoPanic.normal ?_
            go_wp2
            go_meet
            case rel => rw [← unhide Hs1]; exact (unhide HF).2
      case rest =>
      clear HK HFr HBk HSep HKe HRow Hnr Hhl Hs1 HOn Hyl H1 HSBr
      obtain ⟨vf, vb, hK, hF, hB, hSep, hKe⟩ := hcut
      obtain ⟨wr, hwr⟩ : ∃ x : World, x = wc := ⟨_, rfl⟩
      rw [← hwr] at hK hF hB hKe
      rw [← hwr]
      clear hwr
      have HK := hide hK
      have HFr := hide hF
      have HBk := hide hB
      have HSep := hide hSep
      have HKe := hide hKe
      clear hK hF hB hSep hKe
      have HSBr := hide ((unhide HSB).kept (unhide HKe) (unhide Hsk))
      obtain ⟨-, ⟨s0', s1', s2', s3', s4', s5'⟩, -⟩ := unhide HSBr
      obtain ⟨hs, hs1, hs2, hs3⟩ := unhide HBk
      have hhl : n = hs.length := by
        have h := congrArg List.length hs1
        simp at h
        omega
      rw [← hhl] at hs2
      have HRow := hide hs2
      have Hnr := hide hs3
      have Hhl := hide hhl
      have Hs1 := hide hs1
      have HOn := hide (show ∀ V, Below wr.heap.size wr V → Calls Try.prog 71 #[rsV N (.slice q1 m1 c1) (.slice q2 m2 c2) (.slice q3 m3 c3) rk dn, .int .i64 1, .int .i64 n] V fun e w' => ∃ v, e = .returned v ∧ NR w' V.heap.size v (onL r.held 1 n) ∧ Below V.heap.size V w' from fun V hV => on_any (own_keep (own_kept (unhide HHR) (unhide HKe) (fun i e t => tg_not (show Tg w0 i 29 from e ▸ unhide HT27) (by decide) t)) hV) hml 1 n)
      obtain ⟨yl, hyl⟩ : ∃ yl, yl = (onL r.held 1 n).length := ⟨_, rfl⟩
      have Hyl := hide hyl
      clear hyl
      have H1 := hide (show ∀ (og : Option Addr) (oc : Nat), ∀ u ∈ (#[Value.slice og yl oc] : Array Value).toList, u.oneCell' = true from fun og oc u hu => by simp at hu; subst hu; rfl)
      clear hs1 hs2 hs3 hhl
      go_upto_region 6 with fail
      clear s0' s1' s2' s3' s4' s5'
      refine wp_region_noPanic ?_
      refine wp_region_held_drew (S := fun V => Kept (fun i => i = kb) w0 V) (by kernel_rfl) ((unhide HKe).dr) ?_
      intro _
      obtain ⟨wd0, hwd0⟩ : ∃ w, w = wr.drew := ⟨_, rfl⟩
      have Bd := hide (show Below wr.heap.size wr wd0 from by rw [hwd0]; exact bdrew _)
      rw [← hwd0]
      clear hwd0
      have hS0 : Kept (fun i => i = kb) w0 wd0 := (unhide HKe).below (unhide Bd)
      refine wpAnyH_take (i := 0) (oi := _) (v := .pointer (some ⟨kb, 2, none⟩)) g9_0 (by kernel_rfl) (by kernel_rfl) (by kernel_rfl) (fun _ _ _ h => h) (Or.inl ⟨by rfl, ?_⟩) (by assumption) ?_
      · intro V hSw
        try dsimp only at hSw
        go_simp
      simp only [Act.put, List.setIfInBounds_toArray, List.set_cons_zero, List.set_cons_succ]
      refine wpAnyH_take (i := 2) (oi := _) (v := rsV N (.slice q1 m1 c1) (.slice q2 m2 c2) (.slice q3 m3 c3) rk dn) g9_2 (by kernel_rfl) (by kernel_rfl) (by kernel_rfl) (fun _ _ _ h => h) (Or.inl ⟨by rfl, ?_⟩) (by assumption) ?_
      · intro V hSw
        try dsimp only at hSw
        obtain ⟨-, ⟨u0, u1, u2, u3, u4, u5⟩, -⟩ := (unhide HSB).kept hSw (unhide Hsk)
        go_simp
      simp only [Act.put, List.setIfInBounds_toArray, List.set_cons_zero, List.set_cons_succ]
      refine wpAnyH_take (i := 3) (oi := _) (v := .int .i64 n) g9_3 (by kernel_rfl) (by kernel_rfl) (by kernel_rfl) (fun _ _ _ h => h) (Or.inl ⟨by rfl, ?_⟩) (by assumption) ?_
      · intro V hSw
        try dsimp only at hSw
        go_simp
      simp only [Act.put, List.setIfInBounds_toArray, List.set_cons_zero, List.set_cons_succ]
      refine wpAnyH_ready (rs := [1, 4]) (by kernel_rfl) (by simp) ?_
      refine (AllReadyH.cons (o := _) g9_1 (fun K hK => ?_) (AllReadyH.cons (o := _) g9_4 (fun K hK => ?_) AllReadyH.nil))
      · have c1 := ((unhide HK).keep (unhide Bd)).2.1.2.2.1
        go_simp
        refine hK.out _ _ ((unhide HKe).below (unhide Bd)) (fun _ => ?_)
        clear hK K
        clear c1
        refine wpAnyH_ready (rs := [4]) (by kernel_rfl) (by simp) ?_
        refine AllReadyH.cons (o := _) g9_4 (fun K hK => ?_) AllReadyH.nil
        go_simp
        refine (unhide HOn _ (unhide Bd)).mono ?_
        rintro e w2x ⟨ov, rfl, hov, hbo⟩
        have Bq2 := hide (btrans (unhide Bd) hbo)
        have HV := hide (hov.le (Nat.zero_le _))
        obtain ⟨og, oc, rfl⟩ : ∃ og oc, ov = .slice og yl oc := by obtain ⟨a, b, e⟩ := hov.form; exact ⟨a, b, by rw [e, unhide Hyl]⟩
        clear hov hbo
        refine hK.out _ _ ((unhide HKe).below (unhide Bq2)) (fun _ => ?_)
        clear hK K
        refine wpAnyH_ready (rs := [5]) (by kernel_rfl) (by simp) ?_
        refine AllReadyH.cons (o := _) g9_5 (fun K hK => ?_) AllReadyH.nil
        go_simp
        have EC := hide (own_lit (B := 0) (e := 27) (z := 1) (k := 1) w2x #[.slice og yl oc] (Nat.zero_le _) (by unfold maxLen; omega) rfl)
        have Bq3 := hide (btrans (unhide Bq2) (bnew w2x (.cells #[.slice og yl oc] 27)))
        have HV := hide ((unhide HV).keep (bnew w2x (.cells #[.slice og yl oc] 27)))
        refine hK.out _ _ ((unhide HKe).below (unhide Bq3)) (fun _ => ?_)
        clear hK K
        generalize w2x.alloc (.cells #[.slice og yl oc] 27) = w3x at *
        obtain ⟨ec, hec⟩ : ∃ ec, ec = w2x.heap.size := ⟨_, rfl⟩
        rw [← hec] at EC
        rw [← hec]
        clear hec
        refine wpAnyH_ready (rs := [6]) (by kernel_rfl) (by simp) ?_
        refine AllReadyH.cons (o := _) g9_6 (fun K hK => ?_) AllReadyH.nil
        refine wp_app rfl Try.underlying26 info25 rfl (by decide) (v := vb) (y := .slice (some ⟨ec, 0, none⟩) 1 1) rfl rfl (own_keep (unhide HRow) (unhide Bq3)) (unhide EC) (unhide H1 og oc) (by unfold maxLen; omega) (by omega) (by have := (unhide HKe).size; have := (unhide Bq3).size; omega) ?_
        intro v2 w4x hown hgrow hat
        have HF := hide (tq_back (unhide Hhl) (unhide HK) (unhide Hnr) (unhide HFr) (unhide HSep) (unhide HKe) (unhide Bq3) (own_keep (unhide HRow) (unhide Bq3)) (unhide HV) hgrow hown hat)
        have HKx := hide (kept_step ((unhide HKe).below (unhide Bq3)) hgrow (fun i e => ((own_keep (unhide HRow) (unhide Bq3)).lt i e).1))
        obtain ⟨f2, h2x, rfl⟩ := own_form hown
        clear hown hgrow hat
        refine hK.out _ _ (unhide HKx) (fun _ => ?_)
        clear hK K
        refine wpAnyH_take (i := 7) (oi := _) (v := .pointer (some ⟨kb, 2, none⟩)) g9_7 (by kernel_rfl) (by kernel_rfl) (by kernel_rfl) (fun _ _ _ h => h) (Or.inl ⟨by rfl, ?_⟩) (by assumption) ?_
        · intro V hSw
          try dsimp only at hSw
          go_simp
        simp only [Act.put, List.setIfInBounds_toArray, List.set_cons_zero, List.set_cons_succ]
        refine wpAnyH_ready (rs := [8]) (by kernel_rfl) (by simp) ?_
        refine AllReadyH.cons (o := _) g9_8 (fun K hK => ?_) AllReadyH.nil
        have c1 := (unhide HF).1.2.1.2.2.1
        have f1' := (unhide HF).1.2.2 2 (by decide)
        go_simp
        refine hK.out _ _ ((unhide HKx).set 2 _ (.inl rfl)) (fun _ => ?_)
        clear hK K c1 f1'
        refine wpAnyH_done (by kernel_rfl) ?_ _
        refine NoPanic.normal ?_
        go_wp2
        go_roundw
        case rel => exact ⟨n + 1, by omega, by go_num, by rw [unhide Hsu0, unhide Hsu1, ← unhide Hs1]; exact (unhide HF).2⟩
        case measure => simp [intOf]; omega
      · go_simp
        refine (unhide HOn _ (unhide Bd)).mono ?_
        rintro e w5x ⟨ov, rfl, hov, hbo⟩
        have Bq5 := hide (btrans (unhide Bd) hbo)
        have HV := hide (hov.le (Nat.zero_le _))
        obtain ⟨og, oc, rfl⟩ : ∃ og oc, ov = .slice og yl oc := by obtain ⟨a, b, e⟩ := hov.form; exact ⟨a, b, by rw [e, unhide Hyl]⟩
        clear hov hbo
        refine hK.out _ _ ((unhide HKe).below (unhide Bq5)) (fun _ => ?_)
        clear hK K
        refine wpAnyH_ready (rs := [1, 5]) (by kernel_rfl) (by simp) ?_
        refine (AllReadyH.cons (o := _) g9_1 (fun K hK => ?_) (AllReadyH.cons (o := _) g9_5 (fun K hK => ?_) AllReadyH.nil))
        · have c1 := ((unhide HK).keep (unhide Bq5)).2.1.2.2.1
          go_simp
          refine hK.out _ _ ((unhide HKe).below (unhide Bq5)) (fun _ => ?_)
          clear hK K
          clear c1
          refine wpAnyH_ready (rs := [5]) (by kernel_rfl) (by simp) ?_
          refine AllReadyH.cons (o := _) g9_5 (fun K hK => ?_) AllReadyH.nil
          go_simp
          have EC := hide (own_lit (B := 0) (e := 27) (z := 1) (k := 1) w5x #[.slice og yl oc] (Nat.zero_le _) (by unfold maxLen; omega) rfl)
          have Bq7 := hide (btrans (unhide Bq5) (bnew w5x (.cells #[.slice og yl oc] 27)))
          have HV := hide ((unhide HV).keep (bnew w5x (.cells #[.slice og yl oc] 27)))
          refine hK.out _ _ ((unhide HKe).below (unhide Bq7)) (fun _ => ?_)
          clear hK K
          generalize w5x.alloc (.cells #[.slice og yl oc] 27) = w7x at *
          obtain ⟨ec, hec⟩ : ∃ ec, ec = w5x.heap.size := ⟨_, rfl⟩
          rw [← hec] at EC
          rw [← hec]
          clear hec
          refine wpAnyH_ready (rs := [6]) (by kernel_rfl) (by simp) ?_
          refine AllReadyH.cons (o := _) g9_6 (fun K hK => ?_) AllReadyH.nil
          refine wp_app rfl Try.underlying26 info25 rfl (by decide) (v := vb) (y := .slice (some ⟨ec, 0, none⟩) 1 1) rfl rfl (own_keep (unhide HRow) (unhide Bq7)) (unhide EC) (unhide H1 og oc) (by unfold maxLen; omega) (by omega) (by have := (unhide HKe).size; have := (unhide Bq7).size; omega) ?_
          intro v2 w8x hown hgrow hat
          have HF := hide (tq_back (unhide Hhl) (unhide HK) (unhide Hnr) (unhide HFr) (unhide HSep) (unhide HKe) (unhide Bq7) (own_keep (unhide HRow) (unhide Bq7)) (unhide HV) hgrow hown hat)
          have HKx := hide (kept_step ((unhide HKe).below (unhide Bq7)) hgrow (fun i e => ((own_keep (unhide HRow) (unhide Bq7)).lt i e).1))
          obtain ⟨f2, h2x, rfl⟩ := own_form hown
          clear hown hgrow hat
          refine hK.out _ _ (unhide HKx) (fun _ => ?_)
          clear hK K
          refine wpAnyH_take (i := 7) (oi := _) (v := .pointer (some ⟨kb, 2, none⟩)) g9_7 (by kernel_rfl) (by kernel_rfl) (by kernel_rfl) (fun _ _ _ h => h) (Or.inl ⟨by rfl, ?_⟩) (by assumption) ?_
          · intro V hSw
            try dsimp only at hSw
            go_simp
          simp only [Act.put, List.setIfInBounds_toArray, List.set_cons_zero, List.set_cons_succ]
          refine wpAnyH_ready (rs := [8]) (by kernel_rfl) (by simp) ?_
          refine AllReadyH.cons (o := _) g9_8 (fun K hK => ?_) AllReadyH.nil
          have c1 := (unhide HF).1.2.1.2.2.1
          have f1' := (unhide HF).1.2.2 2 (by decide)
          go_simp
          refine hK.out _ _ ((unhide HKx).set 2 _ (.inl rfl)) (fun _ => ?_)
          clear hK K c1 f1'
          refine wpAnyH_done (by kernel_rfl) ?_ _
          refine NoPanic.normal ?_
          go_wp2
          go_roundw
          case rel => exact ⟨n + 1, by omega, by go_num, by rw [unhide Hsu0, unhide Hsu1, ← unhide Hs1]; exact (unhide HF).2⟩
          case measure => simp [intOf]; omega
        · go_simp
          have EC := hide (own_lit (B := 0) (e := 27) (z := 1) (k := 1) w5x #[.slice og yl oc] (Nat.zero_le _) (by unfold maxLen; omega) rfl)
          have Bq9 := hide (btrans (unhide Bq5) (bnew w5x (.cells #[.slice og yl oc] 27)))
          have HV := hide ((unhide HV).keep (bnew w5x (.cells #[.slice og yl oc] 27)))
          refine hK.out _ _ ((unhide HKe).below (unhide Bq9)) (fun _ => ?_)
          clear hK K
          generalize w5x.alloc (.cells #[.slice og yl oc] 27) = w9x at *
          obtain ⟨ec, hec⟩ : ∃ ec, ec = w5x.heap.size := ⟨_, rfl⟩
          rw [← hec] at EC
          rw [← hec]
          clear hec
          refine wpAnyH_ready (rs := [1]) (by kernel_rfl) (by simp) ?_
          refine AllReadyH.cons (o := _) g9_1 (fun K hK => ?_) AllReadyH.nil
          have c1 := ((unhide HK).keep (unhide Bq9)).2.1.2.2.1
          go_simp
          refine hK.out _ _ ((unhide HKe).below (unhide Bq9)) (fun _ => ?_)
          clear hK K
          clear c1
          refine wpAnyH_ready (rs := [6]) (by kernel_rfl) (by simp) ?_
          refine AllReadyH.cons (o := _) g9_6 (fun K hK => ?_) AllReadyH.nil
          refine wp_app rfl Try.underlying26 info25 rfl (by decide) (v := vb) (y := .slice (some ⟨ec, 0, none⟩) 1 1) rfl rfl (own_keep (unhide HRow) (unhide Bq9)) (unhide EC) (unhide H1 og oc) (by unfold maxLen; omega) (by omega) (by have := (unhide HKe).size; have := (unhide Bq9).size; omega) ?_
          intro v2 w11x hown hgrow hat
          have HF := hide (tq_back (unhide Hhl) (unhide HK) (unhide Hnr) (unhide HFr) (unhide HSep) (unhide HKe) (unhide Bq9) (own_keep (unhide HRow) (unhide Bq9)) (unhide HV) hgrow hown hat)
          have HKx := hide (kept_step ((unhide HKe).below (unhide Bq9)) hgrow (fun i e => ((own_keep (unhide HRow) (unhide Bq9)).lt i e).1))
          obtain ⟨f2, h2x, rfl⟩ := own_form hown
          clear hown hgrow hat
          refine hK.out _ _ (unhide HKx) (fun _ => ?_)
          clear hK K
          refine wpAnyH_take (i := 7) (oi := _) (v := .pointer (some ⟨kb, 2, none⟩)) g9_7 (by kernel_rfl) (by kernel_rfl) (by kernel_rfl) (fun _ _ _ h => h) (Or.inl ⟨by rfl, ?_⟩) (by assumption) ?_
          · intro V hSw
            try dsimp only at hSw
            go_simp
          simp only [Act.put, List.setIfInBounds_toArray, List.set_cons_zero, List.set_cons_succ]
          refine wpAnyH_ready (rs := [8]) (by kernel_rfl) (by simp) ?_
          refine AllReadyH.cons (o := _) g9_8 (fun K hK => ?_) AllReadyH.nil
          have c1 := (unhide HF).1.2.1.2.2.1
          have f1' := (unhide HF).1.2.2 2 (by decide)
          go_simp
          refine hK.out _ _ ((unhide HKx).set 2 _ (.inl rfl)) (fun _ => ?_)
          clear hK K c1 f1'
          refine wpAnyH_done (by kernel_rfl) ?_ _
          refine NoPanic.normal ?_
          go_wp2
          go_roundw
          case rel => exact ⟨n + 1, by omega, by go_num, by rw [unhide Hsu0, unhide Hsu1, ← unhide Hs1]; exact (unhide HF).2⟩
          case measure => simp [intOf]; omega
    · obtain rfl : N = n := by omega
      have cl : ¬ ((N : Int) < (N : Int)) := by omega
      obtain ⟨-, ⟨s0', s1', s2', s3', s4', s5'⟩, -⟩ := unhide HSBr
      have HZr := hide ((unhide HZ).kept (unhide HKe) (unhide Hzk))
      obtain ⟨q4, c4, rfl⟩ : ∃ q c, vf = .slice q N c := by obtain ⟨a, b, e⟩ := (unhide HFr).form; exact ⟨a, b, by rw [e]; simp⟩
      obtain ⟨q5, c5, rfl⟩ : ∃ q c, vb = .slice q N c := by obtain ⟨a, b, e⟩ := (unhide HBk).form; exact ⟨a, b, by rw [e]; simp⟩
      obtain ⟨-, ⟨k0, k1, k2, k3, k4⟩, -⟩ := unhide HK
      obtain ⟨-, ⟨r0, r1, r2, r3, r4⟩, rf⟩ := unhide HZr
      have rf0 := rf 0 (by decide)
      have rf1 := rf 1 (by decide)
      have rf2 := rf 2 (by decide)
      have rf3 := rf 3 (by decide)
      have rf4 := rf 4 (by decide)
      clear rf
      obtain ⟨x9, hx9, hK9, hL9⟩ : ∃ x9, put27 wr zb (.slice q1 m1 c1) (.slice q4 N c4) (.slice q5 N c5) (.slice q3 m3 c3) rk = x9 ∧ KB x9 zb (.slice q1 m1 c1) (.slice q4 N c4) (.slice q5 N c5) (.slice q3 m3 c3) rk ∧ Kept (fun i => i = zb) wr x9 := ⟨_, rfl, (unhide HZr).put _ _ _ _ _, put27_kept _ _ _ _ _ _ _⟩
      unfold put27 at hx9
      have HK9 := hide hK9
      have HL9 := hide hL9
      clear hK9 hL9
      go_wp2
      obtain ⟨-, ⟨z0, z1, z2, z3, z4⟩, -⟩ := unhide HK9
      refine bodyPost_ret (v := .agg #[.slice q1 m1 c1, .slice q4 N c4, .slice q5 N c5, .slice q3 m3 c3, .int .i64 rk]) ?_ rfl ?_
      · simp [results, Try.results53, go_sem, z0, z1, z2, z3, z4]
      · have t0 : Tg w0 kb 29 := unhide HT27
        have t9 : Tg wr zb 29 := (unhide HZr).1.2
        have nk : ∀ {u : TypeId}, (29 : TypeId) ≠ u → ∀ i, i = kb → ¬ Tg w0 i u := fun h i e t => tg_not (show Tg w0 i 29 from e ▸ t0) h t
        have nz : ∀ {u : TypeId}, (29 : TypeId) ≠ u → ∀ i, i = zb → ¬ Tg wr i u := fun h i e t => tg_not (show Tg wr i 29 from e ▸ t9) h t
        refine ⟨_, rfl, ⟨_, _, _, _, by rw [unhide Hrk], ?_, ?_, ?_, ?_⟩, ?_⟩
        · rw [unhide Hls]
          exact ((unhide HLO).lpr.kept (unhide HKe) (nk (by decide)) (nk (by decide))).kept (unhide HL9) (nz (by decide)) (nz (by decide))
        · rw [unhide Hfr]
          exact (unhide HFr).lr.kept (unhide HL9) (nz (by decide)) (nz (by decide))
        · rw [unhide Hbk]
          exact (unhide HBk).lr.kept (unhide HL9) (nz (by decide)) (nz (by decide))
        · rw [unhide Hlo2]
          exact ((NR.le (unhide HNR) (Nat.zero_le _)).kept (unhide HKe) (nk (by decide))).kept (unhide HL9) (nz (by decide))
        · have b1 := Kept.back (unhide B1) (unhide HKe) (unhide B1).size (fun i e => by have := unhide Hkb; omega)
          exact Kept.back b1 (unhide HL9) b1.size (fun i e => by have := unhide Hzb; omega)
end Go.Proofs.Ytancniamgfppiaa
