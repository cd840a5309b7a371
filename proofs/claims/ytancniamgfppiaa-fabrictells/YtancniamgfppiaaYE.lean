/-
  renumbered: the walk.
-/
import Derived.Test.YtancniamgfppiaaYD
namespace Go.Proofs.Ytancniamgfppiaa
open Go.RowKit

theorem ren_boxes (W : World) (v0 v1 v2 v3 : Value) (r : Int) : KB ((W.alloc (.cells #[v0, v1, v2, v3, .int .i64 r] 29)).alloc (.cells #[.slice none 0 0, .slice none 0 0, .slice none 0 0, .slice none 0 0, .int .i64 0] 29)) W.heap.size v0 v1 v2 v3 r ∧ KB ((W.alloc (.cells #[v0, v1, v2, v3, .int .i64 r] 29)).alloc (.cells #[.slice none 0 0, .slice none 0 0, .slice none 0 0, .slice none 0 0, .int .i64 0] 29)) (W.heap.size + 1) (.slice none 0 0) (.slice none 0 0) (.slice none 0 0) (.slice none 0 0) 0 ∧ Below W.heap.size W ((W.alloc (.cells #[v0, v1, v2, v3, .int .i64 r] 29)).alloc (.cells #[.slice none 0 0, .slice none 0 0, .slice none 0 0, .slice none 0 0, .int .i64 0] 29)) :=
  ⟨(KB.new W v0 v1 v2 v3 r).keep (bnew _ _), by have := KB.new (W.alloc (.cells #[v0, v1, v2, v3, .int .i64 r] 29)) (.slice none 0 0) (.slice none 0 0) (.slice none 0 0) (.slice none 0 0) 0; simpa using this, btrans (bnew _ _) (bnew _ _)⟩
theorem KB.put0 {W : World} {b : Nat} {u0 v1 v2 v3 : Value} {r : Int} (k : KB W b u0 v1 v2 v3 r) (v0 : Value) : KB (W.setCell ⟨b, 0, none⟩ v0) b v0 v1 v2 v3 r := by
  obtain ⟨⟨l, t⟩, ⟨a0, a1, a2, a3, a4⟩, f⟩ := k
  exact ⟨⟨by simpa using l, t.set _ _⟩, ⟨csame a0, cset a1 (by decide), cset a2 (by decide), cset a3 (by decide), cset a4 (by decide)⟩, fun j hj => fset (f j hj)⟩

/-- what is given to be renumbered -/
structure Gv (W : World) (B g0 n cp : Nat) (v1 v2 v3 v4 : Value) (k : Kn) (o : Nat → Nat × Nat) : Prop where
  lps : LPRo W B v1 k.loops o
  fr : LRo W B v2 k.front o 1
  bk : LRo W B v3 k.back o 2
  lse : NR W B v4 k.loose ∧ Og o (3, 0) v4
  num : NR W B (.slice (some ⟨g0, 0, none⟩) n cp) (rgL n (nm (carF k.loops) n))
  own : o g0 = (9, 9)
  low : ∀ i, i < B → o i = (9, 9)
theorem Gv.keep {W V : World} {B g0 n cp : Nat} {v1 v2 v3 v4 : Value} {k : Kn} {o : Nat → Nat × Nat} (h : Gv W B g0 n cp v1 v2 v3 v4 k o) (e : Below W.heap.size W V) : Gv V B g0 n cp v1 v2 v3 v4 k o :=
  ⟨h.lps.keep e, h.fr.keep e, h.bk.keep e, ⟨h.lse.1.keep e, h.lse.2⟩, h.num.keep e, h.own, h.low⟩
/-- its numbers are those of loops -/
structure Gn (k : Kn) : Prop where
  cs : Cs (carF k.loops) k.loops.length
  thr : ∀ e, e ∈ k.loops → ∀ y, y ∈ e.2 → y < k.loops.length
  fr : ∀ x, x ∈ k.front → ∀ y, y ∈ x → y < k.loops.length
  bk : ∀ x, x ∈ k.back → ∀ y, y ∈ x → y < k.loops.length
  lse : ∀ y, y ∈ k.loose → y < k.loops.length
  fit : Fit k
/-- the loops behind the first rounds -/
structure Rw (w0 wr : World) (B lg n x : Nat) (c : Nat → Int) (h : Nat → Value) (ls : List (Int × List Nat)) (o : Nat → Nat × Nat) : Prop where
  dr : DR wr lg n (dcF c n x) (dhF c n x h)
  thr : ∀ j e, ls[j]? = some e → NR wr B (h j) (if j < x then e.2.map (nm c n) else e.2)
  kp : Kept (fun i => i = lg ∨ (Tg w0 i 3 ∧ (o i).1 = 0)) w0 wr

/-- boxes of what is told, and one kind of rows, are written -/
abbrev Ks (o : Nat → Nat × Nat) (a : Nat) (W V : World) : Prop := Kept (fun i => Tg W i 29 ∨ (Tg W i 3 ∧ (o i).1 = a)) W V
theorem NR.ks {o : Nat → Nat × Nat} {W V : World} {B a b j : Nat} {v : Value} {xs : List Nat} (h : NR W B v xs) (g : Og o (b, j) v) (k : Ks o a W V) (hne : b ≠ a) : NR V B v xs :=
  h.but k (fun i hi q => by
    rcases q with q | q
    · exact tg_not q (by decide) (own_tg h hi)
    · rw [g i hi] at q; exact hne q.2)
theorem LRo.ks {o : Nat → Nat × Nat} {W V : World} {B a b : Nat} {v : Value} {xss : List (List Nat)} (h : LRo W B v xss o b) (k : Ks o a W V) (hne : b ≠ a) : LRo V B v xss o b := by
  rcases h with h | ⟨q, cap, f, k1, k2, k3, k4⟩
  · exact .inl h
  · exact .inr ⟨q, cap, f, k1, k2.kept k (fun q => q.elim (fun q => tg_not k2.1.2 (by decide) q) (fun q => tg_not k2.1.2 (by decide) q.1)), k3, fun n x hx => ⟨(k4 n x hx).1.ks (k4 n x hx).2 k hne, (k4 n x hx).2⟩⟩
theorem DR.ks {o : Nat → Nat × Nat} {W V : World} {a q n : Nat} {c : Nat → Int} {h : Nat → Value} (r : DR W q n c h) (k : Ks o a W V) : DR V q n c h :=
  r.kept k (fun q => q.elim (fun q => tg_not r.1.2 (by decide) q) (fun q => tg_not r.1.2 (by decide) q.1))
theorem Ks.kc {o : Nat → Nat × Nat} {a : Nat} {W V : World} (k : Kc o a W V) : Ks o a W V := k.more (fun _ q => .inl (.inr q))
theorem Ks.one {o : Nat → Nat × Nat} {a b : Nat} {W V : World} (h : Tg W b 29) (k : Kept (fun i => i = b) W V) : Ks o a W V := k.more (fun _ q => .inl (.inl (q ▸ h)))
theorem LRo.two {o : Nat → Nat × Nat} {W V : World} {B b lg : Nat} {v : Value} {xss : List (List Nat)} (h : LRo W B v xss o b) (hl : Tg W lg 43) (k : Kept (fun i => i = lg ∨ (Tg W i 3 ∧ (o i).1 = 0)) W V) (hne : b ≠ 0) : LRo V B v xss o b := by
  rcases h with h | ⟨q, cap, f, k1, k2, k3, k4⟩
  · exact .inl h
  · refine .inr ⟨q, cap, f, k1, k2.kept k (fun q => q.elim (fun q => tg_not k2.1.2 (by decide) (q ▸ hl)) (fun q => tg_not k2.1.2 (by decide) q.1)), k3, fun n x hx => ⟨(k4 n x hx).1.but k (fun i hi q => ?_), (k4 n x hx).2⟩⟩
    rcases q with q | q
    · exact tg_not (own_tg (k4 n x hx).1 hi) (by decide) (q ▸ hl)
    · rw [(k4 n x hx).2 i hi] at q; exact hne q.2

/-- old blocks stay, but for rows of numbers -/
def K3 (W V : World) : Prop := Kept (fun i => Tg W i 3) W V
theorem K3.of {W V : World} (h : Below W.heap.size W V) : K3 W V := Kept.of h
theorem K3.step {S : Nat → Prop} {W V U : World} (h : K3 W V) (k : Kept S V U) (hS : ∀ i, i < W.heap.size → S i → Tg V i 3) : K3 W U :=
  ⟨k.1.trans h.1, k.2.1.trans h.2.1, k.2.2.1.trans h.2.2.1, Nat.le_trans h.2.2.2.1 k.2.2.2.1, fun i hi hn => by
    have e := h.2.2.2.2 i hi hn
    rw [← e]
    exact k.2.2.2.2 i (Nat.lt_of_lt_of_le hi h.2.2.2.1) (fun q => hn ((tg_block e).1 (hS i hi q)))⟩
set_option maxRecDepth 100000 in
set_option maxHeartbeats 8000000 in
theorem renumbered_any {W : World} {B g0 cp : Nat} {v1 v2 v3 v4 : Value} {k : Kn} {o : Nat → Nat × Nat} (hG : Gv W B g0 k.loops.length cp v1 v2 v3 v4 k o) (hK : Gn k) (hB : B ≤ W.heap.size) :
    Calls Try.prog 16 #[.agg #[v1, v2, v3, v4, .int .i64 k.rack], .slice (some ⟨g0, 0, none⟩) k.loops.length cp] W fun e w' => ∃ v', e = .returned v' ∧ KR w' B v' (reN k) ∧ Below B W w' ∧ K3 W w' := by
  obtain ⟨va, vb, hv1⟩ := hG.lps.lr.frm
  obtain ⟨vc, vd, hv2⟩ := hG.fr.lr.frm
  obtain ⟨ve, vf, hv3⟩ := hG.bk.lr.frm
  obtain ⟨vg, vh, hv4⟩ := hG.lse.1.form
  obtain ⟨hh, hP0⟩ : ∃ h : Nat → Value, ∀ V S, Kept S W V → (∀ i, S i → ¬ Tg W i 43) → ∀ x, x < k.loops.length → ∃ g, va = some ⟨g, 0, none⟩ ∧ V.cell? ⟨g, x * 2, none⟩ = some (.int .i64 (carF k.loops x)) ∧ V.cell? ⟨g, x * 2 + 1, none⟩ = some (h x) ∧ NR W B (h x) (thrF k.loops x) ∧ Og o (0, x) (h x) := by
    rcases hG.lps with ⟨e, h0⟩ | ⟨q, cap, c, h, e, hc, -, hr⟩
    · exact ⟨fun _ => .bool true, fun V S _ _ x hx => by rw [h0] at hx; simp at hx⟩
    · rw [hv1] at e
      simp only [Value.slice.injEq] at e
      refine ⟨h, fun V S hk hS x hx => ⟨q, e.1, ?_⟩⟩
      have := hr x _ (List.getElem?_eq_getElem hx)
      have hc2 := (hc.kept hk (fun s => hS _ s hc.1.2)).2 x hx
      rw [carF_at hx, thrF_at hx] at this
      exact ⟨by rw [hc2.1, this.1], hc2.2.1, this.2.1, this.2.2⟩
  have HP := hide hP0
  have HG := hide hG
  have HKn := hide hK
  subst hv1 hv2 hv3 hv4
  clear hG hK hP0
  obtain ⟨n, hn⟩ : ∃ n, n = k.loops.length := ⟨_, rfl⟩
  obtain ⟨c, hc⟩ : ∃ c, c = carF k.loops := ⟨_, rfl⟩
  have Hn := hide hn
  have Hc := hide hc
  have hl : n ≤ 4096 := by rw [hn]; exact (unhide HKn).fit.1
  have HCs := hide (show Cs c n by rw [hc, hn]; exact (unhide HKn).cs)
  rw [← hn] at HG
  rw [← hn]
  rw [← hn, ← hc] at HP
  clear hn hc
  obtain ⟨nf, hnf⟩ : ∃ n, n = k.front.length := ⟨_, rfl⟩
  obtain ⟨nb, hnb⟩ : ∃ n, n = k.back.length := ⟨_, rfl⟩
  obtain ⟨no, hno⟩ : ∃ n, n = k.loose.length := ⟨_, rfl⟩
  obtain ⟨rk, hrk⟩ : ∃ r, r = k.rack := ⟨_, rfl⟩
  have Hno := hide hno
  have Hrk := hide hrk
  rw [← hnf, ← hnb, ← hno] at HG
  rw [← hnf, ← hnb, ← hno, ← hrk]
  clear hnf hnb hno hrk
  obtain ⟨bx1, bx2, bx3⟩ := ren_boxes W (.slice va n vb) (.slice vc nf vd) (.slice ve nb vf) (.slice vg no vh) rk
  have HKb := hide bx1
  have HRb := hide bx2
  have HB0 := hide bx3
  clear bx1 bx2 bx3
  obtain ⟨i0, hi, hz0, hz1, hz2⟩ := info_parts info41
  have hby : i0.bytes * n ≤ 281474976710656 := by rw [hz2]; omega
  have hml : n ≤ maxLen := by unfold maxLen; omega
  go_enter Try.func16, Try.ntmps16
  go_upto_region 1 with fail
  generalize ((W.alloc (.cells #[.slice va n vb, .slice vc nf vd, .slice ve nb vf, .slice vg no vh, .int .i64 rk] 29)).alloc (.cells #[.slice none 0 0, .slice none 0 0, .slice none 0 0, .slice none 0 0, .int .i64 0] 29)) = w0 at *
  obtain ⟨rb, hrb⟩ : ∃ rb, rb = W.heap.size + 1 := ⟨_, rfl⟩
  rw [← hrb] at HRb
  rw [← hrb]
  obtain ⟨kb, hkb⟩ : ∃ kb, kb = W.heap.size := ⟨_, rfl⟩
  rw [← hkb] at HKb
  rw [← hkb]
  have Hkr := hide (show kb ≠ rb by omega)
  have Hkb := hide (show B ≤ kb ∧ B ≤ rb by omega)
  have Hkw := hide (show W.heap.size ≤ kb ∧ W.heap.size ≤ rb by omega)
  have Hw0 := hide (show Below B W w0 from (unhide HB0).mono hB)
  clear hrb hkb
  obtain ⟨-, ⟨y0, y1, y2, y3, y4⟩, -⟩ := unhide HKb
  go_wp2_with (refine wpList_make_full _ rfl _ _ 25 rfl w0.heap.size 43 i0 _ 2 Try.underlying25 hi hz0 hz1 .i64 .i64 (n : Int) (n : Int) n rfl rfl rfl rfl hby hml (Nat.le_refl _) ?_)
  intro w1 hrow hgrow
  have HB1 := hide ((Below.refl w0.heap.size w0).grown hgrow (Nat.le_refl _) (fun k hk => by cases hk))
  have HD1 := hide (own_dr hrow)
  obtain ⟨lg, hlg⟩ : ∃ g, g = w0.heap.size := ⟨_, rfl⟩
  have Hlg := hide hlg
  rw [← hlg] at HD1
  rw [← hlg]
  have HKb1 := hide ((unhide HKb).keep (unhide HB1))
  have HRb1 := hide ((unhide HRb).keep (unhide HB1))
  have HW1 := hide (btrans (unhide HB0) (unhide HB1))
  have HG1 := hide ((unhide HG).keep (unhide HW1))
  clear hrow hgrow hlg y0 y1 y2 y3 y4 HKb HRb hi hz0 hz1 hz2 hby
  obtain ⟨-, ⟨y0, y1, y2, y3, y4⟩, -⟩ := unhide HKb1
  have HP1 := hide (show ∀ V, Kept (fun i => i = lg ∨ (Tg w1 i 3 ∧ (o i).1 = 0)) w1 V → ∀ x, x < n → ∃ g, va = some ⟨g, 0, none⟩ ∧ V.cell? ⟨g, x * 2, none⟩ = some (.int .i64 (c x)) ∧ V.cell? ⟨g, x * 2 + 1, none⟩ = some (hh x) from fun V hV x hx => by
    have hW := unhide HW1
    obtain ⟨g, a1, a2, a3, -, -⟩ := unhide HP V (fun i => i = lg ∨ (Tg w1 i 3 ∧ (o i).1 = 0)) ((Kept.of hW).trans hV) (fun i q t => by
      rcases q with q | q
      · have := t.lt; have := (unhide HB0).size; have := unhide Hlg; omega
      · exact tg_not (t.kept (Kept.of (S := fun _ => False) hW) t.lt id) (by decide) q.1) x hx
    exact ⟨g, a1, a2, a3⟩)
  have HO := hide (show ∀ x, x < n → NR w1 B (hh x) (thrF k.loops x) ∧ Og o (0, x) (hh x) from fun x hx => by
    obtain ⟨g, -, -, -, a4, a5⟩ := unhide HP W (fun _ => False) (Kept.refl _ _) (fun _ q => q.elim) x hx
    exact ⟨a4.keep (unhide HW1), a5⟩)
  have HNu := hide (show ∀ V, Kept (fun i => i = lg ∨ (Tg w1 i 3 ∧ (o i).1 = 0)) w1 V → NR V B (.slice (some ⟨g0, 0, none⟩) n cp) (rgL n (nm c n)) from fun V hV => by
    have h1 := (unhide HG1).num
    rw [← unhide Hc] at h1
    refine h1.but hV (fun i hi q => ?_)
    have e1 : g0 = i := by simpa [Value.ownBlock] using hi
    rcases q with q | q
    · exact tg_not (own_tg h1 hi) (by decide) (q ▸ (unhide HD1).1.2)
    · rw [← e1, (unhide HG1).own] at q; cases q.2)
  have HIn := hide (show ∀ x, x < n → (∀ y, y ∈ thrF k.loops x → y < n) ∧ (thrF k.loops x).length ≤ 8 from fun x hx => by
    have hx2 : x < k.loops.length := by rw [← unhide Hn]; exact hx
    have hm : k.loops[x] ∈ k.loops := List.getElem_mem hx2
    rw [← thrF_at hx2]
    exact ⟨fun y hy => by rw [unhide Hn]; exact (unhide HKn).thr _ hm y hy, (unhide HKn).fit.2.2.2.2.2.2 _ hm⟩)
  have HR1 := hide (show Rw w1 w1 B lg n 0 c hh k.loops o from ⟨(unhide HD1).congr (fun j hj => ⟨by simp [dcF], by simp [dhF]⟩), fun j e he => by
    rw [if_neg (Nat.not_lt_zero _)]
    have hj : j < k.loops.length := by
      rcases Nat.lt_or_ge j k.loops.length with d | d
      · exact d
      · rw [List.getElem?_eq_none d] at he; cases he
    have := (unhide HO j (by rw [unhide Hn]; exact hj)).1
    rw [← thrF_at hj] at this
    rw [List.getElem?_eq_getElem hj] at he
    cases he
    exact this, Kept.refl _ _⟩)
  have HFr := hide (fun V hV => (unhide HG1).fr.two (V := V) (unhide HD1).1.2 hV (by decide))
  have HBk := hide (fun V hV => (unhide HG1).bk.two (V := V) (unhide HD1).1.2 hV (by decide))
  have HLs := hide (show ∀ V, Kept (fun i => i = lg ∨ (Tg w1 i 3 ∧ (o i).1 = 0)) w1 V → NR V B (.slice vg no vh) k.loose from fun V hV => (unhide HG1).lse.1.but hV (fun i hi q => by
    rcases q with q | q
    · exact tg_not (own_tg (unhide HG1).lse.1 hi) (by decide) (q ▸ (unhide HD1).1.2)
    · rw [(unhide HG1).lse.2 i hi] at q; cases q.2))
  have HKk := hide (show ∀ V, Kept (fun i => i = lg ∨ (Tg w1 i 3 ∧ (o i).1 = 0)) w1 V → KB V kb (.slice va n vb) (.slice vc nf vd) (.slice ve nb vf) (.slice vg no vh) rk ∧ KB V rb (.slice none 0 0) (.slice none 0 0) (.slice none 0 0) (.slice none 0 0) 0 from fun V hV =>
    ⟨(unhide HKb1).kept hV (fun q => q.elim (fun q => tg_not (unhide HKb1).1.2 (by decide) (q ▸ (unhide HD1).1.2)) (fun q => tg_not (unhide HKb1).1.2 (by decide) q.1)),
     (unhide HRb1).kept hV (fun q => q.elim (fun q => tg_not (unhide HRb1).1.2 (by decide) (q ▸ (unhide HD1).1.2)) (fun q => tg_not (unhide HRb1).1.2 (by decide) q.1))⟩)
  clear HP HD1
  go_wp2
  go_loopw [15] (fun i wr => ∃ x : Nat, x ≤ n ∧ i = .int .i64 x ∧ Rw w1 wr B lg n x c hh k.loops o) (fun i _ => n - (intOf i).toNat)
  case atStart => exact ⟨0, Nat.zero_le _, rfl, unhide HR1⟩
  case round =>
    clear HR1 y0 y1 y2 y3 y4
    obtain ⟨x, hx, rfl, hR⟩ := hrel
    have HR := hide hR
    clear hR
    by_cases hlt : x < n
    · have p1 : (x : Int) < (n : Int) := by omega
      have p2 : (0 : Int) ≤ (x : Int) := by omega
      obtain ⟨g, rfl, e1, e2⟩ := unhide HP1 wr (unhide HR).kp x hlt
      have hx2 : x < k.loops.length := by rw [← unhide Hn]; exact hlt
      have hTh := (unhide HR).thr x _ (List.getElem?_eq_getElem hx2)
      rw [if_neg (Nat.lt_irrefl _), thrF_at hx2] at hTh
      obtain ⟨s, t, hu⟩ := hTh.form
      obtain ⟨ln, hln⟩ : ∃ ln, ln = (thrF k.loops x).length := ⟨_, rfl⟩
      rw [← hln] at hu
      rw [hu] at e2 hTh
      have HTh := hide (hTh.keep (bnew wr (.cells #[.int .i64 (c x), .slice s ln t] 43)))
      have HNw := hide ((unhide HNu wr (unhide HR).kp).keep (bnew wr (.cells #[.int .i64 (c x), .slice s ln t] 43)))
      have HDw := hide ((unhide HR).dr.kept (Kept.of (S := fun _ => False) (bnew wr (.cells #[.int .i64 (c x), .slice s ln t] 43))) id)
      have HOg := hide (unhide HO x hlt).2
      rw [hu] at HOg
      have HT := hide (translate_any (unhide HTh) (unhide HNw) (fun e => by
        have := unhide HOg g0 e
        rw [(unhide HG1).own] at this
        cases this) (unhide HIn x hlt).1 (by have := (unhide HIn x hlt).2; omega))
      have Hu := hide hu
      have hy := nm_lt (unhide HCs) hlt
      obtain ⟨y, hye⟩ : ∃ y, y = nm c n x := ⟨_, rfl⟩
      have Hy := hide hye
      rw [← hye] at hy
      obtain ⟨cx, hcx⟩ : ∃ z, z = c x := ⟨_, rfl⟩
      rw [← hcx] at e1 HTh HNw HDw HT
      have Hcx := hide hcx
      have TB := hide (Tg.new wr #[.int .i64 cx, .slice s ln t] 43)
      have X0 := hide (show (wr.alloc (.cells #[.int .i64 cx, .slice s ln t] 43)).cell? ⟨wr.heap.size, 0, none⟩ = some (.int .i64 cx) ∧ (wr.alloc (.cells #[.int .i64 cx, .slice s ln t] 43)).cell? ⟨wr.heap.size, 1, none⟩ = some (.slice s ln t) by constructor <;> simp [go_sem])
      have K4 := hide ((unhide HR).kp.below (bnew wr (.cells #[.int .i64 cx, .slice s ln t] 43)))
      clear hye hcx hu hTh hln hx2
      go_upto_region 5 with fail
      have hbx : lg < wr.heap.size := (unhide HR).dr.1.1
      have Hthr := hide (fun j e (he : k.loops[j]? = some e) => ((unhide HR).thr j e he).keep (bnew wr (.cells #[.int .i64 cx, .slice s ln t] 43)))
      generalize wr.alloc (.cells #[.int .i64 cx, .slice s ln t] 43) = w4 at *
      generalize wr.heap.size = bx at *
      obtain ⟨x0, x1⟩ := unhide X0
      go_wp2_with fail
      refine (unhide HT).mono ?_
      rintro e w5 ⟨rfl, hN5, hK5⟩
      have t3 : ∀ i, (Value.slice s ln t).ownBlock = some i → Tg w4 i 3 := fun i q => own_tg (unhide HTh) q
      have n43 : ∀ i, Tg w4 i 43 → ¬ (Value.slice s ln t).ownBlock = some i := fun i q r => tg_not q (by decide) (t3 i r)
      have HD5 := hide ((unhide HDw).kept hK5 (n43 _ (unhide HDw).1.2))
      have hN6 := (unhide HNw).but hK5 (fun i hi q => by
        have e1 : g0 = i := by simpa [Value.ownBlock] using hi
        have := unhide HOg i q
        rw [← e1, (unhide HG1).own] at this
        cases this)
      obtain ⟨z1, -⟩ := hN6.cellFr (rgL_len _ _) hlt
      rw [rgL_get _ hlt, ← unhide Hy] at z1
      have x0' := hK5.cell (unhide TB).lt (n43 _ (unhide TB)) x0
      have x1' := hK5.cell (unhide TB).lt (n43 _ (unhide TB)) x1
      obtain ⟨d0, d1, d2, d3⟩ := (unhide HD5).2 y hy
      have K5 := hide ((unhide K4).trans (hK5.more (T := fun i => i = lg ∨ (Tg w1 i 3 ∧ (o i).1 = 0)) (fun i q => by
        have a := unhide HOg i q
        exact .inl (.inr ⟨own_tg (unhide HO x hlt).1 (by rw [unhide Hu]; exact q), by rw [a]⟩))))
      have Hthr5 := hide (show ∀ j e, k.loops[j]? = some e → NR w5 B (hh j) (if j < x + 1 then e.2.map (nm c n) else e.2) from fun j e he => by
        by_cases cj : j = x
        · subst cj
          rw [if_pos (by omega), unhide Hu]
          have : thrF k.loops j = e.2 := by
            unfold thrF
            rw [List.getD_eq_getElem?_getD, he]
            rfl
          rw [← this]
          exact hN5
        · have e1 : (if j < x + 1 then e.2.map (nm c n) else e.2) = (if j < x then e.2.map (nm c n) else e.2) := by
            by_cases d : j < x
            · rw [if_pos d, if_pos (by omega)]
            · rw [if_neg d, if_neg (by omega)]
          rw [e1]
          refine (unhide Hthr j e he).but hK5 (fun i hi q => cj ?_)
          have hj : j < n := by
            rcases Nat.lt_or_ge j k.loops.length with d | d
            · rw [unhide Hn]; exact d
            · rw [List.getElem?_eq_none d] at he; cases he
          have a1 := (unhide HO j hj).2 i hi
          have a2 := unhide HOg i q
          rw [a1] at a2
          exact (Prod.mk.inj a2).2)
      clear hN5 hK5 hN6 t3 n43 x0 x1 HT HTh HNw HDw TB X0 K4 Hthr HR e1 e2
      have py1 : (y : Int) < (n : Int) := by omega
      have py2 : (0 : Int) ≤ (y : Int) := by omega
      have HRn := hide (show Rw w1 ((w5.setCell ⟨lg, y * 2, none⟩ (.int .i64 cx)).setCell ⟨lg, y * 2 + 1, none⟩ (.slice s ln t)).drew B lg n (x + 1) c hh k.loops o from by
        have k1 : Kept (fun i => i = lg) w5 ((w5.setCell ⟨lg, y * 2, none⟩ (.int .i64 cx)).setCell ⟨lg, y * 2 + 1, none⟩ (.slice s ln t)).drew := (((Kept.refl (fun i => i = lg) w5).set (b := lg) _ _ (.inl rfl)).set (b := lg) _ _ (.inl rfl)).dr
        refine ⟨?_, fun j e he => (unhide Hthr5 j e he).kept k1 (fun i q t => tg_not t (by decide) (q ▸ (unhide HD5).1.2)), ?_⟩
        · have h1 := (unhide HD5).put y cx (.slice s ln t)
          have h2 := h1.congr (d := dcF c n (x + 1)) (g := dhF c n (x + 1) hh) (fun p hp => by
            have := d_next (unhide HCs) hlt hh p hp
            rw [unhide Hcx, unhide Hy, ← unhide Hu]
            exact this)
          exact h2.kept ((Kept.refl (fun _ => False) _).dr) id
        · exact (unhide K5).trans (k1.more (fun i q => .inl (.inl q))))
      go_wp2
      go_region
      go_wp2
      exact ⟨⟨x + 1, by omega, by go_num, unhide HRn⟩, by simp [intOf]; omega⟩
    · obtain rfl : n = x := by omega
      have cl : ¬ ((n : Int) < (n : Int)) := by omega
      have kp := (unhide HR).kp
      obtain ⟨kk, kr⟩ := unhide HKk wr kp
      have HK6 := hide (kk.put0 (.slice (some ⟨lg, 0, none⟩) n n))
      have S6 := hide (show Ks o 8 wr (wr.setCell ⟨kb, 0, none⟩ (.slice (some ⟨lg, 0, none⟩) n n)) from Ks.one kk.1.2 (kset wr kb 0 _))
      have HR6 := hide (kr.kept (kset wr kb 0 (.slice (some ⟨lg, 0, none⟩) n n)) (fun q => unhide Hkr q.symm))
      have HD6 := hide ((unhide HR).dr.ks (unhide S6))
      have HT6 := hide (show ∀ j e, k.loops[j]? = some e → NR (wr.setCell ⟨kb, 0, none⟩ (.slice (some ⟨lg, 0, none⟩) n n)) B (hh j) (e.2.map (nm c n)) ∧ Og o (0, j) (hh j) from fun j e he => by
        have hj : j < n := by
          rcases Nat.lt_or_ge j k.loops.length with d | d
          · rw [unhide Hn]; exact d
          · rw [List.getElem?_eq_none d] at he; cases he
        have h1 := (unhide HR).thr j e he
        rw [if_pos hj] at h1
        exact ⟨h1.ks (unhide HO j hj).2 (unhide S6) (by decide), (unhide HO j hj).2⟩)
      have HF6 := hide ((unhide HFr wr kp).ks (unhide S6) (by decide))
      have HB6 := hide ((unhide HBk wr kp).ks (unhide S6) (by decide))
      have HL6 := hide ((unhide HLs wr kp).ks (unhide HG1).lse.2 (unhide S6) (by decide))
      have HNg := hide (show Og o (9, 9) (.slice (some ⟨g0, 0, none⟩) n cp) from fun i hi => by
        have e1 : g0 = i := by simpa [Value.ownBlock] using hi
        rw [← e1]; exact (unhide HG1).own)
      have HN6 := hide ((unhide HNu wr kp).ks (unhide HNg) (unhide S6) (by decide))
      have Hcl := hide (show ∀ a, a ≠ 9 → ∀ q, (o q).1 = a → B ≤ q from fun a ha q hq => by
        rcases Nat.lt_or_ge q B with d | d
        · rw [(unhide HG1).low q d] at hq; exact absurd hq.symm ha
        · exact d)
      have HW6 := hide (show Below B W (wr.setCell ⟨kb, 0, none⟩ (.slice (some ⟨lg, 0, none⟩) n n)) from by
        have h1 : Below B W wr := Kept.back ((unhide Hw0).trans ((unhide HB1).mono (Nat.le_trans hB (unhide Hw0).size))) kp (Nat.le_trans (Nat.le_trans hB (unhide Hw0).size) (unhide HB1).size) (fun q hq => by
          rcases hq with hq | hq
          · rw [hq, unhide Hlg]; exact Nat.le_trans hB (unhide Hw0).size
          · exact unhide Hcl 0 (by decide) q hq.2)
        exact h1.setCell (unhide Hkb).1 _)
      have HQ6 := hide (show K3 W (wr.setCell ⟨kb, 0, none⟩ (.slice (some ⟨lg, 0, none⟩) n n)) from
        ((K3.of (unhide HW1)).step kp (fun i hi q => by
          rcases q with q | q
          · have := unhide Hlg; have := (unhide Hw0).size; omega
          · exact q.1)).step (kset wr kb 0 _) (fun i hi q => by have := (unhide Hkw).1; omega))
      obtain ⟨-, ⟨y0, y1, y2, y3, y4⟩, yf⟩ := kk
      have yf0 := yf 0 (by decide)
      clear yf kr kp
      go_upto_region 9 with fail
      generalize wr.setCell ⟨kb, 0, none⟩ (.slice (some ⟨lg, 0, none⟩) n n) = w6 at *
      clear y0 y1 y2 y3 y4 yf0
      have HTF := hide (translateBed_any (unhide HF6) (unhide HN6) (unhide HG1).own (by decide) (fun x hx => ⟨fun y hy => by rw [unhide Hn]; exact (unhide HKn).fr x hx y hy, by have := (unhide HKn).fit.2.2.2.2.1 x hx; omega⟩) (unhide HKn).fit.2.2.1)
      obtain ⟨-, ⟨y0, y1, y2, y3, y4⟩, -⟩ := unhide HK6
      go_wp2_with fail
      refine (unhide HTF).mono ?_
      rintro e w7 ⟨rfl, hF7, hK7⟩
      have S7 := hide (Ks.kc hK7)
      have HQ7 := hide ((unhide HQ6).step hK7 (fun i _ q => q.1))
      have HW7 := hide (Kept.back (unhide HW6) hK7 (Nat.le_trans hB (unhide HW6).size) (fun q hq => unhide Hcl 1 (by decide) q hq.2))
      have HF7 := hide hF7
      have HK7 := hide (Kc.kb (unhide HK6) hK7)
      have HR7 := hide (Kc.kb (unhide HR6) hK7)
      have HD7 := hide ((unhide HD6).ks (unhide S7))
      have HT7 := hide (fun j e he => And.intro ((unhide HT6 j e he).1.ks (unhide HT6 j e he).2 (unhide S7) (by decide)) (unhide HT6 j e he).2)
      have HB7 := hide ((unhide HB6).ks (unhide S7) (by decide))
      have HL7 := hide ((unhide HL6).ks (unhide HG1).lse.2 (unhide S7) (by decide))
      have HN7 := hide ((unhide HN6).ks (unhide HNg) (unhide S7) (by decide))
      clear hF7 hK7 HTF y0 y1 y2 y3 y4
      have HTB := hide (translateBed_any (unhide HB7) (unhide HN7) (unhide HG1).own (by decide) (fun x hx => ⟨fun y hy => by rw [unhide Hn]; exact (unhide HKn).bk x hx y hy, by have := (unhide HKn).fit.2.2.2.2.2.1 x hx; omega⟩) (unhide HKn).fit.2.2.2.1)
      obtain ⟨-, ⟨y0, y1, y2, y3, y4⟩, -⟩ := unhide HK7
      go_wp2_with fail
      refine (unhide HTB).mono ?_
      rintro e w8 ⟨rfl, hB8, hK8⟩
      have S8 := hide (Ks.kc hK8)
      have HQ8 := hide ((unhide HQ7).step hK8 (fun i _ q => q.1))
      have HW8 := hide (Kept.back (unhide HW7) hK8 (Nat.le_trans hB (unhide HW7).size) (fun q hq => unhide Hcl 2 (by decide) q hq.2))
      have HB8 := hide hB8
      have HK8 := hide (Kc.kb (unhide HK7) hK8)
      have HR8 := hide (Kc.kb (unhide HR7) hK8)
      have HD8 := hide ((unhide HD7).ks (unhide S8))
      have HT8 := hide (fun j e he => And.intro ((unhide HT7 j e he).1.ks (unhide HT7 j e he).2 (unhide S8) (by decide)) (unhide HT7 j e he).2)
      have HF8 := hide ((unhide HF7).ks (unhide S8) (by decide))
      have HL8 := hide ((unhide HL7).ks (unhide HG1).lse.2 (unhide S8) (by decide))
      have HN8 := hide ((unhide HN7).ks (unhide HNg) (unhide S8) (by decide))
      clear hB8 hK8 HTB y0 y1 y2 y3 y4
      have HTL := hide (translate_any (unhide HL8) (unhide HN8) (fun e => by
        have := (unhide HG1).lse.2 g0 e
        rw [(unhide HG1).own] at this
        cases this) (fun y hy => by rw [unhide Hn]; exact (unhide HKn).lse y hy) (unhide HKn).fit.2.1)
      obtain ⟨-, ⟨y0, y1, y2, y3, y4⟩, -⟩ := unhide HK8
      go_wp2_with fail
      refine (unhide HTL).mono ?_
      rintro e w9 ⟨rfl, hL9, hK9⟩
      have C9 := Kc.of (unhide HL8) (unhide HG1).lse.2 hK9
      have S9 := hide (Ks.kc C9)
      have HQ9 := hide ((unhide HQ8).step C9 (fun i _ q => q.1))
      have HW9 := hide (Kept.back (unhide HW8) C9 (Nat.le_trans hB (unhide HW8).size) (fun q hq => unhide Hcl 3 (by decide) q hq.2))
      have HL9 := hide hL9
      have HK9 := hide (Kc.kb (unhide HK8) C9)
      have HR9 := hide (Kc.kb (unhide HR8) C9)
      have HD9 := hide ((unhide HD8).ks (unhide S9))
      have HT9 := hide (fun j e he => And.intro ((unhide HT8 j e he).1.ks (unhide HT8 j e he).2 (unhide S9) (by decide)) (unhide HT8 j e he).2)
      have HF9 := hide ((unhide HF8).ks (unhide S9) (by decide))
      have HB9 := hide ((unhide HB8).ks (unhide S9) (by decide))
      clear hL9 hK9 C9 HTL y0 y1 y2 y3 y4
      have HTS := hide (sort_nr (unhide HL9) (by rw [List.length_map]; exact (unhide HKn).fit.2.1))
      obtain ⟨-, ⟨y0, y1, y2, y3, y4⟩, -⟩ := unhide HK9
      go_wp2_with fail
      refine (unhide HTS).mono ?_
      rintro e w10 ⟨rfl, hL10, hK10⟩
      have C10 := Kc.of (unhide HL9) (unhide HG1).lse.2 hK10
      have S10 := hide (Ks.kc C10)
      have HQ10 := hide ((unhide HQ9).step C10 (fun i _ q => q.1))
      have HW10 := hide (Kept.back (unhide HW9) C10 (Nat.le_trans hB (unhide HW9).size) (fun q hq => unhide Hcl 3 (by decide) q hq.2))
      have HL10 := hide hL10
      have HK10 := hide (Kc.kb (unhide HK9) C10)
      have HR10 := hide (Kc.kb (unhide HR9) C10)
      have HD10 := hide ((unhide HD9).ks (unhide S10))
      have HT10 := hide (fun j e he => And.intro ((unhide HT9 j e he).1.ks (unhide HT9 j e he).2 (unhide S10) (by decide)) (unhide HT9 j e he).2)
      have HF10 := hide ((unhide HF9).ks (unhide S10) (by decide))
      have HB10 := hide ((unhide HB9).ks (unhide S10) (by decide))
      clear hL10 hK10 C10 HTS y0 y1 y2 y3 y4
      obtain ⟨-, ⟨y0, y1, y2, y3, y4⟩, -⟩ := unhide HK10
      obtain ⟨-, ⟨r0, r1, r2, r3, r4⟩, rf⟩ := unhide HR10
      have rf0 := rf 0 (by decide)
      have rf1 := rf 1 (by decide)
      have rf2 := rf 2 (by decide)
      have rf3 := rf 3 (by decide)
      have rf4 := rf 4 (by decide)
      clear rf
      obtain ⟨x9, hx9, hR11, hK11⟩ : ∃ x9, put27 w10 rb (.slice (some ⟨lg, 0, none⟩) n n) (.slice vc nf vd) (.slice ve nb vf) (.slice vg no vh) rk = x9 ∧ KB x9 rb (.slice (some ⟨lg, 0, none⟩) n n) (.slice vc nf vd) (.slice ve nb vf) (.slice vg no vh) rk ∧ Kept (fun i => i = rb) w10 x9 := ⟨_, rfl, (unhide HR10).put _ _ _ _ _, put27_kept _ _ _ _ _ _ _⟩
      unfold put27 at hx9
      have HR11 := hide hR11
      have S11 := hide (show Ks o 8 w10 x9 from Ks.one (unhide HR10).1.2 hK11)
      have HK11 := hide hK11
      clear hR11 hK11
      go_wp2
      obtain ⟨-, ⟨z0, z1, z2, z3, z4⟩, -⟩ := unhide HR11
      refine bodyPost_ret (v := .agg #[.slice (some ⟨lg, 0, none⟩) n n, .slice vc nf vd, .slice ve nb vf, .slice vg no vh, .int .i64 rk]) ?_ rfl ?_
      · simp [results, Try.results16, go_sem, z0, z1, z2, z3, z4]
      · refine ⟨_, rfl, ⟨.slice (some ⟨lg, 0, none⟩) n n, .slice vc nf vd, .slice ve nb vf, .slice vg no vh, by rw [unhide Hrk]; rfl, ?_, ?_, ?_, ?_⟩, ?_, ?_⟩
        · have hd := (unhide HD10).ks (unhide S11)
          have hlen : (ixL c n 8).length = n := ixL_all (unhide HCs)
          refine .inr ⟨lg, n, dcF c n n, dhF c n n hh, ?_, ?_, ?_, fun p e he => ?_⟩
          · show _ = Value.slice _ ((ixL (carF k.loops) k.loops.length 8).map _).length _
            rw [List.length_map, ← unhide Hc, ← unhide Hn, hlen]
          · show CR x9 lg ((ixL (carF k.loops) k.loops.length 8).map _).length _ _
            rw [List.length_map, ← unhide Hc, ← unhide Hn, hlen]
            exact ⟨hd.1, fun j hj => ⟨(hd.2 j hj).1, (hd.2 j hj).2.1, (hd.2 j hj).2.2.2⟩⟩
          · rw [unhide Hlg]; exact Nat.le_trans hB (unhide Hw0).size
          · have he2 : ((ixL (carF k.loops) k.loops.length 8).map fun x => (carF k.loops x, (thrF k.loops x).map (nm (carF k.loops) k.loops.length)))[p]? = some e := he
            rw [← unhide Hc, ← unhide Hn, List.getElem?_map] at he2
            have hp : p < n := by
              rcases Nat.lt_or_ge p (ixL c n 8).length with d | d
              · rw [hlen] at d; exact d
              · rw [List.getElem?_eq_none d] at he2; cases he2
            rw [ix_get (unhide HCs) hp] at he2
            cases he2
            have hi := (nm_ix (unhide HCs) hp).1
            have hi2 : ix c n p < k.loops.length := by rw [← unhide Hn]; exact hi
            have ht := unhide HT10 _ _ (List.getElem?_eq_getElem hi2)
            rw [thrF_at hi2] at ht
            unfold dcF dhF
            rw [if_pos hi, if_pos hi]
            exact ⟨rfl, ht.1.ks ht.2 (unhide S11) (by decide)⟩
        · have := ((unhide HF10).ks (unhide S11) (by decide)).lr
          rw [unhide Hc, unhide Hn] at this
          exact this
        · have := ((unhide HB10).ks (unhide S11) (by decide)).lr
          rw [unhide Hc, unhide Hn] at this
          exact this
        · have := (unhide HL10).ks (unhide HG1).lse.2 (unhide S11) (by decide)
          rw [unhide Hc, unhide Hn] at this
          exact this
        · exact Kept.back (unhide HW10) (unhide HK11) (Nat.le_trans hB (unhide HW10).size) (fun q hq => by rw [hq]; exact (unhide Hkb).2)
        · exact (unhide HQ10).step (unhide HK11) (fun i hi q => by have := (unhide Hkw).2; omega)
end Go.Proofs.Ytancniamgfppiaa
