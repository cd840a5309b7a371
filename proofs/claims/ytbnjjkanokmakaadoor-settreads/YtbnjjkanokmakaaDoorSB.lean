/-
  Rows of stripes of one's own; the stripes of a sett that comes once; what is wrong with a sett.
-/
import Derived.Test.YtbnjjkanokmakaaDoorSA
namespace Go.Proofs.YtbnjjkanokmakaaDoor
open Go.RowKit

/-- stripes, as a row has them -/
def stV (l : List St) : List Value := l.flatMap fun x => [.int .i64 x.1, .int .i64 x.2]
theorem stV_app (l m : List St) : stV (l ++ m) = stV l ++ stV m := by simp [stV]
theorem stV_len (l : List St) : (stV l).length = l.length * 2 := by
  induction l with
  | nil => rfl
  | cons x r ih => rw [show x :: r = [x] ++ r from rfl, stV_app, List.length_append, ih]; simp [stV]; omega
theorem stV_one (l : List St) : ∀ u ∈ stV l, u.oneCell' = true := by
  intro u hu
  simp only [stV, List.mem_flatMap] at hu
  obtain ⟨x, -, hx⟩ := hu
  simp at hx
  rcases hx with rfl | rfl <;> rfl
theorem stV_at (l : List St) : ∀ k, k < l.length → (stV l)[k * 2]? = some (.int .i64 (ca l k)) ∧ (stV l)[k * 2 + 1]? = some (.int .i64 (cb l k)) := by
  induction l with
  | nil => intro k hk; simp at hk
  | cons x r ih =>
    intro k hk
    have e : stV (x :: r) = .int .i64 x.1 :: .int .i64 x.2 :: stV r := rfl
    cases k with
    | zero => rw [e]; exact ⟨rfl, rfl⟩
    | succ k =>
      have := ih k (by simpa using hk)
      rw [e, show (k + 1) * 2 = k * 2 + 1 + 1 by omega]
      simpa [ca, cb] using this
theorem stV_cells {W : World} {g o : Nat} {l : List St} (hk : ∀ k, k < l.length → W.cell? ⟨g, o + k * 2, none⟩ = some (.int .i64 (ca l k)) ∧ W.cell? ⟨g, o + k * 2 + 1, none⟩ = some (.int .i64 (cb l k))) :
    ∀ (j : Nat) u, (stV l)[j]? = some u → W.cell? ((⟨g, o, none⟩ : Addr).add j) = some u := by
  intro j u hu
  have hj : j < l.length * 2 := by rw [← stV_len]; exact (List.getElem?_eq_some_iff.1 hu).1
  have ea : (⟨g, o, none⟩ : Addr).add j = ⟨g, o + j, none⟩ := by
    by_cases h0 : j = 0
    · subst h0; rfl
    · simp [Addr.add, h0]
  rw [ea]
  have hm : j % 2 = 0 ∨ j % 2 = 1 := by omega
  rcases hm with hm | hm
  · obtain ⟨k, rfl⟩ : ∃ k, j = k * 2 := ⟨j / 2, by omega⟩
    rw [(stV_at l k (by omega)).1] at hu
    rw [(hk k (by omega)).1, hu]
  · obtain ⟨k, rfl⟩ : ∃ k, j = k * 2 + 1 := ⟨j / 2, by omega⟩
    rw [(stV_at l k (by omega)).2] at hu
    rw [show o + (k * 2 + 1) = o + k * 2 + 1 by omega, (hk k (by omega)).2, hu]
theorem info45 : (Tryd.prog.info? 45).map (fun i => (i.zero, i.size, i.bytes)) = some (some (.agg #[.int .i64 0, .int .i64 0]), 2, 16) := by kernel_rfl
/-- stripes in a row of one's own -/
def SR (W : World) (B : Nat) (v : Value) (l : List St) : Prop := W.ownsRow B 45 2 v l.length (stV l)
theorem SR.keep {W V : World} {B : Nat} {v : Value} {l : List St} (h : SR W B v l) (hb : Below W.heap.size W V) : SR V B v l := own_keep h hb
theorem SR.le {W : World} {B C : Nat} {v : Value} {l : List St} (h : SR W B v l) (hc : C ≤ B) : SR W C v l := own_le h hc
theorem SR.nil (W : World) (B : Nat) : SR W B (.slice none 0 0) [] := World.ownsRow_nil _ _ _ _
theorem SR.form {W : World} {B : Nat} {v : Value} {l : List St} (h : SR W B v l) : ∃ q cap, v = .slice q l.length cap := own_form h
theorem SR.sl {W : World} {B cap n : Nat} {q : Option Addr} {l : List St} (h : SR W B (.slice q n cap) l) : n = l.length ∧ Sl W q l := by
  obtain ⟨q', c', e⟩ := h.form
  have en : n = l.length := by injection e
  subst en
  refine ⟨rfl, ?_⟩
  have h : W.ownsRow B 45 2 (.slice q l.length cap) l.length (stV l) := h
  by_cases h0 : l.length = 0
  · exact .inl h0
  · obtain ⟨g, cap', e⟩ := own_slice h (by omega)
    injection e with e1 e2 e3
    subst e1
    have hl := (World.ownsRow.lt h g rfl).2
    refine .inr ⟨g, 0, rfl, hl, fun k hk => ?_⟩
    have a := stV_at l k hk
    refine ⟨?_, ?_⟩
    · rw [Nat.zero_add, World.ownsRow.cellAt h (k * 2) (by omega)]; exact a.1
    · rw [Nat.zero_add, World.ownsRow.cellAt h (k * 2 + 1) (by omega)]; exact a.2

/-- append of a row that came in onto one's own -/
theorem wl_appF {t e : TypeId} {zero : Value} {z byt : Nat} {ops : Array Oper} {rest : List Oper} {o : Oper} {a : Act} {Q : Exit → Act → World → Prop} {W : World} {s x : Operand} (hgd : o.guard = none) (ho : o.op = .call { callee := .builtin .append, args := #[s, x], argTypes := #[t, t] })
    (ht : Tryd.prog.underlying t = some (.slice e)) (hinf : (Tryd.prog.info? e).map (fun i => (i.zero, i.size, i.bytes)) = some (some zero, z, byt)) (hzs : zero.cells.size = z) (hz : 0 < z)
    {B n m c : Nat} {v : Value} {ad : Addr} {xs ys : List Value} (hs : a.eval s = v) (hx : a.eval x = .slice (some ad) m c) (hv : W.ownsRow B e z v n xs) (hl : ys.length = m * z) (hy : ∀ (j : Nat) u, ys[j]? = some u → W.cell? (ad.add j) = some u) (h1 : ∀ u ∈ ys, u.oneCell' = true) (hml : n + m ≤ maxLen) (hb : (n + m) * byt ≤ 140737488355328) (hB : B ≤ W.heap.size)
    (h : ∀ v' w', w'.ownsRow B e z v' (n + m) (xs ++ ys) → W.grownBy w' v.ownBlock → wpList Tryd.prog ops Q rest (a.put o.dst v') w') : wpList Tryd.prog ops Q (o :: rest) a W := by
  obtain ⟨i, hi, hz0, hz1, hz2⟩ := info_parts hinf
  refine wpList_plain hgd fun K hK => ?_
  obtain ⟨v', w', hr, h2, h3, -⟩ := run_append_own_at (P := Tryd.prog) W B t o.type e i zero z byt ht hi hz0 hz1 hz2 hzs hz v n xs hv ad m c ys hl hy h1 hml hb hB
  have hn := hK _ _ (h v' w' h2 h3)
  unfold Oper.wp
  simp [execOp, builtin, invoke, resolve, Result.andThen, hr, hx, hs, ho]
  exact hn

/-- a sett's stripes, as it comes once, are told -/
def OnIs (W : World) (pv : Bool) (l : List St) (e : Ending) (V : World) : Prop := ∃ v, e = .returned v ∧ SR V W.heap.size v (onL pv l) ∧ Below W.heap.size W V
theorem OnIs.mk {W V : World} {pv : Bool} {l : List St} (v : Value) (h : SR V W.heap.size v (onL pv l)) (hb : Below W.heap.size W V) : OnIs W pv l (.returned v) V := ⟨v, rfl, h, hb⟩
set_option maxRecDepth 100000 in
set_option maxHeartbeats 2000000 in
theorem once_any (pv : Bool) (q : Option Addr) (l : List St) (cap : Nat) (W : World) (hP : Sl W q l) (hn : 1 ≤ l.length ∧ l.length ≤ 256) (h2 : pv = true → 2 ≤ l.length) : Calls Tryd.prog 25 #[sV pv q l.length cap] W (OnIs W pv l) := by
  obtain ⟨g, o, rfl, hg, hk⟩ := hP.resolve_left (by omega)
  obtain ⟨n, hnl⟩ : ∃ n, l.length = n := ⟨_, rfl⟩
  have HP := hide (show Ps W (some ⟨g, o, none⟩) n (ca l) (cb l) by rw [← hnl]; exact hP)
  have HN := hide (fun V (hb : Below W.heap.size W V) => stV_cells (l := l) (fun k hkl => ⟨keepC hb hg (hk k hkl).1, keepC hb hg (hk k hkl).2⟩))
  have HL := hide (stV_len l)
  have H1 := hide (stV_one l)
  have Hbk := hide (bkL_succ l)
  have H0 := hide (show bkL l 0 = [] from rfl)
  have Hon := hide (show onL true l = l ++ bkL l (n - 2) by rw [← hnl]; rfl)
  have Hap := hide (fun m => stV_app l m)
  have Hll := hide (fun x => show (l ++ bkL l x).length = n + x by rw [List.length_append, bkL_len, hnl])
  have hnn : 1 ≤ n ∧ n ≤ 256 := by omega
  have h22 : pv = true → 2 ≤ n := fun hp => by have := h2 hp; omega
  unfold sV
  rw [hnl] at HL Hbk ⊢
  have Hnl := hide hnl
  have HB := hide (BS.new W pv (.slice (some ⟨g, o, none⟩) n cap) 24)
  have Hb := hide (bnew W (.cells #[.bool pv, .slice (some ⟨g, o, none⟩) n cap] 24))
  clear hP hn h2 hk hg hnl
  go_enter Tryd.func25, Tryd.ntmps25
  go_upto_region 2 with fail
  generalize W.alloc (.cells #[.bool pv, .slice (some ⟨g, o, none⟩) n cap] 24) = w1 at *
  generalize hbx : W.heap.size = bx at *
  obtain ⟨hlx, c0, c1⟩ := unhide HB
  go_wp2_with (at_builtin; refine wl_appF rfl rfl Tryd.underlying22 info45 rfl (by decide) (B := w1.heap.size) (n := 0) (m := n) rfl rfl (World.ownsRow_nil _ _ _ _) (unhide HL) (unhide HN _ (unhide Hb)) (unhide H1) (by unfold maxLen; omega) (by omega) (Nat.le_refl _) ?_)
  intro v2 w2 ho hg2
  have HBl := hide (show Below w1.heap.size w1 w2 from (Below.refl _ w1).grown hg2 (Nat.le_refl _) (fun k hk => by cases hk))
  clear hg2 c0 c1
  obtain ⟨q2, cap2, rfl⟩ := own_form ho
  have HO := hide ho
  clear ho
  have B2' := (unhide HB).keep (unhide HBl)
  obtain ⟨-, c0, c1⟩ := B2'
  cases pv with
  | false =>
    have Hf := hide (show SR w2 bx (.slice q2 n cap2) (onL false l) from by
      have := unhide HO
      try simp only [Nat.zero_add, List.nil_append] at this
      show w2.ownsRow bx 45 2 _ l.length (stV l)
      rw [unhide Hnl]
      exact own_le this (by omega))
    have Hbb := hide (show Below bx W w2 from (unhide Hb).trans ((unhide HBl).mono (by omega)))
    go_wp2
    go_ret
    exact OnIs.mk _ (by rw [hbx]; exact unhide Hf) (by rw [hbx]; exact unhide Hbb)
  | true =>
    have h2n := h22 rfl
    obtain ⟨m, hm⟩ : ∃ m, n = m + 2 := ⟨n - 2, by omega⟩
    have e1 : (n : Int) - 2 = (m : Int) := by omega
    clear h22
    have Hm := hide hm
    have hm9 : m ≤ 254 := by omega
    clear hm
    go_wp2
    clear c0 c1
    go_loopw [3, 4] (fun ov iv wr => ∃ (x i cp : Nat) (qo : Option Addr), ov = .slice qo (n + x) cp ∧ iv = .int .i64 (i : Int) ∧ Hid (i + x = m) ∧ wr.ownsRow w1.heap.size 45 2 (.slice qo (n + x) cp) (n + x) (stV (l ++ bkL l x)) ∧ Below w1.heap.size w1 wr) (fun _ iv _ => (intOf iv).toNat)
    case atStart => exact ⟨0, m, cap2, q2, rfl, rfl, hide rfl, by rw [unhide H0, List.append_nil, Nat.add_zero]; exact unhide HO, unhide HBl⟩
    case round =>
      clear HBl HO e1
      obtain ⟨x, i, cp, qo, rfl, rfl, Hix, hO, hB⟩ := hrel
      have hx9 : x ≤ 254 := by have := unhide Hix; omega
      by_cases hlt : 0 < i
      · have g0 : (0 : Int) < (i : Int) := by omega
        have hin : i < n := by have := unhide Hix; have := unhide Hm; omega
        have q0 : (i : Int) < (n : Int) := by omega
        obtain ⟨i1, hi1⟩ : ∃ i1, i = i1 + 1 := ⟨i - 1, by omega⟩
        have e1 : (i : Int) - 1 = (i1 : Int) := by omega
        have hi9 : (i : Int) ≤ 256 := by omega
        have Hi1 := hide hi1
        have hsum := hide (show bkL l (x + 1) = bkL l x ++ [(ca l i, cb l i)] by rw [unhide Hbk, cab]; congr 3; have := unhide Hix; have := unhide Hm; omega)
        obtain ⟨-, c0, c1⟩ := (unhide HB).keep hB
        obtain ⟨g9, o9, eg, k0, k1⟩ := (((unhide HP).keep (by rw [hbx]; exact unhide Hb)).keep hB).at (x := i) hin
        cases eg
        clear hi1
        have Lr := hide (own_lit (B := w1.heap.size) (e := 45) (z := 2) (k := 1) wr #[.int .i64 (ca l i), .int .i64 (cb l i)] hB.size (by unfold maxLen; omega) rfl)
        have HO2 := hide (own_keep hO (bnew wr (.cells #[.int .i64 (ca l i), .int .i64 (cb l i)] 45)))
        have HB2 := hide (hB.trans ((bnew wr (.cells #[.int .i64 (ca l i), .int .i64 (cb l i)] 45)).mono hB.size))
        have Hone := hide (stV_one [(ca l i, cb l i)])
        have Hfin := hide (fun (v' : Value) (w' : World) (h : w'.ownsRow w1.heap.size 45 2 v' (n + x + 1) (stV (l ++ bkL l x) ++ [.int .i64 (ca l i), .int .i64 (cb l i)])) => show w'.ownsRow w1.heap.size 45 2 v' (n + (x + 1)) (stV (l ++ bkL l (x + 1))) by
          rw [unhide hsum, ← List.append_assoc, stV_app (l ++ bkL l x)]
          exact h)
        clear hO hB hsum
        generalize ca l i = u at *
        generalize cb l i = v at *
        go_wp2_with (at_builtin; refine wl_app rfl rfl Tryd.underlying22 info45 rfl (by decide) (B := w1.heap.size) (C := w1.heap.size) (n := n + x) (m := 1) rfl rfl (unhide HO2) (unhide Lr) (unhide Hone) (by unfold maxLen; omega) (by omega) (unhide HB2).size ?_)
        intro v3 w3 ho3 hg3 he3
        have HB3 := hide ((unhide HB2).grown hg3 (unhide HB2).size (fun _ e => ((unhide HO2).lt _ e).1))
        have HO3 := hide (unhide Hfin _ _ ho3)
        clear ho3 hg3 he3 HO2 HB2 Lr Hfin Hone
        obtain ⟨q3, cap3, rfl⟩ := own_form (unhide HO3)
        clear c0 c1 k0 k1
        go_wp2
        go_roundw
        case rel => exact ⟨x + 1, i1, cap3, q3, rfl, rfl, hide (by have := unhide Hix; have := unhide Hi1; omega), unhide HO3, unhide HB3⟩
        case measure => simp [intOf]; omega
      · obtain rfl : i = 0 := by omega
        have Hf := hide (show SR wr bx (.slice qo (n + x) cp) (onL true l) from by
          rw [unhide Hon]
          unfold SR
          have e9 : n - 2 = x := by have := unhide Hix; have := unhide Hm; omega
          rw [e9, unhide Hll]
          exact own_le hO (by omega))
        have Hbb := hide (show Below bx W wr from (unhide Hb).trans (hB.mono (by omega)))
        clear hO hB
        go_wp2
        go_ret
        exact OnIs.mk _ (by rw [hbx]; exact unhide Hf) (by rw [hbx]; exact unhide Hbb)
end Go.Proofs.YtbnjjkanokmakaaDoor
