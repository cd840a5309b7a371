/-
  KnitKeeps: no loop is lost, and none is held twice.
-/
import Derived.Test.YtnolblcfafdnpaaLwS
namespace Go.Proofs.Ytnolblcfafdnpaa
open Go.RowKit

/-- numbers that are counted, in a row -/
def CI (W : World) (q n : Nat) (c : Nat → Nat) : Prop := (q < W.heap.size ∧ Tg W q 3) ∧ ∀ j, j < n → W.cell? ⟨q, j, none⟩ = some (.int .i64 ((c j : Nat) : Int)) ∧ W.frozen? ⟨q, j, none⟩ = false
theorem CI.kept {S : Nat → Prop} {W V : World} {q n : Nat} {c : Nat → Nat} (r : CI W q n c) (e : Kept S W V) (hS : ¬ S q) : CI V q n c :=
  ⟨⟨Nat.lt_of_lt_of_le r.1.1 e.size, r.1.2.kept e r.1.1 hS⟩, fun j hj => ⟨e.cell r.1.1 hS (r.2 j hj).1, e.froz r.1.1 hS (r.2 j hj).2⟩⟩
theorem CI.keep {W V : World} {q n : Nat} {c : Nat → Nat} (r : CI W q n c) (e : Below W.heap.size W V) : CI V q n c := r.kept (Kept.of (S := fun _ => False) e) id
theorem CI.congr {W : World} {q n : Nat} {c d : Nat → Nat} (r : CI W q n c) (e : ∀ j, j < n → c j = d j) : CI W q n d := ⟨r.1, fun j hj => by rw [← e j hj]; exact r.2 j hj⟩
/-- one more of x -/
theorem CI.more {W : World} {q n : Nat} {P : List Nat} (r : CI W q n (fun j => P.count j)) (x : Nat) : CI (W.setCell ⟨q, x, none⟩ (.int .i64 (((P.count x : Nat) : Int) + 1))) q n (fun j => (P ++ [x]).count j) := by
  refine ⟨⟨by simpa using r.1.1, r.1.2.set _ _⟩, fun j hj => ⟨?_, fset (r.2 j hj).2⟩⟩
  by_cases e : j = x
  · subst e
    have h : (P ++ [j]).count j = P.count j + 1 := by simp
    dsimp only
    rw [h, Int.natCast_add]
    exact csame (r.2 j hj).1
  · have h : (P ++ [x]).count j = P.count j := by
      rw [List.count_append, List.count_singleton, if_neg (by simpa using fun q => e q.symm)]
      rfl
    dsimp only
    rw [h]
    exact cset (r.2 j hj).1 e
theorem take_snoc {xs : List Nat} {k : Nat} (h : k < xs.length) : xs.take (k + 1) = xs.take k ++ [xs[k]] := by
  rw [List.take_succ_eq_append_getElem h]
theorem flat_snoc {L : List (List Nat)} {z : Nat} (h : z < L.length) : (L.take (z + 1)).flatten = (L.take z).flatten ++ L[z] := by
  rw [List.take_succ_eq_append_getElem h, List.flatten_append]
  simp
theorem flat_pre (L : List (List Nat)) (z : Nat) : ∃ R, L.flatten = (L.take z).flatten ++ R := ⟨(L.drop z).flatten, by rw [← List.flatten_append, List.take_append_drop]⟩
/-- what a part counts is no more than what the whole does -/
theorem part_le {T P R : List Nat} (h : T = P ++ R) (x : Nat) : P.count x ≤ T.count x := by rw [h, List.count_append]; omega
/-- three lists of rows, one behind the other -/
def preL (L : Nat → List (List Nat)) : Nat → List Nat
  | 0 => []
  | y + 1 => preL L y ++ (L y).flatten
theorem pre_pre (L : Nat → List (List Nat)) {y : Nat} (h : y ≤ 3) : ∃ R, preL L 3 = preL L y ++ R := by
  match y, h with
  | 0, _ => exact ⟨_, rfl⟩
  | 1, _ => exact ⟨(L 1).flatten ++ (L 2).flatten, by simp [preL]⟩
  | 2, _ => exact ⟨(L 2).flatten, by simp [preL]⟩
  | 3, _ => exact ⟨[], by simp⟩
/-- the three lists -/
def thrL (k : Kn) (y : Nat) : List (List Nat) := if y = 0 then k.front else if y = 1 then k.back else [k.loose]
def thrV (v2 v3 v5 : Value) (y : Nat) : Value := if y = 0 then v2 else if y = 1 then v3 else v5
theorem step_le {k : Kn} {T : List Nat} {y z i : Nat} {xs : List Nat} (hy : y < 3) (hz : z < (thrL k y).length) (hxs : (thrL k y)[z] = xs) (x : Nat) : ((preL (thrL k) y ++ ((thrL k y).take z).flatten) ++ xs.take i).count x ≤ (preL (thrL k) 3 ++ T).count x := by
  obtain ⟨R1, h1⟩ := flat_pre (thrL k y) (z + 1)
  rw [flat_snoc hz, hxs] at h1
  obtain ⟨R2, h2⟩ := pre_pre (thrL k) (y := y + 1) (by omega)
  refine part_le (R := xs.drop i ++ (R1 ++ (R2 ++ T))) ?_ x
  rw [h2]
  show preL (thrL k) y ++ (thrL k y).flatten ++ R2 ++ T = _
  rw [h1]
  have h3 : xs = xs.take i ++ xs.drop i := (List.take_append_drop i xs).symm
  conv => lhs; rw [h3]
  simp only [List.append_assoc]
theorem thr_le {P : List Nat} {L : List (Int × List Nat)} {j i : Nat} {xs : List Nat} (hj : j < L.length) (hxs : L[j].2 = xs) (x : Nat) : ((P ++ ((L.map (·.2)).take j).flatten) ++ xs.take i).count x ≤ (P ++ (L.map (·.2)).flatten).count x := by
  obtain ⟨R1, h1⟩ := flat_pre (L.map (·.2)) (j + 1)
  rw [flat_snoc (by simpa using hj)] at h1
  have h2 : (L.map (·.2))[j]'(by simpa using hj) = xs := by simpa using hxs
  rw [h2] at h1
  refine part_le (R := xs.drop i ++ R1) ?_ x
  rw [h1]
  have h3 : xs = xs.take i ++ xs.drop i := (List.take_append_drop i xs).symm
  conv => lhs; rw [h3]
  simp only [List.append_assoc]
/-- all that is told, once -/
theorem tot_one {N : Nat} {s : St} (h : Kp N s) (x : Nat) : (preL (thrL (tell N s)) 3 ++ ((tell N s).loops.map (·.2)).flatten).count x = if x < s.loops.length then 1 else 0 := by
  rw [← h.1 x]
  simp only [preL, thrL, tell, List.count_append, ct, th]
  simp
theorem tot_low {N : Nat} {s : St} (h : Kp N s) {y z x : Nat} (hy : y < 3) (hz : z < (thrL (tell N s) y).length) (hx : x ∈ (thrL (tell N s) y)[z]) : x < s.loops.length := by
  have h1 := tot_one h x
  have h2 := step_le (k := tell N s) (T := ((tell N s).loops.map (·.2)).flatten) (i := ((thrL (tell N s) y)[z]).length) hy hz rfl x
  rw [List.take_length] at h2
  have h3 : 1 ≤ ((preL (thrL (tell N s)) y ++ ((thrL (tell N s) y).take z).flatten) ++ (thrL (tell N s) y)[z]).count x := List.count_pos_iff.2 (List.mem_append_right _ hx)
  rw [h1] at h2
  split at h2
  · assumption
  · omega
theorem KR.parts2 {W : World} {B : Nat} {v : Value} {k : Kn} (h : KR W B v k) : ∃ a1 a3 a4 a6 a7 a9 d1 d2, v = .agg #[.slice a1 k.loops.length a3, .slice a4 k.front.length a6, .slice a7 k.back.length a9, .slice d1 k.loose.length d2, .int .i64 k.rack] ∧ LPR W B (.slice a1 k.loops.length a3) k.loops ∧ LR W B (.slice a4 k.front.length a6) k.front ∧ LR W B (.slice a7 k.back.length a9) k.back ∧ NR W B (.slice d1 k.loose.length d2) k.loose := by
  obtain ⟨v1, v2, v3, v4, rfl, p1, p2, p3, p4⟩ := h
  obtain ⟨a1, a3, rfl⟩ := p1.frm
  obtain ⟨a4, a6, rfl⟩ := p2.frm
  obtain ⟨a7, a9, rfl⟩ := p3.frm
  obtain ⟨d1, d2, rfl⟩ := p4.form
  exact ⟨_, _, _, _, _, _, _, _, rfl, p1, p2, p3, p4⟩
/-- the worlds in which it is counted -/
def Gd (cq : Nat) (w3 w5 V : World) : Prop := Below w3.heap.size w3 V ∧ Kept (fun i => i = cq) w5 V
theorem Gd.set {cq : Nat} {w3 w5 V : World} (h : Gd cq w3 w5 V) (hc : w3.heap.size ≤ cq) (o : Nat) (v : Value) : Gd cq w3 w5 (V.setCell ⟨cq, o, none⟩ v) := ⟨bset h.1 hc, h.2.set o v (.inl rfl)⟩
theorem Gd.below {cq : Nat} {w3 w5 V U : World} (h : Gd cq w3 w5 V) (e : Below V.heap.size V U) : Gd cq w3 w5 U := ⟨btrans h.1 e, h.2.below e⟩
/-- a row of three -/
theorem three_new (W : World) (v0 v1 v2 : Value) : (W.alloc (.cells #[v0, v1, v2] 24)).cell? ⟨W.heap.size, 0, none⟩ = some v0 ∧ (W.alloc (.cells #[v0, v1, v2] 24)).cell? ⟨W.heap.size, 1, none⟩ = some v1 ∧ (W.alloc (.cells #[v0, v1, v2] 24)).cell? ⟨W.heap.size, 2, none⟩ = some v2 := ⟨by simp [go_sem], by simp [go_sem], by simp [go_sem]⟩
theorem NR.room {W : World} {B : Nat} {v : Value} {xs : List Nat} (h : NR W B v xs) : xs.length ≤ maxLen := by
  rcases h.2 with ⟨-, h0⟩ | ⟨g, cap, cur, -, -, -, h1, h2, -⟩
  · rw [h0]; exact Nat.zero_le _
  · omega
theorem made_ci {W : World} {B b k : Nat} (h : W.ownsRow B 3 1 (.slice (some ⟨b, 0, none⟩) k k) k (madeCells #[.int .i64 0] k).toList) : CI W b k (fun j => ([] : List Nat).count j) :=
  ⟨⟨(h.lt b rfl).2, own_tg h rfl⟩, fun j hj => ⟨by rw [h.cellAt j (by omega), toList_madeCells_one, List.getElem?_replicate, if_pos (by omega)]; simp, h.frozenAt j⟩⟩

set_option maxRecDepth 100000 in
set_option maxHeartbeats 4000000 in
theorem keeps_new (n : Int) (W : World) (q : Option Addr) (l c : Nat) (h : n < 1 ∨ 128 < n) : LawIs 4 #[.int .i64 n, .slice q l c] W := by
  unfold LawIs
  have HA := hide (alive_any W)
  unfold Ans at HA
  have HK := hide (fun V => knit_new n V q l c h)
  clear h
  go_enter Try.func4, Try.ntmps4
  go_wp2_with fail
  refine (unhide HA).mono ?_
  rintro e w1 ⟨rfl, hb1⟩
  have S1 := hide hb1
  clear hb1
  go_wp2_with fail
  refine (unhide HK _).mono ?_
  rintro e w2 ⟨rfl, hb2⟩
  have S2 := hide (btrans (unhide S1) hb2)
  clear hb2
  go_wp2
  go_ret
  exact ⟨rfl, bal (unhide S2)⟩

set_option maxRecDepth 100000 in
set_option maxHeartbeats 4000000 in
theorem keeps_ok {N : Nat} {W : World} {q : Option Addr} {n c : Nat} {f : Nat → Sx} (h1 : 1 ≤ N) (hN : N ≤ 128) (hs : Sc W q n f) (hn : n * 40 + 4096 ≤ 140737488355328) : LawIs 4 #[.int .i64 (N : Int), .slice q n c] W := by
  unfold LawIs
  obtain ⟨i3, hi3, hz0, hz1, hz2⟩ := info_parts info3
  have HA := hide (alive_any W)
  unfold Ans at HA
  have HK := hide (show ∀ V, Below W.heap.size W V → KnitOk 10 N n f #[.int .i64 (N : Int), .slice q n c] V from fun V hV => knit_ok h1 hN (hs.keep hV) hn)
  unfold KnitOk at HK
  have hIv := Iv.kn N f n
  have HKp := hide (Kp.kn N f n)
  generalize knS N f n = s at *
  have hnl4 : s.loops.length ≤ 4096 := by have := hIv.1; have := hIv.2.1; omega
  have HTo := hide (fun x => tot_one (unhide HKp) x)
  have HLow := hide (fun y z x (hy : y < 3) (hz : z < (thrL (tell N s) y).length) (hx : x ∈ (thrL (tell N s) y)[z]) => tot_low (unhide HKp) hy hz hx)
  have HThr := hide (show ∀ (j : Nat) (hj : j < (tell N s).loops.length) y, y ∈ (tell N s).loops[j].2 → y < j from fun j hj y hy => (unhide HKp).2 j _ (List.getElem?_eq_getElem hj) y hy)
  have Hfl := hide (show (tell N s).front.length = N by simp [tell])
  have Hbl := hide (show (tell N s).back.length = N by simp [tell])
  have Hnl := hide (show (tell N s).loops.length = s.loops.length from rfl)
  clear hs hIv HKp
  go_enter Try.func4, Try.ntmps4
  go_wp2_with fail
  refine (unhide HA).mono ?_
  rintro e w1 ⟨rfl, hb1⟩
  have S1 := hide hb1
  clear hb1
  go_wp2_with fail
  refine (unhide HK _ (unhide S1)).mono ?_
  rintro e w2 ⟨ov, v, rfl, hO2, hR2, hb2⟩
  have S2 := hide (btrans (unhide S1) hb2)
  obtain ⟨oq, oc, rfl⟩ := own_form hO2
  obtain ⟨a1, a3, a4, a6, a7, a9, d1, d2, rfl, hp1, hp2, hp3, hp4⟩ := hR2.parts2
  rw [unhide Hfl] at hp2
  rw [unhide Hbl] at hp3
  rw [unhide Hnl] at hp1
  rw [unhide Hfl, unhide Hbl, unhide Hnl]
  obtain ⟨nl, hnl⟩ : ∃ nl, nl = s.loops.length := ⟨_, rfl⟩
  obtain ⟨no, hno⟩ : ∃ no, no = (tell N s).loose.length := ⟨_, rfl⟩
  rw [← hnl] at hp1 hnl4 HTo HLow
  rw [← hno] at hp4
  rw [← hnl, ← hno]
  have HNl := hide hnl
  obtain ⟨rk, hrk⟩ : ∃ rk, rk = (tell N s).rack := ⟨_, rfl⟩
  rw [← hrk]
  have HP1 := hide hp1
  have HP2 := hide hp2
  have HP3 := hide hp3
  have HP4 := hide hp4
  have HNo := hide hno
  clear hb2 hR2 hO2 HA HK hp1 hp2 hp3 hp4 hnl hno hrk
  have T3 := hide (bnew w2 (.cells #[.slice a1 nl a3, .slice a4 N a6, .slice a7 N a9, .slice d1 no d2, .int .i64 rk] 27))
  have HKb := hide (KB.new w2 (.slice a1 nl a3) (.slice a4 N a6) (.slice a7 N a9) (.slice d1 no d2) rk)
  have Q1 := hide ((unhide HP1).keep (unhide T3))
  have Q2 := hide ((unhide HP2).keep (unhide T3))
  have Q3 := hide ((unhide HP3).keep (unhide T3))
  have Q4 := hide ((unhide HP4).keep (unhide T3))
  have S3 := hide (btrans (unhide S2) (unhide T3))
  have gN : ((N : Int) != (N : Int)) = false := by simp
  clear S2 HP1 HP2 HP3 HP4 T3
  go_upto_region 4 with fail
  generalize w2.alloc (.cells #[.slice a1 nl a3, .slice a4 N a6, .slice a7 N a9, .slice d1 no d2, .int .i64 rk] 27) = w3 at *
  obtain ⟨kb, hkb⟩ : ∃ kb, kb = w2.heap.size := ⟨_, rfl⟩
  rw [← hkb] at HKb
  rw [← hkb]
  clear hkb
  obtain ⟨-, ⟨k0, k1, k2, k3, k4⟩, -⟩ := unhide HKb
  have hby : i3.bytes * nl ≤ 281474976710656 := by rw [hz2]; omega
  have hml : nl ≤ maxLen := by unfold maxLen; omega
  go_wp2_with (refine wpList_make_full _ rfl _ _ 25 rfl w3.heap.size 3 i3 _ 1 Try.underlying25 hi3 hz0 hz1 .i64 .i64 (nl : Int) (nl : Int) nl rfl rfl rfl rfl hby hml (by simp) ?_)
  intro w4 hown hgrow
  have HC4 := hide (made_ci (by simpa using hown))
  have B4 := hide ((Below.refl w3.heap.size w3).grown hgrow (Nat.le_refl _) (fun k hk => by cases hk))
  clear hown hgrow hi3 hz0 hz1 hz2 hby hml k0 k1 k2 k3 k4
  obtain ⟨cq, hcq⟩ : ∃ cq, cq = w3.heap.size := ⟨_, rfl⟩
  rw [← hcq] at HC4
  rw [← hcq]
  have hcq3 : w3.heap.size ≤ cq := by omega
  clear hcq
  obtain ⟨-, ⟨k0, k1, k2, k3, k4⟩, -⟩ := (unhide HKb).keep (unhide B4)
  obtain ⟨lb, hlb⟩ : ∃ lb, lb = w4.heap.size := ⟨_, rfl⟩
  have hclb : cq ≠ lb := by have := (unhide HC4).1.1; omega
  have B5 := hide (show Below w4.heap.size w4 ((w4.alloc (.cells #[.slice d1 no d2] 25)).alloc (.cells #[.slice a4 N a6, .slice a7 N a9, .slice (some ⟨lb, 0, none⟩) 1 1] 24)) from btrans (bnew _ _) (bnew _ _))
  have HC5 := hide ((unhide HC4).keep (unhide B5))
  have HL5 := hide (show ((w4.alloc (.cells #[.slice d1 no d2] 25)).alloc (.cells #[.slice a4 N a6, .slice a7 N a9, .slice (some ⟨lb, 0, none⟩) 1 1] 24)).cell? ⟨lb, 0, none⟩ = some (.slice d1 no d2) from keepC (bnew _ _) (by rw [hlb]; simp) (by rw [hlb]; simp [go_sem]))
  have HT5 := hide (show ∀ y, y < 3 → ((w4.alloc (.cells #[.slice d1 no d2] 25)).alloc (.cells #[.slice a4 N a6, .slice a7 N a9, .slice (some ⟨lb, 0, none⟩) 1 1] 24)).cell? ⟨lb + 1, y, none⟩ = some (thrV (.slice a4 N a6) (.slice a7 N a9) (.slice (some ⟨lb, 0, none⟩) 1 1) y) from by
    obtain ⟨u0, u1, u2⟩ := three_new (w4.alloc (.cells #[.slice d1 no d2] 25)) (.slice a4 N a6) (.slice a7 N a9) (.slice (some ⟨lb, 0, none⟩) 1 1)
    rw [show (w4.alloc (.cells #[.slice d1 no d2] 25)).heap.size = lb + 1 by rw [hlb]; simp] at u0 u1 u2
    intro y hy
    match y, hy with
    | 0, _ => exact u0
    | 1, _ => exact u1
    | 2, _ => exact u2)
  have hctb : cq ≠ lb + 1 := by have := (unhide HC4).1.1; omega
  have hsz5 : lb + 1 < ((w4.alloc (.cells #[.slice d1 no d2] 25)).alloc (.cells #[.slice a4 N a6, .slice a7 N a9, .slice (some ⟨lb, 0, none⟩) 1 1] 24)).heap.size := by rw [hlb]; simp
  have Hlb := hide hlb
  clear hlb
  go_wp2
  rw [← unhide Hlb]
  generalize (w4.alloc (.cells #[.slice d1 no d2] 25)).alloc (.cells #[.slice a4 N a6, .slice a7 N a9, .slice (some ⟨lb, 0, none⟩) 1 1] 24) = w5 at *
  obtain ⟨L, hL⟩ : ∃ L, L = thrL (tell N s) := ⟨_, rfl⟩
  obtain ⟨ls, hls⟩ : ∃ ls, ls = (tell N s).loops := ⟨_, rfl⟩
  obtain ⟨rv, hrv⟩ : ∃ rv, rv = thrV (.slice a4 N a6) (.slice a7 N a9) (.slice (some ⟨lb, 0, none⟩) 1 1) := ⟨_, rfl⟩
  rw [← hrv] at HT5
  rw [← hls] at Q1 HThr HTo
  rw [← hL] at HTo HLow
  have HSt := hide (show ∀ y z i xs, y < 3 → ∀ (hz : z < (L y).length), (L y)[z] = xs → ∀ x, ((preL L y ++ ((L y).take z).flatten) ++ xs.take i).count x ≤ 1 from by
    intro y z i xs hy hz hxs x
    have a := unhide HTo x
    have b : ((preL L y ++ ((L y).take z).flatten) ++ xs.take i).count x ≤ (preL L 3 ++ (ls.map (·.2)).flatten).count x := by subst hL; exact step_le hy hz hxs x
    split at a <;> omega)
  have HSu := hide (show ∀ j i xs, ∀ (hj : j < ls.length), ls[j].2 = xs → ∀ x, ((preL L 3 ++ ((ls.map (·.2)).take j).flatten) ++ xs.take i).count x ≤ 1 from by
    intro j i xs hj hxs x
    have a := unhide HTo x
    have b := thr_le (P := preL L 3) (i := i) hj hxs x
    split at a <;> omega)
  have HRv := hide (show ∀ y, y < 3 → ∃ q c, rv y = .slice q (L y).length c from by
    rw [hL, hrv]
    intro y hy
    match y, hy with
    | 0, _ => exact ⟨_, _, by show Value.slice a4 N a6 = .slice _ (tell N s).front.length _; rw [unhide Hfl]⟩
    | 1, _ => exact ⟨_, _, by show Value.slice a7 N a9 = .slice _ (tell N s).back.length _; rw [unhide Hbl]⟩
    | 2, _ => exact ⟨_, _, rfl⟩)
  have HAt := hide (show ∀ y z, y < 3 → ∀ (hz : z < (L y).length), ∃ g cap u, rv y = .slice (some ⟨g, 0, none⟩) (L y).length cap ∧ ∀ V, Gd cq w3 w5 V → V.cell? ⟨g, z, none⟩ = some u ∧ NR V 0 u ((L y)[z]) from by
    subst hL hrv
    intro y z hy hz
    match y, hy, hz with
    | 0, _, hz =>
      obtain ⟨g, cap, u, e1, e2, e3⟩ := (unhide Q2).at hz
      rw [unhide Hfl] at e1
      exact ⟨g, cap, u, by show Value.slice a4 N a6 = .slice _ (tell N s).front.length _; rw [unhide Hfl]; exact e1, fun V hV => ⟨keepC hV.1 (World.block_lt_of_cell? w3 _ e2) e2, (e3.keep hV.1).le (Nat.zero_le _)⟩⟩
    | 1, _, hz =>
      obtain ⟨g, cap, u, e1, e2, e3⟩ := (unhide Q3).at hz
      rw [unhide Hbl] at e1
      exact ⟨g, cap, u, by show Value.slice a7 N a9 = .slice _ (tell N s).back.length _; rw [unhide Hbl]; exact e1, fun V hV => ⟨keepC hV.1 (World.block_lt_of_cell? w3 _ e2) e2, (e3.keep hV.1).le (Nat.zero_le _)⟩⟩
    | 2, _, hz =>
      have hz0 : z < 1 := hz
      obtain rfl : z = 0 := by omega
      exact ⟨lb, 1, .slice d1 no d2, rfl, fun V hV => ⟨hV.2.cell (by omega) (fun q => hclb q.symm) (unhide HL5), ((unhide Q4).keep hV.1).le (Nat.zero_le _)⟩⟩)
  have HG5 := hide (show Gd cq w3 w5 w5 from ⟨btrans (unhide B4) (unhide B5), Kept.refl _ _⟩)
  have HL128 := hide (show ∀ y, y < 3 → (L y).length ≤ 128 from by
    rw [hL]
    intro y hy
    match y, hy with
    | 0, _ => show (tell N s).front.length ≤ 128; rw [unhide Hfl]; exact hN
    | 1, _ => show (tell N s).back.length ≤ 128; rw [unhide Hbl]; exact hN
    | 2, _ => show 1 ≤ 128; omega)
  have HKb5 := hide ((unhide HKb).keep (unhide HG5).1)
  have hnlls : nl = ls.length := by rw [hls, unhide HNl]; rfl
  have Hnlls := hide hnlls
  clear hL hls hrv hnlls k0 k1 k2 k3 k4 HC4 B5 HL5 Q2 Q3 Q4 B4
  have hlt5 : kb < w5.heap.size := (unhide HKb5).1.1
  have hkc : kb ≠ cq := by have := (unhide HKb).1.1; omega
  go_loopw [57] (fun i wr => ∃ y : Nat, y ≤ 3 ∧ i = .int .i64 y ∧ CI wr cq nl (fun j => (preL L y).count j) ∧ Gd cq w3 w5 wr) (fun i _ => 3 - (intOf i).toNat)
  case atStart => exact ⟨0, by omega, rfl, unhide HC5, unhide HG5⟩
  case round =>
    clear HC5 HG5
    obtain ⟨y, hy, rfl, hC, hG⟩ := hrel
    have HC := hide hC
    have HG := hide hG
    clear hC hG
    by_cases hy3 : y < 3
    · have p1 : (y : Int) < 3 := by omega
      have p2 : (0 : Int) ≤ (y : Int) := by omega
      have ct := (unhide HG).2.cell hsz5 (fun q => hctb q.symm) (unhide HT5 y hy3)
      obtain ⟨rq, rc, hrv⟩ := unhide HRv y hy3
      rw [hrv] at ct
      have HAy := hide (show ∀ z (hz : z < (L y).length), ∃ g cap u, Value.slice rq (L y).length rc = .slice (some ⟨g, 0, none⟩) (L y).length cap ∧ ∀ V, Gd cq w3 w5 V → V.cell? ⟨g, z, none⟩ = some u ∧ NR V 0 u ((L y)[z]) from fun z hz => by
        obtain ⟨g, cap, u, e1, e2⟩ := unhide HAt y z hy3 hz
        exact ⟨g, cap, u, hrv.symm.trans e1, e2⟩)
      have HSy := hide (fun z i xs (hz : z < (L y).length) (h : (L y)[z] = xs) x => unhide HSt y z i xs hy3 hz h x)
      have HLy := hide (fun z x (hz : z < (L y).length) (h : x ∈ (L y)[z]) => unhide HLow y z x hy3 hz h)
      have hly := unhide HL128 y hy3
      have HPy := hide (show preL L (y + 1) = preL L y ++ (L y).flatten from rfl)
      clear hrv
      generalize preL L y = P0 at *
      generalize L y = M at *
      obtain ⟨ml, hml⟩ : ∃ ml, ml = M.length := ⟨_, rfl⟩
      rw [← hml] at ct hly
      have Hml := hide hml
      clear hml
      go_wp2
      go_loopw [63] (fun i wr => ∃ z : Nat, z ≤ ml ∧ i = .int .i64 z ∧ CI wr cq nl (fun j => (P0 ++ (M.take z).flatten).count j) ∧ Gd cq w3 w5 wr) (fun i _ => ml - (intOf i).toNat)
      case atStart => exact ⟨0, Nat.zero_le _, rfl, by simpa using unhide HC, unhide HG⟩
      case round =>
        clear HC HG ct
        obtain ⟨z, hz, rfl, hC, hG⟩ := hrel
        have HC := hide hC
        have HG := hide hG
        clear hC hG
        by_cases hzl : z < ml
        · have p3 : (z : Int) < (ml : Int) := by omega
          have p4 : (0 : Int) ≤ (z : Int) := by omega
          have hz' : z < M.length := by rw [← unhide Hml]; exact hzl
          obtain ⟨g, cap, u, e1, e2⟩ := unhide HAy z hz'
          simp only [Value.slice.injEq] at e1
          obtain ⟨rfl, -, rfl⟩ := e1
          have cu := (e2 _ (unhide HG)).1
          obtain ⟨tq, tc, hu⟩ := (e2 _ (unhide HG)).2.form
          have HNx := hide (fun V (hV : Gd cq w3 w5 V) => (e2 V hV).2)
          have HSz := hide (fun i x => unhide HSy z i _ hz' rfl x)
          have HLz := hide (fun x (h : x ∈ M[z]) => unhide HLy z x hz' h)
          have HMz := hide (flat_snoc hz')
          subst hu
          clear e2
          generalize M[z] = xs at *
          clear hz'
          obtain ⟨tl, htl⟩ : ∃ tl, tl = xs.length := ⟨_, rfl⟩
          rw [← htl] at cu HNx
          have Htl := hide htl
          have htm : tl ≤ 9223372036854775807 := by have h := (unhide HNx _ (unhide HG)).room; unfold maxLen at h; rw [htl]; exact h
          clear htl
          generalize hP1 : P0 ++ (M.take z).flatten = P1 at *
          have HP1 := hide hP1
          clear hP1
          go_wp2
          go_loopw [69] (fun i wr => ∃ k : Nat, k ≤ tl ∧ i = .int .i64 k ∧ CI wr cq nl (fun j => (P1 ++ xs.take k).count j) ∧ Gd cq w3 w5 wr) (fun i _ => tl - (intOf i).toNat)
          case atStart => exact ⟨0, Nat.zero_le _, rfl, by simpa using unhide HC, unhide HG⟩
          case round =>
            clear HC HG cu
            obtain ⟨k, hk, rfl, hC, hG⟩ := hrel
            have HC := hide hC
            have HG := hide hG
            clear hC hG
            by_cases hkl : k < tl
            · have p5 : (k : Int) < (tl : Int) := by omega
              have p6 : (0 : Int) ≤ (k : Int) := by omega
              have hk' : k < xs.length := by rw [← unhide Htl]; exact hkl
              obtain ⟨g2, cap2, f1, f2⟩ := (unhide HNx _ (unhide HG)).at hk'
              simp only [Value.slice.injEq] at f1
              obtain ⟨rfl, -, rfl⟩ := f1
              have hlow := unhide HLz _ (List.getElem_mem hk')
              have Hts := hide (take_snoc hk')
              have h8 := unhide HSz k xs[k]
              generalize xs[k] = x0 at *
              clear hk'
              have c8 : wr.cell? ⟨cq, x0, none⟩ = some (.int .i64 (((P1 ++ xs.take k).count x0 : Nat) : Int)) := ((unhide HC).2 x0 hlow).1
              have f8 := ((unhide HC).2 x0 hlow).2
              have C9 := hide ((unhide HC).more x0)
              have G9 := fun v => (unhide HG).set hcq3 x0 v
              have HG9 := hide G9
              clear G9
              generalize hPk : P1 ++ xs.take k = Pk at *
              have HPk := hide hPk
              clear hPk
              generalize Pk.count x0 = cn at *
              have o1 : ¬ ((x0 : Int) < 0) := by omega
              have o2 : decide ((x0 : Int) < 0) = false := by simp
              have o3 : ¬ ((nl : Int) ≤ (x0 : Int)) := by omega
              have o4 : decide ((nl : Int) ≤ (x0 : Int)) = false := by simpa using o3
              have o5 : (x0 : Int) < (nl : Int) := by omega
              have o6 : (0 : Int) ≤ (x0 : Int) := by omega
              go_wp2
              go_roundw
              case rel => exact ⟨k + 1, by omega, by go_num, by rw [unhide Hts, ← List.append_assoc, unhide HPk]; exact unhide C9, unhide HG9 _⟩
              case measure => simp [intOf]; omega
            · obtain rfl : tl = k := by omega
              have cl : ¬ ((tl : Int) < (tl : Int)) := by omega
              go_wp2
              go_roundw
              case rel => exact ⟨z + 1, by omega, by go_num, by
                rw [unhide HMz, ← List.append_assoc, unhide HP1]
                have := unhide HC
                rw [unhide Htl, List.take_length] at this
                exact this, unhide HG⟩
              case measure => simp [intOf]; omega
        · obtain rfl : ml = z := by omega
          have cl : ¬ ((ml : Int) < (ml : Int)) := by omega
          go_wp2
          go_roundw
          case rel => exact ⟨y + 1, by omega, by go_num, by
            rw [unhide HPy]
            have := unhide HC
            rw [unhide Hml, List.take_length] at this
            exact this, unhide HG⟩
          case measure => simp [intOf]; omega
    · obtain rfl : y = 3 := by omega
      have HKb7 := hide ((unhide HKb5).kept (unhide HG).2 hkc)
      obtain ⟨-, ⟨k0, k1, k2, k3, k4⟩, -⟩ := unhide HKb7
      have HC3 := hide (show CI wr cq nl (fun j => (preL L 3 ++ ((ls.map (·.2)).take 0).flatten).count j) by simpa using unhide HC)
      have HG3 := hide (unhide HG)
      clear HC HG HSt HRv HAt HLow HT5
      generalize preL L 3 = P3 at *
      go_wp2
      go_loopw [93] (fun i wr => ∃ j : Nat, j ≤ nl ∧ i = .int .i64 j ∧ CI wr cq nl (fun x => (P3 ++ ((ls.map (·.2)).take j).flatten).count x) ∧ Gd cq w3 w5 wr) (fun i _ => nl - (intOf i).toNat)
      case atStart => exact ⟨0, Nat.zero_le _, rfl, unhide HC3, unhide HG3⟩
      case round =>
        clear HC3 HG3 k0 k1 k2 k3 k4
        obtain ⟨j, hj, rfl, hC, hG⟩ := hrel
        have HC := hide hC
        have HG := hide hG
        clear hC hG
        by_cases hjl : j < nl
        · have p3 : (j : Int) < (nl : Int) := by omega
          have p4 : (0 : Int) ≤ (j : Int) := by omega
          have hj' : j < ls.length := by rw [← unhide Hnlls]; exact hjl
          obtain ⟨g, cap, u, e1, e2w, e3w, e4⟩ := (unhide Q1).at hj'
          simp only [Value.slice.injEq] at e1
          obtain ⟨rfl, -, rfl⟩ := e1
          have hg3 := World.block_lt_of_cell? w3 _ e3w
          have e2 := keepC (unhide HG).1 hg3 e2w
          have e3 := keepC (unhide HG).1 hg3 e3w
          obtain ⟨tq, tc, hu⟩ := e4.form
          have HNx := hide (show ∀ V, Gd cq w3 w5 V → NR V 0 u ls[j].2 from fun V hV => (e4.keep hV.1).le (Nat.zero_le _))
          clear e2w e3w hg3
          have HSz := hide (fun i x => unhide HSu j i _ hj' rfl x)
          have HLz := hide (fun x (h : x ∈ ls[j].2) => unhide HThr j hj' x h)
          have HMz := hide (show ((ls.map (·.2)).take (j + 1)).flatten = ((ls.map (·.2)).take j).flatten ++ ls[j].2 by rw [flat_snoc (by simpa using hj')]; simp)
          subst hu
          clear e4
          generalize ls[j].2 = xs at *
          generalize ls[j].1 = cc at *
          clear hj'
          obtain ⟨tl, htl⟩ : ∃ tl, tl = xs.length := ⟨_, rfl⟩
          rw [← htl] at e3 HNx
          have Htl := hide htl
          have htm : tl ≤ 9223372036854775807 := by have h := (unhide HNx _ (unhide HG)).room; unfold maxLen at h; rw [htl]; exact h
          clear htl
          generalize hP1 : P3 ++ ((ls.map (·.2)).take j).flatten = P1 at *
          have HP1 := hide hP1
          clear hP1
          have HCb := hide ((unhide HC).keep (bnew wr (.cells #[.int .i64 cc, .slice tq tl tc] 41)))
          have HGb := hide ((unhide HG).below (bnew wr (.cells #[.int .i64 cc, .slice tq tl tc] 41)))
          have hbx : (wr.alloc (.cells #[.int .i64 cc, .slice tq tl tc] 41)).cell? ⟨wr.heap.size, 1, none⟩ = some (.slice tq tl tc) := by simp [go_sem]
          have Hbx := hide hbx
          clear hbx HC HG
          go_upto_region 27 with fail
          generalize wr.alloc (.cells #[.int .i64 cc, .slice tq tl tc] 41) = w7 at *
          have hbx := unhide Hbx
          go_wp2
          go_loopw [101] (fun i wr => ∃ k : Nat, k ≤ tl ∧ i = .int .i64 k ∧ CI wr cq nl (fun x => (P1 ++ xs.take k).count x) ∧ Gd cq w3 w5 wr) (fun i _ => tl - (intOf i).toNat)
          case atStart => exact ⟨0, Nat.zero_le _, rfl, by simpa using unhide HCb, unhide HGb⟩
          case round =>
            clear HCb HGb hbx Hbx e2 e3
            obtain ⟨k, hk, rfl, hC, hG⟩ := hrel
            have HC := hide hC
            have HG := hide hG
            clear hC hG
            by_cases hkl : k < tl
            · have p5 : (k : Int) < (tl : Int) := by omega
              have p6 : (0 : Int) ≤ (k : Int) := by omega
              have hk' : k < xs.length := by rw [← unhide Htl]; exact hkl
              obtain ⟨g2, cap2, f1, f2⟩ := (unhide HNx _ (unhide HG)).at hk'
              simp only [Value.slice.injEq] at f1
              obtain ⟨rfl, -, rfl⟩ := f1
              have hlow := unhide HLz _ (List.getElem_mem hk')
              have Hts := hide (take_snoc hk')
              have h8 := unhide HSz k xs[k]
              generalize xs[k] = x0 at *
              clear hk'
              have hlow2 : x0 < nl := by omega
              have c8 : wr.cell? ⟨cq, x0, none⟩ = some (.int .i64 (((P1 ++ xs.take k).count x0 : Nat) : Int)) := ((unhide HC).2 x0 hlow2).1
              have f8 := ((unhide HC).2 x0 hlow2).2
              have C9 := hide ((unhide HC).more x0)
              have G9 := fun v => (unhide HG).set hcq3 x0 v
              have HG9 := hide G9
              clear G9
              generalize hPk : P1 ++ xs.take k = Pk at *
              have HPk := hide hPk
              clear hPk
              generalize Pk.count x0 = cn at *
              have o1 : ¬ ((x0 : Int) < 0) := by omega
              have o2 : decide ((x0 : Int) < 0) = false := by simp
              have o3 : ¬ ((j : Int) ≤ (x0 : Int)) := by omega
              have o4 : decide ((j : Int) ≤ (x0 : Int)) = false := by simpa using o3
              have o5 : (x0 : Int) < (nl : Int) := by omega
              have o6 : (0 : Int) ≤ (x0 : Int) := by omega
              go_wp2
              go_roundw
              case rel => exact ⟨k + 1, by omega, by go_num, by rw [unhide Hts, ← List.append_assoc, unhide HPk]; exact unhide C9, unhide HG9 _⟩
              case measure => simp [intOf]; omega
            · obtain rfl : tl = k := by omega
              have cl : ¬ ((tl : Int) < (tl : Int)) := by omega
              go_wp2
              go_roundw
              case rel =>
                have h9 : CI wr cq nl (fun x => (P3 ++ ((ls.map (·.2)).take (j + 1)).flatten).count x) := by
                  rw [unhide HMz, ← List.append_assoc, unhide HP1]
                  have := unhide HC
                  rw [unhide Htl, List.take_length] at this
                  exact this
                exact ⟨_, _, _, _, .int .i64 ((j + 1 : Nat) : Int), ⟨j + 1, by omega, rfl, h9.congr (fun x _ => List.count_append), unhide HG⟩, rfl, rfl, rfl, rfl, by go_num⟩
              case measure => simp [intOf]; omega
        · obtain rfl : nl = j := by omega
          have cl : ¬ ((nl : Int) < (nl : Int)) := by omega
          have HCf := hide (show CI wr cq nl (fun _ => 1) from (unhide HC).congr (fun x hx => by
            have a := unhide HTo x
            rw [if_pos hx] at a
            have e : (ls.map (·.2)).take nl = ls.map (·.2) := List.take_of_length_le (by rw [List.length_map, ← unhide Hnlls]; exact Nat.le_refl _)
            rw [e]
            exact a))
          have HGf := hide (unhide HG).1
          clear HC HG
          go_wp2
          go_loopw [122] (fun i wr' => ∃ k : Nat, k ≤ nl ∧ i = .int .i64 k ∧ wr' = wr) (fun i _ => nl - (intOf i).toNat)
          case atStart => exact ⟨0, Nat.zero_le _, rfl, rfl⟩
          case round =>
            obtain ⟨k, hk, rfl, rfl⟩ := hrel
            by_cases hkl : k < nl
            · have p5 : (k : Int) < (nl : Int) := by omega
              have p6 : (0 : Int) ≤ (k : Int) := by omega
              have c8 := ((unhide HCf).2 k hkl).1
              go_wp2
              go_roundw
              case rel => exact ⟨k + 1, by omega, by go_num, trivial⟩
              case measure => simp [intOf]; omega
            · obtain rfl : nl = k := by omega
              have cl2 : ¬ ((nl : Int) < (nl : Int)) := by omega
              go_wp2
              go_ret
              exact ⟨rfl, btrans (unhide S3) (unhide HGf)⟩
theorem keeps_any (n : Int) (W : World) (q : Option Addr) (l c : Nat) (f : Nat → Sx) (hs : Sc W q l f) (hl : l * 40 + 4096 ≤ 140737488355328) : LawIs 4 #[.int .i64 n, .slice q l c] W := by
  by_cases h : n < 1 ∨ 128 < n
  · exact keeps_new n W q l c h
  · obtain ⟨N, rfl⟩ : ∃ N : Nat, n = N := ⟨n.toNat, by omega⟩
    exact keeps_ok (by omega) (by omega) hs hl
end Go.Proofs.Ytnolblcfafdnpaa
