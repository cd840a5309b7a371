/-
  The document's Number, renamed and rising.
-/
import Derived.Test.YtancniamgfppiaaYF
namespace Go.Proofs.Ytancniamgfppiaa
open Go.RowKit

theorem cn_ok {p : Nat → Bool} {n : Nat} (h : p n = true) : cn p (n + 1) = cn p n + 1 := by
  simp only [cn]
  rw [if_pos h]
theorem cn_out {p : Nat → Bool} {n : Nat} (h : p n = false) : cn p (n + 1) = cn p n := by
  simp only [cn]
  rw [if_neg (by simp [h])]
  rfl
/-- what Number counts -/
def nbP (c : Nat → Int) (x : Nat) : Nat → Bool := fun i => decide (c i < c x ∨ c i = c x ∧ i < x)
set_option maxRecDepth 100000 in
set_option maxHeartbeats 4000000 in
theorem number_any {W : World} {B : Nat} {v : Value} {k : Kn} {x : Nat} (h : KR W B v k) (hC : Cs (carF k.loops) k.loops.length) (hl : k.loops.length ≤ 4096) (hx : x < k.loops.length) : Ans 21 #[v, .int .i64 (x : Int)] W (.int .i64 ((nm (carF k.loops) k.loops.length x : Nat) : Int)) := by
  unfold Ans
  rw [← nm_count hC hx]
  obtain ⟨v1, v2, v3, v4, rfl, p1, p2, p3, p4⟩ := h
  obtain ⟨q0, c0, hv⟩ := p1.frm
  obtain ⟨a4, a5, a6, rfl⟩ := p2.form
  obtain ⟨a7, a8, a9, rfl⟩ := p3.form
  obtain ⟨d1, d2, rfl⟩ := p4.form
  have HP := hide (show ∀ V, Below W.heap.size W V → ∀ x, x < k.loops.length → ∃ g s m t, q0 = some ⟨g, 0, none⟩ ∧ V.cell? ⟨g, x * 2, none⟩ = some (.int .i64 (carF k.loops x)) ∧ V.cell? ⟨g, x * 2 + 1, none⟩ = some (.slice s m t) from fun V hV x hx => by
    obtain ⟨g, cap, u, e1, e2, e3, e4⟩ := (p1.keep hV).at hx
    rw [hv] at e1
    simp only [Value.slice.injEq] at e1
    obtain ⟨s, t, rfl⟩ := e4.form
    exact ⟨g, s, _, t, e1.1, by rw [e2, carF_at hx], e3⟩)
  subst hv
  clear p1 p2 p3 p4 hC
  have Hp := hide (show (fun i => decide (carF k.loops i < carF k.loops x ∨ carF k.loops i = carF k.loops x ∧ i < x)) = nbP (carF k.loops) x from rfl)
  rw [unhide Hp]
  clear Hp
  obtain ⟨n, hn⟩ : ∃ n, n = k.loops.length := ⟨_, rfl⟩
  obtain ⟨c, hc⟩ : ∃ c, c = carF k.loops := ⟨_, rfl⟩
  rw [← hn, ← hc] at HP
  rw [← hn] at hl hx
  rw [← hn, ← hc]
  clear hn hc
  generalize k.loose.length = no at *
  generalize k.rack = rk at *
  have B0 := hide (bnew W (.cells #[.slice q0 n c0, .slice a4 a5 a6, .slice a7 a8 a9, .slice d1 no d2, .int .i64 rk] 29))
  have HK := hide (KB.new W (.slice q0 n c0) (.slice a4 a5 a6) (.slice a7 a8 a9) (.slice d1 no d2) rk)
  go_enter Try.func21, Try.ntmps21
  go_upto_region 1 with fail
  generalize W.alloc (.cells #[.slice q0 n c0, .slice a4 a5 a6, .slice a7 a8 a9, .slice d1 no d2, .int .i64 rk] 29) = w0 at *
  obtain ⟨kb, hkb⟩ : ∃ kb, kb = W.heap.size := ⟨_, rfl⟩
  rw [← hkb] at HK
  rw [← hkb]
  clear hkb
  obtain ⟨-, ⟨y0, y1, y2, y3, y4⟩, -⟩ := unhide HK
  go_wp2
  clear y0 y1 y2 y3 y4
  go_loopw [5, 11] (fun nv i wr => ∃ j t : Nat, j ≤ n ∧ t = cn (nbP c x) j ∧ nv = .int .i64 t ∧ i = .int .i64 j ∧ Below w0.heap.size w0 wr) (fun _ i _ => n - (intOf i).toNat)
  case atStart => exact ⟨0, 0, Nat.zero_le _, rfl, rfl, rfl, Below.refl _ _⟩
  case round =>
    obtain ⟨j, t, hj, ht, rfl, rfl, hB⟩ := hrel
    have HB := hide hB
    have Ht := hide ht
    have htj : t ≤ j := by rw [ht]; exact cn_le _ _
    clear hB ht
    by_cases hlt : j < n
    · have q1 : (j : Int) < (n : Int) := by omega
      have q2 : (0 : Int) ≤ (j : Int) := by omega
      have q3 : (x : Int) < (n : Int) := by omega
      have q4 : (0 : Int) ≤ (x : Int) := by omega
      obtain ⟨g, s, m, t', rfl, e1, e2⟩ := unhide HP wr (btrans (unhide B0) (unhide HB)) j hlt
      have HB6 := hide (btrans (unhide HB) (bnew wr (.cells #[.int .i64 (c j), .slice s m t'] 43)))
      have HPx := hide (show (wr.alloc (.cells #[.int .i64 (c j), .slice s m t'] 43)).cell? ⟨g, x * 2, none⟩ = some (.int .i64 (c x)) from by
        obtain ⟨g', -, -, -, e0, e3, -⟩ := unhide HP _ (btrans (unhide B0) (unhide HB6)) x hx
        cases e0
        exact e3)
      have HK6 := hide ((unhide HK).keep (unhide HB6))
      have J0 := hide (show (wr.alloc (.cells #[.int .i64 (c j), .slice s m t'] 43)).cell? ⟨wr.heap.size, 0, none⟩ = some (.int .i64 (c j)) by simp [go_sem])
      have Hy := hide (fun (h : nbP c x j = true) => show t + 1 = cn (nbP c x) (j + 1) by rw [cn_ok h, unhide Ht])
      have Hn := hide (fun (h : nbP c x j = false) => show t = cn (nbP c x) (j + 1) by rw [cn_out h, unhide Ht])
      have HF := hide (show nbP c x j = decide (c j < c x ∨ c j = c x ∧ j < x) from rfl)
      obtain ⟨cj, hcj⟩ : ∃ z, z = c j := ⟨_, rfl⟩
      obtain ⟨cx, hcx⟩ : ∃ z, z = c x := ⟨_, rfl⟩
      rw [← hcj] at e1 HB6 HPx HK6 J0
      rw [← hcj, ← hcx] at HF
      rw [← hcx] at HPx
      clear hcj hcx
      go_upto_region 5 with fail
      generalize wr.alloc (.cells #[.int .i64 cj, .slice s m t'] 43) = w6 at *
      clear e1 e2
      obtain ⟨-, ⟨k0, k1, k2, k3, k4⟩, -⟩ := unhide HK6
      have j0 := unhide J0
      have px := unhide HPx
      by_cases h1 : cj < cx
      · have g1 : decide (cj < cx) = true := by simpa using h1
        have Hok := hide (unhide Hy (by rw [unhide HF]; simp [h1]))
        go_quiet (fail)
        go_wp2
        go_roundw
        case rel => exact ⟨j + 1, t + 1, by omega, unhide Hok, by go_num, by go_num, (unhide HB6).trans (Joins.below_draws _ _ _)⟩
        case measure => simp [intOf]; omega
      · have g1 : decide (cj < cx) = false := by simpa using h1
        by_cases h2 : cj = cx
        · have g2 : (cj = cx) = True := by simpa using h2
          have g2' : (cj == cx) = true := by simpa using h2
          by_cases h3 : j < x
          · have g3 : decide (j < x) = true := by simpa using h3
            have g4 : (j : Int) < (x : Int) := by omega
            have g5 : decide ((j : Int) < (x : Int)) = true := by simpa using g4
            have Hok := hide (unhide Hy (by rw [unhide HF]; simp [h2, h3]))
            clear h2
            go_quiet (fail)
            go_wp2
            go_roundw
            case rel => exact ⟨j + 1, t + 1, by omega, unhide Hok, by go_num, by go_num, (unhide HB6).trans (Joins.below_draws _ _ _)⟩
            case measure => simp [intOf]; omega
          · have g3 : decide (j < x) = false := by simpa using h3
            have g4 : ¬ ((j : Int) < (x : Int)) := by omega
            have g5 : decide ((j : Int) < (x : Int)) = false := by simpa using g4
            have Hok := hide (unhide Hn (by rw [unhide HF]; simp; omega))
            clear h2
            go_quiet (fail)
            go_wp2
            go_roundw
            case rel => exact ⟨j + 1, t, by omega, unhide Hok, rfl, by go_num, (unhide HB6).trans (Joins.below_draws _ _ _)⟩
            case measure => simp [intOf]; omega
        · have g2 : (cj = cx) = False := by simpa using h2
          have g2' : (cj == cx) = false := by simpa using h2
          have Hok := hide (unhide Hn (by rw [unhide HF]; simp; omega))
          clear h2
          go_quiet (fail)
          go_wp2
          go_roundw
          case rel => exact ⟨j + 1, t, by omega, unhide Hok, rfl, by go_num, (unhide HB6).trans (Joins.below_draws _ _ _)⟩
          case measure => simp [intOf]; omega
    · obtain rfl : n = j := by omega
      have cl : ¬ ((n : Int) < (n : Int)) := by omega
      go_wp2
      go_ret
      exact ⟨ret_int (by rw [unhide Ht]), btrans (unhide B0) (unhide HB)⟩

/-- the first ones, by other numbers -/
def tkM (xs : List Nat) (F : Nat → Nat) (j : Nat) : List Nat := (xs.take j).map F
theorem tkM_len {xs : List Nat} (F : Nat → Nat) {j : Nat} (h : j ≤ xs.length) : (tkM xs F j).length = j := by
  unfold tkM
  rw [List.length_map, List.length_take]
  omega
theorem tkM_next {xs : List Nat} (F : Nat → Nat) {j : Nat} (h : j < xs.length) : tkM xs F (j + 1) = tkM xs F j ++ [F xs[j]] := by
  unfold tkM
  rw [List.take_add_one, List.getElem?_eq_getElem h, List.map_append]
  rfl
theorem tkM_all (xs : List Nat) (F : Nat → Nat) : tkM xs F xs.length = xs.map F := by
  unfold tkM
  rw [List.take_length]
set_option maxRecDepth 100000 in
set_option maxHeartbeats 4000000 in
theorem renamed_any {W : World} {B C : Nat} {v u : Value} {k : Kn} {xs : List Nat} (h : KR W B v k) (hC : Cs (carF k.loops) k.loops.length) (hl : k.loops.length ≤ 4096) (hx : NR W C u xs) (hin : ∀ y, y ∈ xs → y < k.loops.length) (hxl : xs.length ≤ 100000) :
    Calls Try.prog 20 #[v, u] W fun e w' => ∃ v', e = .returned v' ∧ NR w' W.heap.size v' (xs.map (nm (carF k.loops) k.loops.length)) ∧ Below W.heap.size W w' := by
  have HN := hide (fun V (hV : Below W.heap.size W V) x (hx : x < k.loops.length) => number_any (h.keep hV) hC hl hx)
  unfold Ans at HN
  have Hin := hide (show ∀ i (h : i < xs.length), xs[i] < k.loops.length from fun i h => hin _ (List.getElem_mem h))
  have HX := hide (fun V (hV : Below W.heap.size W V) i (hi : i < xs.length) => (hx.keep hV).at hi)
  obtain ⟨uq, uc, rfl⟩ := hx.form
  obtain ⟨a1, a2, a3, a4, a5, a6, a7, a8, a9, d1, d2, d3, rfl⟩ := h.parts
  clear h hin hx hC
  obtain ⟨F, hF⟩ : ∃ F : Nat → Nat, F = nm (carF k.loops) k.loops.length := ⟨_, rfl⟩
  rw [← hF]
  have HN2 := hide (show ∀ V, Below W.heap.size W V → ∀ x, x < k.loops.length → Calls Try.prog 21 #[.agg #[.slice a1 a2 a3, .slice a4 a5 a6, .slice a7 a8 a9, .slice d1 d3 d2, .int .i64 k.rack], .int .i64 (x : Int)] V fun e w' => e = .returned (.int .i64 ((F x : Nat) : Int)) ∧ Below V.heap.size V w' from by rw [hF]; exact unhide HN)
  clear hF HN
  generalize k.loops.length = n at *
  generalize k.rack = rk at *
  obtain ⟨m, hm⟩ : ∃ m, m = xs.length := ⟨_, rfl⟩
  have Hm := hide hm
  rw [← hm] at hxl
  rw [← hm]
  clear hm
  have B0 := hide (bnew W (.cells #[.slice a1 a2 a3, .slice a4 a5 a6, .slice a7 a8 a9, .slice d1 d3 d2, .int .i64 rk] 29))
  have HK := hide (KB.new W (.slice a1 a2 a3) (.slice a4 a5 a6) (.slice a7 a8 a9) (.slice d1 d3 d2) rk)
  go_enter Try.func20, Try.ntmps20
  go_upto_region 1 with fail
  generalize W.alloc (.cells #[.slice a1 a2 a3, .slice a4 a5 a6, .slice a7 a8 a9, .slice d1 d3 d2, .int .i64 rk] 29) = w0 at *
  obtain ⟨kb, hkb⟩ : ∃ kb, kb = W.heap.size := ⟨_, rfl⟩
  rw [← hkb] at HK
  rw [← hkb]
  clear hkb
  go_wp2
  go_loopw [5, 10] (fun ov i wr => ∃ j : Nat, j ≤ m ∧ i = .int .i64 j ∧ NR wr w0.heap.size ov (tkM xs F j) ∧ Below w0.heap.size w0 wr) (fun _ i _ => m - (intOf i).toNat)
  case atStart => exact ⟨0, Nat.zero_le _, rfl, NR.nil _ _, Below.refl _ _⟩
  case round =>
    obtain ⟨j, hj, rfl, hO, hB⟩ := hrel
    obtain ⟨oq, oc, rfl⟩ := hO.form
    have HO := hide hO
    have HB := hide hB
    have HBW := hide (btrans (unhide B0) hB)
    have Hln := hide (tkM_len F (show j ≤ xs.length by rw [← unhide Hm]; exact hj))
    rw [unhide Hln]
    clear hO hB
    by_cases hlt : j < m
    · have q1 : (j : Int) < (m : Int) := by omega
      have q2 : (0 : Int) ≤ (j : Int) := by omega
      have hjx : j < xs.length := by rw [← unhide Hm]; exact hlt
      obtain ⟨g, cap, e0, e1⟩ := unhide HX wr (unhide HBW) j hjx
      simp only [Value.slice.injEq] at e0
      obtain ⟨rfl, -, rfl⟩ := e0
      have hy := unhide Hin j hjx
      have Hnx := hide (tkM_next F hjx)
      obtain ⟨y, hye⟩ : ∃ y, y = xs[j] := ⟨_, rfl⟩
      rw [← hye] at e1 hy Hnx
      have HNy := hide (unhide HN2 wr (unhide HBW) y hy)
      clear hye hjx
      obtain ⟨-, ⟨y0, y1, y2, y3, y4⟩, -⟩ := (unhide HK).keep (unhide HB)
      go_wp2_with fail
      refine (unhide HNy).mono ?_
      rintro e w2 ⟨rfl, hb2⟩
      obtain ⟨z, hz⟩ : ∃ z, z = F y := ⟨_, rfl⟩
      rw [← hz] at Hnx
      rw [← hz]
      clear hz e1 y0 y1 y2 y3 y4
      have HO2 := hide (show w2.ownsRow w0.heap.size 3 1 (.slice oq j oc) j (numsV (tkM xs F j)) from by have := (unhide HO).keep hb2; unfold NR at this; rw [unhide Hln] at this; exact this)
      have HB2 := hide (btrans (unhide HB) hb2)
      clear hb2 HNy
      have HO3 := hide (own_keep (unhide HO2) (bnew w2 (.cells #[.int .i64 (z : Int)] 3)))
      have HY := hide (own_lit (B := 0) (e := 3) (z := 1) (k := 1) w2 #[.int .i64 (z : Int)] (Nat.zero_le _) (by unfold maxLen; omega) rfl)
      have H1 := hide (show ∀ u ∈ (#[Value.int .i64 (z : Int)] : Array Value).toList, u.oneCell' = true from fun u hu => by simp at hu; subst hu; rfl)
      have hsz := (unhide HB2).size
      go_wp2_with (at_builtin; refine wl_app rfl rfl Try.underlying27 info3 rfl (by decide) (B := w0.heap.size) (C := 0) (n := j) (m := 1) rfl rfl (unhide HO3) (unhide HY) (unhide H1) (by unfold maxLen; omega) (by omega) (by simp; omega) ?_)
      intro v' w6 hown' hgrow hat
      have HB6 := hide ((btrans (unhide HB2) (bnew w2 (.cells #[.int .i64 (z : Int)] 3))).grown hgrow (by simp; omega) (fun k hk => ((unhide HO3).lt k hk).1))
      have HO6 := hide (show NR w6 w0.heap.size v' (tkM xs F (j + 1)) from by
        unfold NR
        rw [unhide Hnx, numsV_app, List.length_append, unhide Hln]
        exact hown')
      obtain ⟨q', cap', rfl⟩ := own_form hown'
      clear hown' hgrow hat
      go_wp2
      go_roundw
      case rel => exact ⟨j + 1, by omega, by go_num, unhide HO6, unhide HB6⟩
      case measure => simp [intOf]; omega
    · obtain rfl : m = j := by omega
      have cl : ¬ ((m : Int) < (m : Int)) := by omega
      go_wp2
      go_ret
      refine ⟨_, rfl, ?_, unhide HBW⟩
      have := unhide HO
      unfold NR at this
      rw [unhide Hln] at this
      have e : tkM xs F m = xs.map F := by rw [unhide Hm]; exact tkM_all xs F
      rw [e] at this
      unfold NR
      rw [List.length_map, ← unhide Hm]
      exact own_le this (unhide B0).size
end Go.Proofs.Ytancniamgfppiaa

namespace Go.Proofs.Ytancniamgfppiaa
open Go.RowKit

/-- two neighbours exchanged -/
def swN (F : Nat → Nat) (z : Nat) : Nat → Nat := fun k => if k = z then F (z + 1) else if k = z + 1 then F z else F k
theorem rgL_split {F : Nat → Nat} {n z : Nat} (h : z + 1 < n) : rgL n F = rgL z F ++ F z :: F (z + 1) :: (rgL n F).drop (z + 2) := by
  have e1 : (rgL n F).take z = rgL z F := by
    unfold rgL
    rw [← List.map_take, List.take_range, Nat.min_eq_left (by omega)]
  have d : ∀ i, i < n → (rgL n F).drop i = F i :: (rgL n F).drop (i + 1) := fun i hi => by
    rw [List.drop_eq_getElem_cons (by rw [rgL_len]; exact hi)]
    congr 1
    simp [rgL]
  rw [← e1, ← d (z + 1) h, ← d z (by omega), List.take_append_drop]
theorem sw_perm {F : Nat → Nat} {n z : Nat} (h : z + 1 < n) : (rgL n (swN F z)).Perm (rgL n F) := by
  have e1 : rgL z (swN F z) = rgL z F := rgL_congr (fun j hj => by unfold swN; rw [if_neg (by omega), if_neg (by omega)])
  have e2 : swN F z z = F (z + 1) := by unfold swN; rw [if_pos rfl]
  have e3 : swN F z (z + 1) = F z := by unfold swN; rw [if_neg (by omega), if_pos rfl]
  have e4 : (rgL n (swN F z)).drop (z + 2) = (rgL n F).drop (z + 2) := by
    apply List.ext_getElem?
    intro j
    rw [List.getElem?_drop, List.getElem?_drop]
    unfold rgL
    rw [List.getElem?_map, List.getElem?_map]
    rcases Nat.lt_or_ge (z + 2 + j) n with d | d
    · rw [List.getElem?_range d]
      show some (swN F z (z + 2 + j)) = some (F (z + 2 + j))
      unfold swN
      rw [if_neg (by omega), if_neg (by omega)]
    · rw [List.getElem?_eq_none (by simpa using d)]
      rfl
  have s1 := rgL_split (F := swN F z) h
  rw [e1, e2, e3, e4] at s1
  rw [s1, rgL_split (F := F) h]
  have e5 : (rgL n F).drop (z + 2) = (rgL z F ++ F z :: F (z + 1) :: (rgL n F).drop (z + 2)).drop (z + 2) := by rw [← rgL_split h]
  rw [← e5]
  exact (List.Perm.refl _).append (List.Perm.swap _ _ _)
theorem sw_set {F : Nat → Nat} {n z : Nat} (h : z + 1 < n) : ((rgL n F).set (z + 1) (F z)).set z (F (z + 1)) = rgL n (swN F z) := by
  have e : (rgL n F).set (z + 1) (F z) = rgL n (fun k => if k = z + 1 then F z else F k) := rgL_set (by omega) (by simp) (fun i _ hn => by simp [hn])
  rw [e]
  refine rgL_set (by omega) (by unfold swN; rw [if_pos rfl]) (fun i _ hn => ?_)
  unfold swN
  rw [if_neg hn]
/-- in order so far; in order but for one that is carried on -/
def srt (F : Nat → Nat) (i : Nat) : Prop := ∀ a b, a < b → b < i → F a ≤ F b
def insP (F : Nat → Nat) (i j : Nat) : Prop := ∀ a b, a < b → b ≤ i → b ≠ j → F a ≤ F b
theorem ins_begin {F : Nat → Nat} {i : Nat} (h : srt F i) : insP F i i := fun a b h1 h2 h3 => h a b h1 (by omega)
theorem ins_zero {F : Nat → Nat} {i : Nat} (h : insP F i 0) : srt F (i + 1) := fun a b h1 h2 => h a b h1 (by omega) (by omega)
theorem ins_stop {F : Nat → Nat} {i z : Nat} (h : insP F i (z + 1)) (hz : z + 1 ≤ i) (hle : F z ≤ F (z + 1)) : srt F (i + 1) := by
  intro a b h1 h2
  by_cases e : b = z + 1
  · subst e
    by_cases d : a = z
    · rw [d]; exact hle
    · exact Nat.le_trans (h a z (by omega) (by omega) (by omega)) hle
  · exact h a b h1 (by omega) e
theorem ins_next {F : Nat → Nat} {i z : Nat} (h : insP F i (z + 1)) (hz : z + 1 ≤ i) (hlt : F (z + 1) < F z) : insP (swN F z) i z := by
  intro a b h1 h2 h3
  unfold swN
  by_cases b1 : b = z + 1
  · subst b1
    rw [if_neg (show ¬ z + 1 = z by omega), if_pos rfl]
    by_cases a1 : a = z
    · rw [if_pos a1]; omega
    · rw [if_neg a1, if_neg (by omega)]
      exact h a z (by omega) (by omega) (by omega)
  · rw [if_neg h3, if_neg b1]
    by_cases a1 : a = z
    · rw [if_pos a1]; exact h (z + 1) b (by omega) h2 b1
    · rw [if_neg a1]
      by_cases a2 : a = z + 1
      · rw [if_pos a2]; exact h z b (by omega) h2 b1
      · rw [if_neg a2]; exact h a b h1 h2 b1
theorem srt_end {F : Nat → Nat} {n : Nat} {l : List Nat} (hp : (rgL n F).Perm l) (h : srt F n) : rgL n F = soL l := by
  refine so_eq hp ?_
  unfold rgL
  rw [List.pairwise_map]
  refine List.Pairwise.imp_of_mem (R := fun a b => a < b) ?_ List.pairwise_lt_range
  intro a b ha hb hab
  exact h a b hab (by simpa using hb)
theorem rgL_list (l : List Nat) : rgL l.length (fun j => l.getD j 0) = l := by
  apply List.ext_getElem?
  intro i
  unfold rgL
  rw [List.getElem?_map]
  rcases Nat.lt_or_ge i l.length with d | d
  · rw [List.getElem?_range d, List.getElem?_eq_getElem d]
    simp [d]
  · rw [List.getElem?_eq_none (by simpa using d), List.getElem?_eq_none d]
    rfl

set_option maxRecDepth 100000 in
set_option maxHeartbeats 8000000 in
theorem rising_any {W : World} {B : Nat} {v : Value} {l : List Nat} (h : NR W B v l) (hl : l.length ≤ 100000) :
    Calls Try.prog 19 #[v] W fun e w' => ∃ v', e = .returned v' ∧ NR w' W.heap.size v' (soL l) ∧ Below W.heap.size W w' := by
  have HY := hide (Src.of (own_keep h (bnew W (.cells #[] 3))))
  have HO := hide (own_lit (B := W.heap.size) (e := 3) (z := 1) (k := 0) W #[] (Nat.le_refl _) (by unfold maxLen; omega) rfl)
  have B0 := hide (bnew W (.cells #[] 3))
  have H1 := hide (numsV_one (xs := l))
  have Hend := hide (fun F (hp : (rgL l.length F).Perm l) (hs : srt F l.length) => srt_end hp hs)
  obtain ⟨vq, vc, rfl⟩ := h.form
  have Hst := hide (rgL_list l)
  obtain ⟨n, hn⟩ : ∃ n, n = l.length := ⟨_, rfl⟩
  rw [← hn] at HY hl Hend Hst
  rw [← hn]
  have Hn := hide hn
  clear h hn
  go_enter Try.func19, Try.ntmps19
  go_wp2_with (at_builtin; refine wl_src rfl rfl Try.underlying27 info3 rfl (by decide) rfl rfl (unhide HO) (unhide HY) (unhide H1) (by unfold maxLen; omega) (by omega) (by simp) ?_)
  intro v' w4 hown' hgrow _
  have S4 := hide ((unhide B0).grown hgrow (by simp) (fun k hk => by have := ((unhide HO).lt k hk).1; omega))
  have H4 := hide (show w4.ownsRow W.heap.size 3 1 v' n (numsV l) from by simpa using hown')
  obtain ⟨oq, oc, rfl⟩ := own_form (unhide H4)
  have HN4 := hide (show NR w4 W.heap.size (.slice oq n oc) (rgL n (fun j => l.getD j 0)) from by unfold NR; rw [rgL_len, unhide Hst]; exact unhide H4)
  have HP4 := hide (show (rgL n (fun j => l.getD j 0)).Perm l from by rw [unhide Hst])
  clear hown' hgrow HY HO B0 H1 H4 Hst
  generalize (fun j => l.getD j 0) = F0 at *
  go_wp2
  go_loopw [11] (fun i wr => ∃ (x : Nat) (F : Nat → Nat), x ≤ n ∧ i = .int .i64 x ∧ NR wr W.heap.size (.slice oq n oc) (rgL n F) ∧ (rgL n F).Perm l ∧ srt F x ∧ Below W.heap.size W wr) (fun i _ => n - (intOf i).toNat)
  case atStart => exact ⟨0, F0, Nat.zero_le _, rfl, unhide HN4, unhide HP4, fun a b _ h => by omega, unhide S4⟩
  case round =>
    clear HN4 HP4 S4
    obtain ⟨x, F, hx, rfl, hN, hP, hS, hB⟩ := hrel
    have HN := hide hN
    have HP := hide hP
    have HS := hide hS
    have HB := hide hB
    clear hN hP hS hB
    by_cases hlt : x < n
    · have q1 : (x : Int) < (n : Int) := by omega
      obtain ⟨g, oc', ho⟩ := own_slice (unhide HN) (by rw [rgL_len]; omega)
      rw [rgL_len] at ho
      simp only [Value.slice.injEq] at ho
      obtain ⟨rfl, -, -⟩ := ho
      clear oc'
      go_wp2
      go_loopw [5] (fun jv wr => ∃ (y : Nat) (F : Nat → Nat), y ≤ x ∧ jv = .int .i64 y ∧ NR wr W.heap.size (.slice (some ⟨g, 0, none⟩) n oc) (rgL n F) ∧ (rgL n F).Perm l ∧ insP F x y ∧ Below W.heap.size W wr) (fun jv _ => (intOf jv).toNat)
      case atStart => exact ⟨x, F, Nat.le_refl _, rfl, unhide HN, unhide HP, ins_begin (unhide HS), unhide HB⟩
      case round =>
        clear HN HP HS HB
        obtain ⟨y, G, hy, rfl, hN, hP, hI, hB⟩ := hrel
        have HN := hide hN
        have HP := hide hP
        have HI := hide hI
        have HB := hide hB
        clear hN hP hI hB
        by_cases hy0 : 0 < y
        · have g1 : decide (0 < y) = true := by simpa using hy0
          obtain ⟨z, hz⟩ : ∃ z, y = z + 1 := ⟨y - 1, by omega⟩
          have Hz := hide hz
          have z1 : (y : Int) - 1 = (z : Int) := by omega
          have z2 : IntKind.i64.wrap (z : Int) = (z : Int) := Go.IntWalk.i64_in _ (by omega)
          have z3 : (z : Int) < (n : Int) := by omega
          have z4 : (0 : Int) ≤ (z : Int) := by omega
          have z5 : (y : Int) < (n : Int) := by omega
          have z6 : (0 : Int) ≤ (y : Int) := by omega
          obtain ⟨c1, f1⟩ := (unhide HN).cellFr (rgL_len _ _) (show y < n by omega)
          obtain ⟨c2, f2⟩ := (unhide HN).cellFr (rgL_len _ _) (show z < n by omega)
          rw [rgL_get _ (show y < n by omega)] at c1
          rw [rgL_get _ (show z < n by omega)] at c2
          obtain ⟨u, hu⟩ : ∃ u, u = G y := ⟨_, rfl⟩
          obtain ⟨v, hv⟩ : ∃ v, v = G z := ⟨_, rfl⟩
          rw [← hu] at c1
          rw [← hv] at c2
          have Hu := hide (show u = G (z + 1) ∧ v = G z from ⟨by rw [hu, hz], hv⟩)
          have hzn : z + 1 < n := by omega
          have hzx : z + 1 ≤ x := by omega
          clear hz hu hv
          by_cases hc : u < v
          · have k1 : (u : Int) < (v : Int) := by omega
            have k2 : decide ((u : Int) < (v : Int)) = true := by simpa using k1
            have k3 : decide (u < v) = true := by simpa using hc
            have HP2 := hide ((sw_perm (F := G) hzn).trans (unhide HP))
            have HI2 := hide (ins_next (z := z) (by rw [← unhide Hz]; exact unhide HI) hzx (by rw [← (unhide Hu).1, ← (unhide Hu).2]; exact hc))
            go_wp2
            go_quiet (fail)
            clear c1 c2 f1 f2
            obtain ⟨w7, hw7⟩ : ∃ w, w = wr.drewN nq := ⟨_, rfl⟩
            have HN7 := hide (show NR w7 W.heap.size (.slice (some ⟨g, 0, none⟩) n oc) (rgL n G) from by rw [hw7]; exact (unhide HN).keep (Joins.below_draws _ _ _))
            have HB7 := hide (show Below W.heap.size W w7 from by rw [hw7]; exact (unhide HB).trans (Joins.below_draws _ _ _))
            rw [← hw7]
            clear hw7
            obtain ⟨c1, f1⟩ := (unhide HN7).cellFr (rgL_len _ _) (show y < n by omega)
            obtain ⟨c2, f2⟩ := (unhide HN7).cellFr (rgL_len _ _) (show z < n by omega)
            rw [rgL_get _ (show y < n by omega)] at c1
            rw [rgL_get _ (show z < n by omega), ← (unhide Hu).2] at c2
            rw [show G y = u by rw [(unhide Hu).1, ← unhide Hz]] at c1
            have HN2 := hide (show NR ((w7.setCell ⟨g, y, none⟩ (.int .i64 (v : Int))).setCell ⟨g, z, none⟩ (.int .i64 (u : Int))).drew W.heap.size (.slice (some ⟨g, 0, none⟩) n oc) (rgL n (swN G z)) from by
              have h1 := (unhide HN7).put (rgL_len _ _) y v
              have h2 := h1.put (by rw [List.length_set, rgL_len]) z u
              rw [unhide Hz, (unhide Hu).1, (unhide Hu).2, sw_set hzn] at h2
              rw [unhide Hz, (unhide Hu).1, (unhide Hu).2]
              exact h2.keep (bdrew _))
            have hgB := (World.ownsRow.lt (unhide HN7) g rfl).1
            have HB2 := hide (show Below W.heap.size W ((w7.setCell ⟨g, y, none⟩ (.int .i64 (v : Int))).setCell ⟨g, z, none⟩ (.int .i64 (u : Int))).drew from btrans (bset (bset (unhide HB7) hgB) hgB) (bdrew _))
            have hyz : y ≠ z := by have := unhide Hz; omega
            go_wp2
            go_region
            go_wp2
            first | go_roundw | skip
            all_goals first | exact ⟨⟨z, swN G z, by have := unhide Hz; omega, by go_num, unhide HN2, unhide HP2, unhide HI2, unhide HB2⟩, by have := unhide Hz; simp [intOf]; omega⟩ | exact ⟨z, swN G z, by have := unhide Hz; omega, by go_num, unhide HN2, unhide HP2, unhide HI2, unhide HB2⟩ | (have := unhide Hz; simp [intOf]; omega) | trace_state
          · have k1 : ¬ ((u : Int) < (v : Int)) := by omega
            have k2 : decide ((u : Int) < (v : Int)) = false := by simpa using k1
            have k3 : decide (u < v) = false := by simpa using hc
            have HS2 := hide (ins_stop (z := z) (by rw [← unhide Hz]; exact unhide HI) hzx (by rw [← (unhide Hu).1, ← (unhide Hu).2]; omega))
            go_wp2
            go_quiet (fail)
            go_wp2
            go_roundw
            case rel => exact ⟨x + 1, G, by omega, by go_num, (unhide HN).keep (Joins.below_draws _ _ _), unhide HP, unhide HS2, (unhide HB).trans (Joins.below_draws _ _ _)⟩
            case measure => simp [intOf]; omega
        · have g1 : decide (0 < y) = false := by simpa using hy0
          have HS2 := hide (ins_zero (show insP G x 0 from by have := unhide HI; rw [show y = 0 by omega] at this; exact this))
          go_wp2
          go_quiet (fail)
          go_wp2
          go_roundw
          case rel => exact ⟨x + 1, G, by omega, by go_num, (unhide HN).keep (Joins.below_draws _ _ _), unhide HP, unhide HS2, (unhide HB).trans (Joins.below_draws _ _ _)⟩
          case measure => simp [intOf]; omega
    · obtain rfl : n = x := by omega
      have cl : ¬ ((n : Int) < (n : Int)) := by omega
      go_wp2
      go_ret
      refine ⟨_, rfl, ?_, unhide HB⟩
      rw [← unhide Hend F (unhide HP) (unhide HS)]
      exact unhide HN
end Go.Proofs.Ytancniamgfppiaa
