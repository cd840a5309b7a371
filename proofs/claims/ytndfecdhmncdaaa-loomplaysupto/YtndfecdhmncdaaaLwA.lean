/-
  LoomOnce: the law's walk.
-/
import Derived.Test.YtndfecdhmncdaaaLvD
import Derived.Laws.AppendOwnNone
namespace Go.Proofs.Ytndfecdhmncdaaa
open Go.RowKit

def LawIs (F : Nat) (args : Array Value) (W : World) : Prop := Calls Try.prog F args W fun e w' => e = .returned (.bool true) ∧ Below W.heap.size W w'

/-- whole numbers, as a row has them -/
def intsV (T : Nat → Int) (m : Nat) : List Value := (List.range m).map fun j => Value.int .i64 (T j)
theorem intsV_succ (T : Nat → Int) (m : Nat) : intsV T (m + 1) = intsV T m ++ [.int .i64 (T m)] := by simp [intsV, List.range_succ]
theorem intsV_len (T : Nat → Int) (m : Nat) : (intsV T m).length = m * 1 := by simp [intsV]
theorem intsV_one {T : Nat → Int} {m : Nat} : ∀ u ∈ intsV T m, u.oneCell' = true := by
  intro u hu
  obtain ⟨j, -, rfl⟩ := List.mem_map.1 hu
  rfl
theorem intsV_at {T : Nat → Int} {m j : Nat} {u : Value} (h : (intsV T m)[j]? = some u) : j < m ∧ u = .int .i64 (T j) := by
  unfold intsV at h
  rw [List.getElem?_map] at h
  rcases Nat.lt_or_ge j m with hj | hj
  · rw [List.getElem?_range hj] at h
    exact ⟨hj, by simpa using h.symm⟩
  · rw [List.getElem?_eq_none (by simpa using hj)] at h
    cases h
theorem is_news {W : World} {ad : Addr} {m : Nat} {T T2 : Nat → Int} (h : Is W (some ad) m T) (ht : ∀ j, j < m → T2 j = T j) : ∀ (j : Nat) (u : Value), (intsV T2 m)[j]? = some u → W.cell? (ad.add j) = some u := by
  intro j u hj
  obtain ⟨h1, rfl⟩ := intsV_at hj
  obtain ⟨b, o, e, -, c⟩ := h.at h1
  cases e
  rw [ht j h1]
  by_cases j0 : j = 0
  · subst j0
    simpa [Addr.add] using c
  · simpa [Addr.add, j0] using c
theorem own_is {W : World} {B m cap : Nat} {q : Option Addr} {T : Nat → Int} (h : W.ownsRow B 3 1 (.slice q m cap) m (intsV T m)) : Is W q m T := by
  rcases h.2 with ⟨hv, h0⟩ | ⟨g, cap', cur, hv, hb, hg, hle, _⟩
  · exact .inl h0
  · simp at hv
    obtain ⟨rfl, rfl⟩ := hv
    refine .inr ⟨g, 0, rfl, (h.lt g rfl).2, fun k hk => ?_⟩
    rw [h.cellAt (0 + k) (by omega)]
    simp [intsV, hk]
theorem info3 : (Try.prog.info? 3).map (fun i => (i.zero, i.size, i.bytes)) = some (some (.int .i64 0), 1, 8) := by kernel_rfl

/-- the turns, then the power, then nothing that is in its way -/
def goOn (T : Nat → Int) (m : Nat) (j : Nat) : Int := if j < m then T j else if j = m then 3 else 0
theorem goOn_list (T : Nat → Int) (m k : Nat) : (List.range (m + 1 + k)).map (goOn T m) = (List.range m).map T ++ 3 :: List.replicate k (0 : Int) := by
  have h1 : (List.range m).map (goOn T m) = (List.range m).map T := List.map_congr_left (fun j hj => by rw [goOn, if_pos (by simpa using hj)])
  induction k with
  | zero => rw [Nat.add_zero, List.range_succ, List.map_append, h1]; simp [goOn]
  | succ k ih =>
    rw [← Nat.add_assoc, List.range_succ, List.map_append, ih, List.replicate_succ']
    simp [goOn]
    omega

set_option maxRecDepth 100000 in
set_option maxHeartbeats 2000000 in
theorem once_no (w h : Int) (p : Option Addr) (n cap : Nat) (W : World) (tv : Value) (hc : wE w h n ≠ 0 ∨ n = 0) : LawIs 4 #[tr w h p n cap, tv] W := by
  unfold LawIs
  have HA := hide (fun V => alive_any V)
  have HWr := hide (fun V => rwrong_any w h p n cap V)
  unfold WrongIs at HWr
  have HO := hide (OwnM.new W w h p n cap 24)
  have B0 := hide (bal (o := .cells #[.int .i64 w, .int .i64 h, .slice p n cap] 24) (Below.refl W.heap.size W))
  generalize wE w h n = er at *
  rcases Classical.em (er = 0) with he | he
  · subst he
    obtain rfl : n = 0 := by rcases hc with c | c; exact absurd rfl c; exact c
    clear hc
    go_enter Try.func4, Try.ntmps4
    go_wp2_with fail
    generalize W.alloc (.cells #[.int .i64 w, .int .i64 h, .slice p 0 cap] 24) = w0 at *
    refine (unhide HA _).mono ?_
    rintro e w1 ⟨rfl, hb1⟩
    have HO1 := hide ((unhide HO).keep hb1)
    have S1 := hide (btrans (unhide B0) hb1)
    obtain ⟨-, k1, k2, k3⟩ := unhide HO1
    clear hb1
    go_wp2_with fail
    refine (unhide HWr _).mono ?_
    rintro e w2 ⟨rfl, hb2⟩
    have S2 := hide (btrans (unhide S1) hb2)
    clear k1 k2 k3
    obtain ⟨-, k1, k2, k3⟩ := (unhide HO1).keep hb2
    clear hb2
    go_wp2
    go_ret
    exact ⟨rfl, unhide S2⟩
  · have he' : (er != 0) = true := by simpa using he
    clear hc he
    go_enter Try.func4, Try.ntmps4
    go_wp2_with fail
    generalize W.alloc (.cells #[.int .i64 w, .int .i64 h, .slice p n cap] 24) = w0 at *
    refine (unhide HA _).mono ?_
    rintro e w1 ⟨rfl, hb1⟩
    have HO1 := hide ((unhide HO).keep hb1)
    have S1 := hide (btrans (unhide B0) hb1)
    obtain ⟨-, k1, k2, k3⟩ := unhide HO1
    clear hb1
    go_wp2_with fail
    refine (unhide HWr _).mono ?_
    rintro e w2 ⟨rfl, hb2⟩
    have S2 := hide (btrans (unhide S1) hb2)
    clear hb2 k1 k2 k3
    go_wp2
    go_ret
    exact ⟨rfl, unhide S2⟩

theorem R4.val (W : World) (q : Option Addr) (n c : Nat) (st wv : Int) (bad : Bool) : R4 (W.alloc (.cells #[.slice q n c, .int .i64 st, .int .i64 wv, .bool bad] 42)) W.heap.size q n c st wv bad :=
  ⟨⟨by simp, Tg.new _ _ _⟩, ⟨by simp [go_sem], by simp [go_sem], by simp [go_sem], by simp [go_sem]⟩, by simp [go_sem], by simp [go_sem], by simp [go_sem], by simp [go_sem]⟩
theorem inv_rows {h : Nat} {x : WSt} (k : Inv h x) : x.2.2.2.2.2.2 = false ∧ x.2.2.2.2.2.1 = (List.range x.2.2.2.2.2.1.length).map some ∧ x.1.2.1 ≤ x.2.2.2.2.2.1.length ∧ x.2.2.2.2.2.1.length ≤ x.1.2.1 + 1 ∧ x.2.2.2.2.2.1.length ≤ h ∧ (x.1.1 = 6 → x.1.2.1 = h ∧ x.2.2.2.2.2.1.length = h) := by
  have hb := inv_bounds k
  obtain ⟨⟨st, wv, sp, dd, g, lf⟩, td, up, th, ro, rs, bad⟩ := x
  obtain ⟨k1, k2, k3, k4, k5⟩ := k
  dsimp only at hb ⊢
  refine ⟨k1, k4, ?_, ?_, hb.2.2, ?_⟩
  · rcases k5 with q | q | q | q | q | q | q <;> omega
  · rcases k5 with q | q | q | q | q | q | q <;> omega
  · intro e
    rcases k5 with q | q | q | q | q | q | q <;> omega

set_option maxRecDepth 100000 in
set_option maxHeartbeats 4000000 in
theorem once_ok {W : World} {w h : Nat} {p : Option Addr} {n cap : Nat} {f : Nat → Bool} (hm : Rt W w h p n cap f) (hn0 : 0 < n) {tq : Option Addr} {m tc : Nat} {T : Nat → Int} (hT : Is W tq m T) (hnil : tq = none → m = 0 ∧ tc = 0) (hm8 : m * 8 + 4096 ≤ 140737488355328) : LawIs 4 #[tr w h p n cap, .slice tq m tc] W := by
  unfold LawIs
  obtain ⟨i3, hi3, hz0, hz1, hz2⟩ := info_parts info3
  have hw6 := hm.1
  have hh6 := hm.2.1
  have hh0 : 0 < h := by have := hm.2.2.1; rcases Nat.eq_zero_or_pos h with e | e; subst e; rw [Nat.mul_zero] at this; omega; exact e
  have HA := hide (fun V => alive_any V)
  have HWr := hide (fun V => rwrong_any w h p n cap V)
  unfold WrongIs at HWr
  have hz : wE w h n = 0 := by
    unfold wE
    rw [(sd_iff w).2 (by omega), (sd_iff h).2 (by omega)]
    simp [hm.2.2.1]
  rw [hz] at HWr
  have HO := hide (OwnM.new W w h p n cap 24)
  have B0 := hide (bal (o := .cells #[.int .i64 w, .int .i64 h, .slice p n cap] 24) (Below.refl W.heap.size W))
  have HR := hide hm
  have HT := hide hT
  have HL := hide (fun V (hV : Below W.heap.size W V) => live_any (hm.keep hV) hn0 (hT.keep hV) (tc := tc) (by unfold maxLen; omega))
  unfold LivePost at HL
  have hI := inv_rows (inv_live hh0 ((List.range m).map T))
  have Hdn := hide (live_done hh0 ((List.range m).map T) (5 * h + 5) (by omega))
  have hn' : ((n : Int) == 0) = false := by simp; omega
  clear hm hT hz
  generalize liveS h ((List.range m).map T) = y at *
  obtain ⟨⟨st, wv, sp, dd, g, lf⟩, td, up, th, ro, rs, bad⟩ := y
  dsimp only at hI HL
  obtain ⟨rfl, hI2, hI3, hI4, hI5, -⟩ := hI
  have HI2 := hide hI2
  clear hI2
  generalize hrl : rs.length = rl at *
  have Hrl := hide hrl
  clear hrl
  go_enter Try.func4, Try.ntmps4
  go_wp2_with fail
  generalize W.alloc (.cells #[.int .i64 w, .int .i64 h, .slice p n cap] 24) = w0 at *
  refine (unhide HA _).mono ?_
  rintro e w1 ⟨rfl, hb1⟩
  have HO1 := hide ((unhide HO).keep hb1)
  have S1 := hide (btrans (unhide B0) hb1)
  obtain ⟨-, k1, k2, k3⟩ := unhide HO1
  clear hb1 HO B0
  go_wp2_with fail
  refine (unhide HWr _).mono ?_
  rintro e w2 ⟨rfl, hb2⟩
  have S2 := hide (btrans (unhide S1) hb2)
  have HO2 := hide ((unhide HO1).keep hb2)
  clear k1 k2 k3 hb2 HO1 S1
  obtain ⟨-, k1, k2, k3⟩ := unhide HO2
  go_wp2_with fail
  refine (unhide HL _ (unhide S2)).mono ?_
  rintro e w3 ⟨q4, c4, xs, rfl, hO3, hR3, hb3⟩
  have S3 := hide (btrans (unhide S2) hb3)
  have e3 := bal (o := .cells #[.slice q4 rl c4, .int .i64 st, .int .i64 wv, .bool false] 42) (Below.refl w3.heap.size w3)
  have HO3 := hide (((unhide HO2).keep hb3).keep e3)
  have HF3 := hide (fun V (hV : Below w3.heap.size w3 V) => first_any' ((unhide HR).keep (btrans (unhide S3) hV)) hn0 (own_keep hO3 hV) (unhide Hrl).symm (hR3.kept4 (Kept.of (S := fun _ => False) hV) (fun _ q => q.elim)) (by rw [unhide Hrl]; exact unhide HI2) hI5)
  have S4 := hide (btrans (unhide S3) e3)
  have HX4 := hide (R4.val w3 q4 rl c4 st wv false)
  have He3 := hide e3
  clear k1 k2 k3 hb3 hO3 hR3 HO2 S2 S3
  obtain ⟨-, k1, k2, k3⟩ := unhide HO3
  have c1 : ¬ ((rl : Int) < (wv : Int)) := by omega
  have c2 : decide ((rl : Int) < (wv : Int)) = false := by simpa using c1
  have c3 : ¬ ((wv : Int) + 1 < (rl : Int)) := by omega
  have c4' : decide ((wv : Int) + 1 < (rl : Int)) = false := by simpa using c3
  have c5 : wrap64 ((wv : Int) + 1) = (wv : Int) + 1 := by unfold wrap64; omega
  clear e3
  obtain ⟨-, ⟨x0, x1, x2, x3⟩, -⟩ := unhide HX4
  go_wp2_with fail
  refine (unhide HF3 _ (unhide He3)).mono ?_
  rintro e w5 ⟨rfl, hb5⟩
  have S5 := hide (btrans (unhide S4) hb5)
  have HO5 := hide ((unhide HO3).keep hb5)
  have HX5 := hide ((unhide HX4).keep hb5)
  clear k1 k2 k3 x0 x1 x2 x3 hb5 HO3 HX4 HF3 He3 S4 HL
  obtain ⟨-, k1, k2, k3⟩ := unhide HO5
  obtain ⟨-, ⟨x0, x1, x2, x3⟩, -⟩ := unhide HX5
  have hO0 := World.ownsRow_made (base := w5.heap.size) (e := 3) (size := 1) w5 #[] 0 (Nat.le_refl _) (by unfold maxLen; omega) (by simp)
  cases tq with
  | none =>
    obtain ⟨rfl, rfl⟩ := hnil rfl
    have hb6 := bal (o := .cells #[] 3) (Below.refl w5.heap.size w5)
    go_wp2_with (first | (at_builtin; refine wpList_append_own_none rfl _ _ 37 rfl w5.heap.size 3 i3 1 Try.underlying37 hi3 _ 0 [] rfl hO0 rfl ?_) | (at_builtin; refine wpList_append_own _ rfl _ _ 37 rfl w5.heap.size 3 i3 (.int .i64 0) 1 8 Try.underlying37 hi3 hz0 hz1 hz2 rfl (by decide) _ _ _ rfl (hO0.alloc _) ⟨w5.heap.size + 1, 0, none⟩ 1 1 [.int .i64 3] rfl rfl (by simpa using cell_one_new (w5.alloc (.cells #[] 3)) (.int .i64 3) 3) (by simp [Value.oneCell']) (by unfold maxLen; omega) (by omega) (by simp; omega) ?_))
    intro v7 w7 hown7 hgrow7 _
    have hb7 := (bal (o := .cells #[.int .i64 3] 3) hb6).grown hgrow7 (by have := hb6.size; simp; omega) (fun k hk => by have := (hO0.lt k hk).1; omega)
    have HO7 := hide (show w7.ownsRow w5.heap.size 3 1 v7 (0 + 1) (intsV (goOn T 0) (0 + 1)) from by rw [intsV_succ, show goOn T 0 0 = 3 by simp [goOn]]; simpa [intsV] using hown7)
    have S7 := hide (btrans (unhide S5) hb7)
    have KM7 := hide ((unhide HO5).keep hb7)
    have Hb7 := hide hb7
    clear hown7 hgrow7 hO0 hb6 k1 k2 k3 x0 x1 x2 x3 hb7
    obtain ⟨-, k1, k2, k3⟩ := unhide KM7
    have n1 : wrap64 (5 * (h : Int)) = 5 * (h : Int) := by unfold wrap64; omega
    have n2 : wrap64 (5 * (h : Int) + 5) = 5 * (h : Int) + 5 := by unfold wrap64; omega
    go_wp2
    go_loopw [6, 7] (fun v i wr => ∃ kk : Nat, kk ≤ 5 * h + 5 ∧ i = .int .i64 kk ∧ wr.ownsRow w5.heap.size 3 1 v (0 + 1 + kk) (intsV (goOn T 0) (0 + 1 + kk)) ∧ Below w5.heap.size w5 wr) (fun _ i _ => 5 * h + 5 - (intOf i).toNat)
    case atStart => exact ⟨0, Nat.zero_le _, rfl, unhide HO7, unhide Hb7⟩
    case round =>
      clear HO7 S7 KM7 Hb7 k1 k2 k3
      obtain ⟨kk, hkk, rfl, hO8, hb8⟩ := hrel
      have KM8 := hide ((unhide HO5).keep hb8)
      obtain ⟨-, k1, k2, k3⟩ := unhide KM8
      have Hb8 := hide hb8
      by_cases hlt : kk < 5 * h + 5
      · have q0 : (kk : Int) < 5 * (h : Int) + 5 := by omega
        have hs8 := hb8.size
        clear hb8
        go_wp2_with (at_builtin; refine wpList_append_own _ rfl _ _ 37 rfl w5.heap.size 3 i3 (.int .i64 0) 1 8 Try.underlying37 hi3 hz0 hz1 hz2 rfl (by decide) _ _ _ rfl (hO8.alloc _) ⟨wr.heap.size, 0, none⟩ 1 1 [.int .i64 0] rfl rfl (cell_one_new _ _ _) (by simp [Value.oneCell']) (by unfold maxLen; omega) (by omega) (by simp; omega) ?_)
        intro v9 w9 hown9 hgrow9 _
        have hb9 := hide ((bal (o := .cells #[.int .i64 0] 3) (unhide Hb8)).grown hgrow9 (by simp; omega) (fun k hk => by have := (hO8.lt k hk).1; omega))
        have HO9 := hide (show w9.ownsRow w5.heap.size 3 1 v9 (0 + 1 + (kk + 1)) (intsV (goOn T 0) (0 + 1 + (kk + 1))) from by
          rw [← Nat.add_assoc, intsV_succ, show goOn T 0 (0 + 1 + kk) = 0 by unfold goOn; rw [if_neg (by omega), if_neg (by omega)]]; exact hown9)
        clear hown9 hgrow9 hO8
        go_wp2
        go_roundw
        case rel => exact ⟨kk + 1, by omega, by go_num, unhide HO9, unhide hb9⟩
        case measure => simp [intOf]; omega
      · obtain rfl : kk = 5 * h + 5 := by omega
        have cl : ¬ (5 * (h : Int) + 5 < 5 * (h : Int) + 5) := by omega
        obtain ⟨q8, c8, rfl⟩ := own_form hO8
        have S8 := hide (btrans (unhide S5) hb8)
        have hL8 := live_any ((unhide HR).keep (unhide S8)) hn0 (own_is hO8) (tc := c8) (by unfold maxLen; omega)
        rw [goOn_list] at hL8
        have hI8 := inv_rows (inv_live hh0 ((List.range 0).map T ++ 3 :: List.replicate (5 * h + 5) (0 : Int)))
        have hD8 := unhide Hdn
        unfold LivePost at hL8
        generalize liveS h ((List.range 0).map T ++ 3 :: List.replicate (5 * h + 5) (0 : Int)) = z at *
        obtain ⟨⟨zst, zwv, zsp, zdd, zg, zlf⟩, ztd, zup, zth, zro, zrs, zbad⟩ := z
        dsimp only at hI8 hD8 hL8
        subst hD8
        obtain ⟨rfl, hz1', -, -, hz2', hz3'⟩ := hI8
        obtain ⟨rfl, hz4⟩ := hz3' rfl
        rw [hz4] at hL8
        have HL8 := hide hL8
        have Hz1 := hide hz1'
        have Hz4 := hide hz4
        have KM9 := hide (unhide KM8)
        clear hL8 hz1' hz2' hz3' hz4 hO8 hb8 HO5 KM8
        obtain ⟨M2, hM2⟩ : ∃ x : Nat, x = 0 + 1 + (5 * zwv + 5) := ⟨_, rfl⟩
        rw [← hM2] at HL8
        rw [← hM2]
        clear hM2
        go_wp2_with fail
        refine (unhide HL8).mono ?_
        rintro e w9 ⟨q9, c9, ys, rfl, hO9, hR9, hb9⟩
        have S9 := hide (btrans (unhide S8) hb9)
        have e9 := bal (o := .cells #[.slice q9 zwv c9, .int .i64 6, .int .i64 zwv, .bool false] 42) (Below.refl w9.heap.size w9)
        have KM10 := hide (((unhide KM9).keep hb9).keep e9)
        have HX10 := hide (R4.val w9 q9 zwv c9 6 zwv false)
        have HF10 := hide (fun V (hV : Below w9.heap.size w9 V) => first_any' ((unhide HR).keep (btrans (unhide S9) hV)) hn0 (own_keep hO9 hV) (unhide Hz4).symm (hR9.kept4 (Kept.of (S := fun _ => False) hV) (fun _ q => q.elim)) (unhide Hz1) (Nat.le_refl _))
        have S10 := hide (btrans (unhide S9) e9)
        have He9 := hide e9
        clear k1 k2 k3 hb9 hO9 hR9 e9
        obtain ⟨-, k1, k2, k3⟩ := unhide KM10
        obtain ⟨-, ⟨x0, x1, x2, x3⟩, -⟩ := unhide HX10
        go_wp2_with fail
        refine (unhide HF10 _ (unhide He9)).mono ?_
        rintro e w11 ⟨rfl, hb11⟩
        have S11 := hide (btrans (unhide S10) hb11)
        clear hb11
        go_wp2
        go_ret
        exact ⟨rfl, unhide S11⟩
  | some ad =>
    clear hnil
    have hnw := is_news (T2 := goOn T m) ((unhide HT).keep (btrans (unhide S5) (bal (o := .cells #[] 3) (Below.refl w5.heap.size w5)))) (fun j hj => by rw [goOn, if_pos hj])
    go_wp2_with (at_builtin; refine wpList_append_own _ rfl _ _ 37 rfl w5.heap.size 3 i3 (.int .i64 0) 1 8 Try.underlying37 hi3 hz0 hz1 hz2 rfl (by decide) _ _ _ rfl hO0 ad m tc (intsV (goOn T m) m) rfl (intsV_len _ _) hnw intsV_one (by unfold maxLen; omega) (by omega) (by simp) ?_)
    intro v6 w6 hown6 hgrow6 _
    replace hown6 : w6.ownsRow w5.heap.size 3 1 v6 m (intsV (goOn T m) m) := by simpa using hown6
    have hb6 := (bal (o := .cells #[] 3) (Below.refl w5.heap.size w5)).grown hgrow6 (by simp) (fun k hk => by have := (hO0.lt k hk).1; omega)
    have HO6 := hide hown6
    clear hnw hown6 hgrow6 hO0
    have hO6 := unhide HO6
    have S6 := hide (btrans (unhide S5) hb6)
    have KM6 := hide ((unhide HO5).keep hb6)
    go_wp2_with (at_builtin; refine wpList_append_own _ rfl _ _ 37 rfl w5.heap.size 3 i3 (.int .i64 0) 1 8 Try.underlying37 hi3 hz0 hz1 hz2 rfl (by decide) _ _ _ rfl (hO6.alloc _) ⟨w6.heap.size, 0, none⟩ 1 1 [.int .i64 3] rfl rfl (cell_one_new _ _ _) (by simp [Value.oneCell']) (by unfold maxLen; omega) (by omega) (by have := hb6.size; simp; omega) ?_)
    intro v7 w7 hown7 hgrow7 _
    have hb7 := (bal (o := .cells #[.int .i64 3] 3) hb6).grown hgrow7 (by have := hb6.size; simp; omega) (fun k hk => by have := (hO6.lt k hk).1; omega)
    have HO7 := hide (show w7.ownsRow w5.heap.size 3 1 v7 (m + 1) (intsV (goOn T m) (m + 1)) from by rw [intsV_succ, show goOn T m m = 3 by simp [goOn]]; exact hown7)
    have S7 := hide (btrans (unhide S5) hb7)
    have KM7 := hide ((unhide HO5).keep hb7)
    have Hb7 := hide hb7
    clear hown7 hgrow7 hO6 HO6 S6 KM6 hb6 k1 k2 k3 x0 x1 x2 x3 hb7
    obtain ⟨-, k1, k2, k3⟩ := unhide KM7
    have n1 : wrap64 (5 * (h : Int)) = 5 * (h : Int) := by unfold wrap64; omega
    have n2 : wrap64 (5 * (h : Int) + 5) = 5 * (h : Int) + 5 := by unfold wrap64; omega
    go_wp2
    go_loopw [6, 7] (fun v i wr => ∃ kk : Nat, kk ≤ 5 * h + 5 ∧ i = .int .i64 kk ∧ wr.ownsRow w5.heap.size 3 1 v (m + 1 + kk) (intsV (goOn T m) (m + 1 + kk)) ∧ Below w5.heap.size w5 wr) (fun _ i _ => 5 * h + 5 - (intOf i).toNat)
    case atStart => exact ⟨0, Nat.zero_le _, rfl, unhide HO7, unhide Hb7⟩
    case round =>
      clear HO7 S7 KM7 Hb7 k1 k2 k3
      obtain ⟨kk, hkk, rfl, hO8, hb8⟩ := hrel
      have KM8 := hide ((unhide HO5).keep hb8)
      obtain ⟨-, k1, k2, k3⟩ := unhide KM8
      have Hb8 := hide hb8
      by_cases hlt : kk < 5 * h + 5
      · have q0 : (kk : Int) < 5 * (h : Int) + 5 := by omega
        have hs8 := hb8.size
        clear hb8
        go_wp2_with (at_builtin; refine wpList_append_own _ rfl _ _ 37 rfl w5.heap.size 3 i3 (.int .i64 0) 1 8 Try.underlying37 hi3 hz0 hz1 hz2 rfl (by decide) _ _ _ rfl (hO8.alloc _) ⟨wr.heap.size, 0, none⟩ 1 1 [.int .i64 0] rfl rfl (cell_one_new _ _ _) (by simp [Value.oneCell']) (by unfold maxLen; omega) (by omega) (by simp; omega) ?_)
        intro v9 w9 hown9 hgrow9 _
        have hb9 := hide ((bal (o := .cells #[.int .i64 0] 3) (unhide Hb8)).grown hgrow9 (by simp; omega) (fun k hk => by have := (hO8.lt k hk).1; omega))
        have HO9 := hide (show w9.ownsRow w5.heap.size 3 1 v9 (m + 1 + (kk + 1)) (intsV (goOn T m) (m + 1 + (kk + 1))) from by
          rw [← Nat.add_assoc, intsV_succ, show goOn T m (m + 1 + kk) = 0 by unfold goOn; rw [if_neg (by omega), if_neg (by omega)]]; exact hown9)
        clear hown9 hgrow9 hO8
        go_wp2
        go_roundw
        case rel => exact ⟨kk + 1, by omega, by go_num, unhide HO9, unhide hb9⟩
        case measure => simp [intOf]; omega
      · obtain rfl : kk = 5 * h + 5 := by omega
        have cl : ¬ (5 * (h : Int) + 5 < 5 * (h : Int) + 5) := by omega
        obtain ⟨q8, c8, rfl⟩ := own_form hO8
        have S8 := hide (btrans (unhide S5) hb8)
        have hL8 := live_any ((unhide HR).keep (unhide S8)) hn0 (own_is hO8) (tc := c8) (by unfold maxLen; omega)
        rw [goOn_list] at hL8
        have hI8 := inv_rows (inv_live hh0 ((List.range m).map T ++ 3 :: List.replicate (5 * h + 5) (0 : Int)))
        have hD8 := unhide Hdn
        unfold LivePost at hL8
        generalize liveS h ((List.range m).map T ++ 3 :: List.replicate (5 * h + 5) (0 : Int)) = z at *
        obtain ⟨⟨zst, zwv, zsp, zdd, zg, zlf⟩, ztd, zup, zth, zro, zrs, zbad⟩ := z
        dsimp only at hI8 hD8 hL8
        subst hD8
        obtain ⟨rfl, hz1', -, -, hz2', hz3'⟩ := hI8
        obtain ⟨rfl, hz4⟩ := hz3' rfl
        rw [hz4] at hL8
        have HL8 := hide hL8
        have Hz1 := hide hz1'
        have Hz4 := hide hz4
        have KM9 := hide (unhide KM8)
        clear hL8 hz1' hz2' hz3' hz4 hO8 hb8 HO5 KM8
        obtain ⟨M2, hM2⟩ : ∃ x : Nat, x = m + 1 + (5 * zwv + 5) := ⟨_, rfl⟩
        rw [← hM2] at HL8
        rw [← hM2]
        clear hM2
        go_wp2_with fail
        refine (unhide HL8).mono ?_
        rintro e w9 ⟨q9, c9, ys, rfl, hO9, hR9, hb9⟩
        have S9 := hide (btrans (unhide S8) hb9)
        have e9 := bal (o := .cells #[.slice q9 zwv c9, .int .i64 6, .int .i64 zwv, .bool false] 42) (Below.refl w9.heap.size w9)
        have KM10 := hide (((unhide KM9).keep hb9).keep e9)
        have HX10 := hide (R4.val w9 q9 zwv c9 6 zwv false)
        have HF10 := hide (fun V (hV : Below w9.heap.size w9 V) => first_any' ((unhide HR).keep (btrans (unhide S9) hV)) hn0 (own_keep hO9 hV) (unhide Hz4).symm (hR9.kept4 (Kept.of (S := fun _ => False) hV) (fun _ q => q.elim)) (unhide Hz1) (Nat.le_refl _))
        have S10 := hide (btrans (unhide S9) e9)
        have He9 := hide e9
        clear k1 k2 k3 hb9 hO9 hR9 e9
        obtain ⟨-, k1, k2, k3⟩ := unhide KM10
        obtain ⟨-, ⟨x0, x1, x2, x3⟩, -⟩ := unhide HX10
        go_wp2_with fail
        refine (unhide HF10 _ (unhide He9)).mono ?_
        rintro e w11 ⟨rfl, hb11⟩
        have S11 := hide (btrans (unhide S10) hb11)
        clear hb11
        go_wp2
        go_ret
        exact ⟨rfl, unhide S11⟩
theorem once_any (w h : Int) (p : Option Addr) (n cap : Nat) (f : Nat → Bool) (tq : Option Addr) (m tc : Nat) (T : Nat → Int) (W : World) (hB : Bs W p n cap f) (hT : Is W tq m T) (hnil : tq = none → m = 0 ∧ tc = 0) (hm8 : m * 8 + 4096 ≤ 140737488355328) : LawIs 4 #[tr w h p n cap, .slice tq m tc] W := by
  by_cases h0 : wE w h n = 0
  · by_cases h1 : n = 0
    · exact once_no w h p n cap W _ (.inr h1)
    · obtain ⟨w', h', rfl, rfl, b1, b2, b3⟩ := wE_zero w h n h0
      exact once_ok ⟨b1, b2, b3, hB⟩ (by omega) hT hnil hm8
  · exact once_no w h p n cap W _ (.inl h0)
end Go.Proofs.Ytndfecdhmncdaaa
