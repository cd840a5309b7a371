/-
  The reader: count.
-/
import Derived.Test.YtbnjjkanokmakaaDoorRX
import Derived.Test.YtbnjjkanokmakaaDoorSQ
namespace Go.Proofs.YtbnjjkanokmakaaDoor
open Go.RowKit

abbrev dsA : ByteArray := ⟨#[48, 49, 50, 51, 52, 53, 54, 55, 56, 57]⟩
theorem ds_isD (b : UInt8) : dsA.data.toList.contains b = isD b := by
  have key : ∀ n : Nat, n < 256 → dsA.data.toList.contains (UInt8.ofNat n) = isD (UInt8.ofNat n) := by decide +kernel
  have := key b.toNat (UInt8.toNat_lt b)
  rwa [UInt8.ofNat_toNat] at this
theorem ds_ascii : ∀ (j : Nat) b, dsA.data.toList[j]? = some b → b.toNat < 128 := by
  intro j b h
  have hm := List.mem_of_getElem? h
  have key : ∀ x ∈ dsA.data.toList, x.toNat < 128 := by decide
  exact key b hm
theorem trim_len (l : List UInt8) : (Lib.trimLeftS l dsA.data.toList).length + (l.takeWhile isD).length = l.length := by
  have e : Lib.trimLeftS l dsA.data.toList = l.dropWhile isD := by
    unfold Lib.trimLeftS
    congr 1
    funext b
    exact ds_isD b
  rw [e]
  have := congrArg List.length (List.takeWhile_append_dropWhile (p := isD) (l := l))
  rw [List.length_append] at this
  omega
theorem ex_byt (s : ByteArray) (p : Nat) : byt (s.extract p s.size) = (byt s).drop p := by
  unfold byt
  cases s with
  | mk d =>
    simp [Array.toList_extract, List.extract, ByteArray.size]
    exact List.take_of_length_le (by simp)
theorem ex_take (r : ByteArray) (k : Nat) : r.extract 0 k = ⟨((byt r).take k).toArray⟩ := by
  apply ByteArray.ext
  apply Array.ext'
  cases r with
  | mk d => simp [Array.toList_extract, List.extract]
theorem take_while {α : Type} (p : α → Bool) (l : List α) : l.take (l.takeWhile p).length = l.takeWhile p := by
  induction l with
  | nil => rfl
  | cons a r ih =>
    rw [List.takeWhile_cons]
    split
    · simp [ih]
    · simp
/-- a count and an error are told -/
def CtIs (W0 : World) (rb : Nat) (s : ByteArray) (W : World) (v er : Int) (q : Nat) (e : Ending) (V : World) : Prop := e = .returned (.tuple #[.int .i64 v, .int .i64 er]) ∧ Rdr W0 rb s q V ∧ Kept (fun i => i = rb) W V
theorem CtIs.mk {W0 W V : World} {rb : Nat} {s : ByteArray} {v er : Int} {q : Nat} (h1 : Rdr W0 rb s q V) (h2 : Kept (fun i => i = rb) W V) : CtIs W0 rb s W v er q (.returned (.tuple #[.int .i64 v, .int .i64 er])) V := ⟨rfl, h1, h2⟩

/-- what a count answers -/
def CtOf (d : List UInt8) (p : Nat) (v er : Int) (q : Nat) : Prop := ((d = [] ∨ d.head? = some 48) ∧ v = 0 ∧ er = 2 ∧ q = p) ∨ (¬ (d = [] ∨ d.head? = some 48) ∧ 4096 < num 0 d ∧ v = 0 ∧ er = 3 ∧ q = p) ∨ (¬ (d = [] ∨ d.head? = some 48) ∧ num 0 d ≤ 4096 ∧ v = (num 0 d : Nat) ∧ er = 0 ∧ q = p + d.length)
theorem dA_head {dA : ByteArray} {d : List UInt8} (h : dA = ⟨d.toArray⟩) (h0 : 0 < dA.size) : ((((dA[0]'h0).toNat : Nat) : Int) == 48) = decide (d.head? = some 48) := by
  have e := by1_at (s := dA) (p := 0) 48 h0
  have e2 : by1 dA 0 48 = decide (d.head? = some 48) := by
    unfold by1 byt
    rw [h]
    have : (⟨d.toArray⟩ : ByteArray).data.toList[0]? = d.head? := by simp [List.head?_eq_getElem?]
    rw [this]
  rw [← e2, e]
  rfl

theorem toList_ne {a : ByteArray} (h : 0 < a.size) : (a.toList == ([] : List UInt8)) = false := by
  rw [ByteArray.toList_eq a]
  have e2 : a.data.toList.length = a.size := rfl
  cases e : a.data.toList with
  | nil => rw [e] at e2; simp at e2; omega
  | cons x r => rfl
theorem toList_nn {a : ByteArray} (h : 0 < a.size) : a.toList.isEmpty = false := by
  have := toList_ne h
  cases e : a.toList with
  | nil => rw [e] at this; cases this
  | cons x r => rfl
theorem at_below {w w' : World} (h : w' = w ∨ ∃ t, w' = Lib.bytesWorld w 5 t) : Below w.heap.size w w' := by
  rcases h with rfl | ⟨t, rfl⟩
  · exact Below.refl _ _
  · exact Lib.bytesWorld_below _ _ _
set_option maxRecDepth 100000 in
set_option maxHeartbeats 4000000 in
theorem count_core (W0 W : World) (rb : Nat) (s : ByteArray) (p : Nat) (v er : Int) (q : Nat) (hs : s.size ≤ 65536) (hp : p ≤ s.size) (hT : RTabs W0) (h : Rdr W0 rb s p W) (hc : CtOf (dgs s p) p v er q) :
    Calls Tryd.prog 50 #[.pointer (some ⟨rb, 0, none⟩)] W (CtIs W0 rb s W v er q) := by
  have HR := hide h
  obtain ⟨-, ⟨c0, c1⟩, -, -⟩ := h
  have hdl := dgs_len s p hp
  have hall := dgs_all s p
  obtain ⟨R, hR⟩ : ∃ R, R = s.extract p s.size := ⟨_, rfl⟩
  have hRb : byt R = (byt s).drop p := by rw [hR]; exact ex_byt s p
  have hRs : R.size = s.size - p := by rw [← size_byt, hRb, List.length_drop, size_byt]
  have hdg : dgs s p = (byt R).takeWhile isD := by unfold dgs; rw [hRb]
  have htl := trim_len (byt R)
  have htk : R.extract 0 (dgs s p).length = ⟨(dgs s p).toArray⟩ := by
    rw [ex_take, hdg, take_while]
  rw [← hdg, size_byt] at htl
  have HTr := hide (fun V => Tryd.strings_TrimLeft R dsA V (by decide) ds_ascii)
  obtain ⟨tA, htA⟩ : ∃ tA : ByteArray, tA = ⟨(Lib.trimLeftS R.data.toList dsA.data.toList).toArray⟩ := ⟨_, rfl⟩
  have htAs : tA.size = (Lib.trimLeftS (byt R) dsA.data.toList).length := by rw [htA]; rfl
  rw [← htA] at HTr
  rw [← htAs] at htl
  clear htA htAs hRb hdg
  have Hev := hide (fun V (hb : Below W0.heap.size W0 V) => (hT.keep hb).2)
  clear hT
  have HAt := hide (show dgs s p ≠ [] → Lib.atoiAll (dgs s p) = .ok ((num 0 (dgs s p) : Nat) : Int) ∨ Lib.atoiAll (dgs s p) = .range ∧ 4096 < num 0 (dgs s p) from fun hne => by
    cases e : dgs s p with
    | nil => exact absurd e hne
    | cons c r => rw [e] at hall; exact atoi_num c r hall)
  generalize dgs s p = d at *
  obtain ⟨dA, hdA⟩ : ∃ dA : ByteArray, dA = ⟨d.toArray⟩ := ⟨_, rfl⟩
  rw [← hdA] at htk
  have hdAs : dA.size = d.length := by rw [hdA]; rfl
  have hdAl : dA.data.toList = d := by rw [hdA]
  have q0 : (0 : Int) ≤ (p : Int) := by omega
  have q1 : (p : Int) ≤ (s.size : Int) := by omega
  have hEq := hide hR.symm
  obtain ⟨k, hk⟩ : ∃ k, k = d.length := ⟨_, rfl⟩
  have k1 : (R.size : Int) - (tA.size : Int) = (k : Int) := by omega
  have k2 : (0 : Int) ≤ (k : Int) := by omega
  have k3 : (k : Int) ≤ (R.size : Int) := by omega
  have k4 : p + k ≤ 65536 := by omega
  have hRs9 : R.size ≤ 65536 := by omega
  rw [← hk] at htk
  have Htk := hide htk
  have Hc := hide hc
  have HdA := hide hdA
  have Hk := hide hk
  have HdAs := hide hdAs
  have HdAl := hide hdAl
  clear hR hall htk hc hdA hk hdAs hdAl htl hdl hRs
  go_enter Tryd.func50, Tryd.ntmps50
  go_wp2_with fail
  go_quiet (fail)
  rw [unhide hEq]
  have HR2 := hide ((unhide HR).keep (Joins.below_draws _ W nq))
  have HK2 := hide (show Kept (fun i => i = rb) W (W.drewN nq) from Kept.of (Joins.below_draws _ _ _))
  generalize W.drewN nq = w2 at *
  clear c0 c1
  go_wp2_with fail
  refine (unhide HTr _).mono ?_
  rintro e w3 ⟨rfl, hb3⟩
  have HR3 := hide ((unhide HR2).keep hb3)
  have HK3 := hide ((unhide HK2).below hb3)
  clear hb3 HR2 HK2 HTr
  rcases unhide Hc with ⟨hd0, rfl, rfl, rfl⟩ | ⟨hd0, hbig, rfl, rfl, rfl⟩ | ⟨hd0, hsm, rfl, rfl, rfl⟩
  · by_cases hn : d = []
    · have hz : dA = ⟨#[]⟩ := by rw [unhide HdA, hn]
      have hz0 : dA.size = 0 := by rw [hz]; rfl
      have hz1 : (dA.toList == ([] : List UInt8)) = true := by rw [hz]; decide +kernel
      have hz2 : dA.toList.isEmpty = true := by rw [hz]; decide +kernel
      clear hz
      go_upto_region 3 with fail
      rw [unhide Htk]
      go_wp2_with fail
      refine bodyPost_ret (v := .tuple #[.int .i64 0, .int .i64 2]) (by simp [results, Tryd.results50, go_sem]) rfl ?_
      exact CtIs.mk (unhide HR3) (unhide HK3)
    · have hz0 : 0 < dA.size := by rw [unhide HdAs]; exact List.length_pos_iff.2 hn
      have hz1 : (dA.toList == ([] : List UInt8)) = false := toList_ne hz0
      have hz2 : dA.toList.isEmpty = false := toList_nn hz0
      have hh := dA_head (unhide HdA) hz0
      rw [decide_eq_true (hd0.resolve_left hn)] at hh
      have hz3 : (0 : Int) < (dA.size : Int) := by omega
      clear hd0
      go_upto_region 3 with fail
      rw [unhide Htk]
      go_wp2_with fail
      refine bodyPost_ret (v := .tuple #[.int .i64 0, .int .i64 2]) (by simp [results, Tryd.results50, go_sem]) rfl ?_
      exact CtIs.mk (unhide HR3) (unhide HK3)
  · obtain ⟨hn, hn2⟩ := not_or.1 hd0
    have hz0 : 0 < dA.size := by rw [unhide HdAs]; exact List.length_pos_iff.2 hn
    have hz1 : (dA.toList == ([] : List UInt8)) = false := toList_ne hz0
    have hz2 : dA.toList.isEmpty = false := toList_nn hz0
    have hh := dA_head (unhide HdA) hz0
    rw [decide_eq_false hn2] at hh
    have hz3 : (0 : Int) < (dA.size : Int) := by omega
    have hz4 : dA.size ≤ 65536 := by rw [unhide HdAs, ← unhide Hk]; omega
    have Hbig := hide hbig
    have HA := hide (unhide HAt hn)
    clear hd0 hn2 hbig HAt
    rcases unhide HA with ha | ⟨ha, -⟩
    · have hl : dA.size ≤ 9223372036854775806 := by omega
      have HC := hide (fun w => Tryd.strconv_Atoi_ok dA hl _ (by rw [unhide HdAl]; exact ha) w)
      obtain ⟨nv, hnv⟩ : ∃ nv, nv = num 0 d := ⟨_, rfl⟩
      rw [← hnv] at HC
      have g1 : (4096 : Int) < (nv : Int) := by rw [hnv]; have := unhide Hbig; omega
      clear ha hl
      have Hnv := hide hnv
      clear hnv
      go_upto_region 3 with fail
      rw [unhide Htk]
      go_wp2_with fail
      refine (unhide HC _).mono ?_
      rintro e w4 ⟨rfl, hb4⟩
      replace hb4 := at_below hb4
      go_wp2_with fail
      refine bodyPost_ret (v := .tuple #[.int .i64 0, .int .i64 3]) (by simp [results, Tryd.results50, go_sem]) rfl ?_
      exact CtIs.mk ((unhide HR3).keep hb4) ((unhide HK3).below hb4)
    · have hl : dA.size ≤ 281474976710656 := by omega
      obtain ⟨ev, v1, v2⟩ := unhide Hev _ (unhide HR3).2.2.2
      have HC := hide (Tryd.strconv_Atoi_range dA hl (by rw [unhide HdAl]; exact ha) ev w3 v1 v2)
      clear ha hl v1 v2
      generalize Lib.atoiSat dA.data.toList = sat at *
      go_upto_region 3 with fail
      rw [unhide Htk]
      go_wp2_with fail
      refine (unhide HC).mono ?_
      rintro e w4 ⟨N, rfl, -, -, hb4⟩
      go_wp2_with fail
      refine bodyPost_ret (v := .tuple #[.int .i64 0, .int .i64 3]) (by simp [results, Tryd.results50, go_sem]) rfl ?_
      exact CtIs.mk ((unhide HR3).keep hb4) ((unhide HK3).below hb4)
  · obtain ⟨hn, hn2⟩ := not_or.1 hd0
    have hz0 : 0 < dA.size := by rw [unhide HdAs]; exact List.length_pos_iff.2 hn
    have hz1 : (dA.toList == ([] : List UInt8)) = false := toList_ne hz0
    have hz2 : dA.toList.isEmpty = false := toList_nn hz0
    have hh := dA_head (unhide HdA) hz0
    rw [decide_eq_false hn2] at hh
    have hz3 : (0 : Int) < (dA.size : Int) := by omega
    have hz4 : dA.size ≤ 65536 := by rw [unhide HdAs, ← unhide Hk]; omega
    have ha : Lib.atoiAll d = .ok ((num 0 d : Nat) : Int) := (unhide HAt hn).resolve_right fun h => by omega
    have hl : dA.size ≤ 9223372036854775806 := by omega
    have HC := hide (fun w => Tryd.strconv_Atoi_ok dA hl _ (by rw [unhide HdAl]; exact ha) w)
    obtain ⟨nv, hnv⟩ : ∃ nv, nv = num 0 d := ⟨_, rfl⟩
    rw [← hnv] at HC Hc
    have g1 : (nv : Int) ≤ 4096 := by omega
    have hz5 : dA.size = k := by rw [unhide HdAs, unhide Hk]
    obtain ⟨p9, hp9⟩ : ∃ p9, p9 = p + d.length := ⟨_, rfl⟩
    have e9 : (p : Int) + (dA.size : Int) = (p9 : Int) := by rw [hz5, unhide Hk]; omega
    rw [← hp9] at Hc ⊢
    rw [← hnv]
    have Hp9 := hide hp9
    have Hnv := hide hnv
    clear ha hl hd0 hn2 HAt hnv hsm hp9
    go_upto_region 3 with fail
    rw [unhide Htk]
    go_wp2_with fail
    refine (unhide HC _).mono ?_
    rintro e w4 ⟨rfl, hb4⟩
    replace hb4 := at_below hb4
    have HR4 := hide ((unhide HR3).keep hb4)
    have HK4 := hide ((unhide HK3).below hb4)
    clear hb4 HR3 HK3 HC
    obtain ⟨-, ⟨c0, c1⟩, fz, -⟩ := unhide HR4
    have f1 := fz 1
    clear fz
    have HP := hide ((unhide HR4).put p9)
    have HK := hide ((unhide HK4).set 1 (.int .i64 (p9 : Int)) (.inl rfl : (fun i => i = rb) rb ∨ W.heap.size ≤ rb))
    go_wp2
    refine bodyPost_ret (v := .tuple #[.int .i64 (nv : Int), .int .i64 0]) (by simp [results, Tryd.results50, go_sem]) rfl ?_
    have e8 : (p : Int) + (k : Int) = ((p + d.length : Nat) : Int) := by rw [unhide Hk]; omega
    rw [e8, ← unhide Hnv]
    exact CtIs.mk ((unhide HR4).put _) ((unhide HK4).set 1 _ (.inl rfl : (fun i => i = rb) rb ∨ W.heap.size ≤ rb))
theorem ct_of (s : ByteArray) (p : Nat) : CtOf (dgs s p) p (if cE (dgs s p) = 0 then ((num 0 (dgs s p) : Nat) : Int) else 0) (cE (dgs s p)) (if cE (dgs s p) = 0 then p + (dgs s p).length else p) := by
  unfold CtOf cE
  by_cases h1 : dgs s p = [] ∨ (dgs s p).head? = some 48
  · rw [if_pos h1, if_neg (by decide), if_neg (by decide)]
    exact .inl ⟨h1, rfl, rfl, rfl⟩
  · rw [if_neg h1]
    by_cases h2 : 4096 < num 0 (dgs s p)
    · rw [if_pos h2, if_neg (by decide), if_neg (by decide)]
      exact .inr (.inl ⟨h1, h2, rfl, rfl, rfl⟩)
    · rw [if_neg h2, if_pos rfl, if_pos rfl]
      exact .inr (.inr ⟨h1, by omega, rfl, rfl, rfl⟩)
theorem count_any (W0 W : World) (rb : Nat) (s : ByteArray) (p : Nat) (hs : s.size ≤ 65536) (hp : p ≤ s.size) (hT : RTabs W0) (h : Rdr W0 rb s p W) :
    Calls Tryd.prog 50 #[.pointer (some ⟨rb, 0, none⟩)] W (CtIs W0 rb s W (if cE (dgs s p) = 0 then ((num 0 (dgs s p) : Nat) : Int) else 0) (cE (dgs s p)) (if cE (dgs s p) = 0 then p + (dgs s p).length else p)) :=
  count_core W0 W rb s p _ _ _ hs hp hT h (ct_of s p)
end Go.Proofs.YtbnjjkanokmakaaDoor
