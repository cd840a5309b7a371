/-
  Print of package sett.
-/
import Derived.Test.YtbnjjkanokmakaaDoorSW
import Derived.Test.YtbnjjkanokmakaaDoorSP
import Derived.Test.YtbnjjkanokmakaaDoorSC
namespace Go.Proofs.YtbnjjkanokmakaaDoor
open Go.RowKit

theorem g12_0 {a0 a1 a2 a3 a4 a5 a6 a7 a8 a9 a10 a11 : Oper} : (#[a0, a1, a2, a3, a4, a5, a6, a7, a8, a9, a10, a11] : Array Oper)[0]? = some a0 := rfl
theorem g12_1 {a0 a1 a2 a3 a4 a5 a6 a7 a8 a9 a10 a11 : Oper} : (#[a0, a1, a2, a3, a4, a5, a6, a7, a8, a9, a10, a11] : Array Oper)[1]? = some a1 := rfl
theorem g12_2 {a0 a1 a2 a3 a4 a5 a6 a7 a8 a9 a10 a11 : Oper} : (#[a0, a1, a2, a3, a4, a5, a6, a7, a8, a9, a10, a11] : Array Oper)[2]? = some a2 := rfl
theorem g12_3 {a0 a1 a2 a3 a4 a5 a6 a7 a8 a9 a10 a11 : Oper} : (#[a0, a1, a2, a3, a4, a5, a6, a7, a8, a9, a10, a11] : Array Oper)[3]? = some a3 := rfl
theorem g12_4 {a0 a1 a2 a3 a4 a5 a6 a7 a8 a9 a10 a11 : Oper} : (#[a0, a1, a2, a3, a4, a5, a6, a7, a8, a9, a10, a11] : Array Oper)[4]? = some a4 := rfl
theorem g12_5 {a0 a1 a2 a3 a4 a5 a6 a7 a8 a9 a10 a11 : Oper} : (#[a0, a1, a2, a3, a4, a5, a6, a7, a8, a9, a10, a11] : Array Oper)[5]? = some a5 := rfl
theorem g12_6 {a0 a1 a2 a3 a4 a5 a6 a7 a8 a9 a10 a11 : Oper} : (#[a0, a1, a2, a3, a4, a5, a6, a7, a8, a9, a10, a11] : Array Oper)[6]? = some a6 := rfl
theorem g12_7 {a0 a1 a2 a3 a4 a5 a6 a7 a8 a9 a10 a11 : Oper} : (#[a0, a1, a2, a3, a4, a5, a6, a7, a8, a9, a10, a11] : Array Oper)[7]? = some a7 := rfl
theorem g12_8 {a0 a1 a2 a3 a4 a5 a6 a7 a8 a9 a10 a11 : Oper} : (#[a0, a1, a2, a3, a4, a5, a6, a7, a8, a9, a10, a11] : Array Oper)[8]? = some a8 := rfl
theorem g12_9 {a0 a1 a2 a3 a4 a5 a6 a7 a8 a9 a10 a11 : Oper} : (#[a0, a1, a2, a3, a4, a5, a6, a7, a8, a9, a10, a11] : Array Oper)[9]? = some a9 := rfl
theorem g12_10 {a0 a1 a2 a3 a4 a5 a6 a7 a8 a9 a10 a11 : Oper} : (#[a0, a1, a2, a3, a4, a5, a6, a7, a8, a9, a10, a11] : Array Oper)[10]? = some a10 := rfl
theorem g12_11 {a0 a1 a2 a3 a4 a5 a6 a7 a8 a9 a10 a11 : Oper} : (#[a0, a1, a2, a3, a4, a5, a6, a7, a8, a9, a10, a11] : Array Oper)[11]? = some a11 := rfl

theorem info9 : (Tryd.prog.info? 9).map (fun i => (i.zero, i.size, i.bytes)) = some (some (.string ⟨#[]⟩), 1, 16) := by kernel_rfl
/-- the powers of ten lie in a world -/
def Pow (W : World) : Prop := Lib.TabIs Tryd.prog W "internal/strconv.uint64pow10" .u64 Lib.pow10Tab
theorem gPow : Tryd.prog.globalNamed "internal/strconv.uint64pow10" = some 1 := by kernel_rfl
theorem Pow.keep {W V : World} (h : Pow W) (hb : Below W.heap.size W V) : Pow V := Joins.tab_stays gPow h hb (Nat.le_refl _)
theorem below_grow (w : World) (k : Nat) (os : Array Obj) : Below w.heap.size w (Sort.grow (w.drewN k) os) := by
  refine ⟨rfl, rfl, rfl, ?_, fun j hj => ?_⟩
  · simp [Sort.grow, World.drewN]
  · simp only [Sort.grow, World.drewN]
    rw [Array.getElem?_append_left hj]
/-- texts, as a row has them -/
def tsV (l : List St) : List Value := l.map fun x => Value.string (sbA x)
theorem tsV_len (l : List St) : (tsV l).length = l.length := by simp [tsV]
theorem enc_sg (c : Int) (h : 0 ≤ c ∧ c ≤ 61) : Utf8.encode (sg c) = ⟨(sb c).toArray⟩ := by
  have key : ∀ n : Nat, n < 62 → (Utf8.encode (sg n)).data = (sb n).toArray := by decide +kernel
  obtain ⟨n, rfl⟩ : ∃ n : Nat, c = n := ⟨c.toNat, by omega⟩
  have := key n (by omega)
  rw [← this]
theorem ba_app (a b : List UInt8) : (⟨a.toArray⟩ : ByteArray) ++ ⟨b.toArray⟩ = ⟨(a ++ b).toArray⟩ := by
  apply ByteArray.ext
  simp
theorem ba_size (a : List UInt8) : (⟨a.toArray⟩ : ByteArray).size = a.length := rfl
theorem sg_i32 (c : Int) : 0 ≤ sg c ∧ sg c ≤ 9608 ∨ sg c = 63 := by
  unfold sg
  repeat' split
  all_goals omega
theorem str_one (s : ByteArray) : ∀ u ∈ [Value.string s], u.oneCell' = true := by intro u hu; obtain rfl := List.mem_singleton.1 hu; rfl
theorem B2.but {S : Nat → Prop} {w V : World} {g : Nat} {a b : Int} (h : B2 w g a b) (k : Kept S w V) (hS : ¬ S g) : B2 V g a b :=
  ⟨Nat.lt_of_lt_of_le h.1 k.size, k.cell h.1 hS h.2.1, k.cell h.1 hS h.2.2⟩
theorem own_cap {w : World} {B n cap z : Nat} {e : TypeId} {q : Option Addr} {xs : List Value} (h : w.ownsRow B e z (.slice q n cap) n xs) : n ≤ cap := by
  rcases h.2 with ⟨e, -⟩ | ⟨g, c, cur, e, -, -, hc, -⟩
  · injection e with e1 e2 e3
    omega
  · injection e with e1 e2 e3
    omega
/-- a text and an error are told -/
def PrIs (W : World) (pv : Bool) (l : List St) (e : Ending) (V : World) : Prop := Below W.heap.size W V ∧ if wE pv l = 0 then e = .returned (.tuple #[.string ⟨(prB pv l).toArray⟩, .int .i64 0]) else e = .returned (.tuple #[.string ⟨#[]⟩, .int .i64 (wE pv l)])
theorem PrIs.bad {W V : World} {pv : Bool} {l : List St} (h : wE pv l ≠ 0) (hb : Below W.heap.size W V) : PrIs W pv l (.returned (.tuple #[.string ⟨#[]⟩, .int .i64 (wE pv l)])) V := by
  unfold PrIs; rw [if_neg h]; exact ⟨hb, rfl⟩
theorem PrIs.good {W V : World} {pv : Bool} {l : List St} {s : ByteArray} (h : wE pv l = 0) (hs : s = ⟨(prB pv l).toArray⟩) (hb : Below W.heap.size W V) : PrIs W pv l (.returned (.tuple #[.string s, .int .i64 0])) V := by
  unfold PrIs; rw [if_pos h, hs]; exact ⟨hb, rfl⟩

set_option maxRecDepth 100000 in
theorem print_bad (pv : Bool) (q : Option Addr) (l : List St) (cap : Nat) (W : World) (hP : Sl W q l) (he : wE pv l ≠ 0) : Calls Tryd.prog 17 #[sV pv q l.length cap] W (PrIs W pv l) := by
  have HC := hide (fun V (hb : Below W.heap.size W V) => wrong_any pv q l cap V (hP.keep hb))
  have Hf := hide (fun V (hb : Below W.heap.size W V) => PrIs.bad he hb)
  have h1 : (wE pv l != 0) = true := by simpa using he
  have HB := hide (BS.new W pv (.slice q l.length cap) 24)
  have Hb := hide (bnew W (.cells #[.bool pv, .slice q l.length cap] 24))
  unfold sV at *
  clear hP he
  generalize wE pv l = r at *
  generalize l.length = n at *
  go_enter Tryd.func17, Tryd.ntmps17
  go_upto_region 1 with fail
  generalize W.alloc (.cells #[.bool pv, .slice q n cap] 24) = w1 at *
  generalize hbx : W.heap.size = bx at *
  obtain ⟨hlx, c0, c1⟩ := unhide HB
  have hbb := unhide Hb
  go_wp2_with fail
  refine (unhide HC _ hbb).mono ?_
  rintro e w2 ⟨rfl, hb2⟩
  go_wp2
  exact bodyPost_ret (v := .tuple #[.string ⟨#[]⟩, .int .i64 r]) (by simp [results, Tryd.results17, go_sem]) rfl (unhide Hf _ (hbb.trans (hb2.mono (by omega))))

set_option maxRecDepth 100000 in
set_option maxHeartbeats 4000000 in
theorem print_ok (pv : Bool) (q : Option Addr) (l : List St) (cap : Nat) (W : World) (hP : Sl W q l) (hT : Tab W) (hW : Pow W) (he : wE pv l = 0) : Calls Tryd.prog 17 #[sV pv q l.length cap] W (PrIs W pv l) := by
  have hok := ok_of he
  have HC := hide (fun V (hb : Below W.heap.size W V) => wrong_any pv q l cap V (hP.keep hb))
  rw [he] at HC
  have Hf := hide (fun V s (hs : s = (⟨(prB pv l).toArray⟩ : ByteArray)) (hb : Below W.heap.size W V) => PrIs.good he hs hb)
  have Hea := hide hok.each
  have Hfew := hide hok.few
  have Hap := hide (fun k (hk : k < l.length) => show tsV (l.take (k + 1)) = tsV (l.take k) ++ [.string (sbA (ca l k, cb l k))] by rw [take_succ l (0, 0) hk]; simp [tsV, ca, cb])
  have Htl := hide (show ∀ k, k ≤ l.length → (tsV (l.take k)).length = k from fun k hk => by rw [tsV_len]; simp; omega)
  have Hal := hide (show tsV (l.take l.length) = tsV l by rw [List.take_length])
  have Hml := hide (show (l.map sbA).length = l.length by simp)
  have Hjn := hide (show (Lib.join ((l.map sbA).map (·.data.toList)) [32]).length ≤ 1050112 ∧ Lib.join ((l.map sbA).map (·.data.toList)) [32] = prL l from by
    have e : (l.map sbA).map (·.data.toList) = l.map stB := by simp [sbA]
    rw [e]
    refine ⟨?_, rfl⟩
    have := prL_len l (fun x hx => by obtain ⟨k, hk, rfl⟩ := List.mem_iff_getElem.1 hx; have := (hok.each k hk).2; unfold cb at this; rwa [getD_lt _ _ hk] at this)
    have := hok.few
    show (prL l).length ≤ 1050112
    omega)
  have Hcl := hide (fun (W : World) (B g cp : Nat) (h : W.ownsRow B 9 1 (.slice (some ⟨g, 0, none⟩) l.length cp) l.length (tsV l)) => show ∀ (j : Nat) x, (l.map sbA)[j]? = some x → W.cell? ⟨g, 0 + j, none⟩ = some (.string x) from fun j x hx => by
    have hj : j < l.length := by have := (List.getElem?_eq_some_iff.1 hx).1; simpa using this
    rw [Nat.zero_add, World.ownsRow.cellAt h j (by omega)]
    have e : (tsV l)[j]? = ((l.map sbA)[j]?).map Value.string := by
      unfold tsV
      rw [List.getElem?_map, List.getElem?_map, Option.map_map]
      rfl
    rw [e, hx]; rfl)
  have HP := hide (show Ps W q l.length (ca l) (cb l) from hP)
  have HT := hide hT
  have HPw := hide hW
  have HB := hide (BS.new W pv (.slice q l.length cap) 24)
  have Hb := hide (bnew W (.cells #[.bool pv, .slice q l.length cap] 24))
  unfold sV at *
  clear hP he hok hT hW
  generalize l.length = n at *
  go_enter Tryd.func17, Tryd.ntmps17
  go_upto_region 1 with fail
  generalize W.alloc (.cells #[.bool pv, .slice q n cap] 24) = w1 at *
  generalize hbx : W.heap.size = bx at *
  obtain ⟨hlx, c0, c1⟩ := unhide HB
  have hbb := unhide Hb
  go_wp2_with fail
  refine (unhide HC _ hbb).mono ?_
  rintro e w2 ⟨rfl, hb2⟩
  have Hb2 := hide (hbb.trans (hb2.mono (by omega : bx ≤ w1.heap.size)))
  have HB2 := hide ((unhide HB).keep hb2)
  clear hb2 hbb c0 c1 hlx HB Hb HC
  have HP2 := hide ((unhide HP).keep (by rw [hbx]; exact unhide Hb2))
  have HT2 := hide ((unhide HT).keep (by rw [hbx]; exact unhide Hb2))
  have HW2 := hide ((unhide HPw).keep (by rw [hbx]; exact unhide Hb2))
  clear HP HT HPw
  obtain ⟨hlx, c0, c1⟩ := unhide HB2
  go_wp2
  clear hlx c0 c1
  go_loopw [5, 17] (fun ov i wr => ∃ (x cp : Nat) (qo : Option Addr), x ≤ n ∧ i = .int .i64 (x : Int) ∧ ov = .slice qo x cp ∧ wr.ownsRow w2.heap.size 9 1 (.slice qo x cp) x (tsV (l.take x)) ∧ Below w2.heap.size w2 wr) (fun _ i _ => n - (intOf i).toNat)
  case atStart => exact ⟨0, 0, none, by omega, rfl, rfl, World.ownsRow_nil _ _ _ _, Below.refl _ _⟩
  case round =>
    obtain ⟨x, cp, qo, hx, rfl, rfl, hO, hb⟩ := hrel
    have hn9 := (unhide Hfew).2
    by_cases hlt : x < n
    · obtain ⟨ad0, oo, rfl, k0, k1⟩ := ((unhide HP2).keep hb).at hlt
      have q0 : (x : Int) < (n : Int) := by omega
      have q1 : (0 : Int) ≤ (x : Int) := by omega
      have bn := bnew wr (.cells #[.int .i64 (ca l x), .int .i64 (cb l x)] 45)
      have HX := hide (B2.new wr (ca l x) (cb l x) 45)
      have HO4 := hide (own_keep hO bn)
      have Hb4 := hide (hb.trans (bn.mono hb.size))
      have HTw := hide (((unhide HT2).keep hb).keep bn)
      have HWw := hide (((unhide HW2).keep hb).keep bn)
      have Hne := hide (fun k (e : (Value.slice qo x cp).ownBlock = some k) => (hO.lt k e).2)
      have hea := unhide Hea x hlt
      have Hnx := hide (unhide Hap x hlt)
      have Hsb := hide (show (⟨(sb (ca l x)).toArray⟩ : ByteArray) ++ ⟨(Lib.itoa (cb l x)).toArray⟩ = sbA (ca l x, cb l x) from ba_app _ _)
      have hz1 := sb_len (ca l x)
      have hz2 := itoa_len (cb l x) (by omega)
      have HS := hide (fun V hTV => sign_any (ca l x) V (by omega) hTV)
      have HI := hide (fun V hWV => Tryd.strconv_Itoa (cb l x) (by omega) (by omega) V hWV)
      have hen := enc_sg (ca l x) hea.1
      have hs4 := sg_i32 (ca l x)
      clear hb hO bn
      generalize sbA (ca l x, cb l x) = sxy at *
      generalize ca l x = u at *
      generalize hv : cb l x = v at *
      have hw32 : IntKind.i32.wrap (sg u) = sg u := Go.IntWalk.i32_in _ (by omega)
      rw [← ba_size] at hz1 hz2
      generalize (⟨(sb u).toArray⟩ : ByteArray) = sA at *
      generalize (⟨(Lib.itoa v).toArray⟩ : ByteArray) = sB at *
      generalize sg u = sgu at *
      have hsz : ¬ 9223372036854775807 < sA.size + sB.size := by omega
      have Hx9 := hide hx
      clear hz1 hz2 hs4 hea hv
      go_upto_region 8 with fail
      clear k0 k1
      generalize wr.alloc (.cells #[.int .i64 u, .int .i64 v] 45) = w4 at *
      generalize wr.heap.size = n6 at *
      go_wp2_with fail
      have HO8 := hide (own_keep (unhide HO4) (bdrew w4))
      have Hb8 := hide ((unhide Hb4).trans ((bdrew w4).mono (unhide Hb4).size))
      have HTw8 := hide ((unhide HTw).keep (bdrew w4))
      have HWw8 := hide ((unhide HWw).keep (bdrew w4))
      have hS := (unhide HX).keep (bdrew w4)
      clear HO4 Hb4 HTw HWw
      refine wp_region_noPanic ?_
      refine wp_region_held_drew (S := fun V => B2 V n6 u v) (by kernel_rfl) (hS) ?_
      intro _
      generalize w4.drew = w8 at *
      refine wpAnyH_take (i := 0) (oi := _) (v := .slice qo x cp) g12_0 (by kernel_rfl) (by kernel_rfl) (by kernel_rfl) (fun _ _ _ h => h) (Or.inl ⟨by rfl, ?_⟩) (by assumption) ?_
      · intro V hSw
        try dsimp only at hSw
        go_simp
      simp only [Act.put, List.setIfInBounds_toArray, List.set_cons_zero, List.set_cons_succ]
      refine wpAnyH_take (i := 1) (oi := _) (v := .pointer (some ⟨n6, 0, none⟩)) g12_1 (by kernel_rfl) (by kernel_rfl) (by kernel_rfl) (fun _ _ _ h => h) (Or.inl ⟨by rfl, ?_⟩) (by assumption) ?_
      · intro V hSw
        try dsimp only at hSw
        go_simp
      simp only [Act.put, List.setIfInBounds_toArray, List.set_cons_zero, List.set_cons_succ]
      refine wpAnyH_take (i := 2) (oi := _) (v := .int .i64 u) g12_2 (by kernel_rfl) (by kernel_rfl) (by kernel_rfl) (fun _ _ _ h => h) (Or.inl ⟨by rfl, ?_⟩) (by assumption) ?_
      · intro V hSw
        try dsimp only at hSw
        have i0 := hSw.2.1
        go_simp
      simp only [Act.put, List.setIfInBounds_toArray, List.set_cons_zero, List.set_cons_succ]
      refine wpAnyH_take (i := 5) (oi := _) (v := .pointer (some ⟨n6, 1, none⟩)) g12_5 (by kernel_rfl) (by kernel_rfl) (by kernel_rfl) (fun _ _ _ h => h) (Or.inl ⟨by rfl, ?_⟩) (by assumption) ?_
      · intro V hSw
        try dsimp only at hSw
        go_simp
      simp only [Act.put, List.setIfInBounds_toArray, List.set_cons_zero, List.set_cons_succ]
      refine wpAnyH_take (i := 6) (oi := _) (v := .int .i64 v) g12_6 (by kernel_rfl) (by kernel_rfl) (by kernel_rfl) (fun _ _ _ h => h) (Or.inl ⟨by rfl, ?_⟩) (by assumption) ?_
      · intro V hSw
        try dsimp only at hSw
        have i1 := hSw.2.2
        go_simp
      simp only [Act.put, List.setIfInBounds_toArray, List.set_cons_zero, List.set_cons_succ]
      refine wpAnyH_ready (rs := [3]) (by kernel_rfl) (by simp) ?_
      refine AllReadyH.cons (o := _) g12_3 (fun K hK => ?_) AllReadyH.nil
      go_simp
      refine (unhide HS _ (unhide HTw8)).mono ?_
      rintro e w9 ⟨rfl, hb9⟩
      have HO9 := hide (own_keep (unhide HO8) hb9)
      have HW9 := hide ((unhide HWw8).keep hb9)
      have Hb9 := hide ((unhide Hb8).trans (hb9.mono (unhide Hb8).size))
      replace hS := hS.keep hb9
      clear hb9 HS HTw8 HWw8 HO8 Hb8
      refine hK.out _ _ (hS) (fun _ => ?_)
      clear hK K
      refine wpAnyH_take (i := 4) (oi := _) (v := .string sA) g12_4 (by kernel_rfl) (by kernel_rfl) (by kernel_rfl) (fun _ _ _ h => h) (Or.inl ⟨by rfl, ?_⟩) (by assumption) ?_
      · intro V hSw
        try dsimp only at hSw
        go_simp
      simp only [Act.put, List.setIfInBounds_toArray, List.set_cons_zero, List.set_cons_succ]
      refine wpAnyH_ready (rs := [7]) (by kernel_rfl) (by simp) ?_
      refine AllReadyH.cons (o := _) g12_7 (fun K hK => ?_) AllReadyH.nil
      go_simp
      refine (unhide HI _ (unhide HW9)).mono ?_
      rintro e w10 ⟨rfl, kd, os9, rfl⟩
      have bg := below_grow w9 kd os9
      have HO10 := hide (own_keep (unhide HO9) bg)
      have Hb10 := hide ((unhide Hb9).trans (bg.mono (unhide Hb9).size))
      replace hS := hS.keep bg
      generalize Sort.grow (w9.drewN kd) os9 = w10 at *
      clear bg HI HW9 HO9 Hb9
      refine hK.out _ _ (hS) (fun _ => ?_)
      clear hK K
      refine wpAnyH_take (i := 8) (oi := _) (v := .string sxy) g12_8 (by kernel_rfl) (by kernel_rfl) (by kernel_rfl) (fun _ _ _ h => h) (Or.inl ⟨by rfl, ?_⟩) (by assumption) ?_
      · intro V hSw
        try dsimp only at hSw
        have hsx := unhide Hsb
        go_simp
      simp only [Act.put, List.setIfInBounds_toArray, List.set_cons_zero, List.set_cons_succ]
      refine wpAnyH_ready (rs := [9]) (by kernel_rfl) (by simp) ?_
      refine AllReadyH.cons (o := _) g12_9 (fun K hK => ?_) AllReadyH.nil
      go_simp
      have bl := bnew w10 (.cells #[.string sxy] 9)
      have HL := hide (own_lit (B := w2.heap.size) (e := 9) (z := 1) (k := 1) w10 #[.string sxy] (unhide Hb10).size (by unfold maxLen; omega) rfl)
      have HO11 := hide (own_keep (unhide HO10) bl)
      have Hb12 := hide ((unhide Hb10).trans (bl.mono (unhide Hb10).size))
      replace hS := hS.keep bl
      clear bl HO10 Hb10
      refine hK.out _ _ (hS) (fun _ => ?_)
      clear hK K
      refine wpAnyH_ready (rs := [10]) (by kernel_rfl) (by simp) ?_
      refine AllReadyH.cons (o := _) g12_10 (fun K hK => ?_) AllReadyH.nil
      refine wp_app (t := 62) (e := 9) rfl Tryd.underlying62 info9 rfl (by decide) rfl rfl (unhide HO11) (unhide HL) (str_one _) (by unfold maxLen; omega) (by omega) (unhide Hb12).size ?_
      intro v1 w13 ho hgr he
      have Hb13 := hide ((unhide Hb12).grown hgr (unhide Hb12).size (fun k hk => ((unhide HO11).lt k hk).1))
      have hb14 := B2.but hS (grown_kept (S := fun i => (Value.slice qo x cp).ownBlock = some i) hgr (fun r e => .inl e)) (fun e => by have := unhide Hne _ e; omega)
      refine hK.out _ _ (hb14) (fun _ => ?_)
      clear hK K
      obtain ⟨q1, cp1, rfl⟩ := own_form ho
      have HO := hide ho
      clear ho hgr he HO11 HL Hb12 hb14
      refine wpAnyH_take (i := 11) (oi := _) (v := .slice q1 (x + 1) cp1) g12_11 (by kernel_rfl) (by kernel_rfl) (by kernel_rfl) (fun _ _ _ h => h) (Or.inl ⟨by rfl, ?_⟩) (by assumption) ?_
      · intro V hSw
        try dsimp only at hSw
        go_simp
      simp only [Act.put, List.setIfInBounds_toArray, List.set_cons_zero, List.set_cons_succ]
      refine wpAnyH_done (by kernel_rfl) ?_ _
      refine NoPanic.normal ?_
      go_wp2
      go_roundw
      case rel => exact ⟨x + 1, cp1, q1, by omega, by go_num, rfl, by rw [unhide Hnx]; exact unhide HO, unhide Hb13⟩
      case measure => simp [intOf]; omega
    · obtain rfl : x = n := by omega
      have cl : ¬ ((x : Int) < (x : Int)) := by omega
      have hfw := unhide Hfew
      obtain ⟨g, cp2, hsl⟩ := own_slice hO (by omega)
      injection hsl with hs1 hs2 hs3
      subst hs1
      subst hs3
      rw [unhide Hal] at hO
      have hj := unhide Hjn
      have hgl := (hO.lt g rfl).2
      have hcap := own_cap hO
      have HJ := hide (Tryd.strings_Join g 0 cp (l.map sbA) ⟨#[32]⟩ wr (unhide Hcl wr _ g cp hO) hgl (by rw [unhide Hml]; omega) (by rw [unhide Hml]; exact hcap) (by show (Lib.join _ [32]).length ≤ _; omega))
      rw [unhide Hml] at HJ
      obtain ⟨sO, hsO⟩ : ∃ sO : ByteArray, sO = ⟨(Lib.join ((l.map sbA).map (·.data.toList)) (⟨#[32]⟩ : ByteArray).data.toList).toArray⟩ := ⟨_, rfl⟩
      rw [← hsO] at HJ
      have hsO2 : sO = ⟨(prL l).toArray⟩ := by rw [hsO, ← hj.2]
      have hsz : sO.size ≤ 1050112 := by rw [hsO2, ba_size, ← hj.2]; exact hj.1
      have HF0 := hide (show pv = false → sO = ⟨(prB pv l).toArray⟩ from fun h => by rw [hsO2, h]; rfl)
      have HF1 := hide (show pv = true → (⟨#[47]⟩ : ByteArray) ++ sO ++ ⟨#[47]⟩ = ⟨(prB pv l).toArray⟩ from fun h => by
        rw [hsO2, h, show (⟨#[47]⟩ : ByteArray) = ⟨([47] : List UInt8).toArray⟩ from rfl, ba_app, ba_app]
        rfl)
      have HBr := hide ((unhide HB2).keep hb)
      have Hbr := hide ((unhide Hb2).trans (hb.mono (by have := (unhide Hb2).size; omega)))
      clear hb hO hsO hsO2 hj hgl hfw hcap
      go_wp2_with fail
      refine (unhide HJ).mono ?_
      rintro e w9 ⟨rfl, hb9⟩
      have Hb9 := hide ((unhide Hbr).trans (hb9.mono (by have := (unhide Hbr).size; omega)))
      obtain ⟨-, c0, c1⟩ := (unhide HBr).keep hb9
      clear hb9 HBr HB2
      cases pv with
      | false =>
        have HE := hide (unhide Hf _ _ (unhide HF0 rfl) (by first | exact unhide Hb9 | (rw [hbx]; exact unhide Hb9)))
        go_wp2
        exact bodyPost_ret (v := .tuple #[.string sO, .int .i64 0]) (by simp [results, Tryd.results17, go_sem]) rfl (unhide HE)
      | true =>
        have HE := hide (unhide Hf _ _ (unhide HF1 rfl) (by first | exact unhide Hb9 | (rw [hbx]; exact unhide Hb9)))
        have z1 : (⟨#[47]⟩ : ByteArray).size = 1 := rfl
        have z2 : ((⟨#[47]⟩ : ByteArray) ++ sO).size = 1 + sO.size := by rw [ByteArray.size_append]; rfl
        have s1 : ¬ 9223372036854775807 < (⟨#[47]⟩ : ByteArray).size + sO.size := by rw [z1]; omega
        have s2 : ¬ 9223372036854775807 < ((⟨#[47]⟩ : ByteArray) ++ sO).size + (⟨#[47]⟩ : ByteArray).size := by rw [z2, z1]; omega
        clear z1 z2
        obtain ⟨sF, hsF⟩ : ∃ sF : ByteArray, (⟨#[47]⟩ : ByteArray) ++ sO ++ ⟨#[47]⟩ = sF := ⟨_, rfl⟩
        rw [hsF] at HE
        have HsF := hide hsF
        clear hsF
        go_wp2
        exact bodyPost_ret (v := .tuple #[.string sF, .int .i64 0]) (by simp [results, Tryd.results17, go_sem, unhide HsF]) rfl (unhide HE)
theorem print_any (pv : Bool) (q : Option Addr) (l : List St) (cap : Nat) (W : World) (hP : Sl W q l) (hT : Tab W) (hW : Pow W) : Calls Tryd.prog 17 #[sV pv q l.length cap] W (PrIs W pv l) := by
  by_cases he : wE pv l = 0
  · exact print_ok pv q l cap W hP hT hW he
  · exact print_bad pv q l cap W hP he
end Go.Proofs.YtbnjjkanokmakaaDoor
