/-
  The reference: Print.
-/
import Derived.Test.YtbnjjkanokmakaaDoorRS
import Derived.Test.YtbnjjkanokmakaaDoorRT
import Derived.Test.YtbnjjkanokmakaaDoorRB
namespace Go.Proofs.YtbnjjkanokmakaaDoor
open Go.RowKit

theorem h13_0 {a0 a1 a2 a3 a4 a5 a6 a7 a8 a9 a10 a11 a12 : Oper} : (#[a0, a1, a2, a3, a4, a5, a6, a7, a8, a9, a10, a11, a12] : Array Oper)[0]? = some a0 := rfl
theorem h13_1 {a0 a1 a2 a3 a4 a5 a6 a7 a8 a9 a10 a11 a12 : Oper} : (#[a0, a1, a2, a3, a4, a5, a6, a7, a8, a9, a10, a11, a12] : Array Oper)[1]? = some a1 := rfl
theorem h13_2 {a0 a1 a2 a3 a4 a5 a6 a7 a8 a9 a10 a11 a12 : Oper} : (#[a0, a1, a2, a3, a4, a5, a6, a7, a8, a9, a10, a11, a12] : Array Oper)[2]? = some a2 := rfl
theorem h13_3 {a0 a1 a2 a3 a4 a5 a6 a7 a8 a9 a10 a11 a12 : Oper} : (#[a0, a1, a2, a3, a4, a5, a6, a7, a8, a9, a10, a11, a12] : Array Oper)[3]? = some a3 := rfl
theorem h13_4 {a0 a1 a2 a3 a4 a5 a6 a7 a8 a9 a10 a11 a12 : Oper} : (#[a0, a1, a2, a3, a4, a5, a6, a7, a8, a9, a10, a11, a12] : Array Oper)[4]? = some a4 := rfl
theorem h13_5 {a0 a1 a2 a3 a4 a5 a6 a7 a8 a9 a10 a11 a12 : Oper} : (#[a0, a1, a2, a3, a4, a5, a6, a7, a8, a9, a10, a11, a12] : Array Oper)[5]? = some a5 := rfl
theorem h13_6 {a0 a1 a2 a3 a4 a5 a6 a7 a8 a9 a10 a11 a12 : Oper} : (#[a0, a1, a2, a3, a4, a5, a6, a7, a8, a9, a10, a11, a12] : Array Oper)[6]? = some a6 := rfl
theorem h13_7 {a0 a1 a2 a3 a4 a5 a6 a7 a8 a9 a10 a11 a12 : Oper} : (#[a0, a1, a2, a3, a4, a5, a6, a7, a8, a9, a10, a11, a12] : Array Oper)[7]? = some a7 := rfl
theorem h13_8 {a0 a1 a2 a3 a4 a5 a6 a7 a8 a9 a10 a11 a12 : Oper} : (#[a0, a1, a2, a3, a4, a5, a6, a7, a8, a9, a10, a11, a12] : Array Oper)[8]? = some a8 := rfl
theorem h13_9 {a0 a1 a2 a3 a4 a5 a6 a7 a8 a9 a10 a11 a12 : Oper} : (#[a0, a1, a2, a3, a4, a5, a6, a7, a8, a9, a10, a11, a12] : Array Oper)[9]? = some a9 := rfl
theorem h13_10 {a0 a1 a2 a3 a4 a5 a6 a7 a8 a9 a10 a11 a12 : Oper} : (#[a0, a1, a2, a3, a4, a5, a6, a7, a8, a9, a10, a11, a12] : Array Oper)[10]? = some a10 := rfl
theorem h13_11 {a0 a1 a2 a3 a4 a5 a6 a7 a8 a9 a10 a11 a12 : Oper} : (#[a0, a1, a2, a3, a4, a5, a6, a7, a8, a9, a10, a11, a12] : Array Oper)[11]? = some a11 := rfl
theorem h13_12 {a0 a1 a2 a3 a4 a5 a6 a7 a8 a9 a10 a11 a12 : Oper} : (#[a0, a1, a2, a3, a4, a5, a6, a7, a8, a9, a10, a11, a12] : Array Oper)[12]? = some a12 := rfl
set_option maxRecDepth 100000 in
theorem rprint_bad (pv : Bool) (q : Option Addr) (l : List St) (cap : Nat) (W : World) (hP : Sl W q l) (he : wE pv l ≠ 0) : Calls Tryd.prog 18 #[sV pv q l.length cap] W (PrIs W pv l) := by
  have HC := hide (fun V (hb : Below W.heap.size W V) => rwrong_any pv q l cap V (hP.keep hb))
  have Hf := hide (fun V (hb : Below W.heap.size W V) => PrIs.bad he hb)
  have h1 : (wE pv l != 0) = true := by simpa using he
  have HB := hide (BS.new W pv (.slice q l.length cap) 24)
  have Hb := hide (bnew W (.cells #[.bool pv, .slice q l.length cap] 24))
  unfold sV at *
  clear hP he
  generalize wE pv l = r at *
  generalize l.length = n at *
  go_enter Tryd.func18, Tryd.ntmps18
  go_upto_region 1 with fail
  generalize W.alloc (.cells #[.bool pv, .slice q n cap] 24) = w1 at *
  generalize hbx : W.heap.size = bx at *
  obtain ⟨hlx, c0, c1⟩ := unhide HB
  have hbb := unhide Hb
  go_wp2_with fail
  refine (unhide HC _ hbb).mono ?_
  rintro e w2 ⟨rfl, hb2⟩
  go_wp2
  exact bodyPost_ret (v := .tuple #[.string ⟨#[]⟩, .int .i64 r]) (by simp [results, Tryd.results18, go_sem]) rfl (unhide Hf _ (hbb.trans (hb2.mono (by omega))))

set_option maxRecDepth 100000 in
set_option maxHeartbeats 4000000 in
theorem rprint_ok (pv : Bool) (q : Option Addr) (l : List St) (cap : Nat) (W : World) (hP : Sl W q l) (he : wE pv l = 0) : Calls Tryd.prog 18 #[sV pv q l.length cap] W (PrIs W pv l) := by
  have hok := ok_of he
  have HC := hide (fun V (hb : Below W.heap.size W V) => rwrong_any pv q l cap V (hP.keep hb))
  rw [he] at HC
  have Hf := hide (fun V s (hs : s = (⟨(prB pv l).toArray⟩ : ByteArray)) (hb : Below W.heap.size W V) => PrIs.good he hs hb)
  have Hea := hide hok.each
  have Hfew := hide hok.few
  have hbd : ∀ x ∈ l, 1 ≤ x.2 ∧ x.2 ≤ 4096 := fun x hx => by obtain ⟨k, hk, rfl⟩ := List.mem_iff_getElem.1 hx; have := (hok.each k hk).2; unfold cb at this; rwa [getD_lt _ _ hk] at this
  have Hln := hide (show ∀ x, x ≤ l.length → (sqL (l.take x)).length ≤ 1050112 from fun x hx => by
    have := sqL_len (l.take x) (fun y hy => hbd y (List.mem_of_mem_take hy))
    have h2 : (l.take x).length = x := by simp; omega
    have := hok.few
    omega)
  have Hap := hide (fun k (hk : k < l.length) => show sqL (l.take (k + 1)) = sqL (l.take k) ++ [32] ++ sb (ca l k) ++ Lib.itoa (cb l k) by rw [take_succ l (0, 0) hk, sqL_snoc]; simp [stB, ca, cb])
  have Hall := hide (show sqL (l.take l.length) = 32 :: prL l by rw [List.take_length]; exact sqL_prL l (by have := hok.few; rintro rfl; simp at this))
  have H0 := hide (show sqL (l.take 0) = [] from rfl)
  have HP := hide (show Ps W q l.length (ca l) (cb l) from hP)
  have HB := hide (BS.new W pv (.slice q l.length cap) 24)
  have Hb := hide (bnew W (.cells #[.bool pv, .slice q l.length cap] 24))
  unfold sV at *
  clear hP he hok hbd
  generalize l.length = n at *
  go_enter Tryd.func18, Tryd.ntmps18
  go_upto_region 1 with fail
  generalize W.alloc (.cells #[.bool pv, .slice q n cap] 24) = w1 at *
  generalize hbx : W.heap.size = bx at *
  obtain ⟨hlx, c0, c1⟩ := unhide HB
  have hbb := unhide Hb
  go_wp2_with fail
  refine (unhide HC _ hbb).mono ?_
  rintro e w2 ⟨rfl, hb2⟩
  have Hb2 := hide (hbb.trans (hb2.mono (by omega : bx ≤ w1.heap.size)))
  have HB2 := hide ((unhide HB).keep hb2)
  clear hb2 hbb c0 c1 hlx HB Hb HC
  have HP2 := hide ((unhide HP).keep (by rw [hbx]; exact unhide Hb2))
  clear HP
  obtain ⟨hlx, c0, c1⟩ := unhide HB2
  go_wp2
  clear hlx c0 c1
  go_loopw [5, 16] (fun ov i wr => ∃ (x : Nat) (u : ByteArray), x ≤ n ∧ i = .int .i64 (x : Int) ∧ ov = .string u ∧ Hid (u = ⟨(sqL (l.take x)).toArray⟩) ∧ Below w2.heap.size w2 wr) (fun _ i _ => n - (intOf i).toNat)
  case atStart => exact ⟨0, ⟨#[]⟩, by omega, rfl, rfl, hide (by rw [unhide H0]), Below.refl _ _⟩
  case round =>
    obtain ⟨x, u9, hx, rfl, rfl, Hu, hb⟩ := hrel
    have hn9 := (unhide Hfew).2
    by_cases hlt : x < n
    · obtain ⟨ad0, oo, rfl, k0, k1⟩ := ((unhide HP2).keep hb).at hlt
      have q0 : (x : Int) < (n : Int) := by omega
      have q1 : (0 : Int) ≤ (x : Int) := by omega
      have bn := bnew wr (.cells #[.int .i64 (ca l x), .int .i64 (cb l x)] 45)
      have HX := hide (B2.new wr (ca l x) (cb l x) 45)
      have Hb4 := hide (hb.trans (bn.mono hb.size))
      have hea := unhide Hea x hlt
      obtain ⟨c, hc⟩ : ∃ c : Nat, ca l x = c := ⟨(ca l x).toNat, by omega⟩
      obtain ⟨v, hv⟩ : ∃ v : Nat, cb l x = v := ⟨(cb l x).toNat, by omega⟩
      have hz0 := unhide Hln x hx
      have hz1 := sb_len (ca l x)
      have hz2 := itoa_len (cb l x) (by omega)
      have hnx := unhide Hap x hlt
      rw [hv, Lib.itoa_nonneg] at hz2 hnx
      have Hs1 := hide (show u9 ++ ⟨([32] : List UInt8).toArray⟩ = ⟨(sqL (l.take x) ++ [32]).toArray⟩ from by rw [unhide Hu, ba_app])
      have Hs2 := hide (show (⟨(sqL (l.take x) ++ [32]).toArray⟩ : ByteArray) ++ ⟨(sb (ca l x)).toArray⟩ = ⟨(sqL (l.take x) ++ [32] ++ sb (ca l x)).toArray⟩ from ba_app _ _)
      have Hs3 := hide (show (⟨(sqL (l.take x) ++ [32] ++ sb (ca l x)).toArray⟩ : ByteArray) ++ ⟨(Lib.decDigits v).toArray⟩ = ⟨(sqL (l.take (x + 1))).toArray⟩ from by rw [ba_app, hnx])
      have z0 : u9.size ≤ 1050112 := by rw [unhide Hu, ba_size]; exact hz0
      have z1 : (⟨(sqL (l.take x) ++ [32]).toArray⟩ : ByteArray).size ≤ 1050113 := by rw [ba_size, List.length_append]; simp only [List.length_cons, List.length_nil]; omega
      have z2 : (⟨(sqL (l.take x) ++ [32] ++ sb (ca l x)).toArray⟩ : ByteArray).size ≤ 1050117 := by rw [ba_size, List.length_append, List.length_append]; simp only [List.length_cons, List.length_nil]; omega
      have HD := hide (fun V => digits_any v V (by omega))
      have hcell := fun (V : World) g cp (h : V.ownsRow V.heap.size 9 1 (.slice (some ⟨g, 0, none⟩) 62 cp) 62 (signCells 62)) => trivial
      clear hcell
      have hc61 : (c : Int) < 62 := by omega
      have hc62 : c < 62 := by omega
      rw [hc] at Hs2 Hs3 z2 hz1 HX Hb4 k0
      rw [hv] at HX Hb4 k1
      rw [← ba_size] at hz1 hz2
      have hv9 : v ≤ 4096 := by omega
      clear hb bn hea hc hv hz0 hnx
      generalize hsA : (⟨(sb ((c : Nat) : Int)).toArray⟩ : ByteArray) = sA at *
      generalize (⟨(Lib.decDigits v).toArray⟩ : ByteArray) = sD at *
      generalize (⟨(sqL (l.take x) ++ [32]).toArray⟩ : ByteArray) = t1 at *
      generalize (⟨(sqL (l.take x) ++ [32] ++ sb ((c : Nat) : Int)).toArray⟩ : ByteArray) = t2 at *
      generalize hT3 : (⟨(sqL (l.take (x + 1))).toArray⟩ : ByteArray) = t3 at *
      have HsT := hide hT3.symm
      clear hT3
      have HsA := hide hsA
      have y1 : ¬ 9223372036854775807 < u9.size + (⟨([32] : List UInt8).toArray⟩ : ByteArray).size := by have e1 : (⟨([32] : List UInt8).toArray⟩ : ByteArray).size = 1 := rfl; rw [e1]; omega
      have y0 : u9.size ≤ 9223372036854775806 := by omega
      have y2 : ¬ 9223372036854775807 < t1.size + sA.size := by omega
      have y3 : ¬ 9223372036854775807 < t2.size + sD.size := by omega
      have Hx9 := hide hx
      clear hz1 hz2 z0 z1 z2 hsA
      go_upto_region 8 with fail
      clear k0 k1
      generalize wr.alloc (.cells #[.int .i64 ((c : Nat) : Int), .int .i64 ((v : Nat) : Int)] 45) = w4 at *
      generalize wr.heap.size = n6 at *
      go_wp2_with fail
      have Hb8 := hide ((unhide Hb4).trans ((bdrew w4).mono (unhide Hb4).size))
      have hS := (unhide HX).keep (bdrew w4)
      clear Hb4
      refine wp_region_noPanic ?_
      refine wp_region_held_drew (S := fun V => B2 V n6 (c : Int) (v : Int)) (by kernel_rfl) (hS) ?_
      intro _
      generalize w4.drew = w8 at *
      refine wpAnyH_take (i := 0) (oi := _) (v := .string u9) h13_0 (by kernel_rfl) (by kernel_rfl) (by kernel_rfl) (fun _ _ _ h => h) (Or.inl ⟨by rfl, ?_⟩) (by assumption) ?_
      · intro V hSw
        try dsimp only at hSw
        go_simp
      simp only [Act.put, List.setIfInBounds_toArray, List.set_cons_zero, List.set_cons_succ]
      refine wpAnyH_take (i := 1) (oi := _) (v := .string t1) h13_1 (by kernel_rfl) (by kernel_rfl) (by kernel_rfl) (fun _ _ _ h => h) (Or.inl ⟨by rfl, ?_⟩) (by assumption) ?_
      · intro V hSw
        try dsimp only at hSw
        have hs1 := unhide Hs1
        go_simp
      simp only [Act.put, List.setIfInBounds_toArray, List.set_cons_zero, List.set_cons_succ]
      refine wpAnyH_take (i := 3) (oi := _) (v := .pointer (some ⟨n6, 0, none⟩)) h13_3 (by kernel_rfl) (by kernel_rfl) (by kernel_rfl) (fun _ _ _ h => h) (Or.inl ⟨by rfl, ?_⟩) (by assumption) ?_
      · intro V hSw
        try dsimp only at hSw
        go_simp
      simp only [Act.put, List.setIfInBounds_toArray, List.set_cons_zero, List.set_cons_succ]
      refine wpAnyH_take (i := 4) (oi := _) (v := .int .i64 (c : Int)) h13_4 (by kernel_rfl) (by kernel_rfl) (by kernel_rfl) (fun _ _ _ h => h) (Or.inl ⟨by rfl, ?_⟩) (by assumption) ?_
      · intro V hSw
        try dsimp only at hSw
        have i0 := hSw.2.1
        go_simp
      simp only [Act.put, List.setIfInBounds_toArray, List.set_cons_zero, List.set_cons_succ]
      refine wpAnyH_take (i := 8) (oi := _) (v := .pointer (some ⟨n6, 1, none⟩)) h13_8 (by kernel_rfl) (by kernel_rfl) (by kernel_rfl) (fun _ _ _ h => h) (Or.inl ⟨by rfl, ?_⟩) (by assumption) ?_
      · intro V hSw
        try dsimp only at hSw
        go_simp
      simp only [Act.put, List.setIfInBounds_toArray, List.set_cons_zero, List.set_cons_succ]
      refine wpAnyH_take (i := 9) (oi := _) (v := .int .i64 (v : Int)) h13_9 (by kernel_rfl) (by kernel_rfl) (by kernel_rfl) (fun _ _ _ h => h) (Or.inl ⟨by rfl, ?_⟩) (by assumption) ?_
      · intro V hSw
        try dsimp only at hSw
        have i1 := hSw.2.2
        go_simp
      simp only [Act.put, List.setIfInBounds_toArray, List.set_cons_zero, List.set_cons_succ]
      refine wpAnyH_ready (rs := [2]) (by kernel_rfl) (by simp) ?_
      refine AllReadyH.cons (o := _) h13_2 (fun K hK => ?_) AllReadyH.nil
      go_simp
      refine (signs_any _).mono ?_
      rintro e w9 ⟨g9, c9, rfl, ho9, hb9⟩
      have hcl := sign_cell ho9 hc62
      have Hcl := hide hcl
      have hgl := (ho9.lt g9 rfl).2
      have Hb9 := hide ((unhide Hb8).trans (hb9.mono (unhide Hb8).size))
      replace hS := hS.keep hb9
      clear ho9 hb9 hcl Hb8
      refine hK.out _ _ (hS) (fun _ => ?_)
      clear hK K
      refine wpAnyH_take (i := 5) (oi := _) (v := .pointer (some ⟨g9, c, none⟩)) h13_5 (by kernel_rfl) (by kernel_rfl) (by kernel_rfl) (fun _ _ _ h => h) (Or.inl ⟨by rfl, ?_⟩) (by assumption) ?_
      · intro V hSw
        try dsimp only at hSw
        go_simp
      simp only [Act.put, List.setIfInBounds_toArray, List.set_cons_zero, List.set_cons_succ]
      refine wpAnyH_ready (rs := [6, 10]) (by kernel_rfl) (by simp) ?_
      refine (AllReadyH.cons (o := _) h13_6 (fun K hK => ?_) (AllReadyH.cons (o := _) h13_10 (fun K hK => ?_) AllReadyH.nil))
      · have hcl := unhide Hcl
        rw [unhide HsA] at hcl
        go_simp
        refine hK.out _ _ (hS) (fun _ => ?_)
        clear hK K
        refine wpAnyH_take (i := 7) (oi := _) (v := .string t2) h13_7 (by kernel_rfl) (by kernel_rfl) (by kernel_rfl) (fun _ _ _ h => h) (Or.inl ⟨by rfl, ?_⟩) (by assumption) ?_
        · intro V hSw
          try dsimp only at hSw
          have hs2 := unhide Hs2
          go_simp
        simp only [Act.put, List.setIfInBounds_toArray, List.set_cons_zero, List.set_cons_succ]
        refine wpAnyH_ready (rs := [10]) (by kernel_rfl) (by simp) ?_
        refine AllReadyH.cons (o := _) h13_10 (fun K hK => ?_) AllReadyH.nil
        go_simp
        refine (unhide HD _).mono ?_
        rintro e w10 ⟨rfl, rfl⟩
        refine hK.out _ _ (hS) (fun _ => ?_)
        clear hK K
        refine wpAnyH_take (i := 11) (oi := _) (v := .string t3) h13_11 (by kernel_rfl) (by kernel_rfl) (by kernel_rfl) (fun _ _ _ h => h) (Or.inl ⟨by rfl, ?_⟩) (by assumption) ?_
        · intro V hSw
          try dsimp only at hSw
          have hs3 := unhide Hs3
          go_simp
        simp only [Act.put, List.setIfInBounds_toArray, List.set_cons_zero, List.set_cons_succ]
        refine wpAnyH_take (i := 12) (oi := _) (v := .string t3) h13_12 (by kernel_rfl) (by kernel_rfl) (by kernel_rfl) (fun _ _ _ h => h) (Or.inl ⟨by rfl, ?_⟩) (by assumption) ?_
        · intro V hSw
          try dsimp only at hSw
          go_simp
        simp only [Act.put, List.setIfInBounds_toArray, List.set_cons_zero, List.set_cons_succ]
        refine wpAnyH_done (by kernel_rfl) ?_ _
        refine NoPanic.normal ?_
        clear y0 y1 y2 y3
        go_wp2
        go_roundw
        case rel => exact ⟨x + 1, t3, by omega, by go_num, rfl, HsT, unhide Hb9⟩
        case measure => simp [intOf]; omega
      · go_simp
        refine (unhide HD _).mono ?_
        rintro e w10 ⟨rfl, rfl⟩
        refine hK.out _ _ (hS) (fun _ => ?_)
        clear hK K
        refine wpAnyH_ready (rs := [6]) (by kernel_rfl) (by simp) ?_
        refine AllReadyH.cons (o := _) h13_6 (fun K hK => ?_) AllReadyH.nil
        have hcl := unhide Hcl
        rw [unhide HsA] at hcl
        go_simp
        refine hK.out _ _ (hS) (fun _ => ?_)
        clear hK K
        refine wpAnyH_take (i := 7) (oi := _) (v := .string t2) h13_7 (by kernel_rfl) (by kernel_rfl) (by kernel_rfl) (fun _ _ _ h => h) (Or.inl ⟨by rfl, ?_⟩) (by assumption) ?_
        · intro V hSw
          try dsimp only at hSw
          have hs2 := unhide Hs2
          go_simp
        simp only [Act.put, List.setIfInBounds_toArray, List.set_cons_zero, List.set_cons_succ]
        refine wpAnyH_take (i := 11) (oi := _) (v := .string t3) h13_11 (by kernel_rfl) (by kernel_rfl) (by kernel_rfl) (fun _ _ _ h => h) (Or.inl ⟨by rfl, ?_⟩) (by assumption) ?_
        · intro V hSw
          try dsimp only at hSw
          have hs3 := unhide Hs3
          go_simp
        simp only [Act.put, List.setIfInBounds_toArray, List.set_cons_zero, List.set_cons_succ]
        refine wpAnyH_take (i := 12) (oi := _) (v := .string t3) h13_12 (by kernel_rfl) (by kernel_rfl) (by kernel_rfl) (fun _ _ _ h => h) (Or.inl ⟨by rfl, ?_⟩) (by assumption) ?_
        · intro V hSw
          try dsimp only at hSw
          go_simp
        simp only [Act.put, List.setIfInBounds_toArray, List.set_cons_zero, List.set_cons_succ]
        refine wpAnyH_done (by kernel_rfl) ?_ _
        refine NoPanic.normal ?_
        clear y0 y1 y2 y3
        go_wp2
        go_roundw
        case rel => exact ⟨x + 1, t3, by omega, by go_num, rfl, HsT, unhide Hb9⟩
        case measure => simp [intOf]; omega
    · obtain rfl : x = n := by omega
      have cl : ¬ ((x : Int) < (x : Int)) := by omega
      have hu : u9 = ⟨(32 :: prL l).toArray⟩ := by rw [unhide Hu, unhide Hall]
      have hsz9 := unhide Hln x (Nat.le_refl _)
      rw [unhide Hall, List.length_cons] at hsz9
      have hex : u9.extract 1 u9.size = ⟨(prL l).toArray⟩ := by
        rw [hu]
        apply ByteArray.ext
        simp [ByteArray.size]
      have hsz : u9.size ≤ 1050112 ∧ 1 ≤ u9.size := by rw [hu, ba_size, List.length_cons]; omega
      obtain ⟨sO, hsO⟩ : ∃ sO : ByteArray, u9.extract 1 u9.size = sO := ⟨_, rfl⟩
      have hsO2 : sO = ⟨(prL l).toArray⟩ := by rw [← hsO, hex]
      have hszO : sO.size ≤ 1050112 := by rw [hsO2, ba_size]; omega
      have HsO := hide hsO
      have HF0 := hide (show pv = false → sO = ⟨(prB pv l).toArray⟩ from fun h => by rw [hsO2, h]; rfl)
      have HF1 := hide (show pv = true → (⟨#[47]⟩ : ByteArray) ++ sO ++ ⟨#[47]⟩ = ⟨(prB pv l).toArray⟩ from fun h => by
        rw [hsO2, h, show (⟨#[47]⟩ : ByteArray) = ⟨([47] : List UInt8).toArray⟩ from rfl, ba_app, ba_app]
        rfl)
      have HBr := hide ((unhide HB2).keep hb)
      have Hb9 := hide ((unhide Hb2).trans (hb.mono (by have := (unhide Hb2).size; omega)))
      obtain ⟨-, c0, c1⟩ := unhide HBr
      have p1 : (1 : Int) ≤ (u9.size : Int) := by omega
      clear hb hu hex hsO2 HBr HB2 hsz9
      cases pv with
      | false =>
        have HE := hide (unhide Hf _ _ (unhide HF0 rfl) (by first | exact unhide Hb9 | (rw [hbx]; exact unhide Hb9)))
        go_wp2
        exact bodyPost_ret (v := .tuple #[.string sO, .int .i64 0]) (by simp [results, Tryd.results18, go_sem]) rfl (unhide HE)
      | true =>
        have HE := hide (unhide Hf _ _ (unhide HF1 rfl) (by first | exact unhide Hb9 | (rw [hbx]; exact unhide Hb9)))
        have z1 : (⟨#[47]⟩ : ByteArray).size = 1 := rfl
        have z2 : ((⟨#[47]⟩ : ByteArray) ++ sO).size = 1 + sO.size := by rw [ByteArray.size_append]; rfl
        have s1 : ¬ 9223372036854775807 < (⟨#[47]⟩ : ByteArray).size + sO.size := by rw [z1]; omega
        have s2 : ¬ 9223372036854775807 < ((⟨#[47]⟩ : ByteArray) ++ sO).size + (⟨#[47]⟩ : ByteArray).size := by rw [z2, z1]; omega
        clear z1 z2
        obtain ⟨sF, hsF⟩ : ∃ sF : ByteArray, (⟨#[47]⟩ : ByteArray) ++ sO ++ ⟨#[47]⟩ = sF := ⟨_, rfl⟩
        rw [hsF] at HE
        have HsF := hide hsF
        clear hsF
        go_wp2
        exact bodyPost_ret (v := .tuple #[.string sF, .int .i64 0]) (by simp [results, Tryd.results18, go_sem, unhide HsF]) rfl (unhide HE)
theorem rprint_any (pv : Bool) (q : Option Addr) (l : List St) (cap : Nat) (W : World) (hP : Sl W q l) : Calls Tryd.prog 18 #[sV pv q l.length cap] W (PrIs W pv l) := by
  by_cases he : wE pv l = 0
  · exact rprint_ok pv q l cap W hP he
  · exact rprint_bad pv q l cap W hP he
end Go.Proofs.YtbnjjkanokmakaaDoor
