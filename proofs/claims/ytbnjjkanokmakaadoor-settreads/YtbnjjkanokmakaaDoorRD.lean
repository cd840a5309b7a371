/-
  The reference: Threads.
-/
import Derived.Test.YtbnjjkanokmakaaDoorRC
namespace Go.Proofs.YtbnjjkanokmakaaDoor
open Go.RowKit

theorem onL_lo (pv : Bool) (l : List St) (k : Nat) (hk : k < l.length) : (onL pv l).getD k (0, 0) = l.getD k (0, 0) := by
  unfold onL
  split
  · rw [getD_lt _ _ (by rw [List.length_append]; omega), getD_lt _ _ hk, List.getElem_append_left hk]
  · rfl
theorem onL_hi (l : List St) (x : Nat) (hx : x < l.length - 2) : (onL true l).getD (l.length + x) (0, 0) = l.getD (l.length - 2 - x) (0, 0) := by
  unfold onL
  rw [if_pos rfl, getD_lt _ _ (by rw [List.length_append, bkL_len]; omega), List.getElem_append_right (by omega)]
  simp [bkL]
theorem onL_lenT (l : List St) : (onL true l).length = l.length + (l.length - 2) := by unfold onL; rw [if_pos rfl, List.length_append, bkL_len]
theorem onL_lenF (l : List St) : (onL false l).length = l.length := rfl

set_option maxRecDepth 100000 in
theorem rthreads_bad (pv : Bool) (q : Option Addr) (l : List St) (cap : Nat) (W : World) (hP : Sl W q l) (he : wE pv l ≠ 0) : Calls Tryd.prog 13 #[sV pv q l.length cap] W (ThIs W pv l) := by
  have HC := hide (fun V (hb : Below W.heap.size W V) => rwrong_any pv q l cap V (hP.keep hb))
  have Hf := hide (fun V (hb : Below W.heap.size W V) => ThIs.bad he hb)
  have h1 : (wE pv l != 0) = true := by simpa using he
  have HB := hide (BS.new W pv (.slice q l.length cap) 24)
  have Hb := hide (bnew W (.cells #[.bool pv, .slice q l.length cap] 24))
  unfold sV at *
  clear hP he
  generalize wE pv l = r at *
  generalize l.length = n at *
  go_enter Tryd.func13, Tryd.ntmps13
  go_upto_region 1 with fail
  generalize W.alloc (.cells #[.bool pv, .slice q n cap] 24) = w1 at *
  generalize hbx : W.heap.size = bx at *
  obtain ⟨hlx, c0, c1⟩ := unhide HB
  have hbb := unhide Hb
  go_wp2_with fail
  refine (unhide HC _ hbb).mono ?_
  rintro e w2 ⟨rfl, hb2⟩
  go_wp2
  exact bodyPost_ret (v := .tuple #[.slice none 0 0, .int .i64 r]) (by simp [results, Tryd.results13, go_sem]) rfl (unhide Hf _ (hbb.trans (hb2.mono (by omega))))

set_option maxRecDepth 100000 in
set_option maxHeartbeats 4000000 in
theorem rthreads_ok (pv : Bool) (q : Option Addr) (l : List St) (cap : Nat) (W : World) (hP : Sl W q l) (he : wE pv l = 0) : Calls Tryd.prog 13 #[sV pv q l.length cap] W (ThIs W pv l) := by
  have hok := ok_of he
  have hany : l.any byd = false := any_none fun k hk => by have := hok.each k hk; simp [byd]; omega
  have HC := hide (fun V (hb : Below W.heap.size W V) => rwrong_any pv q l cap V (hP.keep hb))
  rw [he] at HC
  have Hf := hide (fun V v (hz : ZR V W.heap.size v (thr (onL pv l))) (hb : Below W.heap.size W V) => ThIs.good he hz hb)
  have Hcb := hide (onL_cb pv l hany)
  have Hpt := hide (thr_part (onL pv l))
  have Htt := hide (fun k (hk : k < (onL pv l).length) => thr_take (onL pv l) hk)
  have Hsz := hide (thr_size hok)
  have Hlo := hide (fun k (hk : k < l.length) => onL_lo pv l k hk)
  have Hhi := hide (fun (hp : pv = true) x (hx : x < l.length - 2) => show (onL pv l).getD (l.length + x) (0, 0) = l.getD (l.length - 2 - x) (0, 0) by rw [hp]; exact onL_hi l x hx)
  have HlT := hide (show pv = true → (onL pv l).length = l.length + (l.length - 2) from fun hp => by rw [hp]; exact onL_lenT l)
  have HlF := hide (show pv = false → (onL pv l).length = l.length from fun hp => by rw [hp]; rfl)
  have Hfew := hide (And.intro hok.few hok.two)
  have Htk := hide (show thr ((onL pv l).take (onL pv l).length) = thr (onL pv l) by rw [List.take_length])
  have HP := hide (show Ps W q l.length (ca l) (cb l) from hP)
  have HB := hide (BS.new W pv (.slice q l.length cap) 24)
  have Hb := hide (bnew W (.cells #[.bool pv, .slice q l.length cap] 24))
  unfold sV at *
  clear hP he hok hany
  generalize l.length = n at *
  generalize onL pv l = L at *
  generalize hm : L.length = m at *
  go_enter Tryd.func13, Tryd.ntmps13
  go_upto_region 1 with fail
  generalize W.alloc (.cells #[.bool pv, .slice q n cap] 24) = w1 at *
  generalize hbx : W.heap.size = bx at *
  obtain ⟨hlx, c0, c1⟩ := unhide HB
  have hbb := unhide Hb
  go_wp2_with fail
  refine (unhide HC _ hbb).mono ?_
  rintro e w2 ⟨rfl, hb2⟩
  have Hb2 := hide (hbb.trans (hb2.mono (by omega : bx ≤ w1.heap.size)))
  have HB2 := hide ((unhide HB).keep hb2)
  clear hb2 hbb c0 c1 hlx HB Hb HC
  have HP2 := hide ((unhide HP).keep (by rw [hbx]; exact unhide Hb2))
  have HO := hide (show Bo w2 w2.heap.size none 0 0 [] (w2.alloc (.cells #[.slice none 0 0] 32)) from
    ⟨⟨Nat.le_refl _, Tg.new _ _ _⟩, by simp [go_sem], by simp [go_sem], World.ownsRow_nil _ _ _ _, bnew _ _⟩)
  have Hl2 := hide (show bx ≤ w2.heap.size by have := (unhide Hb2).size; omega)
  clear HP
  go_upto_region 5 with fail
  generalize w2.alloc (.cells #[.slice none 0 0] 32) = w3 at *
  obtain ⟨ob, hob⟩ : ∃ ob, w2.heap.size = ob := ⟨_, rfl⟩
  rw [hob] at HO
  rw [hob]
  have Hob := hide hob
  clear hob
  obtain ⟨hlx, c0, c1⟩ := (unhide HB2).keep (unhide HO).2.2.2.2
  go_upto_region 6 with fail
  go_wp2
  clear c0 c1 hlx
  go_loopw [19] (fun i wr => ∃ x : Nat, x ≤ n ∧ i = .int .i64 (x : Int) ∧ ∃ qo cp, Bo w2 ob qo (thr (L.take x)).length cp (thr (L.take x)) wr) (fun i _ => n - (intOf i).toNat)
  case atStart => exact ⟨0, by omega, rfl, none, 0, unhide HO⟩
  case round =>
    clear HO
    obtain ⟨x, hx, rfl, qo, cp, hO⟩ := hrel
    have hn9 : n ≤ 256 := (unhide Hfew).1.2
    by_cases hlt : x < n
    · have hb := hO.2.2.2.2
      obtain ⟨ad0, oo, rfl, k0, k1⟩ := ((unhide HP2).keep hb).at hlt
      have q0 : (x : Int) < (n : Int) := by omega
      have q1 : (0 : Int) ≤ (x : Int) := by omega
      have hxm : x < m := by
        cases hpv : pv with
        | true => have := unhide HlT hpv; omega
        | false => have := unhide HlF hpv; omega
      have hs2 := unhide Hcb x hxm
      have hpt := unhide Hpt x hxm
      have Ht1 := hide (unhide Htt x hxm)
      have hsz := unhide Hsz
      have hlo := unhide Hlo x hlt
      have hca : ca L x = ca l x := congrArg Prod.fst hlo
      have hcb : cb L x = cb l x := congrArg Prod.snd hlo
      rw [hcb] at hs2 hpt Ht1
      rw [hca] at Ht1
      obtain ⟨c, hc⟩ : ∃ c : Nat, cb l x = c := ⟨(cb l x).toNat, by omega⟩
      rw [hc] at hs2 hpt Ht1 k1
      have hcn : ((c : Nat) : Int).toNat = c := by omega
      rw [hcn] at hpt Ht1
      have bn := bnew wr (.cells #[.int .i64 (ca l x), .int .i64 (c : Int)] 45)
      have HX := hide (B2.new wr (ca l x) (c : Int) 45)
      have HO2 := hide (hO.keep bn)
      generalize thr (L.take x) = T at *
      have Had := hide (add_any w2 _ ob qo cp T (ca l x) c (unhide HO2) (by omega))
      rw [← unhide Ht1] at Had
      clear hb hO hs2 hpt hsz hlo hca hcb hc hcn bn
      generalize ca l x = u at *
      go_upto_region 9 with fail
      generalize wr.alloc (.cells #[.int .i64 u, .int .i64 (c : Int)] 45) = w4 at *
      generalize wr.heap.size = n6 at *
      clear k0 k1
      obtain ⟨-, i0, i1⟩ := unhide HX
      go_wp2_with fail
      refine (unhide Had).mono ?_
      rintro e w5 ⟨rfl, ⟨q5, c5, hO5⟩, -⟩
      have HO5 := hide hO5
      clear hO5 Had HO2 HX i0 i1 Ht1
      go_wp2
      go_roundw
      case rel => exact ⟨x + 1, by omega, by go_num, q5, c5, unhide HO5⟩
      case measure => simp [intOf]; omega
    · obtain rfl : x = n := by omega
      have cl : ¬ ((x : Int) < (x : Int)) := by omega
      have HO := hide hO
      obtain ⟨hlx, c0, c1⟩ := (unhide HB2).keep hO.2.2.2.2
      have hok := unhide Hfew
      clear hO
      cases pv with
      | false =>
        obtain rfl : m = x := unhide HlF rfl
        rw [unhide Htk] at HO
        have hc9 := (unhide HO).2.1
        have HE := hide (unhide Hf wr (.slice qo (thr L).length cp) (own_le (unhide HO).2.2.2.1 (unhide Hl2)) (by have := (unhide HO).2.2.2.2; exact (unhide Hb2).trans (this.mono (unhide Hl2))))
        generalize (thr L).length = tl at *
        go_wp2
        exact bodyPost_ret (v := .tuple #[.slice qo tl cp, .int .i64 0]) (by simp [results, Tryd.results13, go_sem]) rfl (unhide HE)
      | true =>
        obtain ⟨z, hz⟩ : ∃ z, x = z + 2 := ⟨x - 2, by have := hok.2 rfl; omega⟩
        have e1 : (x : Int) - 2 = (z : Int) := by omega
        have hx9 : x ≤ 256 := hok.1.2
        have Hz := hide hz
        have Hm := hide (unhide HlT rfl)
        clear hz hok
        go_wp2
        clear c0 c1 hlx e1
        go_loopw [9] (fun i wr => ∃ (y j : Nat), i = .int .i64 (j : Int) ∧ Hid (j + y = z) ∧ ∃ qo cp, Bo w2 ob qo (thr (L.take (x + y))).length cp (thr (L.take (x + y))) wr) (fun i _ => (intOf i).toNat)
        case atStart => exact ⟨0, z, rfl, hide rfl, qo, cp, unhide HO⟩
        case round =>
          clear HO
          obtain ⟨y, j, rfl, Hjy, qo, cp, hO⟩ := hrel
          by_cases hlt : 0 < j
          · have hb := hO.2.2.2.2
            have hjx : j < x := by have := unhide Hjy; have := unhide Hz; omega
            obtain ⟨-, c0, c1⟩ := (unhide HB2).keep hO.2.2.2.2
            obtain ⟨ad0, oo, rfl, k0, k1⟩ := ((unhide HP2).keep hb).at hjx
            obtain ⟨j1, hj1⟩ : ∃ j1, j = j1 + 1 := ⟨j - 1, by omega⟩
            have g0 : (1 : Int) ≤ (j : Int) := by omega
            have q0 : (j : Int) < (x : Int) := by omega
            have q1 : (0 : Int) ≤ (j : Int) := by omega
            have e2 : (j : Int) - 1 = (j1 : Int) := by omega
            have hym : x + y < m := by rw [unhide Hm]; have := unhide Hjy; have := unhide Hz; omega
            have hs2 := unhide Hcb (x + y) hym
            have hpt := unhide Hpt (x + y) hym
            have Ht1 := hide (unhide Htt (x + y) hym)
            have hsz := unhide Hsz
            have hhi := unhide Hhi trivial y (by have := unhide Hjy; have := unhide Hz; omega)
            have hjj : x - 2 - y = j := by have := unhide Hjy; have := unhide Hz; omega
            rw [hjj] at hhi
            have hca : ca L (x + y) = ca l j := congrArg Prod.fst hhi
            have hcb : cb L (x + y) = cb l j := congrArg Prod.snd hhi
            rw [hcb] at hs2 hpt Ht1
            rw [hca] at Ht1
            obtain ⟨c, hc⟩ : ∃ c : Nat, cb l j = c := ⟨(cb l j).toNat, by omega⟩
            rw [hc] at hs2 hpt Ht1 k1
            have hcn : ((c : Nat) : Int).toNat = c := by omega
            rw [hcn] at hpt Ht1
            have Hj1 := hide hj1
            generalize thr (L.take (x + y)) = T at *
            have Had := hide (add_any w2 _ ob qo cp T (ca l j) c hO (by omega))
            rw [← unhide Ht1] at Had
            clear hb hO hs2 hpt hsz hhi hca hcb hc hcn hj1 hjj Ht1
            generalize ca l j = u at *
            go_wp2_with fail
            refine (unhide Had).mono ?_
            rintro e w5 ⟨rfl, ⟨q5, c5, hO5⟩, -⟩
            have HO5 := hide hO5
            clear hO5 Had k0 k1 c0 c1
            go_wp2
            go_roundw
            case rel => exact ⟨y + 1, j1, rfl, hide (by have := unhide Hjy; have := unhide Hj1; omega), q5, c5, unhide HO5⟩
            case measure => simp [intOf]; omega
          · obtain rfl : j = 0 := by omega
            have hxm : x + y = m := by rw [unhide Hm]; have := unhide Hjy; have := unhide Hz; omega
            rw [hxm, unhide Htk] at hO
            have hc9 := hO.2.1
            have HE := hide (unhide Hf wr (.slice qo (thr L).length cp) (own_le hO.2.2.2.1 (unhide Hl2)) (by have := hO.2.2.2.2; exact (unhide Hb2).trans (this.mono (unhide Hl2))))
            clear hO hxm
            generalize (thr L).length = tl at *
            go_wp2
            exact bodyPost_ret (v := .tuple #[.slice qo tl cp, .int .i64 0]) (by simp [results, Tryd.results13, go_sem]) rfl (unhide HE)
end Go.Proofs.YtbnjjkanokmakaaDoor
