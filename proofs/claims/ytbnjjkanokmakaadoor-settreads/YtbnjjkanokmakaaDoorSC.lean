/-
  What is wrong with a sett, on both sides.
-/
import Derived.Test.YtbnjjkanokmakaaDoorSB
import Derived.Deep.DeepCutAuto
namespace Go.Proofs.YtbnjjkanokmakaaDoor
open Go.RowKit

theorem sumC_bound (L : List St) (h : ∀ k, k < L.length → 1 ≤ cb L k ∧ cb L k ≤ 4096) : ∀ x, x ≤ L.length → 0 ≤ sumC (L.take x) ∧ sumC (L.take x) ≤ 4096 * x := by
  intro x
  induction x with
  | zero => intro _; simp [sumC]
  | succ x ih =>
    intro hx
    rw [sumC_take L (by omega)]
    have := ih (by omega)
    have := h x (by omega)
    omega
theorem onL_cb (pv : Bool) (l : List St) (h : l.any byd = false) : ∀ k, k < (onL pv l).length → 1 ≤ cb (onL pv l) k ∧ cb (onL pv l) k ≤ 4096 := by
  intro k hk
  have := onL_each (pv := pv) (l := l) (P := fun x => 1 ≤ x.2 ∧ x.2 ≤ 4096) (fun j hj => (byd_no (any_get h hj)).2) _ (List.getElem_mem hk)
  unfold cb
  rw [getD_lt _ _ hk]
  exact this

/-- an error is told -/
def ErIs (W : World) (r : Int) (e : Ending) (V : World) : Prop := e = .returned (.int .i64 r) ∧ Below W.heap.size W V
theorem ErIs.mk {W V : World} {r x : Int} (hx : x = r) (hb : Below W.heap.size W V) : ErIs W r (.returned (.int .i64 x)) V := ⟨by rw [hx], hb⟩

set_option maxRecDepth 100000 in
set_option maxHeartbeats 2000000 in
theorem wrong_many (pv : Bool) (q : Option Addr) (n cap : Nat) (W : World) (h : n < 1 ∨ 256 < n ∨ (n = 1 ∧ pv = true)) : Calls Tryd.prog 10 #[sV pv q n cap] W (ErIs W 5) := by
  unfold sV
  have HB := hide (BS.new W pv (.slice q n cap) 24)
  have Hb := hide (bnew W (.cells #[.bool pv, .slice q n cap] 24))
  go_enter Tryd.func10, Tryd.ntmps10
  go_upto_region 1 with fail
  generalize W.alloc (.cells #[.bool pv, .slice q n cap] 24) = w1 at *
  generalize hbx : W.heap.size = bx at *
  obtain ⟨hlx, c0, c1⟩ := unhide HB
  by_cases h1 : n < 1
  · have d1 : decide ((n : Int) < 1) = true := by simp; omega
    clear h
    go_wp2
    go_ret
    exact ErIs.mk rfl (by rw [hbx]; exact unhide Hb)
  · have d1 : decide ((n : Int) < 1) = false := by simp; omega
    by_cases h2 : 256 < n
    · have d2 : decide (256 < (n : Int)) = true := by simp; omega
      clear h
      go_wp2
      go_ret
      exact ErIs.mk rfl (by rw [hbx]; exact unhide Hb)
    · have d2 : decide (256 < (n : Int)) = false := by simp; omega
      obtain ⟨rfl, rfl⟩ : n = 1 ∧ pv = true := by
        rcases h with h | h | h
        · omega
        · omega
        · exact h
      clear d1 d2 h1 h2 h
      go_wp2
      go_ret
      exact ErIs.mk rfl (by rw [hbx]; exact unhide Hb)

set_option maxRecDepth 100000 in
set_option maxHeartbeats 4000000 in
theorem wrong_few (pv : Bool) (q : Option Addr) (l : List St) (cap : Nat) (W : World) (hP : Sl W q l) (h : ¬ (l.length < 1 ∨ 256 < l.length ∨ (l.length = 1 ∧ pv = true))) : Calls Tryd.prog 10 #[sV pv q l.length cap] W (ErIs W (wE pv l)) := by
  have hn1 : 1 ≤ l.length := Nat.le_of_not_lt fun k => h (.inl k)
  have hn2 : l.length ≤ 256 := Nat.le_of_not_lt fun k => h (.inr (.inl k))
  have hn3 : pv = true → 2 ≤ l.length := fun hp => by
    have : ¬ l.length = 1 := fun k => h (.inr (.inr ⟨k, hp⟩))
    omega
  unfold sV
  have HC := hide (fun V (hb : Below W.heap.size W V) => containsB_any q l cap V (hP.keep hb) (by unfold maxLen; omega))
  have HO := hide (fun V (hb : Below W.heap.size W V) => once_any pv q l cap V (hP.keep hb) ⟨hn1, hn2⟩ hn3)
  have H3 := hide (fun e => wE_beyond h e)
  have H4 := hide (fun e1 e2 => wE_much h e1 e2)
  have H0 := hide (fun e1 e2 => wE_ok h e1 e2)
  have Hcb := hide (fun e => onL_cb pv l e)
  have Hsb := hide (fun e => sumC_bound _ (onL_cb pv l e))
  have Hst := hide (fun k (hk : k < (onL pv l).length) => sumC_take (onL pv l) hk)
  have Hon := hide (onL_len pv l)
  obtain ⟨n, hnl⟩ : ∃ n, l.length = n := ⟨_, rfl⟩
  have HB := hide (BS.new W pv (.slice q n cap) 24)
  have Hb := hide (bnew W (.cells #[.bool pv, .slice q n cap] 24))
  rw [hnl] at HC hn1 hn2 hn3 Hon ⊢
  have d1 : decide ((n : Int) < 1) = false := by simp; omega
  have d2 : decide (256 < (n : Int)) = false := by simp; omega
  have Hd3 := hide (show pv = true → ((n : Int) == 1) = false from fun hp => by have := hn3 hp; simp; omega)
  rw [hnl] at HO
  clear hP h hnl hn3
  go_enter Tryd.func10, Tryd.ntmps10
  go_upto_region 1 with fail
  generalize W.alloc (.cells #[.bool pv, .slice q n cap] 24) = w1 at *
  generalize hbx : W.heap.size = bx at *
  obtain ⟨hlx, c0, c1⟩ := unhide HB
  go_upto_region 2 with fail
  go_cut [23] (fun t wd => t = .bool false ∧ wd = w1)
  case first =>
    cases pv with
    | true =>
      have d3 := unhide Hd3 rfl
      go_wp2
      go_meet
      case rel => exact ⟨rfl, rfl⟩
    | false =>
      by_cases d4 : n = 1
      · have d3 : ((n : Int) = 1) = True := by simp; omega
        clear d4
        go_wp2
        go_meet
        case rel => exact ⟨rfl, rfl⟩
      · have d3 : ((n : Int) == 1) = false := by simp; omega
        go_wp2
        go_meet
        case rel => exact ⟨rfl, rfl⟩
  case rest =>
  obtain ⟨rfl, hwc⟩ := hcut
  subst hwc
  obtain ⟨w1, rfl⟩ : ∃ x : World, x = wc := ⟨_, rfl⟩
  clear Hd3
  have hbb := unhide Hb
  cases hany : l.any byd with
  | true =>
    rw [hany] at HC
    have HE := hide (unhide H3 hany)
    clear hany
    generalize wE pv l = r at *
    go_wp2_with fail
    refine (unhide HC _ hbb).mono ?_
    rintro e w2 ⟨rfl, hb2⟩
    go_wp2
    go_ret
    exact ErIs.mk (unhide HE).symm (by rw [hbx]; exact hbb.trans (hb2.mono (by omega)))
  | false =>
    rw [hany] at HC
    have HE4 := hide (unhide H4 hany)
    have HE0 := hide (unhide H0 hany)
    have Hcb1 := hide (unhide Hcb hany)
    have Hsb1 := hide (unhide Hsb hany)
    clear hany H3 H4 H0 Hcb Hsb
    generalize wE pv l = r at *
    go_wp2_with fail
    refine (unhide HC _ hbb).mono ?_
    rintro e w2 ⟨rfl, hb2⟩
    have Hb2 := hide (hbb.trans (hb2.mono (by omega : bx ≤ w1.heap.size)))
    have HB2 := hide ((unhide HB).keep hb2)
    clear hb2 hbb c0 c1 hlx HB Hb HC
    obtain ⟨hlx, c0, c1⟩ := unhide HB2
    go_wp2_with fail
    refine (unhide HO _ (unhide Hb2)).mono ?_
    rintro e w3 ⟨v3, rfl, hO3, hb3⟩
    obtain ⟨L, hL⟩ : ∃ L, onL pv l = L := ⟨_, rfl⟩
    rw [hL] at hO3 HE4 HE0 Hcb1 Hsb1 Hst Hon
    obtain ⟨q3, cap3, rfl⟩ := hO3.form
    obtain ⟨m, hm⟩ : ∃ m, L.length = m := ⟨_, rfl⟩
    have HS3 := hide (show Ps w3 q3 m (ca L) (cb L) by rw [← hm]; exact hO3.sl.2)
    rw [hm] at Hcb1 Hsb1 Hst Hon ⊢
    have hm9 : m ≤ 512 := by have := unhide Hon; omega
    have Hb3 := hide ((unhide Hb2).trans (hb3.mono (by omega : bx ≤ w2.heap.size)))
    have Htk := hide (show sumC (L.take m) = sumC L by rw [← hm, List.take_length])
    clear hO3 hb3 hL Hon c0 c1 hlx HB2 Hb2 HO
    go_wp2
    go_loopw [4, 30] (fun s i wr => ∃ x : Nat, x ≤ m ∧ i = .int .i64 (x : Int) ∧ s = .int .i64 (sumC (L.take x)) ∧ Below w3.heap.size w3 wr) (fun _ i _ => m - (intOf i).toNat)
    case atStart => exact ⟨0, by omega, rfl, rfl, Below.refl _ _⟩
    case round =>
      obtain ⟨x, hx, rfl, rfl, hb⟩ := hrel
      by_cases hlt : x < m
      · obtain ⟨ad0, oo, rfl, k0, k1⟩ := ((unhide HS3).keep hb).at hlt
        have q0 : (x : Int) < (m : Int) := by omega
        have q1 : (0 : Int) ≤ (x : Int) := by omega
        have B := hide (B2.new wr (ca L x) (cb L x) 45)
        have Hbw := hide (hb.trans ((bnew wr (.cells #[.int .i64 (ca L x), .int .i64 (cb L x)] 45)).mono hb.size))
        have hs1 := unhide Hsb1 x (by omega)
        have hs2 := unhide Hcb1 x hlt
        have Hs := hide (unhide Hst x hlt)
        clear hb
        generalize sumC (L.take x) = s at *
        generalize ca L x = u at *
        generalize cb L x = v at *
        go_upto_region 10 with fail
        generalize wr.alloc (.cells #[.int .i64 u, .int .i64 v] 45) = w4 at *
        generalize wr.heap.size = n6 at *
        clear k0 k1
        obtain ⟨-, c0, c1⟩ := unhide B
        have hw : -9223372036854775808 ≤ s + v ∧ s + v ≤ 9223372036854775807 := by omega
        have Hs2 := hide (And.intro hs1 hs2)
        clear hs1 hs2
        go_wp2
        go_roundw
        case rel => exact ⟨x + 1, by omega, by go_num, by rw [unhide Hs], unhide Hbw⟩
        case measure => simp [intOf]; omega
      · obtain rfl : x = m := by omega
        have cl : ¬ ((x : Int) < (x : Int)) := by omega
        have Hb9 := hide (show Below bx W wr from (unhide Hb3).trans (hb.mono (by have := (unhide Hb3).size; omega)))
        clear hb
        rw [unhide Htk]
        by_cases d : 4096 < sumC L
        · have HE := hide (unhide HE4 d)
          clear HE4 HE0
          go_wp2
          go_ret
          exact ErIs.mk (unhide HE).symm (by rw [hbx]; exact unhide Hb9)
        · have HE := hide (unhide HE0 (by omega))
          clear HE4 HE0
          go_wp2
          go_ret
          exact ErIs.mk (unhide HE).symm (by rw [hbx]; exact unhide Hb9)
theorem wrong_any (pv : Bool) (q : Option Addr) (l : List St) (cap : Nat) (W : World) (hP : Sl W q l) : Calls Tryd.prog 10 #[sV pv q l.length cap] W (ErIs W (wE pv l)) := by
  by_cases h : l.length < 1 ∨ 256 < l.length ∨ (l.length = 1 ∧ pv = true)
  · rw [wE_many h]
    exact wrong_many pv q l.length cap W h
  · exact wrong_few pv q l cap W hP h
end Go.Proofs.YtbnjjkanokmakaaDoor
