/-
  The reference: Wrong.
-/
import Derived.Test.YtbnjjkanokmakaaDoorRA
import Derived.Deep.DeepCutAuto
namespace Go.Proofs.YtbnjjkanokmakaaDoor
open Go.RowKit

set_option maxRecDepth 100000 in
set_option maxHeartbeats 2000000 in
theorem rwrong_many (pv : Bool) (q : Option Addr) (n cap : Nat) (W : World) (h : n < 1 ∨ 256 < n ∨ (n = 1 ∧ pv = true)) : Calls Tryd.prog 11 #[sV pv q n cap] W (ErIs W 5) := by
  unfold sV
  have HB := hide (BS.new W pv (.slice q n cap) 24)
  have Hb := hide (bnew W (.cells #[.bool pv, .slice q n cap] 24))
  go_enter Tryd.func11, Tryd.ntmps11
  go_upto_region 1 with fail
  generalize W.alloc (.cells #[.bool pv, .slice q n cap] 24) = w1 at *
  generalize hbx : W.heap.size = bx at *
  obtain ⟨hlx, c0, c1⟩ := unhide HB
  by_cases h1 : n < 1
  · have d1 : decide ((n : Int) < 1) = true := by simp; omega
    clear h
    go_wp2
    go_ret
    exact ErIs.mk rfl (by rw [hbx]; exact unhide Hb)
  · have d1 : decide ((n : Int) < 1) = false := by simp; omega
    by_cases h2 : 256 < n
    · have d2 : decide (256 < (n : Int)) = true := by simp; omega
      clear h
      go_wp2
      go_ret
      exact ErIs.mk rfl (by rw [hbx]; exact unhide Hb)
    · have d2 : decide (256 < (n : Int)) = false := by simp; omega
      obtain ⟨rfl, rfl⟩ : n = 1 ∧ pv = true := by
        rcases h with h | h | h
        · omega
        · omega
        · exact h
      clear d1 d2 h1 h2 h
      go_wp2
      go_ret
      exact ErIs.mk rfl (by rw [hbx]; exact unhide Hb)

set_option maxRecDepth 100000 in
set_option maxHeartbeats 4000000 in
theorem rwrong_few (pv : Bool) (q : Option Addr) (l : List St) (cap : Nat) (W : World) (hP : Sl W q l) (h : ¬ (l.length < 1 ∨ 256 < l.length ∨ (l.length = 1 ∧ pv = true))) : Calls Tryd.prog 11 #[sV pv q l.length cap] W (ErIs W (wE pv l)) := by
  have hn1 : 1 ≤ l.length := Nat.le_of_not_lt fun k => h (.inl k)
  have hn2 : l.length ≤ 256 := Nat.le_of_not_lt fun k => h (.inr (.inl k))
  have hn3 : pv = true → 2 ≤ l.length := fun hp => by
    have : ¬ l.length = 1 := fun k => h (.inr (.inr ⟨k, hp⟩))
    omega
  unfold sV
  have HO := hide (fun V (hb : Below W.heap.size W V) e => rlong_any pv q l cap V (hP.keep hb) hn2 e)
  have H3 := hide (fun k (hk : k < l.length) e => wE_beyond h (any_at hk e))
  have H4 := hide (fun e1 e2 => wE_much h e1 e2)
  have H0 := hide (fun e1 e2 => wE_ok h e1 e2)
  have Hno := hide (@any_none l)
  have HP := hide (show Ps W q l.length (ca l) (cb l) from hP)
  obtain ⟨n, hnl⟩ : ∃ n, l.length = n := ⟨_, rfl⟩
  have HB := hide (BS.new W pv (.slice q n cap) 24)
  have Hb := hide (bnew W (.cells #[.bool pv, .slice q n cap] 24))
  rw [hnl] at hn1 hn2 hn3 HP H3 Hno ⊢
  have d1 : decide ((n : Int) < 1) = false := by simp; omega
  have d2 : decide (256 < (n : Int)) = false := by simp; omega
  have Hd3 := hide (show pv = true → decide ((n : Int) < 2) = false from fun hp => by have := hn3 hp; simp; omega)
  rw [hnl] at HO
  clear hP h hnl hn3
  go_enter Tryd.func11, Tryd.ntmps11
  go_upto_region 1 with fail
  generalize W.alloc (.cells #[.bool pv, .slice q n cap] 24) = w1 at *
  generalize hbx : W.heap.size = bx at *
  obtain ⟨hlx, c0, c1⟩ := unhide HB
  go_cut [24] (fun t wd => t = .bool false ∧ wd = w1)
  case first =>
    cases pv with
    | true =>
      have d3 := unhide Hd3 rfl
      go_wp2
      go_meet
      case rel => exact ⟨rfl, rfl⟩
    | false =>
      go_wp2
      go_meet
      case rel => exact ⟨rfl, rfl⟩
  case rest =>
  obtain ⟨rfl, hwc⟩ := hcut
  subst hwc
  obtain ⟨w1, rfl⟩ : ∃ x : World, x = wc := ⟨_, rfl⟩
  clear Hd3
  go_wp2
  clear c0 c1
  go_loopw [28] (fun i wr => ∃ x : Nat, x ≤ n ∧ i = .int .i64 (x : Int) ∧ Hid (∀ k, k < x → byd (ca l k, cb l k) = false) ∧ Below w1.heap.size w1 wr) (fun i _ => n - (intOf i).toNat)
  case atStart => exact ⟨0, by omega, rfl, hide (fun k hk => by omega), Below.refl _ _⟩
  case round =>
    obtain ⟨x, hx, rfl, Hs, hb⟩ := hrel
    by_cases hlt : x < n
    · obtain ⟨ad0, oo, rfl, k0, k1⟩ := (((unhide HP).keep (by rw [hbx]; exact unhide Hb)).keep hb).at hlt
      have q0 : (x : Int) < (n : Int) := by omega
      have q1 : (0 : Int) ≤ (x : Int) := by omega
      have B := hide (B2.new wr (ca l x) (cb l x) 45)
      have hbw := hb.trans ((bnew wr (.cells #[.int .i64 (ca l x), .int .i64 (cb l x)] 45)).mono hb.size)
      have Hbw := hide hbw
      have Hb9 := hide (show Below bx W (wr.alloc (.cells #[.int .i64 (ca l x), .int .i64 (cb l x)] 45)) from (unhide Hb).trans (hbw.mono (by have := (unhide Hb).size; omega)))
      have H31 := hide (unhide H3 x hlt)
      have Hgood := hide (show byd (ca l x, cb l x) = false → ∀ k, k < x + 1 → byd (ca l k, cb l k) = false from fun h k hk => by
        by_cases e : k = x
        · rw [e]; exact h
        · exact unhide Hs k (by omega))
      have Hd := hide (show byd (ca l x, cb l x) = (decide (ca l x < 0) || decide (61 < ca l x) || decide (cb l x < 1) || decide (4096 < cb l x)) from rfl)
      clear hb hbw
      generalize byd (ca l x, cb l x) = bd at *
      generalize ca l x = u at *
      generalize cb l x = v at *
      go_upto_region 6 with fail
      generalize wr.alloc (.cells #[.int .i64 u, .int .i64 v] 45) = w4 at *
      generalize wr.heap.size = n6 at *
      clear k0 k1
      obtain ⟨-, i0, i1⟩ := unhide B
      by_cases e1 : u < 0
      · have e1' : decide (u < 0) = true := decide_eq_true e1
        have HE := hide (unhide H31 (by rw [unhide Hd, e1']; rfl))
        go_wp2
        go_ret
        exact ErIs.mk (unhide HE).symm (by rw [hbx]; exact unhide Hb9)
      have e1' : decide (u < 0) = false := decide_eq_false e1
      by_cases e2 : 61 < u
      · have e2' : decide (61 < u) = true := decide_eq_true e2
        have HE := hide (unhide H31 (by rw [unhide Hd, e2']; simp))
        go_wp2
        go_ret
        exact ErIs.mk (unhide HE).symm (by rw [hbx]; exact unhide Hb9)
      have e2' : decide (61 < u) = false := decide_eq_false e2
      by_cases e3 : v < 1
      · have e3' : decide (v < 1) = true := decide_eq_true e3
        have HE := hide (unhide H31 (by rw [unhide Hd, e3']; simp))
        go_wp2
        go_ret
        exact ErIs.mk (unhide HE).symm (by rw [hbx]; exact unhide Hb9)
      have e3' : decide (v < 1) = false := decide_eq_false e3
      by_cases e4 : 4096 < v
      · have e4' : decide (4096 < v) = true := decide_eq_true e4
        have HE := hide (unhide H31 (by rw [unhide Hd, e4']; simp))
        go_wp2
        go_ret
        exact ErIs.mk (unhide HE).symm (by rw [hbx]; exact unhide Hb9)
      have e4' : decide (4096 < v) = false := decide_eq_false e4
      have HG := hide (unhide Hgood (by rw [unhide Hd, e1', e2', e3', e4']; rfl))
      clear H31 Hd Hgood
      go_wp2
      go_roundw
      case rel => exact ⟨x + 1, by omega, by go_num, HG, unhide Hbw⟩
      case measure => simp [intOf]; omega
    · obtain rfl : x = n := by omega
      have cl : ¬ ((x : Int) < (x : Int)) := by omega
      have hany := unhide Hno (unhide Hs)
      have HO1 := hide (fun V hb => unhide HO V hb hany)
      have HE4 := hide (unhide H4 hany)
      have HE0 := hide (unhide H0 hany)
      have Hb9 := hide (show Below bx W wr from (unhide Hb).trans (hb.mono (by have := (unhide Hb).size; omega)))
      obtain ⟨hlx, c0, c1⟩ := (unhide HB).keep hb
      clear hb hany HO H4 H0 H3 Hno
      generalize wE pv l = r at *
      generalize sumC (onL pv l) = tot at *
      go_wp2_with fail
      refine (unhide HO1 _ (by first | exact unhide Hb9 | (rw [hbx]; exact unhide Hb9))).mono ?_
      rintro e w3 ⟨rfl, hb3⟩
      have Hb3 := hide ((unhide Hb9).trans (hb3.mono (by have := (unhide Hb9).size; omega)))
      clear hb3
      by_cases d : 4096 < tot
      · have HE := hide (unhide HE4 d)
        clear HE4 HE0
        go_wp2
        go_ret
        exact ErIs.mk (unhide HE).symm (by rw [hbx]; exact unhide Hb3)
      · have HE := hide (unhide HE0 (by omega))
        clear HE4 HE0
        go_wp2
        go_ret
        exact ErIs.mk (unhide HE).symm (by rw [hbx]; exact unhide Hb3)
theorem rwrong_any (pv : Bool) (q : Option Addr) (l : List St) (cap : Nat) (W : World) (hP : Sl W q l) : Calls Tryd.prog 11 #[sV pv q l.length cap] W (ErIs W (wE pv l)) := by
  by_cases h : l.length < 1 ∨ 256 < l.length ∨ (l.length = 1 ∧ pv = true)
  · rw [wE_many h]
    exact rwrong_many pv q l.length cap W h
  · exact rwrong_few pv q l cap W hP h
end Go.Proofs.YtbnjjkanokmakaaDoor
