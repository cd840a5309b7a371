/-
  alive, and the walk of ClothHangs.
-/
import Derived.Test.YtbbilogkblmniaaClE
namespace Go.Proofs.Ytbbilogkblmniaa
open Go.RowKit

def alF (j : Nat) : Bool := j == 0 || j == 3
theorem alF_hangs : hgB alF 2 2 = true := by decide

set_option maxHeartbeats 1000000 in
theorem alive_any (W : World) : Calls Try.prog 14 #[] W fun e V => e = .returned (.bool true) ∧ Below W.heap.size W V := by
  have HR := hide (show Rt (W.alloc (.cells #[.bool true, .bool false, .bool false, .bool true] 4)) 2 2 (some ⟨W.heap.size, 0, none⟩) 4 4 alF from
    ⟨by omega, by omega, rfl, by omega, .inr ⟨W.heap.size, 0, rfl, by simp, fun k hk => by
      have : k = 0 ∨ k = 1 ∨ k = 2 ∨ k = 3 := by omega
      rcases this with rfl | rfl | rfl | rfl <;> simp [go_sem, alF]⟩⟩)
  have HH := hide (by have := hangs_ok (unhide HR) (by omega); rw [alF_hangs] at this; exact this)
  have B0 := hide (bal (o := .cells #[.bool true, .bool false, .bool false, .bool true] 4) (Below.refl W.heap.size W))
  clear HR
  go_enter Try.func14, Try.ntmps14
  go_wp2_with fail
  refine (unhide HH).mono ?_
  rintro e w1 ⟨rfl, hb⟩
  have HB := hide (btrans (unhide B0) hb)
  clear hb HH B0
  go_wp2
  go_ret
  exact ⟨rfl, unhide HB⟩

theorem frB_congr {f : Nat → Bool} {w h : Nat} {I J : Nat → Bool} (e : ∀ j, j < w + h → I j = J j) : frB f w h I = frB f w h J := by
  rw [Bool.eq_iff_iff, frB_iff, frB_iff]
  constructor
  · rintro ⟨k1, ⟨b, hb, h1⟩, ⟨a, ha, h2⟩⟩
    exact ⟨fun x hx y hy i j => k1 x hx y hy ((e x hx).trans i) ((e y hy).trans j), ⟨b, hb, (e b hb).symm.trans h1⟩, ⟨a, ha, (e a ha).symm.trans h2⟩⟩
  · rintro ⟨k1, ⟨b, hb, h1⟩, ⟨a, ha, h2⟩⟩
    exact ⟨fun x hx y hy i j => k1 x hx y hy ((e x hx).symm.trans i) ((e y hy).symm.trans j), ⟨b, hb, (e b hb).trans h1⟩, ⟨a, ha, (e a ha).trans h2⟩⟩
/-- numbers out of a list -/
def gtF (l : List Nat) (k : Nat) : Int := ((l.getD k 0 : Nat) : Int)
theorem inF_list (l : List Nat) (j : Nat) : inF (gtF l) l.length j = decide (j ∈ l) := by
  rw [Bool.eq_iff_iff, inF, List.any_eq_true, decide_eq_true_eq]
  constructor
  · rintro ⟨x, hx, h⟩
    have hx' : x < l.length := by simpa using hx
    have e : gtF l x = (j : Int) := by simpa using h
    have : l.getD x 0 = j := by unfold gtF at e; omega
    rw [← this]; exact getD_mem hx'
  · intro h
    obtain ⟨x, hx, e⟩ := List.getElem_of_mem h
    exact ⟨x, by simpa using hx, by simp [gtF, List.getD, List.getElem?_eq_getElem hx, e]⟩
theorem okL_list {l : List Nat} {N : Nat} (h : ∀ a, a ∈ l → a < N) : okL (gtF l) l.length N = true := okL_all fun x hx => by
  have := h _ (getD_mem hx)
  unfold gtF
  omega
theorem free_list {f : Nat → Bool} {w h : Nat} {l : List Nat} (hl : ∀ a, a ∈ l → a < w + h) : freeB f w h (gtF l) l.length = frB f w h (fun a => decide (a ∈ l)) := by
  unfold freeB
  rw [okL_list hl, Bool.true_and]
  exact frB_congr fun j _ => inF_list l j
theorem free_lift {f : Nat → Bool} {w h : Nat} (hn : lfL f w h ≠ []) : freeB f w h (gtF (lfL f w h)) (lfL f w h).length = true := by
  cases e : lfO f w h with
  | none => exact absurd (lfL_nil.2 e) hn
  | some s =>
    have e2 : lfL f w h = ovL f w h s := by unfold lfL; rw [e]
    obtain ⟨h1, h2⟩ := lfO_some e
    rw [e2, free_list (fun a ha => (mem_ovL.1 ha).1), ← fr_lift h1 h2]
    refine frB_congr fun j hj => ?_
    rw [Bool.eq_iff_iff, decide_eq_true_eq, mem_ovL]
    exact ⟨fun k => k.2, fun k => ⟨hj, k⟩⟩
theorem free_no {f : Nat → Bool} {w h : Nat} (hn : lfL f w h = []) (F : Nat → Int) (k : Nat) : freeB f w h F k = false := by
  unfold freeB
  rw [fr_hangs (lfO_none.1 (lfL_nil.1 hn)), Bool.and_false]

def LawIs (F : Nat) (args : Array Value) (W : World) : Prop := Calls Try.prog F args W fun e V => e = .returned (.bool true) ∧ Below W.heap.size W V

set_option maxHeartbeats 2000000 in
theorem hang_err (w h : Int) (p : Option Addr) (n cap : Nat) (q : Option Addr) (k c : Nat) (W : World) (h0 : cE w h n ≠ 0) : LawIs 4 #[tr w h p n cap, .slice q k c] W := by
  unfold LawIs
  obtain ⟨er, he⟩ : ∃ er, cE w h n = er := ⟨_, rfl⟩
  rw [he] at h0
  have HA := hide (fun V => alive_any V)
  have HL := hide (fun V => lift_err w h p n cap V er he h0)
  have HO := hide (OwnM.new W w h p n cap 24)
  have B0 := hide (bal (o := .cells #[.int .i64 w, .int .i64 h, .slice p n cap] 24) (Below.refl W.heap.size W))
  have hr' : (er != 0) = true := by simp [h0]
  clear he h0
  go_enter Try.func4, Try.ntmps4
  go_wp2_with fail
  refine (unhide HA _).mono ?_
  rintro e w1 ⟨rfl, hb1⟩
  obtain ⟨k1, k2, k3, k4⟩ := (unhide HO).keep hb1
  have S1 := hide (btrans (unhide B0) hb1)
  clear hb1
  go_wp2_with fail
  refine (unhide HL _).mono ?_
  rintro e w2 ⟨rfl, hb2⟩
  have S2 := hide (btrans (unhide S1) hb2)
  clear hb2 k1 k2 k3 k4
  go_wp2
  go_ret
  exact ⟨rfl, unhide S2⟩

set_option maxHeartbeats 4000000 in
theorem hang_ok {W : World} {w h : Nat} {p : Option Addr} {n cap : Nat} {f : Nat → Bool} (r : Rt W w h p n cap f) (h0 : 0 < n) (q : Option Addr) (k c : Nat) (F : Nat → Int) (hF : Is W q k F) (hk : k ≤ maxLen) : LawIs 4 #[tr w h p n cap, .slice q k c] W := by
  unfold LawIs
  have HA := hide (fun V => alive_any V)
  have HT := hide (Tb.new r)
  have B0 := hide (bal (o := .cells #[.int .i64 w, .int .i64 h, .slice p n cap] 24) (Below.refl W.heap.size W))
  have HF := hide (hF.keep (unhide B0))
  have Hn := hide (fun (hn : lfL f w h ≠ []) => free_lift hn)
  have Hy := hide (fun (hn : lfL f w h = []) => free_no hn F k)
  have hlen : (lfL f w h).length ≤ 128 := by
    cases e : lfO f w h with
    | none => rw [lfL_nil.2 e]; simp
    | some s =>
      have e2 : lfL f w h = ovL f w h s := by unfold lfL; rw [e]
      rw [e2]; have := ovL_len f w h s; have := r.1; have := r.2.1; omega
  clear hF r
  generalize hL : lfL f w h = L at *
  have HLL := hide hL
  clear hL
  go_enter Try.func4, Try.ntmps4
  go_wp2_with fail
  generalize W.alloc (.cells #[.int .i64 w, .int .i64 h, .slice p n cap] 24) = w0 at *
  refine (unhide HA _).mono ?_
  rintro e w1 ⟨rfl, hb1⟩
  have HT1 := hide ((unhide HT).keep hb1)
  have HF1 := hide ((unhide HF).keep hb1)
  have S1 := hide (btrans (unhide B0) hb1)
  obtain ⟨k1, k2, k3, k4⟩ := (unhide HT1).1
  have HL := hide (by have := lift_ok (unhide HT1).2 h0; rw [unhide HLL] at this; exact this)
  clear hb1 HT HF B0
  go_wp2_with fail
  refine (unhide HL).mono ?_
  rintro e w2 ⟨ql, cp, len, rfl, hlen2, hNq, hb2⟩
  have HT2 := hide ((unhide HT1).keep hb2)
  have HF2 := hide ((unhide HF1).keep hb2)
  have S2 := hide (btrans (unhide S1) hb2)
  have HNq := hide hNq
  have Hlen := hide hlen2
  clear hb2 HT1 HF1 S1 k1 k2 k3 k4 hNq hlen2 HL
  obtain ⟨k1, k2, k3, k4⟩ := (unhide HT2).1
  have HH := hide (show HangsIs w h p n cap w2 ((len : Int) == 0) 0 by
    have := hangs_ok (unhide HT2).2 h0
    rw [hgB, unhide HLL, ← unhide Hlen] at this
    have e : ((len : Int) == 0) = (len == 0) := by rw [Bool.eq_iff_iff]; simp
    rw [e]; exact this)
  obtain ⟨ok, hok⟩ : ∃ ok, ((len : Int) == 0) = ok := ⟨_, rfl⟩
  rw [hok] at HH
  go_wp2_with fail
  refine (unhide HH).mono ?_
  rintro e w3 ⟨rfl, hb3⟩
  have HT3 := hide ((unhide HT2).keep hb3)
  have HF3 := hide ((unhide HF2).keep hb3)
  have S3 := hide (btrans (unhide S2) hb3)
  have HN3 := hide ((unhide HNq).keep hb3)
  clear hb3 HT2 HF2 S2 k1 k2 k3 k4 HNq HH
  obtain ⟨k1, k2, k3, k4⟩ := (unhide HT3).1
  cases ok with
  | false =>
    have hLn : L ≠ [] := by
      intro e; have := unhide Hlen; rw [e] at this; subst this; simp at hok
    have HFr := hide (show FreeIs w3 w h p n cap ql len cp true by
      have := free_any (unhide HT3).2 ql L.length cp (gtF L) (unhide HN3).is (by unfold maxLen; omega)
      rw [unhide Hn hLn, ← unhide Hlen] at this
      exact this)
    have g1 : (false != false) = false := rfl
    clear hLn
    go_wp2_with fail
    refine (unhide HFr).mono ?_
    rintro e w4 ⟨rfl, hb4⟩
    have S4 := hide (btrans (unhide S3) hb4)
    clear hb4 k1 k2 k3 k4
    go_wp2
    go_ret
    exact ⟨rfl, unhide S4⟩
  | true =>
    have hLn : L = [] := by
      have e : len = 0 := by simpa using hok
      have := unhide Hlen; rw [e] at this
      exact List.length_eq_zero_iff.1 this.symm
    have HFr := hide (show FreeIs w3 w h p n cap q k c false by
      have := free_any (unhide HT3).2 q k c F (unhide HF3) hk
      rw [unhide Hy hLn] at this
      exact this)
    clear hLn
    go_wp2_with fail
    refine (unhide HFr).mono ?_
    rintro e w4 ⟨rfl, hb4⟩
    have S4 := hide (btrans (unhide S3) hb4)
    clear hb4 k1 k2 k3 k4
    go_wp2
    go_ret
    exact ⟨rfl, unhide S4⟩

theorem hang_any (w h : Int) (p : Option Addr) (n cap : Nat) (f : Nat → Bool) (q : Option Addr) (k c : Nat) (F : Nat → Int) (W : World) (hB : Bs W p n cap f) (hF : Is W q k F) (hk : k ≤ maxLen) : LawIs 4 #[tr w h p n cap, .slice q k c] W := by
  by_cases h0 : cE w h n = 0
  · obtain ⟨w', h', rfl, rfl, e1, e2, e3, e4⟩ := cE_zero h0
    exact hang_ok ⟨e1, e2, e3, hB⟩ e4 q k c F hF hk
  · exact hang_err w h p n cap q k c W h0
end Go.Proofs.Ytbbilogkblmniaa
