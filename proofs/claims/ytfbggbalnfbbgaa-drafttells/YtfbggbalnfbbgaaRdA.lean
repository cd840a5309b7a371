/-
  Wrong of the reference, of drafts.
-/
import Derived.Test.YtfbggbalnfbbgaaDrC
namespace Go.Proofs.Ytfbggbalnfbbgaa
open Go.RowKit Go.Shelf

set_option maxHeartbeats 1000000 in
theorem rdwrong_tie (q1 : Option Addr) (n1 c1 : Nat) (w h : Int) (p : Option Addr) (n cap : Nat) (q2 : Option Addr) (n2 c2 : Nat) (W : World) (er : Int) (her : wE w h n = er) (hp : 1 ≤ er) : DWrongIs 7 q1 n1 c1 w h p n cap q2 n2 c2 W er := by
  have HW := hide (fun W => rwrong_any w h p n cap W)
  rw [her] at HW
  have hp' : (er != 0) = true := by simp; omega
  have O := OwnR.new W q1 n1 c1 w h p n cap q2 n2 c2
  have HB := hide (bal (o := .cells #[.slice q1 n1 c1, .int .i64 w, .int .i64 h, .slice p n cap, .slice q2 n2 c2] 27) (Below.refl W.heap.size W))
  clear her
  unfold DWrongIs
  go_enter Try.func7, Try.ntmps7
  go_wp2_with fail
  refine (unhide HW _).mono ?_
  rintro e w1 ⟨rfl, hb⟩
  have S := hide (btrans (unhide HB) hb)
  clear hb HB O
  go_wp2
  go_ret
  exact ⟨rfl, unhide S⟩

set_option maxHeartbeats 1000000 in
theorem rdwrong_many (q1 : Option Addr) (n1 c1 : Nat) (w h : Int) (p : Option Addr) (n cap : Nat) (q2 : Option Addr) (n2 c2 : Nat) (W : World) (her : wE w h n = 0) (hm : (ic n1 && ic n2) = false) : DWrongIs 7 q1 n1 c1 w h p n cap q2 n2 c2 W 5 := by
  have HW := hide (fun W => rwrong_any w h p n cap W)
  rw [her] at HW
  have O := hide (OwnR.new W q1 n1 c1 w h p n cap q2 n2 c2)
  have HB := hide (bal (o := .cells #[.slice q1 n1 c1, .int .i64 w, .int .i64 h, .slice p n cap, .slice q2 n2 c2] 27) (Below.refl W.heap.size W))
  have q : (n1 : Int) < 1 ∨ (decide ((n1 : Int) < 1) = false ∧ (64 : Int) < n1) ∨ (decide ((n1 : Int) < 1) = false ∧ decide ((64 : Int) < n1) = false ∧ (n2 : Int) < 1) ∨ (decide ((n1 : Int) < 1) = false ∧ decide ((64 : Int) < n1) = false ∧ decide ((n2 : Int) < 1) = false ∧ (64 : Int) < n2) := by
    have : ¬ (ic n1 = true ∧ ic n2 = true) := by simp at hm; simpa using hm
    rw [ic_iff, ic_iff] at this
    simp only [decide_eq_false_iff_not]
    omega
  clear her hm
  unfold DWrongIs
  go_enter Try.func7, Try.ntmps7
  go_wp2_with fail
  refine (unhide HW _).mono ?_
  rintro e w1 ⟨rfl, hb⟩
  have S := hide (btrans (unhide HB) hb)
  have O1 := ((unhide O).keep hb).2
  clear hb HB O
  rcases q with q | ⟨q1', q⟩ | ⟨q1', q2', q⟩ | ⟨q1', q2', q3', q⟩
  all_goals
    go_wp2
    go_ret
    exact ⟨rfl, unhide S⟩

set_option maxRecDepth 100000 in
set_option maxHeartbeats 2000000 in
theorem rdwrong_fit (q1 : Option Addr) (n1 c1 : Nat) (f1 : Nat → Int) (w h : Int) (p : Option Addr) (n cap : Nat) (q2 : Option Addr) (n2 c2 : Nat) (f2 : Nat → Int) (W : World) (h1 : Is W q1 n1 f1) (h2 : Is W q2 n2 f2) (her : wE w h n = 0) (m1 : ic n1 = true) (m2 : ic n2 = true) (er : Int) (he : (if bl f1 n1 w && bl f2 n2 h then 0 else 8) = er) : DWrongIs 7 q1 n1 c1 w h p n cap q2 n2 c2 W er := by
  have HW := hide (fun W => rwrong_any w h p n cap W)
  rw [her] at HW
  have O := hide (OwnR.new W q1 n1 c1 w h p n cap q2 n2 c2)
  have HB := hide (bal (o := .cells #[.slice q1 n1 c1, .int .i64 w, .int .i64 h, .slice p n cap, .slice q2 n2 c2] 27) (Below.refl W.heap.size W))
  have H1 := hide h1
  have H2 := hide h2
  have i1 := (ic_iff n1).1 m1
  have i2 := (ic_iff n2).1 m2
  have g1 : decide ((n1 : Int) < 1) = false := by simp; omega
  have g2 : decide ((64 : Int) < n1) = false := by simp; omega
  have g3 : decide ((n2 : Int) < 1) = false := by simp; omega
  have g4 : ¬ ((64 : Int) < n2) := by omega
  have HE8 := hide (show (bl f1 n1 w = false ∨ bl f2 n2 h = false) → er = 8 from fun e => by
    rw [← he]
    rcases e with e | e
    · rw [e]; rfl
    · rw [e, Bool.and_false]; rfl)
  have HE0 := hide (show bl f1 n1 w = true → bl f2 n2 h = true → er = 0 from fun e e' => by rw [← he, e, e']; rfl)
  clear her m1 m2 he h1 h2
  unfold DWrongIs
  go_enter Try.func7, Try.ntmps7
  go_wp2_with fail
  refine (unhide HW _).mono ?_
  rintro e w1 ⟨rfl, hb⟩
  have S := btrans (unhide HB) hb
  have O := (unhide O).keep hb
  have o1 := O.2
  clear hb HB HW
  go_wp2
  clear o1 g1 g2 g3 g4
  go_loopw [39] (fun i wr => ∃ x : Nat, x ≤ n1 ∧ i = .int .i64 x ∧ (∀ j, j < x → 0 ≤ f1 j ∧ f1 j < w) ∧ Below W.heap.size W wr ∧ OwnR wr W.heap.size q1 n1 c1 w h p n cap q2 n2 c2) (fun i _ => n1 - (intOf i).toNat)
  case atStart => exact ⟨0, Nat.zero_le _, rfl, fun j hj => by omega, S, O⟩
  case round =>
    clear S O
    obtain ⟨x, hx, rfl, he, hbel, O⟩ := hrel
    have He := hide he
    have HBl := hide hbel
    have HO := hide O
    have o1 := O.2
    clear he hbel O
    by_cases hlt : x < n1
    · obtain ⟨a, o, rfl, l1, k1⟩ := ((unhide H1).keep (unhide HBl)).at hlt
      have q1' : (x : Int) < (n1 : Int) := by omega
      have q2' : (0 : Int) ≤ (x : Int) := by omega
      by_cases hneg : f1 x < 0
      · have Hz := hide (unhide HE8 (Or.inl (bl_false f1 n1 w x hlt (by omega))))
        go_wp2
        go_ret
        exact ⟨ret_int (unhide Hz).symm, unhide HBl⟩
      · have hneg' : decide (f1 x < 0) = false := by simpa using hneg
        by_cases hge : w ≤ f1 x
        · have Hz := hide (unhide HE8 (Or.inl (bl_false f1 n1 w x hlt (by omega))))
          go_wp2
          go_ret
          exact ⟨ret_int (unhide Hz).symm, unhide HBl⟩
        · go_wp2
          go_roundw
          case rel => exact ⟨x + 1, by omega, by go_num, fun j hj => (by
            by_cases e : j = x
            · subst e; omega
            · exact unhide He j (by omega)), unhide HBl, unhide HO⟩
          case measure => simp [intOf]; omega
    · obtain rfl : n1 = x := by omega
      have cl : ¬ ((n1 : Int) < (n1 : Int)) := by omega
      have B1 := hide ((bl_iff f1 n1 w).2 (unhide He))
      have S := unhide HBl
      have O := unhide HO
      clear He HBl HO
      go_wp2
      clear o1
      go_loopw [56] (fun i wr => ∃ x : Nat, x ≤ n2 ∧ i = .int .i64 x ∧ (∀ j, j < x → 0 ≤ f2 j ∧ f2 j < h) ∧ Below W.heap.size W wr ∧ OwnR wr W.heap.size q1 n1 c1 w h p n cap q2 n2 c2) (fun i _ => n2 - (intOf i).toNat)
      case atStart => exact ⟨0, Nat.zero_le _, rfl, fun j hj => by omega, S, O⟩
      case round =>
        clear S O
        obtain ⟨x, hx, rfl, he, hbel, O⟩ := hrel
        have He := hide he
        have HBl := hide hbel
        have HO := hide O
        have o1 := O.2
        clear he hbel O
        by_cases hlt : x < n2
        · obtain ⟨a, o, rfl, l1, k1⟩ := ((unhide H2).keep (unhide HBl)).at hlt
          have q1' : (x : Int) < (n2 : Int) := by omega
          have q2' : (0 : Int) ≤ (x : Int) := by omega
          by_cases hneg : f2 x < 0
          · have Hz := hide (unhide HE8 (Or.inr (bl_false f2 n2 h x hlt (by omega))))
            go_wp2
            go_ret
            exact ⟨ret_int (unhide Hz).symm, unhide HBl⟩
          · have hneg' : decide (f2 x < 0) = false := by simpa using hneg
            by_cases hge : h ≤ f2 x
            · have Hz := hide (unhide HE8 (Or.inr (bl_false f2 n2 h x hlt (by omega))))
              go_wp2
              go_ret
              exact ⟨ret_int (unhide Hz).symm, unhide HBl⟩
            · go_wp2
              go_roundw
              case rel => exact ⟨x + 1, by omega, by go_num, fun j hj => (by
                by_cases e : j = x
                · subst e; omega
                · exact unhide He j (by omega)), unhide HBl, unhide HO⟩
              case measure => simp [intOf]; omega
        · obtain rfl : n2 = x := by omega
          have cl : ¬ ((n2 : Int) < (n2 : Int)) := by omega
          have Hz := hide (unhide HE0 (unhide B1) ((bl_iff f2 n2 h).2 (unhide He)))
          go_wp2
          go_ret
          exact ⟨ret_int (unhide Hz).symm, unhide HBl⟩

theorem rdwrong_any (q1 : Option Addr) (n1 c1 : Nat) (f1 : Nat → Int) (w h : Int) (p : Option Addr) (n cap : Nat) (q2 : Option Addr) (n2 c2 : Nat) (f2 : Nat → Int) (W : World) (h1 : Is W q1 n1 f1) (h2 : Is W q2 n2 f2) : DWrongIs 7 q1 n1 c1 w h p n cap q2 n2 c2 W (dE n1 f1 w h n n2 f2) := by
  unfold dE
  by_cases e : wE w h n = 0
  · rw [if_pos e]
    cases m : ic n1 && ic n2 with
    | false => exact rdwrong_many q1 n1 c1 w h p n cap q2 n2 c2 W e m
    | true =>
      simp at m
      exact rdwrong_fit q1 n1 c1 f1 w h p n cap q2 n2 c2 f2 W h1 h2 e m.1 m.2 _ rfl
  · rw [if_neg e]
    exact rdwrong_tie q1 n1 c1 w h p n cap q2 n2 c2 W _ rfl (wE_pos _ _ _ e)
end Go.Proofs.Ytfbggbalnfbbgaa
