/-
  The document's Lift; SameNumbers and SameLists.
-/
import Derived.Test.YtbbilogkblmniaaRfB
namespace Go.Proofs.Ytbbilogkblmniaa
open Go.RowKit

set_option maxHeartbeats 1000000 in
theorem rlift_err (w h : Int) (p : Option Addr) (n cap : Nat) (W : World) (er : Int) (he : cE w h n = er) (h0 : er ≠ 0) : LiftErr 8 w h p n cap W er := by
  unfold LiftErr
  have HW := hide (fun V => by have := rcwrong_any w h p n cap V; rw [he] at this; exact this)
  have B0 := hide (bal (o := .cells #[.int .i64 w, .int .i64 h, .slice p n cap] 24) (Below.refl W.heap.size W))
  have hr' : (er != 0) = true := by simp [h0]
  clear he h0
  go_enter Try.func8, Try.ntmps8
  go_wp2_with fail
  refine (unhide HW _).mono ?_
  rintro e w1 ⟨rfl, hb⟩
  have HB := hide (btrans (unhide B0) hb)
  clear hb
  go_wp2
  exact bodyPost_ret (v := .tuple #[.slice none 0 0, .int .i64 er]) (by simp [results, Try.results8, go_sem]) rfl ⟨rfl, unhide HB⟩

/-- those below x that are over s -/
def ovP (f : Nat → Bool) (w h s x : Nat) : List Nat := (List.range x).filter fun a => ov f w h a s
theorem ovP_succ (f : Nat → Bool) (w h s x : Nat) : ovP f w h s (x + 1) = if ov f w h x s then ovP f w h s x ++ [x] else ovP f w h s x := by
  unfold ovP
  rw [List.range_succ, List.filter_append]
  cases e : ov f w h x s <;> simp [e]
theorem ovP_len (f : Nat → Bool) (w h s x : Nat) : (ovP f w h s x).length ≤ x := by
  have := List.length_filter_le (fun a => ov f w h a s) (List.range x)
  simpa [ovP] using this

set_option maxRecDepth 100000 in
set_option maxHeartbeats 4000000 in
theorem rlift_ok {W : World} {w h : Nat} {p : Option Addr} {n cap : Nat} {f : Nat → Bool} (r : Rt W w h p n cap f) (h0 : 0 < n) : LiftOk 8 w h p n cap W (lfL f w h) := by
  unfold LiftOk
  have hw := r.1
  have hh := r.2.1
  obtain ⟨i3, hi3, hy0, hy1, hy2⟩ := info_parts info3
  have HW := hide (fun V => by have := rcwrong_any w h p n cap V; rw [cE_ok r.1 r.2.1 r.2.2.1 h0] at this; exact this)
  have HT := hide (Tb.new r)
  have B0 := hide (bal (o := .cells #[.int .i64 w, .int .i64 h, .slice p n cap] 24) (Below.refl W.heap.size W))
  clear r h0
  go_enter Try.func8, Try.ntmps8
  go_wp2_with fail
  refine (unhide HW _).mono ?_
  rintro e w1 ⟨rfl, hb⟩
  have HB := hide (btrans (unhide B0) hb)
  have HT1 := hide ((unhide HT).keep hb)
  obtain ⟨k1, k2, k3, k4⟩ := (unhide HT1).1
  have HX := hide (table_any (unhide HT1).2)
  clear hb HT B0
  go_wp2_with fail
  refine (unhide HX).mono ?_
  rintro e w2 ⟨tb, N, rq, rfl, hN, hT, _, hb2⟩
  have HN := hide hN
  have hN128 : N ≤ 128 := by omega
  have HTb := hide hT
  have S2 := hide (btrans (unhide HB) hb2)
  clear hN hT hb2 k1 k2 k3 k4 HX HT1 HB HW
  go_wp2
  go_loopw [18] (fun i wr => ∃ x : Nat, x ≤ N ∧ i = .int .i64 x ∧ Hid (∀ j, j < x → ¬ (ovL f w h j).length < w + h) ∧ Below w2.heap.size w2 wr) (fun i _ => N - (intOf i).toNat)
  case atStart => exact ⟨0, Nat.zero_le _, rfl, (fun j hj => by omega : ∀ j, j < 0 → _), Below.refl _ _⟩
  case round =>
    obtain ⟨s, hs, rfl, Hf, hb⟩ := hrel
    have Hb := hide hb
    clear hb
    by_cases hlt : s < N
    · have q1 : (s : Int) < (N : Int) := by omega
      have q2 : (0 : Int) ≤ (s : Int) := by omega
      go_wp2
      go_loopw [7, 23] (fun v i wr => ∃ (x len c : Nat) (q : Option Addr), x ≤ N ∧ i = .int .i64 x ∧ v = .slice q len c ∧ Hid (len = (ovP f w h s x).length) ∧ wr.ownsRow w2.heap.size 3 1 (.slice q len c) len (lsV (ovP f w h s x)) ∧ Below w2.heap.size w2 wr) (fun _ i _ => N - (intOf i).toNat)
      case atStart => exact ⟨0, 0, 0, none, Nat.zero_le _, rfl, rfl, rfl, World.ownsRow_nil _ _ _ _, unhide Hb⟩
      case round =>
        clear Hb
        obtain ⟨x, len, c, q, hx, rfl, rfl, Hlen, hown, hb⟩ := hrel
        have HO := hide hown
        have Hb := hide hb
        have hlen : len ≤ 128 := by rw [unhide Hlen]; have := ovP_len f w h s x; omega
        clear hown hb
        by_cases hlx : x < N
        · have q3 : (x : Int) < (N : Int) := by omega
          have q4 : (0 : Int) ≤ (x : Int) := by omega
          obtain ⟨⟨ca, r1⟩, r2, _⟩ := ((unhide HTb).keep (unhide Hb)).2.1 x hlx
          have r3 := (r2.2 s hlt).1
          have Hsu := hide (ovP_succ f w h s x)
          clear r2
          cases hv : ov f w h x s with
          | true =>
            rw [hv] at r3
            have Hsu2 := hide (show ovP f w h s (x + 1) = ovP f w h s x ++ [x] by rw [unhide Hsu, hv]; rfl)
            have hO1 := unhide HO
            have hb2 := unhide Hb
            have hsz := hb2.size
            clear hv Hsu
            go_wp2_with (at_builtin; refine wpList_append_own _ rfl _ _ 25 rfl w2.heap.size 3 i3 (.int .i64 0) 1 8 Try.underlying25 hi3 hy0 hy1 hy2 rfl (by decide) _ _ _ rfl (hO1.alloc _) ⟨wr.heap.size, 0, none⟩ 1 1 [.int .i64 (x : Int)] rfl rfl (cell_one_new _ _ _) (by simp [Value.oneCell']) (by unfold maxLen; omega) (by omega) (by simp; omega) ?_)
            intro v' w4 hown' hgrow _
            have S6 := hide ((hb2.alloc hsz (.cells #[.int .i64 (x : Int)] 3)).grown hgrow (by simp; omega) (fun k hk => (hO1.lt k hk).1))
            obtain ⟨q2'', cap', rfl⟩ := own_form hown'
            have HO := hide hown'
            clear hO1 hown' hgrow hb2 hsz r1 r3
            go_wp2
            go_roundw
            case rel => exact ⟨x + 1, len + 1, cap', q2'', by omega, by go_num, rfl, (by rw [unhide Hsu2, unhide Hlen]; simp : len + 1 = (ovP f w h s (x + 1)).length), by rw [unhide Hsu2, lsV_snoc]; exact unhide HO, unhide S6⟩
            case measure => simp [intOf]; omega
          | false =>
            rw [hv] at r3
            have Hsu2 := hide (show ovP f w h s (x + 1) = ovP f w h s x by rw [unhide Hsu, hv]; rfl)
            clear hv Hsu
            go_wp2
            go_roundw
            case rel => exact ⟨x + 1, len, c, q, by omega, by go_num, rfl, (by rw [unhide Hsu2]; exact unhide Hlen : len = (ovP f w h s (x + 1)).length), by rw [unhide Hsu2]; exact unhide HO, unhide Hb⟩
            case measure => simp [intOf]; omega
        · obtain rfl : N = x := by omega
          have cl : ¬ ((N : Int) < (N : Int)) := by omega
          have Hall := hide (show ovP f w h s N = ovL f w h s by rw [unhide HN]; rfl)
          have Hl := hide (show len = (ovL f w h s).length by rw [← unhide Hall]; exact unhide Hlen)
          by_cases hln : len < N
          · have q5 : (len : Int) < (N : Int) := by omega
            have He := hide (show lfL f w h = ovL f w h s by
              have : lfO f w h = some s := find_step (by rw [← unhide HN]; exact hlt) (fun j hj => by simpa using unhide Hf j hj) (by rw [← unhide Hl, ← unhide HN]; simpa using hln)
              unfold lfL; rw [this])
            have hpos : 1 ≤ len := by rw [unhide Hl]; exact ovL_pos (by rw [← unhide HN]; exact hlt)
            obtain ⟨g, c', hq⟩ := own_slice (unhide HO) hpos
            obtain ⟨rfl, rfl⟩ : q = some ⟨g, 0, none⟩ ∧ c = c' := by simpa using hq
            have HNr := hide (show Nr wr g (ovL f w h s) by have := unhide HO; rw [unhide Hall] at this; exact own_nr this (unhide Hl))
            clear hq
            go_wp2
            exact bodyPost_ret (v := .tuple #[.slice (some ⟨g, 0, none⟩) len c, .int .i64 0]) (by simp [results, Try.results8, go_sem]) rfl ⟨_, c, len, rfl, by rw [unhide He]; exact unhide Hl, by rw [unhide He]; exact .inr ⟨g, rfl, unhide HNr⟩, btrans (unhide S2) (unhide Hb)⟩
          · have q5 : ¬ ((len : Int) < (N : Int)) := by omega
            have Hf2 := hide (show ∀ j, j < s + 1 → ¬ (ovL f w h j).length < w + h from fun j hj => by
              by_cases e : j = s
              · subst e; rw [← unhide Hl, ← unhide HN]; exact hln
              · exact unhide Hf j (by omega))
            go_wp2
            go_roundw
            case rel => exact ⟨s + 1, by omega, by go_num, unhide Hf2, unhide Hb⟩
            case measure => simp [intOf]; omega
    · obtain rfl : N = s := by omega
      have cl : ¬ ((N : Int) < (N : Int)) := by omega
      have He := hide (show lfL f w h = [] by
        have : lfO f w h = none := find_none (fun j hj => by simpa using unhide Hf j (by rw [unhide HN]; exact hj))
        unfold lfL; rw [this])
      go_wp2
      exact bodyPost_ret (v := .tuple #[.slice none 0 0, .int .i64 0]) (by simp [results, Try.results8, go_sem]) rfl ⟨_, 0, 0, rfl, by rw [unhide He]; rfl, by rw [unhide He]; exact .inl rfl, btrans (unhide S2) (unhide Hb)⟩

/-- the same numbers -/
def SameIs (V : World) (q1 q2 : Option Addr) (n c1 c2 : Nat) : Prop := Calls Try.prog 9 #[.slice q1 n c1, .slice q2 n c2] V fun e V' => e = .returned (.bool true) ∧ ∃ k, V' = V.drewN k
set_option maxRecDepth 100000 in
set_option maxHeartbeats 2000000 in
theorem same_any {V : World} {q1 q2 : Option Addr} {l : List Nat} (h1 : Nq V q1 l) (h2 : Nq V q2 l) (n c1 c2 : Nat) (hn : n = l.length) (h128 : n ≤ 128) : SameIs V q1 q2 n c1 c2 := by
  unfold SameIs
  have H1 := hide h1.is
  have H2 := hide h2.is
  have Hn := hide hn
  have hnn : ((n : Int) != (n : Int)) = false := by simp
  clear h1 h2 hn
  go_enter Try.func9, Try.ntmps9
  go_wp2
  go_loopw [13] (fun i wr => ∃ x k : Nat, x ≤ n ∧ i = .int .i64 x ∧ Hid (wr = V.drewN k)) (fun i _ => n - (intOf i).toNat)
  case atStart => exact ⟨0, 0, Nat.zero_le _, rfl, (rfl : V = V.drewN 0)⟩
  case round =>
    obtain ⟨x, k, hx, rfl, Hw⟩ := hrel
    by_cases hlt : x < n
    · have q3 : (x : Int) < (n : Int) := by omega
      have q4 : (0 : Int) ≤ (x : Int) := by omega
      have hbd : Below V.heap.size V wr := by rw [unhide Hw]; exact Joins.below_draws _ _ _
      obtain ⟨b1, o1, rfl, l1, d1⟩ := ((unhide H1).keep hbd).at (x := x) (by rw [← unhide Hn]; exact hlt)
      obtain ⟨b2, o2, rfl, l2, d2⟩ := ((unhide H2).keep hbd).at (x := x) (by rw [← unhide Hn]; exact hlt)
      generalize ((l.getD x 0 : Nat) : Int) = v at *
      have e1 : (v != v) = false := by simp
      clear hbd
      go_wp2_with fail
      go_quiet (fail)
      have Hw2 := hide (show wr.drewN nq = V.drewN (k + nq) by rw [unhide Hw, World.drewN_drewN])
      clear d1 d2
      generalize wr.drewN nq = w3 at *
      go_wp2
      go_roundw
      case rel => exact ⟨x + 1, k + nq, by omega, by go_num, unhide Hw2⟩
      case measure => simp [intOf]; omega
    · obtain rfl : n = x := by omega
      have cl : ¬ ((n : Int) < (n : Int)) := by omega
      go_wp2
      go_ret
      exact ⟨rfl, k, unhide Hw⟩
/-- the same lists -/
def SameLIs (V : World) (q1 q2 : Option Addr) (n c1 c2 : Nat) : Prop := Calls Try.prog 13 #[.slice q1 n c1, .slice q2 n c2] V fun e V' => e = .returned (.bool true) ∧ Below V.heap.size V V'
set_option maxRecDepth 100000 in
set_option maxHeartbeats 2000000 in
theorem samel_any {V : World} {q1 q2 : Option Addr} {L : List (List Nat)} (h1 : LLs V q1 L) (h2 : LLs V q2 L) (n c1 c2 : Nat) (hn : n = L.length) (hl : ∀ l, l ∈ L → l.length ≤ 128) (h128 : n ≤ 128) : SameLIs V q1 q2 n c1 c2 := by
  unfold SameLIs
  obtain ⟨g1, rfl, s1, k1⟩ := h1
  obtain ⟨g2, rfl, s2, k2⟩ := h2
  have H1 := hide k1
  have H2 := hide k2
  have Hn := hide hn
  have Hl := hide hl
  have hnn : ((n : Int) != (n : Int)) = false := by simp
  clear k1 k2 hn hl
  go_enter Try.func13, Try.ntmps13
  go_wp2
  go_loopw [13] (fun i wr => ∃ x : Nat, x ≤ n ∧ i = .int .i64 x ∧ Below V.heap.size V wr) (fun i _ => n - (intOf i).toNat)
  case atStart => exact ⟨0, Nat.zero_le _, rfl, Below.refl _ _⟩
  case round =>
    obtain ⟨x, hx, rfl, hb⟩ := hrel
    by_cases hlt : x < n
    · have q3 : (x : Int) < (n : Int) := by omega
      have q4 : (0 : Int) ≤ (x : Int) := by omega
      have hxL : x < L.length := by rw [← unhide Hn]; exact hlt
      obtain ⟨ga, ca, d1, n1⟩ := unhide H1 x hxL
      obtain ⟨gb, cb, d2, n2⟩ := unhide H2 x hxL
      have d1' := keepC hb s1 d1
      have d2' := keepC hb s2 d2
      have hm : L.getD x [] ∈ L := by simp [List.getD, List.getElem?_eq_getElem hxL]
      have HS := hide (fun k => same_any (V := wr.drewN k) (.inr ⟨ga, rfl, (n1.keep hb).keep (Joins.below_draws _ _ _)⟩) (.inr ⟨gb, rfl, (n2.keep hb).keep (Joins.below_draws _ _ _)⟩) (L.getD x []).length ca cb rfl (unhide Hl _ hm))
      generalize (L.getD x []).length = len at *
      have Hb := hide hb
      clear d1 d2 n1 n2 hb hm hxL
      go_wp2_with fail
      go_quiet (first | (go_at_call 9; exact Calls.quiet_of (unhide HS _)))
      have Hb2 := hide (btrans (unhide Hb) (Joins.below_draws _ wr nq))
      clear d1' d2' HS Hb
      generalize wr.drewN nq = w3 at *
      go_wp2
      go_roundw
      case rel => exact ⟨x + 1, by omega, by go_num, unhide Hb2⟩
      case measure => simp [intOf]; omega
    · obtain rfl : n = x := by omega
      have cl : ¬ ((n : Int) < (n : Int)) := by omega
      go_wp2
      go_ret
      exact ⟨rfl, hb⟩
end Go.Proofs.Ytbbilogkblmniaa
