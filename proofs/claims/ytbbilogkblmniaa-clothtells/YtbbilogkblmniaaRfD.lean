/-
  The document's Layers.
-/
import Derived.Test.YtbbilogkblmniaaRfC
import Derived.Test.YtbbilogkblmniaaClD
namespace Go.Proofs.Ytbbilogkblmniaa
open Go.RowKit

set_option maxRecDepth 100000 in
set_option maxHeartbeats 2000000 in
theorem above26_any {V : World} {B tb N : Nat} {rq : Nat → Nat} {f : Nat → Bool} {w h : Nat} (hbox : V.cell? ⟨B, 0, none⟩ = some (.slice (some ⟨tb, 0, none⟩) N N)) (k : Tbl V tb N rq (ov f w h)) (hN : N = w + h) (h128 : N ≤ 128) (s : Nat) (hs : s < N) :
    Calls Try.prog 26 #[.int .i64 s, .pointer (some ⟨B, 0, none⟩)] V fun e V' => e = .returned (.int .i64 ((kyN f w h s : Nat) : Int)) ∧ V' = V := by
  have HK := hide k
  have HN := hide hN
  have q1 : (s : Int) < (N : Int) := by omega
  have q2 : (0 : Int) ≤ (s : Int) := by omega
  clear k hN
  go_enter Try.func26, Try.ntmps26
  go_wp2
  go_loopw [4, 8] (fun c i wr => wr = V ∧ ∃ x : Nat, x ≤ N ∧ i = .int .i64 x ∧ c = .int .i64 ((cnI (fun a => ov f w h a s) x : Nat) : Int)) (fun _ i _ => N - (intOf i).toNat)
  case atStart => exact ⟨rfl, 0, Nat.zero_le _, rfl, rfl⟩
  case round =>
    obtain ⟨rfl, x, hx, rfl, rfl⟩ := hrel
    have hcl := cnI_le (fun a => ov f w h a s) x
    by_cases hlt : x < N
    · have q3 : (x : Int) < (N : Int) := by omega
      have q4 : (0 : Int) ≤ (x : Int) := by omega
      obtain ⟨⟨ca, r1⟩, r2, _⟩ := (unhide HK).2.1 x hlt
      have r3 := (r2.2 s hs).1
      have Hsu := hide (cnI_succ (fun a => ov f w h a s) x)
      generalize cnI (fun a => ov f w h a s) x = cv at *
      clear r2
      cases hv : ov f w h x s with
      | true =>
        rw [hv] at r3
        have Hsu2 := hide (show cnI (fun a => ov f w h a s) (x + 1) = cv + 1 by rw [unhide Hsu, hv]; rfl)
        clear hv Hsu
        go_wp2
        go_roundw
        case rel => exact ⟨trivial, x + 1, by omega, by go_num, by rw [unhide Hsu2]; go_num⟩
        case measure => simp [intOf]; omega
      | false =>
        rw [hv] at r3
        have Hsu2 := hide (show cnI (fun a => ov f w h a s) (x + 1) = cv by rw [unhide Hsu, hv]; rfl)
        clear hv Hsu
        go_wp2
        go_roundw
        case rel => exact ⟨trivial, x + 1, by omega, by go_num, by rw [unhide Hsu2]⟩
        case measure => simp [intOf]; omega
    · obtain rfl : N = x := by omega
      have cl : ¬ ((N : Int) < (N : Int)) := by omega
      have He := hide (show cnI (fun a => ov f w h a s) N = kyN f w h s by rw [unhide HN]; rfl)
      generalize cnI (fun a => ov f w h a s) N = cv at *
      go_wp2
      go_ret
      exact ⟨by rw [← unhide He]; rfl, rfl⟩

/-- the order of the sheets so far: all over which at most c are, and of those with one more the ones below s -/
def lyP (f : Nat → Bool) (w h c s : Nat) : List Nat := ((List.range c).flatMap fun c' => (fsL f w h).filter fun t => kyN f w h t == c' + 1) ++ ((fsP f w h s).filter fun t => kyN f w h t == c + 1)
theorem lyP_start (f : Nat → Bool) (w h : Nat) : lyP f w h 0 0 = [] := by simp [lyP, fsP]
theorem lyP_row {f : Nat → Bool} {w h c N : Nat} (hN : N = w + h) : lyP f w h c N = lyP f w h (c + 1) 0 := by
  unfold lyP
  rw [List.range_succ, List.flatMap_append, show fsP f w h N = fsL f w h by rw [hN]; rfl]
  simp [fsP]
theorem lyP_end {f : Nat → Bool} {w h N : Nat} (hN : N = w + h) : lyP f w h N 0 = lyF f w h := by
  unfold lyP lyF
  rw [hN]; simp [fsP]
theorem lyP_no {f : Nat → Bool} {w h c s : Nat} (hk : ¬ (kyN f w h s = c + 1 ∧ fsB f w h s = true)) : lyP f w h c (s + 1) = lyP f w h c s := by
  unfold lyP
  rw [fsP_succ]
  by_cases e : fsB f w h s = true
  · have : (kyN f w h s == c + 1) = false := by simp; exact fun q => hk ⟨q, e⟩
    rw [if_pos e, List.filter_append]
    simp [this]
  · rw [if_neg e]
theorem lyP_yes {f : Nat → Bool} {w h c s : Nat} (hk : kyN f w h s = c + 1) (hf : fsB f w h s = true) : lyP f w h c (s + 1) = lyP f w h c s ++ [s] := by
  unfold lyP
  rw [fsP_succ, if_pos hf, List.filter_append, ← List.append_assoc]
  simp [hk]
theorem lyP_new {f : Nat → Bool} {w h c s t : Nat} (hk : kyN f w h s = c + 1) (ht : t ∈ lyP f w h c s) : t ≠ s := by
  intro e
  subst e
  unfold lyP at ht
  rw [List.mem_append, List.mem_flatMap] at ht
  rcases ht with ⟨c', hc, h1⟩ | h1
  · have := (List.mem_filter.1 h1).2
    simp at this hc
    omega
  · have := (mem_fsP.1 (List.mem_filter.1 h1).1).1
    omega
theorem lyP_sub {f : Nat → Bool} {w h c s t : Nat} (hs : s ≤ w + h) (ht : t ∈ lyP f w h c s) : t ∈ fsL f w h := by
  unfold lyP at ht
  rw [List.mem_append, List.mem_flatMap] at ht
  rcases ht with ⟨c', _, h1⟩ | h1
  · exact (List.mem_filter.1 h1).1
  · have := mem_fsP.1 (List.mem_filter.1 h1).1
    exact mem_fsL.2 ⟨by omega, this.2⟩
theorem lyP_nodup (f : Nat → Bool) (w h c s : Nat) : (lyP f w h c s).Nodup := by
  refine nodup_of_lx (K := kyN f w h) ?_
  unfold lyP
  rw [List.pairwise_append, List.pairwise_flatMap]
  refine ⟨⟨fun c' _ => ?_, List.pairwise_lt_range.imp ?_⟩, ?_, ?_⟩
  · refine List.Pairwise.imp_of_mem ?_ ((fsL_sorted f w h).filter _)
    intro a b ha hb hab
    have e1 := (List.mem_filter.1 ha).2
    have e2 := (List.mem_filter.1 hb).2
    simp at e1 e2
    exact .inr ⟨by omega, hab⟩
  · intro c' d hcd x hx y hy
    have e1 := (List.mem_filter.1 hx).2
    have e2 := (List.mem_filter.1 hy).2
    simp at e1 e2
    exact .inl (by omega)
  · refine List.Pairwise.imp_of_mem ?_ ((List.Pairwise.filter _ (List.pairwise_lt_range (n := s))).filter _)
    intro a b ha hb hab
    have e1 := (List.mem_filter.1 ha).2
    have e2 := (List.mem_filter.1 hb).2
    simp at e1 e2
    exact .inr ⟨by omega, hab⟩
  · intro a ha b hb
    obtain ⟨c', hc, h1⟩ := List.mem_flatMap.1 ha
    have e1 := (List.mem_filter.1 h1).2
    have e2 := (List.mem_filter.1 hb).2
    simp at e1 e2 hc
    exact .inl (by omega)
theorem lyP_len {f : Nat → Bool} {w h c s : Nat} (hs : s ≤ w + h) : (lyP f w h c s).length ≤ w + h :=
  Nat.le_trans ((lyP_nodup f w h c s).length_le_of_subset (fun _ ht => lyP_sub hs ht)) (fsL_len f w h)
/-- the sheet of s below x -/
def snP (f : Nat → Bool) (w h s x : Nat) : List Nat := (List.range x).filter fun a => ov f w h a s && ov f w h s a
theorem snP_succ (f : Nat → Bool) (w h s x : Nat) : snP f w h s (x + 1) = if ov f w h x s && ov f w h s x then snP f w h s x ++ [x] else snP f w h s x := by
  unfold snP
  rw [List.range_succ, List.filter_append]
  cases e : (ov f w h x s && ov f w h s x) <;> simp [e]
theorem snP_len (f : Nat → Bool) (w h s x : Nat) : (snP f w h s x).length ≤ x := by
  have := List.length_filter_le (fun a => ov f w h a s && ov f w h s a) (List.range x)
  simpa [snP] using this
theorem snP_all {f : Nat → Bool} {w h s N : Nat} (hN : N = w + h) : snP f w h s N = shL f w h s := by
  unfold snP shL ovL
  rw [List.filter_filter, hN]
  congr 1
  funext a
  exact Bool.and_comm _ _
/-- none of the sheet below x lies ahead of s -/
def fiB (f : Nat → Bool) (w h s x : Nat) : Bool := (snP f w h s x).all fun a => decide (s ≤ a)
theorem fiB_all {f : Nat → Bool} {w h s N : Nat} (hN : N = w + h) (hs : s < w + h) : fiB f w h s N = fsB f w h s := by
  rw [Bool.eq_iff_iff, fsB_iff hs, fiB, snP_all hN, List.all_eq_true]
  simp
theorem fiB_no {f : Nat → Bool} {w h s x : Nat} (hv : (ov f w h x s && ov f w h s x) = false) : fiB f w h s (x + 1) = fiB f w h s x := by
  unfold fiB; rw [snP_succ, hv]; rfl
theorem fiB_yes {f : Nat → Bool} {w h s x : Nat} (hv : (ov f w h x s && ov f w h s x) = true) : fiB f w h s (x + 1) = (fiB f w h s x && decide ((s : Int) ≤ (x : Int))) := by
  unfold fiB
  rw [snP_succ, hv, if_pos rfl, List.all_append]
  simp

set_option maxHeartbeats 1000000 in
theorem rlayers_err (w h : Int) (p : Option Addr) (n cap : Nat) (W : World) (er : Int) (he : cE w h n = er) (h0 : er ≠ 0) : LiftErr 12 w h p n cap W er := by
  unfold LiftErr
  have HW := hide (fun V => by have := rcwrong_any w h p n cap V; rw [he] at this; exact this)
  have B0 := hide (bal (o := .cells #[.int .i64 w, .int .i64 h, .slice p n cap] 24) (Below.refl W.heap.size W))
  have hr' : (er != 0) = true := by simp [h0]
  clear he h0
  go_enter Try.func12, Try.ntmps12
  go_wp2_with fail
  refine (unhide HW _).mono ?_
  rintro e w1 ⟨rfl, hb⟩
  have HB := hide (btrans (unhide B0) hb)
  clear hb
  go_wp2
  exact bodyPost_ret (v := .tuple #[.slice none 0 0, .int .i64 er]) (by simp [results, Try.results12, go_sem]) rfl ⟨rfl, unhide HB⟩

set_option maxRecDepth 100000 in
set_option maxHeartbeats 8000000 in
theorem rlayers_ok {W : World} {w h : Nat} {p : Option Addr} {n cap : Nat} {f : Nat → Bool} (r : Rt W w h p n cap f) (h0 : 0 < n) : LayersOk 12 w h p n cap W (lyL f w h) := by
  unfold LayersOk
  have hw := r.1
  have hh := r.2.1
  obtain ⟨i3, hi3, hy0, hy1, hy2⟩ := info_parts info3
  obtain ⟨i5, hi5, hx0, hx1, hx2⟩ := info_parts info25
  have HW := hide (fun V => by have := rcwrong_any w h p n cap V; rw [cE_ok r.1 r.2.1 r.2.2.1 h0] at this; exact this)
  have HT := hide (Tb.new r)
  have B0 := hide (bal (o := .cells #[.int .i64 w, .int .i64 h, .slice p n cap] 24) (Below.refl W.heap.size W))
  have hN0 : 0 < w + h := by
    have := r.2.2.1
    rcases Nat.eq_zero_or_pos w with e | e
    · rw [e, Nat.zero_mul] at this; omega
    · omega
  clear r h0
  go_enter Try.func12, Try.ntmps12
  go_wp2_with fail
  refine (unhide HW _).mono ?_
  rintro e w1 ⟨rfl, hb⟩
  have HB := hide (btrans (unhide B0) hb)
  have HT1 := hide ((unhide HT).keep hb)
  obtain ⟨k1, k2, k3, k4⟩ := (unhide HT1).1
  have HX := hide (table_any (unhide HT1).2)
  clear hb HT B0
  go_wp2_with fail
  refine (unhide HX).mono ?_
  rintro e w2 ⟨tb, N, rq, rfl, hN, hT, _, hb2⟩
  have HN := hide hN
  have hN128 : N ≤ 128 := by omega
  have HTb := hide (hT.keep (bal (o := .cells #[.slice (some ⟨tb, 0, none⟩) N N] 44) (Below.refl _ _)))
  have S2 := hide (bal (o := .cells #[.slice (some ⟨tb, 0, none⟩) N N] 44) (btrans (unhide HB) hb2))
  have Hbx := hide (show w2.heap.size < (w2.alloc (.cells #[.slice (some ⟨tb, 0, none⟩) N N] 44)).heap.size ∧ (w2.alloc (.cells #[.slice (some ⟨tb, 0, none⟩) N N] 44)).cell? ⟨w2.heap.size, 0, none⟩ = some (.slice (some ⟨tb, 0, none⟩) N N) from ⟨by simp, by simp [go_sem]⟩)
  clear hN hT hb2 k1 k2 k3 k4 HX HT1 HB HW
  go_wp2
  generalize w2.alloc (.cells #[.slice (some ⟨tb, 0, none⟩) N N] 44) = wa at *
  generalize w2.heap.size = bx at *
  have Hbk := hide (show ∀ V, Below wa.heap.size wa V → V.cell? ⟨bx, 0, none⟩ = some (.slice (some ⟨tb, 0, none⟩) N N) from fun V hV => keepC hV (unhide Hbx).1 (unhide Hbx).2)
  clear Hbx
  go_loopw [7, 8] (fun v i wr => ∃ (E : El) (c len cp : Nat) (q : Option Addr), c ≤ N ∧ i = .int .i64 ((c : Int) + 1) ∧ v = .slice q len cp ∧ Hid (len = (lyP f w h c 0).length) ∧ wr.ownsRow wa.heap.size 25 1 (.slice q len cp) len ((lyP f w h c 0).map fun s => E.v s) ∧ (∀ s, s ∈ lyP f w h c 0 → Sh wr wa.heap.size E f w h s) ∧ Below wa.heap.size wa wr) (fun _ i _ => N + 1 - (intOf i).toNat)
  case atStart => exact ⟨⟨fun _ => none, fun _ => 0, fun _ => 0⟩, 0, 0, 0, none, Nat.zero_le _, rfl, rfl, (by rw [lyP_start]; rfl : 0 = (lyP f w h 0 0).length), by rw [lyP_start]; exact World.ownsRow_nil _ _ _ _, (fun s hs => by rw [lyP_start] at hs; cases hs), Below.refl _ _⟩
  case round =>
    obtain ⟨E, cc, len, cp, q, hc, rfl, rfl, Hlen, hown, hsh, hb⟩ := hrel
    have HO := hide hown
    have Hsh := hide hsh
    have Hb := hide hb
    have m1 := unhide Hbk wr hb
    clear hown hsh hb
    by_cases hlc : cc < N
    · have q1 : (cc : Int) + 1 ≤ (N : Int) := by omega
      go_wp2
      clear m1
      go_loopw [7, 29] (fun v i wr => ∃ (E : El) (s len cp : Nat) (q : Option Addr), s ≤ N ∧ i = .int .i64 s ∧ v = .slice q len cp ∧ Hid (len = (lyP f w h cc s).length) ∧ wr.ownsRow wa.heap.size 25 1 (.slice q len cp) len ((lyP f w h cc s).map fun s => E.v s) ∧ (∀ t, t ∈ lyP f w h cc s → Sh wr wa.heap.size E f w h t) ∧ Below wa.heap.size wa wr) (fun _ i _ => N - (intOf i).toNat)
      case atStart => exact ⟨E, 0, len, cp, q, Nat.zero_le _, rfl, rfl, Hlen, unhide HO, unhide Hsh, unhide Hb⟩
      case round =>
        clear HO Hsh Hb Hlen
        obtain ⟨E, s, len, cp, q, hs, rfl, rfl, Hlen, hown, hsh, hb⟩ := hrel
        have HO := hide hown
        have Hsh := hide hsh
        have Hb := hide hb
        have m1 := unhide Hbk wr hb
        clear hown hsh hb
        by_cases hls : s < N
        · have q2 : (s : Int) < (N : Int) := by omega
          have q3 : (0 : Int) ≤ (s : Int) := by omega
          have HA := hide (above26_any m1 ((unhide HTb).keep (unhide Hb)) (unhide HN) hN128 s hls)
          have hlen : len ≤ 128 := by rw [unhide Hlen]; have := lyP_len (f := f) (w := w) (h := h) (c := cc) (s := s) (by rw [← unhide HN]; exact hs); have := unhide HN; omega
          have Hno := hide (fun hk => lyP_no (f := f) (w := w) (h := h) (c := cc) (s := s) hk)
          have Hyes := hide (fun hk hf => lyP_yes (f := f) (w := w) (h := h) (c := cc) (s := s) hk hf)
          have Hnew := hide (fun hk t ht => lyP_new (f := f) (w := w) (h := h) (c := cc) (s := s) (t := t) hk ht)
          generalize kyN f w h s = ky at *
          by_cases hky : ky = cc + 1
          · have g1 : ((ky : Int) != (cc : Int) + 1) = false := by simp; omega
            have Hky := hide hky
            clear hky
            go_wp2_with fail
            refine (unhide HA).mono ?_
            rintro e w9 ⟨rfl, rfl⟩
            go_wp2
            clear m1
            obtain ⟨wq, hwq⟩ : ∃ wq, wq = w9 := ⟨_, rfl⟩
            rw [← hwq] at HO Hsh Hb
            have Hst := hide (show Below wq.heap.size wq w9 by rw [hwq]; exact Below.refl _ _)
            have HTq := hide ((unhide HTb).keep (unhide Hb))
            have Hbq := hide (show ∀ V, Below wq.heap.size wq V → V.cell? ⟨bx, 0, none⟩ = some (.slice (some ⟨tb, 0, none⟩) N N) from fun V hV => unhide Hbk V (btrans (unhide Hb) hV))
            clear hwq HA
            go_loopw [10, 11, 39] (fun fv v i wr => ∃ (x l2 c2 : Nat) (q2 : Option Addr), x ≤ N ∧ i = .int .i64 x ∧ fv = .bool (fiB f w h s x) ∧ v = .slice q2 l2 c2 ∧ Hid (l2 = (snP f w h s x).length) ∧ wr.ownsRow wq.heap.size 3 1 (.slice q2 l2 c2) l2 (lsV (snP f w h s x)) ∧ Below wq.heap.size wq wr) (fun _ _ i _ => N - (intOf i).toNat)
            case atStart => exact ⟨0, 0, 0, none, Nat.zero_le _, rfl, rfl, rfl, rfl, World.ownsRow_nil _ _ _ _, unhide Hst⟩
            case round =>
              clear Hst
              obtain ⟨x, l2, c2, q2', hx, rfl, rfl, rfl, Hl2, hO2, hb2⟩ := hrel
              have HO2 := hide hO2
              have Hb2 := hide hb2
              have hl2 : l2 ≤ 128 := by rw [unhide Hl2]; have := snP_len f w h s x; omega
              have m1 := unhide Hbq wr hb2
              clear hO2 hb2
              by_cases hlx : x < N
              · have q4 : (x : Int) < (N : Int) := by omega
                have q5 : (0 : Int) ≤ (x : Int) := by omega
                obtain ⟨⟨ca, r1⟩, r2, _⟩ := ((unhide HTq).keep (unhide Hb2)).2.1 x hlx
                obtain ⟨⟨ck, r4⟩, r5, _⟩ := ((unhide HTq).keep (unhide Hb2)).2.1 s hls
                have r3 := (r2.2 s hls).1
                have r6 := (r5.2 x hlx).1
                have Hsu := hide (snP_succ f w h s x)
                have Hfn := hide (fun hv => fiB_no (f := f) (w := w) (h := h) (s := s) (x := x) hv)
                have Hfy := hide (fun hv => fiB_yes (f := f) (w := w) (h := h) (s := s) (x := x) hv)
                clear r2 r5
                by_cases hboth : (ov f w h x s && ov f w h s x) = true
                · obtain ⟨h1, h2⟩ : ov f w h x s = true ∧ ov f w h s x = true := by simpa using hboth
                  rw [h1] at r3
                  rw [h2] at r6
                  have Hs2 := hide (show snP f w h s (x + 1) = snP f w h s x ++ [x] by rw [unhide Hsu, hboth]; rfl)
                  have Hf2 := hide (unhide Hfy hboth)
                  have hO1 := unhide HO2
                  have hb3 := unhide Hb2
                  have hsz := hb3.size
                  clear hboth h1 h2 Hsu Hfn Hfy
                  generalize fiB f w h s x = fv at *
                  cases fv with
                  | true =>
                    go_wp2_with (at_builtin; refine wpList_append_own _ rfl _ _ 25 rfl wq.heap.size 3 i3 (.int .i64 0) 1 8 Try.underlying25 hi3 hy0 hy1 hy2 rfl (by decide) _ _ _ rfl (hO1.alloc _) ⟨wr.heap.size, 0, none⟩ 1 1 [.int .i64 (x : Int)] rfl rfl (cell_one_new _ _ _) (by simp [Value.oneCell']) (by unfold maxLen; omega) (by omega) (by simp; omega) ?_)
                    intro v' w4 hown' hgrow _
                    have S6 := hide ((hb3.alloc hsz (.cells #[.int .i64 (x : Int)] 3)).grown hgrow (by simp; omega) (fun k hk => (hO1.lt k hk).1))
                    obtain ⟨q2'', cap', rfl⟩ := own_form hown'
                    have HO3 := hide hown'
                    clear hO1 hown' hgrow hb3 hsz r1 r3 r4 r6 m1
                    go_wp2
                    go_roundw
                    case rel => exact ⟨x + 1, l2 + 1, cap', q2'', by omega, by go_num, by rw [unhide Hf2]; simp, rfl, (by rw [unhide Hs2, unhide Hl2]; simp : l2 + 1 = (snP f w h s (x + 1)).length), by rw [unhide Hs2, lsV_snoc]; exact unhide HO3, unhide S6⟩
                    case measure => simp [intOf]; omega
                  | false =>
                    go_wp2_with (at_builtin; refine wpList_append_own _ rfl _ _ 25 rfl wq.heap.size 3 i3 (.int .i64 0) 1 8 Try.underlying25 hi3 hy0 hy1 hy2 rfl (by decide) _ _ _ rfl (hO1.alloc _) ⟨wr.heap.size, 0, none⟩ 1 1 [.int .i64 (x : Int)] rfl rfl (cell_one_new _ _ _) (by simp [Value.oneCell']) (by unfold maxLen; omega) (by omega) (by simp; omega) ?_)
                    intro v' w4 hown' hgrow _
                    have S6 := hide ((hb3.alloc hsz (.cells #[.int .i64 (x : Int)] 3)).grown hgrow (by simp; omega) (fun k hk => (hO1.lt k hk).1))
                    obtain ⟨q2'', cap', rfl⟩ := own_form hown'
                    have HO3 := hide hown'
                    clear hO1 hown' hgrow hb3 hsz r1 r3 r4 r6 m1
                    go_wp2
                    go_roundw
                    case rel => exact ⟨x + 1, l2 + 1, cap', q2'', by omega, by go_num, by rw [unhide Hf2]; rfl, rfl, (by rw [unhide Hs2, unhide Hl2]; simp : l2 + 1 = (snP f w h s (x + 1)).length), by rw [unhide Hs2, lsV_snoc]; exact unhide HO3, unhide S6⟩
                    case measure => simp [intOf]; omega
                · have hb' : (ov f w h x s && ov f w h s x) = false := by simpa using hboth
                  have Hs2 := hide (show snP f w h s (x + 1) = snP f w h s x by rw [unhide Hsu, hb']; rfl)
                  have Hf2 := hide (unhide Hfn hb')
                  clear hboth Hsu Hfn Hfy
                  generalize fiB f w h s x = fv at *
                  cases h1 : ov f w h x s with
                  | false =>
                    rw [h1] at r3
                    clear h1 hb'
                    go_wp2
                    go_roundw
                    case rel => exact ⟨x + 1, l2, c2, q2', by omega, by go_num, by rw [unhide Hf2], rfl, (by rw [unhide Hs2]; exact unhide Hl2 : l2 = (snP f w h s (x + 1)).length), by rw [unhide Hs2]; exact unhide HO2, unhide Hb2⟩
                    case measure => simp [intOf]; omega
                  | true =>
                    rw [h1] at r3
                    have h2 : ov f w h s x = false := by simpa [h1] using hb'
                    rw [h2] at r6
                    clear h1 h2 hb'
                    go_wp2
                    go_roundw
                    case rel => exact ⟨x + 1, l2, c2, q2', by omega, by go_num, by rw [unhide Hf2], rfl, (by rw [unhide Hs2]; exact unhide Hl2 : l2 = (snP f w h s (x + 1)).length), by rw [unhide Hs2]; exact unhide HO2, unhide Hb2⟩
                    case measure => simp [intOf]; omega
              · obtain rfl : N = x := by omega
                have cl : ¬ ((N : Int) < (N : Int)) := by omega
                have HsN : s < w + h := by rw [← unhide HN]; exact hls
                have Hsa := hide (snP_all (f := f) (w := w) (h := h) (s := s) (unhide HN))
                have Hfa := hide (fiB_all (f := f) (w := w) (h := h) (s := s) (unhide HN) HsN)
                have hpos : 1 ≤ l2 := by rw [unhide Hl2, unhide Hsa]; exact shL_pos HsN
                obtain ⟨g, c', hq⟩ := own_slice (unhide HO2) hpos
                obtain ⟨rfl, rfl⟩ : q2' = some ⟨g, 0, none⟩ ∧ c2 = c' := by simpa using hq
                have HOk := hide (own_keep (unhide HO) (unhide Hb2))
                have Hsk := hide (fun t ht => (unhide Hsh t ht).keep (unhide Hb2))
                have Hbk2 := hide (btrans (unhide Hb) (unhide Hb2))
                clear hq HsN
                cases hfv : fiB f w h s N with
                | true =>
                  have Hsu := hide (unhide Hyes (unhide Hky) (by rw [← unhide Hfa]; exact hfv))
                  have hO1 := unhide HOk
                  have hb3 := unhide Hbk2
                  have hsz := hb3.size
                  clear hfv
                  go_wp2_with (at_builtin; refine wpList_append_own _ rfl _ _ 32 rfl wa.heap.size 25 i5 (.slice none 0 0) 1 24 Try.underlying32 hi5 hx0 hx1 hx2 rfl (by decide) _ _ _ rfl (hO1.alloc _) ⟨wr.heap.size, 0, none⟩ 1 1 [.slice (some ⟨g, 0, none⟩) l2 c2] rfl rfl (cell_one_new _ _ _) (by simp [Value.oneCell']) (by unfold maxLen; omega) (by omega) (by simp; omega) ?_)
                  intro v' w4 hown' hgrow _
                  have S6 := hide ((hb3.alloc hsz (.cells #[.slice (some ⟨g, 0, none⟩) l2 c2] 25)).grown hgrow (by simp; omega) (fun k hk => (hO1.lt k hk).1))
                  have B1 := bal (o := .cells #[.slice (some ⟨g, 0, none⟩) l2 c2] 25) (Below.refl wr.heap.size wr)
                  have Hnw := hide (show Sh w4 wa.heap.size (E.put s (some ⟨g, 0, none⟩) l2 c2) f w h s from
                    ⟨⟨g, by simp [El.put]⟩, by simp [El.put]; rw [← unhide Hsa]; exact unhide Hl2, by
                      rw [El.put_at, show (E.put s (some ⟨g, 0, none⟩) l2 c2).l s = l2 by simp [El.put], ← unhide Hsa]
                      exact ((own_keep (unhide HO2) B1).kept hgrow (tag_ne (own_keep (unhide HO2) B1) (hO1.alloc _) (by decide))).mono (unhide Hb).size⟩)
                  have Hold := hide (show ∀ t, t ∈ lyP f w h cc s → Sh w4 wa.heap.size (E.put s (some ⟨g, 0, none⟩) l2 c2) f w h t from fun t ht =>
                    (((unhide Hsk t ht).keep B1).grown (hO1.alloc _) hgrow).put s _ _ _ (unhide Hnew (unhide Hky) t ht))
                  have Hne := hide (fun t ht => unhide Hnew (unhide Hky) t ht)
                  obtain ⟨q2'', cap', rfl⟩ := own_form hown'
                  have HO3 := hide hown'
                  clear hO1 hown' hgrow hb3 hsz B1 m1
                  go_wp2
                  go_roundw
                  case rel =>
                    refine ⟨E.put s (some ⟨g, 0, none⟩) l2 c2, s + 1, len + 1, cap', q2'', by omega, by go_num, rfl, (by rw [unhide Hsu, unhide Hlen]; simp : len + 1 = (lyP f w h cc (s + 1)).length), ?_, ?_, unhide S6⟩
                    · rw [unhide Hsu, List.map_append, map_put _ _ _ _ _ _ (unhide Hne), List.map_cons, El.put_at, List.map_nil]
                      exact unhide HO3
                    · intro t ht
                      rw [unhide Hsu, List.mem_append] at ht
                      rcases ht with ht | ht
                      · exact unhide Hold t ht
                      · simp at ht; subst ht; exact unhide Hnw
                  case measure => simp [intOf]; omega
                | false =>
                  have Hsu := hide (unhide Hno (fun h9 => by rw [← unhide Hfa, hfv] at h9; exact absurd h9.2 (by simp)))
                  clear hfv
                  go_wp2
                  go_roundw
                  case rel => exact ⟨E, s + 1, len, cp, q, by omega, by go_num, rfl, (by rw [unhide Hsu]; exact unhide Hlen : len = (lyP f w h cc (s + 1)).length), by rw [unhide Hsu]; exact unhide HOk, by rw [unhide Hsu]; exact unhide Hsk, unhide Hbk2⟩
                  case measure => simp [intOf]; omega
          · have g1 : ((ky : Int) != (cc : Int) + 1) = true := by simp; omega
            have Hsu := hide (unhide Hno (fun h9 => hky h9.1))
            clear hky
            go_wp2_with fail
            refine (unhide HA).mono ?_
            rintro e w9 ⟨rfl, rfl⟩
            go_wp2
            go_roundw
            case rel => exact ⟨E, s + 1, len, cp, q, by omega, by go_num, rfl, (by rw [unhide Hsu]; exact unhide Hlen : len = (lyP f w h cc (s + 1)).length), by rw [unhide Hsu]; exact unhide HO, by rw [unhide Hsu]; exact unhide Hsh, unhide Hb⟩
            case measure => simp [intOf]; omega
        · obtain rfl : N = s := by omega
          have cl : ¬ ((N : Int) < (N : Int)) := by omega
          have Hrw := hide (lyP_row (f := f) (w := w) (h := h) (c := cc) (unhide HN))
          go_wp2
          go_roundw
          case rel => exact ⟨E, cc + 1, len, cp, q, by omega, by go_num, rfl, (by rw [← unhide Hrw]; exact unhide Hlen : len = (lyP f w h (cc + 1) 0).length), by rw [← unhide Hrw]; exact unhide HO, by rw [← unhide Hrw]; exact unhide Hsh, unhide Hb⟩
          case measure => simp [intOf]; omega
    · obtain rfl : N = cc := by omega
      have cl : ¬ ((N : Int) + 1 ≤ (N : Int)) := by omega
      have He := hide (lyP_end (f := f) (w := w) (h := h) (unhide HN))
      have hO1 := unhide HO
      rw [unhide He] at hO1
      have Hl1 := hide (show len = (lyF f w h).length by rw [← unhide He]; exact unhide Hlen)
      have hpos : 1 ≤ len := by rw [unhide Hl1, lyF_len]; exact List.length_pos_of_mem (fs_of (f := f) (w := w) (h := h) (t := 0) hN0).1
      obtain ⟨g, c', hq⟩ := own_slice hO1 hpos
      obtain ⟨rfl, rfl⟩ : q = some ⟨g, 0, none⟩ ∧ cp = c' := by simpa using hq
      have Hfin := hide (show LLs wr (some ⟨g, 0, none⟩) (lyL f w h) from ⟨g, rfl, (hO1.lt g rfl).2, fun k hk => by
        have hk3 : k < (lyF f w h).length := by simpa [lyL] using hk
        have e : (lyL f w h).getD k [] = shL f w h ((lyF f w h)[k]) := by simp [lyL, List.getD, List.getElem?_eq_getElem hk3]
        obtain ⟨⟨g1, a1⟩, a2, a3⟩ := unhide Hsh ((lyF f w h)[k]) (by rw [unhide He]; exact List.getElem_mem hk3)
        rw [e]
        refine ⟨g1, E.c ((lyF f w h)[k]), ?_, ?_⟩
        · rw [hO1.cellAt k (by have := unhide Hl1; omega)]
          rw [← a2, ← a1]
          simp [List.getElem?_eq_getElem hk3]
        · rw [El.v, a1] at a3
          exact own_nr a3 a2⟩)
      have Hlen2 := hide (show len = (lyL f w h).length by rw [unhide Hl1]; simp [lyL])
      clear hO1 hq
      go_wp2
      exact bodyPost_ret (v := .tuple #[.slice (some ⟨g, 0, none⟩) len cp, .int .i64 0]) (by simp [results, Try.results12, go_sem]) rfl ⟨_, cp, len, rfl, unhide Hlen2, unhide Hfin, btrans (unhide S2) (unhide Hb)⟩
end Go.Proofs.Ytbbilogkblmniaa
