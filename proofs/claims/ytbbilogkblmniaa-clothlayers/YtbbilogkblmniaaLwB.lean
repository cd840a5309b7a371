/-
  ClothLayers: the law's walk.
-/
import Derived.Test.YtbbilogkblmniaaLwA
namespace Go.Proofs.Ytbbilogkblmniaa
open Go.RowKit

set_option maxHeartbeats 2000000 in
theorem layer_err (w h : Int) (p : Option Addr) (n cap : Nat) (q : Option Addr) (k c : Nat) (W : World) (h0 : cE w h n ≠ 0) : LawIs 5 #[tr w h p n cap, .slice q k c] W := by
  unfold LawIs
  obtain ⟨er, he⟩ : ∃ er, cE w h n = er := ⟨_, rfl⟩
  rw [he] at h0
  have HA := hide (fun V => alive_any V)
  have HL := hide (fun V => layers_err w h p n cap V er he h0)
  have HO := hide (OwnM.new W w h p n cap 24)
  have B0 := hide (bal (o := .cells #[.int .i64 w, .int .i64 h, .slice p n cap] 24) (Below.refl W.heap.size W))
  have hr' : (er != 0) = true := by simp [h0]
  clear he h0
  go_enter Try.func5, Try.ntmps5
  go_wp2_with fail
  refine (unhide HA _).mono ?_
  rintro e w1 ⟨rfl, hb1⟩
  obtain ⟨k1, k2, k3, k4⟩ := (unhide HO).keep hb1
  have S1 := hide (btrans (unhide B0) hb1)
  clear hb1
  go_wp2_with fail
  refine (unhide HL _).mono ?_
  rintro e w2 ⟨rfl, hb2⟩
  have S2 := hide (btrans (unhide S1) hb2)
  clear hb2 k1 k2 k3 k4
  go_wp2
  go_ret
  exact ⟨rfl, unhide S2⟩

theorem flN_len (f : Nat → Bool) (w h i : Nat) : (flN f w h i).length ≤ w + h := by
  have := (flN_nodup f w h i).length_le_of_subset (l₂ := List.range (w + h)) (fun a ha => by simpa using fl_lt ha)
  simpa using this
theorem nr_news {V : World} {g : Nat} {l : List Nat} (hn : Nr V g l) : ∀ j u, (lsV l)[j]? = some u → V.cell? ((⟨g, 0, none⟩ : Addr).add j) = some u := by
  intro j u hj
  have hjl : j < l.length := by
    have := List.getElem?_eq_some_iff.1 hj
    obtain ⟨h1, _⟩ := this
    simpa [lsV] using h1
  have := hn.2 j hjl
  simp [lsV, List.getElem?_eq_getElem hjl] at hj
  rw [← hj]
  by_cases e : j = 0
  · subst e
    simpa [Addr.add, List.getD, List.getElem?_eq_getElem hjl] using this
  · simpa [Addr.add, e, List.getD, List.getElem?_eq_getElem hjl] using this
theorem ls_one {l : List Nat} : ∀ u, u ∈ lsV l → u.oneCell' = true := by
  intro u hu
  obtain ⟨k, _, rfl⟩ := List.mem_map.1 hu
  rfl

set_option maxRecDepth 100000 in
set_option maxHeartbeats 8000000 in
theorem layer_ok {W : World} {w h : Nat} {p : Option Addr} {n cap : Nat} {f : Nat → Bool} (r : Rt W w h p n cap f) (h0 : 0 < n) (q : Option Addr) (k c : Nat) (F : Nat → Int) (hF : Is W q k F) (hk : k ≤ maxLen) : LawIs 5 #[tr w h p n cap, .slice q k c] W := by
  unfold LawIs
  have hw := r.1
  have hh := r.2.1
  obtain ⟨i0, hi, hz0, hz1, hz2⟩ := info_parts info4
  obtain ⟨i3, hi3, hy0, hy1, hy2⟩ := info_parts info3
  have HA := hide (fun V => alive_any V)
  have HT := hide (Tb.new r)
  have B0 := hide (bal (o := .cells #[.int .i64 w, .int .i64 h, .slice p n cap] 24) (Below.refl W.heap.size W))
  have HF := hide (hF.keep (unhide B0))
  obtain ⟨N, hN⟩ : ∃ N : Nat, N = w + h := ⟨_, rfl⟩
  have e1 : (w : Int) + (h : Int) = (N : Int) := by omega
  have HN := hide hN
  have hN128 : N ≤ 128 := by omega
  have hN0 : 0 < w + h := by
    have := r.2.2.1
    rcases Nat.eq_zero_or_pos w with e | e
    · rw [e, Nat.zero_mul] at this; omega
    · omega
  have Hone := hide (hg_one (f := f) hN0)
  have hby : i0.bytes * N ≤ 281474976710656 := by rw [hz2]; omega
  have hml : N ≤ maxLen := by unfold maxLen; omega
  clear hF r hN
  go_enter Try.func5, Try.ntmps5
  go_wp2_with fail
  generalize W.alloc (.cells #[.int .i64 w, .int .i64 h, .slice p n cap] 24) = w0 at *
  refine (unhide HA _).mono ?_
  rintro e w1 ⟨rfl, hb1⟩
  have HT1 := hide ((unhide HT).keep hb1)
  have HF1 := hide ((unhide HF).keep hb1)
  have S1 := hide (btrans (unhide B0) hb1)
  obtain ⟨k1, k2, k3, k4⟩ := (unhide HT1).1
  have HL := hide (layers_ok (unhide HT1).2 h0)
  clear hb1 HT HF B0 HA
  go_wp2_with fail
  refine (unhide HL).mono ?_
  rintro e w2 ⟨ql, cp, len, rfl, hlen, hLL, hb2⟩
  have HT2 := hide ((unhide HT1).keep hb2)
  have HF2 := hide ((unhide HF1).keep hb2)
  have S2 := hide (btrans (unhide S1) hb2)
  have HLL := hide hLL
  have Hlen := hide hlen
  have hlen128 : len ≤ 128 := by
    have h1 := fsL_len f w h
    have h2 := lyF_len f w h
    have h3 : (lyL f w h).length = (lyF f w h).length := by simp [lyL]
    have := unhide HN
    omega
  clear hb2 HT1 HF1 S1 k1 k2 k3 k4 hLL hlen HL
  obtain ⟨k1, k2, k3, k4⟩ := (unhide HT2).1
  have HH := hide (show HangsIs w h p n cap w2 ((len : Int) == 1) 0 by
    have := hangs_ok (unhide HT2).2 h0
    rw [unhide Hone, ← unhide Hlen] at this
    have e : ((len : Int) == 1) = (len == 1) := by rw [Bool.eq_iff_iff]; simp; omega
    rw [e]; exact this)
  obtain ⟨ok, hok⟩ : ∃ ok, ((len : Int) == 1) = ok := ⟨_, rfl⟩
  rw [hok] at HH
  have gok : (ok != ok) = false := by simp
  go_wp2_with fail
  refine (unhide HH).mono ?_
  rintro e w3 ⟨rfl, hb3⟩
  have HT3 := hide ((unhide HT2).keep hb3)
  have HF3 := hide ((unhide HF2).keep hb3)
  have HL3 := hide ((unhide HLL).keep hb3)
  have S3 := hide (btrans (unhide S2) hb3)
  clear hb3 HT2 HF2 S2 HLL k1 k2 k3 k4 HH
  obtain ⟨k1, k2, k3, k4⟩ := (unhide HT3).1
  go_wp2_with (refine wpList_make_full _ rfl _ _ 22 rfl w3.heap.size 4 i0 _ 1 Try.underlying22 hi hz0 hz1 .i64 .i64 (N : Int) (N : Int) N rfl rfl rfl rfl hby hml (Nat.le_refl _) ?_)
  intro wm hown hgrow
  have S4 := (Below.refl _ w3).grown hgrow (Nat.le_refl _) (fun k hk => by cases hk)
  have HR0 := hide (show BRow wm w3.heap.size N (mkF (flN f w h 0)) by have := brow_made hown; exact this)
  have HS0 := hide S4
  have hz3 : w3.heap.size < wm.heap.size := (hown.lt w3.heap.size rfl).2
  obtain ⟨gL, hgL, hgLs, hgLk⟩ := unhide HL3
  subst hgL
  have HgLk := hide hgLk
  have HgLs := hide hgLs
  clear S4 hown hgrow hi hz0 hz1 hz2 hby hml k1 k2 k3 k4 hok gok e1 hgLk hgLs HL3
  go_wp2
  obtain ⟨bs, hbs⟩ : ∃ b, b = w3.heap.size := ⟨_, rfl⟩
  rw [← hbs] at HR0 hz3
  rw [← hbs]
  have Hbs := hide hbs
  clear hbs
  have Hset := hide (show ∀ wr, Below w3.heap.size w3 wr → ∀ (o : Nat) (u : Value), Below w3.heap.size w3 (wr.setCell ⟨bs, o, none⟩ u) from fun wr hb o u => bset hb (by rw [unhide Hbs]; exact Nat.le_refl _))
  go_loopw [8, 47] (fun v i wr => ∃ (x la ca : Nat) (qa : Option Addr), x ≤ len ∧ i = .int .i64 x ∧ v = .slice qa la ca ∧ Hid (la = (flN f w h x).length) ∧ wr.ownsRow (bs + 1) 3 1 (.slice qa la ca) la (lsV (flN f w h x)) ∧ BRow wr bs N (mkF (flN f w h x)) ∧ Below w3.heap.size w3 wr) (fun _ i _ => len - (intOf i).toNat)
  case atStart => exact ⟨0, 0, 0, none, Nat.zero_le _, rfl, rfl, rfl, World.ownsRow_nil _ _ _ _, unhide HR0, unhide HS0⟩
  case round =>
    clear HR0 HS0
    obtain ⟨x, la, ca, qa, hx, rfl, rfl, Hla, hOa, hR, hb⟩ := hrel
    have HOa := hide hOa
    have HR := hide hR
    have Hb := hide hb
    clear hOa hR hb
    by_cases hlt : x < len
    · have q1 : (x : Int) < (len : Int) := by omega
      have q2 : (0 : Int) ≤ (x : Int) := by omega
      have hxL : x < (lyL f w h).length := by rw [← unhide Hlen]; exact hlt
      obtain ⟨gk, ck, r1, r2⟩ := unhide HgLk x hxL
      have r3 := keepC (unhide Hb) (unhide HgLs) r1
      have HNr := hide (show Nr w3 gk ((lyL f w h).getD x []) from r2)
      have Hfs := hide (flN_succ hxL)
      have Hnd := hide (show (flN f w h x ++ (lyL f w h).getD x []).Nodup by rw [← flN_succ hxL]; exact flN_nodup f w h (x + 1))
      have Hpos := hide (ly_pos hxL)
      have Hlt := hide (show ∀ y, y ∈ (lyL f w h).getD x [] → y < w + h from fun y hy => fl_lt (i := x + 1) (by rw [flN_succ hxL]; exact List.mem_append_right _ hy))
      have Htn := hide (show tnB f w (((lyL f w h).getD x []).filter (inF F k)) (((lyL f w h).getD x []).filter fun x => !inF F k x) = false by rw [(ly_at hxL).1]; exact no_torn (mem_fsL.1 (ly_at hxL).2).1 _)
      have Hfl := hide (fun (h9 : x + 1 < len) => fl_free (f := f) (w := w) (h := h) (i := x) (by rw [← unhide Hlen]; exact h9))
      have HfN := hide (flN_len f w h (x + 1))
      obtain ⟨ls, hls⟩ : ∃ ls, ls = ((lyL f w h).getD x []).length := ⟨_, rfl⟩
      rw [← hls] at r3
      generalize (lyL f w h).getD x [] = S at *
      have Hls := hide hls
      have hlsp : 0 < ls := by rw [hls]; exact unhide Hpos
      have hls128 : ls ≤ 128 := by
        have := unhide HfN
        rw [unhide Hfs, List.length_append] at this
        have := unhide HN
        omega
      have hla128 : la ≤ 128 ∧ la + ls ≤ 128 := by
        have h1 := unhide HfN
        rw [unhide Hfs, List.length_append] at h1
        have := unhide HN
        have := unhide Hla
        omega
      have g0 : ((ls : Int) == 0) = false := by simp; omega
      clear hls r1 r2 hxL
      go_wp2
      clear r3
      go_loopw [57] (fun i wr => ∃ j : Nat, j ≤ ls ∧ i = .int .i64 j ∧ wr.ownsRow (bs + 1) 3 1 (.slice qa la ca) la (lsV (flN f w h x)) ∧ BRow wr bs N (mkF (flN f w h x ++ S.take j)) ∧ Below w3.heap.size w3 wr) (fun i _ => ls - (intOf i).toNat)
      case atStart => exact ⟨0, Nat.zero_le _, rfl, unhide HOa, by rw [List.take_zero, List.append_nil]; exact unhide HR, unhide Hb⟩
      case round =>
        clear HOa HR Hb
        obtain ⟨j, hj, rfl, hOa, hR, hb⟩ := hrel
        have HOa := hide hOa
        have HR := hide hR
        have Hb := hide hb
        clear hOa hR hb
        by_cases hlj : j < ls
        · have q3 : (j : Int) < (ls : Int) := by omega
          have q4 : (0 : Int) ≤ (j : Int) := by omega
          have hjS : j < S.length := by rw [← unhide Hls]; exact hlj
          have r1 := ((unhide HNr).keep (unhide Hb)).2 j hjS
          have hzN : S.getD j 0 < N := by rw [unhide HN]; exact unhide Hlt _ (getD_mem hjS)
          have Hns := hide (not_seen (unhide Hnd) hjS)
          have Htm := hide (take_more (A := flN f w h x) hjS)
          generalize S.getD j 0 = z at *
          have r2 : wr.cell? ⟨bs, z, none⟩ = some (.bool false) := by
            have := ((unhide HR).2 z hzN).1
            rw [show mkF (flN f w h x ++ S.take j) z = false from decide_eq_false (unhide Hns)] at this
            exact this
          have r4 := ((unhide HR).2 z hzN).2
          have HRn := hide (show BRow (wr.setCell ⟨bs, z, none⟩ (.bool true)) bs N (mkF (flN f w h x ++ S.take (j + 1))) by have := (unhide HR).set z true; rw [mkF_snoc, ← unhide Htm] at this; exact this)
          have HOn := hide (ownsRow_setCell_below (unhide HOa) (a := ⟨bs, z, none⟩) (Nat.lt_succ_self _) (.bool true))
          have Hbn := hide (unhide Hset wr (unhide Hb) z (.bool true))
          have g1 : ¬ ((z : Int) < 0) := by omega
          have g1' : decide ((z : Int) < 0) = false := by simp
          have g2 : ¬ ((N : Int) ≤ (z : Int)) := by omega
          have g2' : decide ((N : Int) ≤ (z : Int)) = false := by simp; omega
          have g3 : (z : Int) < (N : Int) := by omega
          have g4 : (0 : Int) ≤ (z : Int) := by omega
          clear HOa HR Hb hjS hzN
          go_wp2
          go_roundw
          case rel => exact ⟨j + 1, by omega, by go_num, unhide HOn, unhide HRn, unhide Hbn⟩
          case measure => simp [intOf]; omega
        · obtain rfl : ls = j := by omega
          have cl : ¬ ((ls : Int) < (ls : Int)) := by omega
          have HR2 := hide (show BRow wr bs N (mkF (flN f w h (x + 1))) by have := unhide HR; rw [unhide Hls, List.take_length, ← unhide Hfs] at this; exact this)
          have hO1 := unhide HOa
          have hb2 := unhide Hb
          have hsz : bs < wr.heap.size := (unhide HR).1
          have hNw := (unhide HNr).keep hb2
          clear HR
          go_wp2_with (at_builtin; refine wpList_append_own _ rfl _ _ 25 rfl (bs + 1) 3 i3 (.int .i64 0) 1 8 Try.underlying25 hi3 hy0 hy1 hy2 rfl (by decide) _ _ _ rfl hO1 ⟨gk, 0, none⟩ ls ck (lsV S) rfl (by rw [unhide Hls]; simp [lsV]) (nr_news hNw) ls_one (by unfold maxLen; omega) (by omega) (by omega) ?_)
          intro v' w4 hown' hgrow _
          have S6 := hide (hb2.grown hgrow hb2.size (fun k hk => by have := (hO1.lt k hk).1; have := unhide Hbs; omega))
          have HR6 := hide ((unhide HR2).grown hgrow (fun e => by have := (hO1.lt bs e.symm).1; omega))
          obtain ⟨ga, cap', hv'⟩ := own_slice hown' (by omega)
          subst hv'
          have HO6 := hide (show w4.ownsRow (bs + 1) 3 1 (.slice (some ⟨ga, 0, none⟩) (la + ls) cap') (la + ls) (lsV (flN f w h (x + 1))) by rw [unhide Hfs, lsV, List.map_append]; exact hown')
          have Hla2 := hide (show la + ls = (flN f w h (x + 1)).length by rw [unhide Hfs, List.length_append, unhide Hla, unhide Hls])
          clear hO1 hown' hgrow hb2 hNw HOa Hb HR2
          have hx1 : x + 1 ≤ len := by omega
          obtain ⟨x1, hx1e⟩ : ∃ x1 : Nat, x1 = x + 1 := ⟨_, rfl⟩
          have z1 : (x : Int) + 1 = (x1 : Int) := by omega
          have Hx1 := hide hx1e
          by_cases hlast : x + 1 < len
          · have g5 : (x1 : Int) < (len : Int) := by omega
            clear hx1e
            have HT6 := hide ((unhide HT3).keep (unhide S6))
            obtain ⟨m0, m1, m2, m3⟩ := (unhide HT6).1
            have HFr := hide (show FreeIs w4 w h p n cap (some ⟨ga, 0, none⟩) (la + ls) cap' true by
              have := free_any (unhide HT6).2 (some ⟨ga, 0, none⟩) (la + ls) cap' (gtF (flN f w h (x + 1))) (by have := (own_nr (unhide HO6) (unhide Hla2)).is; rw [← unhide Hla2] at this; exact this) (by unfold maxLen; omega)
              rw [unhide Hla2, unhide Hfl hlast, ← unhide Hla2] at this
              exact this)
            go_wp2_with fail
            refine (unhide HFr).mono ?_
            rintro e w7 ⟨rfl, hb7⟩
            have S7 := hide (btrans (unhide S6) hb7)
            have HO7 := hide (own_keep (unhide HO6) hb7)
            have HR7 := hide ((unhide HR6).keep hb7)
            clear hb7 S6 HO6 HR6 m0 m1 m2 m3 HFr HT6
            have HT7 := hide ((unhide HT3).keep (unhide S7))
            obtain ⟨m0, m1, m2, m3⟩ := (unhide HT7).1
            have HTo := hide (by have := torn_any (cS := ck) (c := c) (unhide HT7).2 S gk ls ((unhide HNr).keep (unhide S7)) (unhide Hls) (unhide Hlt) (by omega) q k F ((unhide HF3).keep (unhide S7)) hk; rw [unhide Htn] at this; exact this)
            go_wp2_with fail
            refine (unhide HTo).mono ?_
            rintro e w8 ⟨rfl, hb8⟩
            have S8 := hide (btrans (unhide S7) hb8)
            have HO8 := hide (own_keep (unhide HO7) hb8)
            have HR8 := hide ((unhide HR7).keep hb8)
            clear hb8 S7 HO7 HR7 m0 m1 m2 m3 HTo HT7
            go_wp2
            go_roundw
            case rel => exact ⟨x + 1, la + ls, cap', some ⟨ga, 0, none⟩, hx1, by rw [unhide Hx1], rfl, unhide Hla2, unhide HO8, unhide HR8, unhide S8⟩
            case measure => have := unhide Hx1; simp [intOf]; omega
          · have g5 : ¬ ((x1 : Int) < (len : Int)) := by omega
            have g5' : decide ((x1 : Int) < (len : Int)) = false := by simp; omega
            clear hx1e
            have HT7 := hide ((unhide HT3).keep (unhide S6))
            obtain ⟨m0, m1, m2, m3⟩ := (unhide HT7).1
            have HTo := hide (by have := torn_any (cS := ck) (c := c) (unhide HT7).2 S gk ls ((unhide HNr).keep (unhide S6)) (unhide Hls) (unhide Hlt) (by omega) q k F ((unhide HF3).keep (unhide S6)) hk; rw [unhide Htn] at this; exact this)
            go_wp2_with fail
            refine (unhide HTo).mono ?_
            rintro e w8 ⟨rfl, hb8⟩
            have S8 := hide (btrans (unhide S6) hb8)
            have HO8 := hide (own_keep (unhide HO6) hb8)
            have HR8 := hide ((unhide HR6).keep hb8)
            clear hb8 S6 HO6 HR6 m0 m1 m2 m3 HTo HT7
            go_wp2
            go_roundw
            case rel => exact ⟨x + 1, la + ls, cap', some ⟨ga, 0, none⟩, hx1, by rw [unhide Hx1], rfl, unhide Hla2, unhide HO8, unhide HR8, unhide S8⟩
            case measure => have := unhide Hx1; simp [intOf]; omega
    · obtain rfl : len = x := by omega
      have cl : ¬ ((len : Int) < (len : Int)) := by omega
      have HR1 := hide (show ∀ t, t < N → wr.cell? ⟨bs, t, none⟩ = some (.bool true) from fun t ht => by
        have := ((unhide HR).2 t ht).1
        rw [show mkF (flN f w h len) t = true from decide_eq_true (by rw [unhide Hlen]; exact fl_end (by rw [← unhide HN]; exact ht))] at this
        exact this)
      have Hb1 := hide (btrans (unhide S3) (unhide Hb))
      clear HOa HR Hb
      go_wp2
      clear cl hlt
      go_loopw [100] (fun i w2 => w2 = wr ∧ ∃ t : Nat, t ≤ N ∧ i = .int .i64 t) (fun i _ => N - (intOf i).toNat)
      case atStart => exact ⟨rfl, 0, Nat.zero_le _, rfl⟩
      case round =>
        obtain ⟨rfl, t, ht, rfl⟩ := hrel
        by_cases hlt : t < N
        · have q1 : (t : Int) < (N : Int) := by omega
          have q2 : (0 : Int) ≤ (t : Int) := by omega
          have r1 := unhide HR1 t hlt
          go_wp2
          go_roundw
          case rel => exact ⟨trivial, t + 1, by omega, by go_num⟩
          case measure => simp [intOf]; omega
        · obtain rfl : N = t := by omega
          have cl : ¬ ((N : Int) < (N : Int)) := by omega
          go_wp2
          go_ret
          exact ⟨rfl, unhide Hb1⟩

theorem layer_any (w h : Int) (p : Option Addr) (n cap : Nat) (f : Nat → Bool) (q : Option Addr) (k c : Nat) (F : Nat → Int) (W : World) (hB : Bs W p n cap f) (hF : Is W q k F) (hk : k ≤ maxLen) : LawIs 5 #[tr w h p n cap, .slice q k c] W := by
  by_cases h0 : cE w h n = 0
  · obtain ⟨w', h', rfl, rfl, e1, e2, e3, e4⟩ := cE_zero h0
    exact layer_ok ⟨e1, e2, e3, hB⟩ e4 q k c F hF hk
  · exact layer_err w h p n cap q k c W h0
end Go.Proofs.Ytbbilogkblmniaa
