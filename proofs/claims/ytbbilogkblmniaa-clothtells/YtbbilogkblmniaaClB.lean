/-
  over: the strands that are over one.
-/
import Derived.Test.YtbbilogkblmniaaClB0
namespace Go.Proofs.Ytbbilogkblmniaa
open Go.RowKit

/-- the marks of what is found -/
def mkF (l : List Nat) (j : Nat) : Bool := decide (j ∈ l)
theorem mkF_snoc (l : List Nat) (y : Nat) : (fun i => if i = y then true else mkF l i) = mkF (l ++ [y]) := by
  funext i
  by_cases e : i = y
  · simp [mkF, e]
  · simp [mkF, e]
theorem mkF_one (s : Nat) : (fun i => if i = s then true else false) = mkF [s] := by
  funext i
  by_cases e : i = s <;> simp [mkF, e]

def OverIs (s N b3 b4 : Nat) (W : World) (L : List Nat) : Prop := Calls Try.prog 19 #[.int .i64 s, .int .i64 N, .func (.func 31) #[] #[.pointer (some ⟨b3, 0, none⟩), .pointer (some ⟨b4, 0, none⟩)]] W fun e V => ∃ q cp len, e = .returned (.slice (some ⟨q, 0, none⟩) len cp) ∧ len = L.length ∧ Nr V q L ∧ W.heap.size ≤ q ∧ Below W.heap.size W V

set_option maxRecDepth 100000 in
set_option maxHeartbeats 4000000 in
theorem over_any {W : World} {b1 b3 b4 w h : Nat} {p : Option Addr} {n cap : Nat} {f : Nat → Bool} (c : Cr W b1 b3 b4 w h p n cap f) (hw : w ≤ 64) (hh : h ≤ 64) (s N : Nat) (hN : N = w + h) (hs : s < N) : OverIs s N b3 b4 W (ovL f w h s) := by
  unfold OverIs
  obtain ⟨i0, hi, hz0, hz1, hz2⟩ := info_parts info4
  obtain ⟨i3, hi3, hy0, hy1, hy2⟩ := info_parts info3
  have hby : i0.bytes * N ≤ 281474976710656 := by rw [hz2]; omega
  have hml : N ≤ maxLen := by unfold maxLen; omega
  have h128 : N ≤ 128 := by omega
  have q0 : (s : Int) < (N : Int) := by omega
  have q1 : (0 : Int) ≤ (s : Int) := by omega
  have HN := hide hN
  have Hc := hide c
  have HBf := hide (Bf.start f w h s (by omega))
  clear hN c
  go_enter Try.func19, Try.ntmps19
  go_wp2_with (refine wpList_make_full _ rfl _ _ 22 rfl W.heap.size 4 i0 _ 1 Try.underlying22 hi hz0 hz1 .i64 .i64 (N : Int) (N : Int) N rfl rfl rfl rfl hby hml (Nat.le_refl _) ?_)
  intro wm hown hgrow
  have R0 := brow_made hown
  have S0 := (Below.refl _ W).grown hgrow (Nat.le_refl _) (fun k hk => by cases hk)
  have k0 := (R0.2 s hs).1
  have k1 := (R0.2 s hs).2
  have R1 := R0.set s true
  have S1 := bset (p := ⟨W.heap.size, s, none⟩) (u := .bool true) S0 (Nat.le_refl _)
  rw [mkF_one] at R1
  have hsz : W.heap.size < wm.heap.size := R0.1
  have hO : ((wm.setCell ⟨W.heap.size, s, none⟩ (.bool true)).alloc (.cells #[.int .i64 (s : Int)] 3)).ownsRow (W.heap.size + 1) 3 1 (.slice (some ⟨wm.heap.size, 0, none⟩) 1 1) 1 (lsV [s]) := by
    have := World.ownsRow_lit (base := W.heap.size + 1) (e := 3) (size := 1) (wm.setCell ⟨W.heap.size, s, none⟩ (.bool true)) #[.int .i64 (s : Int)] 1 (by simp; omega) (by unfold maxLen; omega) rfl
    simpa [lsV] using this
  have HO := hide hO
  have HR1 := hide (R1.keep (bal (o := .cells #[.int .i64 (s : Int)] 3) (Below.refl _ _)))
  have HS1 := hide (bal (o := .cells #[.int .i64 (s : Int)] 3) S1)
  clear R0 S0 R1 S1 hO hown hgrow hi hz0 hz1 hz2 hby hml
  go_wp2
  clear k0 k1 q0 q1
  generalize (wm.setCell ⟨W.heap.size, s, none⟩ (.bool true)).alloc (.cells #[.int .i64 (s : Int)] 3) = w0 at *
  generalize wm.heap.size = g0 at *
  clear hsz
  go_loopw [8, 9] (fun v i wr => ∃ (l : List Nat) (x len cp g : Nat), i = .int .i64 x ∧ v = .slice (some ⟨g, 0, none⟩) len cp ∧ Hid (len = l.length) ∧ x ≤ len ∧ wr.ownsRow (W.heap.size + 1) 3 1 (.slice (some ⟨g, 0, none⟩) len cp) len (lsV l) ∧ BRow wr W.heap.size N (mkF l) ∧ Bf f w h s l ∧ Gone f w h l x 0 ∧ Below W.heap.size W wr) (fun _ i _ => N - (intOf i).toNat)
  case atStart => exact ⟨[s], 0, 1, 1, g0, rfl, rfl, rfl, by omega, unhide HO, unhide HR1, unhide HBf, Gone.start _ _ _ _, unhide HS1⟩
  case round =>
    clear HO HR1 HS1 HBf
    obtain ⟨l, x, len, cp, g, rfl, rfl, Hlen, hx, hown, hR, hBf, hG, hb⟩ := hrel
    have HO := hide hown
    have HR := hide hR
    have HB := hide hBf
    have HG := hide hG
    have Hb := hide hb
    have hlN : len ≤ N := by rw [unhide Hlen, unhide HN]; exact hBf.len
    clear hown hR hBf hG hb
    by_cases hlt : x < len
    · have q0 : (x : Int) < (len : Int) := by omega
      have hxN : x < N := by omega
      go_wp2
      go_loopw [8, 25] (fun v i wr => ∃ (l : List Nat) (y len cp g : Nat), i = .int .i64 y ∧ v = .slice (some ⟨g, 0, none⟩) len cp ∧ Hid (len = l.length) ∧ y ≤ N ∧ x < len ∧ wr.ownsRow (W.heap.size + 1) 3 1 (.slice (some ⟨g, 0, none⟩) len cp) len (lsV l) ∧ BRow wr W.heap.size N (mkF l) ∧ Bf f w h s l ∧ Gone f w h l x y ∧ Below W.heap.size W wr) (fun _ i _ => N - (intOf i).toNat)
      case atStart => exact ⟨l, 0, len, cp, g, rfl, rfl, Hlen, by omega, hlt, unhide HO, unhide HR, unhide HB, unhide HG, unhide Hb⟩
      case round =>
        clear HO HR HB HG Hb Hlen hlt q0 hlN hx
        obtain ⟨l, y, len, cp, g, rfl, rfl, Hlen, hy, hlt, hown, hR, hBf, hG, hb⟩ := hrel
        have hlN : len ≤ N := by rw [unhide Hlen, unhide HN]; exact hBf.len
        have HB := hide hBf
        have HG := hide hG
        clear hBf hG
        by_cases hly : y < N
        · have q1 : (y : Int) < (N : Int) := by omega
          have q2 : (0 : Int) ≤ (y : Int) := by omega
          have q3 : (x : Int) < (len : Int) := by omega
          have q4 : (0 : Int) ≤ (x : Int) := by omega
          have r1 := (hR.2 y hly).1
          have r2 := (hR.2 y hly).2
          have r3 := (own_nr hown (unhide Hlen)).2 x (by rw [← unhide Hlen]; exact hlt)
          have hvN : l.getD x 0 < w + h := ((unhide HB).ok _ (getD_mem (by rw [← unhide Hlen]; exact hlt))).1
          have HC := hide (above_any ((unhide Hc).keep hb) y (l.getD x 0) (by rw [← unhide HN]; exact hly) hvN)
          have Hskip := hide (fun k => (unhide HG).skip (y := y) k)
          have HO := hide hown
          have HR := hide hR
          have Hb := hide hb
          cases hm : mkF l y with
          | true =>
            rw [hm] at r1
            have Hg := hide (unhide Hskip (.inl (by simpa [mkF] using hm)))
            clear hown hR hb HC Hskip hm hvN
            generalize l.getD x 0 = z at *
            go_wp2
            go_roundw
            case rel => exact ⟨l, y + 1, len, cp, g, by go_num, rfl, Hlen, by omega, hlt, unhide HO, unhide HR, unhide HB, unhide Hg, unhide Hb⟩
            case measure => simp [intOf]; omega
          | false =>
            rw [hm] at r1
            have hny : ¬ y ∈ l := by simpa [mkF] using hm
            cases hv : ab f w y (l.getD x 0) with
            | false =>
              rw [hv] at HC
              have Hg := hide (unhide Hskip (.inr hv))
              clear hown hR hb Hskip hm hv hvN hny
              generalize l.getD x 0 = z at *
              go_wp2_with fail
              refine (unhide HC).mono ?_
              rintro e w1 ⟨rfl, hb1⟩
              have HO1 := hide (own_keep (unhide HO) hb1)
              have HR1 := hide ((unhide HR).keep hb1)
              have Hb1 := hide (btrans (unhide Hb) hb1)
              clear HO HR Hb hb1 r1 r2 r3 HC
              go_wp2
              go_roundw
              case rel => exact ⟨l, y + 1, len, cp, g, by go_num, rfl, Hlen, by omega, hlt, unhide HO1, unhide HR1, unhide HB, unhide Hg, unhide Hb1⟩
              case measure => simp [intOf]; omega
            | true =>
              rw [hv] at HC
              have Hg := hide ((unhide HG).more (y := y) (by rw [← unhide Hlen]; exact hlt))
              have HBn := hide ((unhide HB).more (a := y) (x := x) (by rw [← unhide HN]; exact hly) hny (by rw [← unhide Hlen]; exact hlt) hv)
              have hlen1 : len + 1 ≤ N := by have := (unhide HBn).len; rw [← unhide HN] at this; have e := unhide Hlen; simp at this; omega
              clear hown hR hb Hskip hm hv hvN hny
              generalize l.getD x 0 = z at *
              go_wp2_with fail
              refine (unhide HC).mono ?_
              rintro e w1 ⟨rfl, hb1⟩
              have hO1 := own_keep (unhide HO) hb1
              have hR1 := (unhide HR).keep hb1
              have hb2 := btrans (unhide Hb) hb1
              have r4 := (hR1.2 y hly).1
              have r5 := (hR1.2 y hly).2
              have hO2 := ownsRow_setCell_below hO1 (a := ⟨W.heap.size, y, none⟩) (Nat.lt_succ_self _) (.bool true)
              have hR2 := hR1.set y true
              rw [mkF_snoc] at hR2
              have hb3 := bset (p := ⟨W.heap.size, y, none⟩) (u := .bool true) hb2 (Nat.le_refl _)
              have hsz1 : W.heap.size < w1.heap.size := hR1.1
              have HR2 := hide hR2
              have Hb3 := hide hb3
              have HO2 := hide hO2
              clear HO HR Hb hb1 r1 r2 r3 HC hO1 hR1 hb2 hR2 hb3 hO2
              go_upto_region 12 with fail
              clear r4 r5
              generalize w1.setCell ⟨W.heap.size, y, none⟩ (.bool true) = w2 at *
              have hO2 := unhide HO2
              have hR2 := unhide HR2
              have hb3 := unhide Hb3
              have hsz2 : W.heap.size < w2.heap.size := hR2.1
              have hlm : len ≤ 128 := by omega
              have HR3 := hide hR2
              clear hR2
              go_wp2_with (at_builtin; refine wpList_append_own _ rfl _ _ 25 rfl (W.heap.size + 1) 3 i3 (.int .i64 0) 1 8 Try.underlying25 hi3 hy0 hy1 hy2 rfl (by decide) _ _ _ rfl (hO2.alloc _) ⟨w2.heap.size, 0, none⟩ 1 1 [.int .i64 (y : Int)] rfl rfl (cell_one_new _ _ _) (by simp [Value.oneCell']) (by unfold maxLen; omega) (by omega) (by simp; omega) ?_)
              intro v' w4 hown' hgrow _
              have S6 := hide ((hb3.alloc hb3.size (.cells #[.int .i64 (y : Int)] 3)).grown hgrow (by simp; omega) (fun k hk => by have := (hO2.lt k hk).1; omega))
              have S7 := hide (((unhide HR3).keep (bal (o := .cells #[.int .i64 (y : Int)] 3) (Below.refl _ _))).grown hgrow (fun e => by have := (hO2.lt W.heap.size e.symm).1; omega))
              obtain ⟨q2', cap', rfl⟩ := own_slice hown' (by omega)
              have HO := hide hown'
              clear hO2 hown' hgrow hb3 HR2 Hb3 HO2 HR3
              go_wp2
              go_roundw
              case rel => exact ⟨l ++ [y], y + 1, len + 1, cap', q2', by go_num, rfl, (by have := unhide Hlen; simp [this] : len + 1 = (l ++ [y]).length), by omega, by omega, by rw [lsV_snoc]; exact unhide HO, unhide S7, unhide HBn, unhide Hg, unhide S6⟩
              case measure => simp [intOf]; omega
        · obtain rfl : N = y := by omega
          have cl : ¬ ((N : Int) < (N : Int)) := by omega
          have Hg := hide (show Gone f w h l (x + 1) 0 by have := unhide HG; rw [unhide HN] at this; exact this.next)
          have HO := hide hown
          have HR := hide hR
          have Hb := hide hb
          clear hown hR hb
          go_wp2
          go_roundw
          case rel => exact ⟨l, x + 1, len, cp, g, by go_num, rfl, Hlen, by omega, unhide HO, unhide HR, unhide HB, unhide Hg, unhide Hb⟩
          case measure => simp [intOf]; omega
    · obtain rfl : len = x := by omega
      have cl : ¬ ((len : Int) < (len : Int)) := by omega
      have Hall := hide (show ∀ a, a ∈ l ↔ a ∈ ovL f w h s from gone_all (unhide HB) (by have := unhide HG; rw [unhide Hlen] at this; exact this))
      have HS := hide (sort_any (unhide HO) (unhide Hlen) (unhide HB).nd (unhide Hall) (ovL_sorted f w h s) (by omega))
      have hgg := (unhide HO).lt g rfl
      go_wp2_with fail
      refine (unhide HS).mono ?_
      rintro e w1 ⟨rfl, ⟨hN1, hL1⟩, hgr⟩
      have HN1 := hide hN1
      have HL1 := hide hL1
      have Hb1 := hide ((unhide Hb).grown hgr (unhide Hb).size (fun k e => by cases e; omega))
      clear hN1 hL1 hgr
      go_wp2
      go_ret
      exact ⟨g, cp, len, rfl, unhide HL1, unhide HN1, by omega, unhide Hb1⟩
end Go.Proofs.Ytbbilogkblmniaa
