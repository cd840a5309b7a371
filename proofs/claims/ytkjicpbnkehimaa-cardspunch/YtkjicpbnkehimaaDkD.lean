/-
  What rows of package cards answers.
-/
import Derived.Test.YtkjicpbnkehimaaDkC
namespace Go.Proofs.Ytkjicpbnkehimaa
open Go.RowKit

theorem rdR_fail (l : List UInt8) (w h k y a x : Nat) (g : Nat → Bool) (hy : y < h) (hk : h - y ≤ k) (hb : bad l w h y a g = some x) : rdR l w h k y a g = .inl x := by
  obtain ⟨k, rfl⟩ : ∃ j, k = j + 1 := ⟨k - 1, by omega⟩
  rw [rdR, if_neg (by omega), hb]
theorem rdR_go (l : List UInt8) (w h k y a : Nat) (g : Nat → Bool) (hy : y < h) (hk : h - y ≤ k) (hb : bad l w h y a g = none) : rdR l w h k y a g = rdR l w h (k - 1) (y + bya l a) (a + 1 + nb w) (put g w y (rr l (a + 1))) := by
  obtain ⟨k, rfl⟩ : ∃ j, k = j + 1 := ⟨k - 1, by omega⟩
  rw [rdR, if_neg (by omega), hb]; rfl
theorem rdR_done (l : List UInt8) (w h k a : Nat) (g : Nat → Bool) : rdR l w h k h a g = .inr (a, g) := by
  rcases k with _ | k
  · rfl
  · rw [rdR, if_pos (Nat.le_refl _)]
theorem cbad_none (l : List UInt8) (w left a : Nat) (h : cbad l w left a = none) : 1 ≤ bya l a ∧ bya l a ≤ left ∧ a + 1 + nb w ≤ l.length := by
  unfold cbad at h
  repeat' split at h
  all_goals first | cases h | skip
  omega
theorem own_keepD {w w1 : World} {B : Nat} {e : TypeId} {size : Nat} {v : Value} {n : Nat} {xs : List Value} (h : w.ownsRow B e size v n xs) (hb : Below w.heap.size w w1) : w1.ownsRow B e size v n xs :=
  h.kept (row := none) ⟨hb.os, hb.tape, hb.output, hb.size, fun k hk _ => hb.block k hk⟩ (by cases v.ownBlock <;> simp)
/-- so many bits, as cells -/
def bsV (g : Nat → Bool) (n : Nat) : List Value := (List.range n).map fun j => .bool (g j)
theorem bsV_len (g : Nat → Bool) (n : Nat) : (bsV g n).length = n := by simp [bsV]
theorem bsV_get (g : Nat → Bool) (n j : Nat) (h : j < n) : (bsV g n)[j]? = some (.bool (g j)) := by simp [bsV, h]
theorem bsV_one (g : Nat → Bool) (n : Nat) : ∀ u ∈ bsV g n, u.oneCell' = true := by
  intro u hu
  simp only [bsV, List.mem_map] at hu
  obtain ⟨j, -, rfl⟩ := hu
  rfl
theorem bsV_congr (f g : Nat → Bool) (n : Nat) (h : ∀ j, j < n → f j = g j) : bsV f n = bsV g n := by
  refine List.map_congr_left fun j hj => ?_
  rw [h j (by simpa using hj)]
theorem bsV_more (g r : Nat → Bool) (n m : Nat) (h : ∀ x, x < m → g (n + x) = r x) : bsV g n ++ bsV r m = bsV g (n + m) := by
  refine List.ext_getElem? fun j => ?_
  by_cases c : j < n
  · rw [List.getElem?_append_left (by rw [bsV_len]; exact c), bsV_get _ _ _ c, bsV_get _ _ _ (by omega)]
  · rw [List.getElem?_append_right (by rw [bsV_len]; omega), bsV_len]
    by_cases c2 : j < n + m
    · rw [bsV_get _ _ _ (by omega), bsV_get _ _ _ c2, ← h _ (by omega), show n + (j - n) = j by omega]
    · rw [List.getElem?_eq_none (by rw [bsV_len]; omega), List.getElem?_eq_none (by rw [bsV_len]; omega)]
theorem put_base (g : Nat → Bool) (w y : Nat) (r : Nat → Bool) : bsV g (y * w) = bsV (put g w y r) (y * w) := bsV_congr _ _ _ fun j hj => (put_lo g w y r j hj).symm
theorem put_more (g : Nat → Bool) (w y t : Nat) (r : Nat → Bool) : bsV (put g w y r) ((y + t) * w) ++ bsV r w = bsV (put g w y r) ((y + (t + 1)) * w) := by
  rw [bsV_more _ r _ w (fun x hx => put_hi g w y t x r hx)]
  congr 1
  rw [← Nat.add_assoc, mul_step]
theorem own_bs {w : World} {B b n cap : Nat} {g : Nat → Bool} (h : w.ownsRow B 4 1 (.slice (some ⟨b, 0, none⟩) n cap) n (bsV g n)) : b < w.heap.size ∧ ∀ j, j < n → w.cell? ⟨b, j, none⟩ = some (.bool (g j)) :=
  ⟨(h.lt b rfl).2, fun j hj => by rw [h.cellAt j (by omega), bsV_get _ _ _ hj]⟩
theorem own_cap {w : World} {B b n cap : Nat} {xs : List Value} (h : w.ownsRow B 4 1 (.slice (some ⟨b, 0, none⟩) n cap) n xs) : n ≤ cap := by
  rcases h.2 with ⟨e, -⟩ | ⟨g, c, cur, e, -, -, hn, -⟩
  · cases e
  · cases e; exact hn
/-- the last row of those that have been read -/
theorem own_last {W : World} {B b n cap w y : Nat} {g : Nat → Bool} (hn : n = (y + 1) * w) (h : W.ownsRow B 4 1 (.slice (some ⟨b, 0, none⟩) n cap) n (bsV g n)) : Bs W (rp (some ⟨b, 0, none⟩) cap (y * w)) w (cap - y * w) (row g w y) := by
  have hc := own_cap h
  obtain ⟨h1, h2⟩ := own_bs h
  rw [mul_step] at hn
  refine ⟨by omega, ?_⟩
  by_cases e : w = 0
  · exact .inl e
  · refine .inr ⟨b, y * w, ?_, h1, fun k hk => h2 _ (by omega)⟩
    rw [rp_some _ _ _ _ (by omega), Nat.zero_add]
/-- rows are read, or something is wrong with a card -/
def RowsPost (W : World) (d : Nat) (s : ByteArray) (w h : Nat) (e : Ending) (w' : World) : Prop := W.grownBy w' (some d) ∧
  ((∃ x : Nat, rdR s.data.toList w h 64 0 5 (fun _ => false) = .inl x ∧ e = .returned (.tuple #[.slice none 0 0, .bool false]) ∧ Dk w' d s x) ∨
   (∃ (a : Nat) (g : Nat → Bool) (q cap : Nat), rdR s.data.toList w h 64 0 5 (fun _ => false) = .inr (a, g) ∧ e = .returned (.tuple #[.slice (some ⟨q, 0, none⟩) (w * h) cap, .bool true]) ∧ W.heap.size ≤ q ∧ Bs w' (some ⟨q, 0, none⟩) (w * h) cap g ∧ Dk w' d s a ∧ a ≤ s.size ∧ a ≤ 600))

set_option maxRecDepth 100000 in
set_option maxHeartbeats 4000000 in
theorem drows_any {W : World} {d : Nat} {s : ByteArray} (k0 : Dk W d s 5) (h5 : 5 ≤ s.size) (hm : s.size ≤ maxLen) (w h : Nat) (hw : w ≤ 64) (hh : h ≤ 64) :
    Calls Try.prog 27 #[.pointer (some ⟨d, 0, none⟩), .int .i64 w, .int .i64 h] W (RowsPost W d s w h) := by
  obtain ⟨i0, hi, hz0, hz1, hz2⟩ := info_parts info4
  have hM4 : w * h ≤ 4096 := Nat.mul_le_mul hw hh
  obtain ⟨M, hM⟩ : ∃ M, M = w * h := ⟨_, rfl⟩
  rw [← hM] at hM4
  have e1 : wrap64 ((w : Int) * (h : Int)) = (M : Int) := by
    rw [hM, ← Int.natCast_mul]
    exact Go.IntWalk.wrap64_in _ (by omega)
  have hby : i0.bytes * M ≤ 281474976710656 := by rw [hz2]; omega
  have hml : M ≤ maxLen := by unfold maxLen; omega
  have HM := hide hM
  have Hm := hide hm
  have hdl := k0.1
  have K0 := hide k0
  have H5 := hide h5
  clear hM k0 h5 hm
  go_enter Try.func27, Try.ntmps27
  go_wp2_with (refine wpList_make_own _ rfl _ _ 22 rfl W.heap.size 4 i0 _ 1 Try.underlying22 hi hz0 hz1 .i64 .i64 (wrap64 ((w : Int) * (h : Int))) M rfl rfl e1 hby hml (Nat.le_refl _) ?_)
  intro wm hown hgrow
  have O0 := hide hown
  have S0 := hide ((Below.refl _ W).grown hgrow (Nat.le_refl _) (fun k hk => by cases hk))
  clear hown hgrow e1 hby hml
  go_wp2
  go_loopw [8, 9] (fun c v wr => ∃ (y n a k : Nat) (g : Nat → Bool), y ≤ h ∧ v = .int .i64 y ∧ c = .slice (some ⟨W.heap.size, 0, none⟩) n M ∧ Hid (n = y * w) ∧ wr.ownsRow W.heap.size 4 1 (.slice (some ⟨W.heap.size, 0, none⟩) n M) n (bsV g n) ∧ Dk wr d s a ∧ a ≤ s.size ∧ a ≤ 5 + 9 * y ∧ W.grownBy wr (some d) ∧ h - y ≤ k ∧ Hid (rdR s.data.toList w h k y a g = rdR s.data.toList w h 64 0 5 (fun _ => false))) (fun _ v _ => h - (intOf v).toNat)
  case atStart => exact ⟨0, 0, 5, 64, fun _ => false, Nat.zero_le _, rfl, rfl, hide (by simp), unhide O0, (unhide K0).keep (unhide S0), unhide H5, by omega, gbelow _ (unhide S0), by omega, rfl⟩
  case round =>
    clear O0 S0
    obtain ⟨y, n, a, k, g, hy, rfl, rfl, Hn, hown, hk, ha, ha9, hg, hky, HR⟩ := hrel
    have HO := hide hown
    have HK := hide hk
    have HG := hide hg
    clear hown hk hg
    by_cases hlt : y < h
    · have q1 : (y : Int) < (h : Int) := by omega
      obtain ⟨z, hz⟩ : ∃ z : Nat, z = h - y := ⟨_, rfl⟩
      have e2 : (h : Int) - (y : Int) = (z : Int) := by omega
      have HC := hide (card_any (unhide HK) ha (by omega) (unhide Hm) w z hw)
      obtain ⟨-, c0, c1, c2⟩ := unhide HK
      have Hbad := hide (bad_card s.data.toList w h y a g)
      rw [← hz] at Hbad
      have Hz := hide hz
      clear hz
      go_wp2_with fail
      refine (unhide HC).mono ?_
      rintro e w1 ⟨hg1, hcase⟩
      clear HC c0 c1 c2
      rcases hcase with ⟨x, hcb, rfl, hk1⟩ | ⟨hcb, q, rfl, hq, hR1, hk1⟩
      · have Hf := hide (rdR_fail s.data.toList w h k y a x g hlt hky (by rw [unhide Hbad, hcb]))
        clear hcb
        go_wp2
        refine bodyPost_ret (v := .tuple #[.slice none 0 0, .bool false]) (by simp [results, Try.results27, go_sem]) rfl ⟨gtrans (unhide HG) hg1, .inl ⟨x, by rw [← unhide HR]; exact unhide Hf, rfl, hk1⟩⟩
      · have HO1 := hide ((unhide HO).kept hg1 (.inr (by intro e; have e2 : W.heap.size = d := Option.some.inj e; omega)))
        have HR1 := hide hR1
        have HK1 := hide hk1
        have HG1 := hide (gtrans (unhide HG) hg1)
        have Hb2 := hide (show bad s.data.toList w h y a g = if asA s.data.toList w y a g = true then some a else none by rw [unhide Hbad, hcb])
        have Hqn := hide (show W.heap.size < q from by have h1 := (own_bs (unhide HO)).1; omega)
        obtain ⟨m1, m2, m3⟩ := cbad_none _ _ _ _ hcb
        clear hcb hg1 hR1 hk1 HO HK HG Hbad hq
        by_cases hy0 : 0 < y
        · by_cases hw0 : w = 0
          · skip
            obtain ⟨z1, hz1'⟩ : ∃ z1 : Nat, y = z1 + 1 := ⟨y - 1, by omega⟩
            have e3 : (y : Int) - 1 = (z1 : Int) := by omega
            have q2 : (0 : Int) < (y : Int) := by omega
            have qz : (z1 : Int) ≤ 64 := by omega
            have qz0 : (0 : Int) ≤ (z1 : Int) := by omega
            have HAs := hide (show asA s.data.toList w y a g = eqN (rr s.data.toList (a + 1)) (row g w z1) w by
              unfold asA
              rw [hz1']; simp)
            obtain ⟨lo, hlo⟩ : ∃ lo : Nat, lo = z1 * w := ⟨_, rfl⟩
            have hl4 : lo ≤ 4096 := by rw [hlo]; exact Nat.mul_le_mul (show z1 ≤ 64 by omega) hw
            have e4 := hide (show wrap64 ((z1 : Int) * (w : Int)) = (lo : Int) by
              rw [hlo, ← Int.natCast_mul]
              exact Go.IntWalk.wrap64_in _ (by omega))
            have hnl : n = lo + w := by rw [unhide Hn, hz1', mul_step, hlo]
            have hcap := own_cap (unhide HO1)
            have q3 : (lo : Int) ≤ (n : Int) := by omega
            have q4 : (0 : Int) ≤ (lo : Int) := by omega
            have q5 : n - lo = w := by omega
            have hM0 : M = lo := by rw [unhide HM, hlo, hw0]; simp
            have HLast := own_last (y := z1) (by rw [unhide Hn, hz1']) (unhide HO1)
            rw [← hlo, show rp (some ⟨W.heap.size, 0, none⟩) M lo = some ⟨W.heap.size, 0, none⟩ from if_pos hM0] at HLast
            have HE := hide (equal_any _ _ w _ _ _ _ w1 hw (unhide HR1).bs HLast)
            have hcl : (M = lo) = True := eq_true hM0
            clear hM0
            clear hlo hz1' hnl HLast hw0
            have e4' := unhide e4
            go_wp2_with fail
            clear e4'

            refine (unhide HE).mono ?_
            rintro e w2 ⟨rfl, hb2⟩
            have HO2 := hide (own_keepD (unhide HO1) hb2)
            have HR3 := hide ((unhide HR1).keep hb2)
            have HK3 := hide ((unhide HK1).keep hb2)
            have HG3 := hide (gtrans (unhide HG1) (gbelow _ hb2))
            clear hb2 HE HO1 HR1 HK1 HG1
            rw [← unhide HAs]
            cases hA : asA s.data.toList w y a g with
            | true =>
              have Hf := hide (rdR_fail s.data.toList w h k y a a g hlt hky (by rw [unhide Hb2, hA]; rfl))
              clear hA
              obtain ⟨-, c0, c1, c2⟩ := unhide HK3
              go_wp2
              refine bodyPost_ret (v := .tuple #[.slice none 0 0, .bool false]) (by simp [results, Try.results27, go_sem]) rfl ⟨gset (unhide HG3) _ _, .inl ⟨a, by rw [← unhide HR]; exact unhide Hf, rfl, (unhide HK3).put a⟩⟩
            | false =>
              have HasA := hide hA
              have HR0 := hide (True.intro)
              clear hA
              have Hgo := hide (rdR_go s.data.toList w h k y a g hlt hky (by rw [unhide Hb2, unhide HasA]; rfl))
              have m4 : bya s.data.toList a ≤ h - y := by rw [← unhide Hz]; exact m2
              have hN9 : nb w ≤ 8 := by unfold nb; omega
              have m5 : a + 1 + nb w ≤ s.size := by rw [← str_len]; exact m3
              have HO3 := hide (show w2.ownsRow W.heap.size 4 1 (.slice (some ⟨W.heap.size, 0, none⟩) n M) n (bsV (put g w y (rr s.data.toList (a + 1))) n) by
                have := unhide HO2
                have e := unhide Hn
                rw [show bsV g n = bsV (put g w y (rr s.data.toList (a + 1))) n by rw [e]; exact put_base g w y _] at this
                exact this)
              clear m2 m3 Hz Hb2 HasA HO2 HR0
              generalize hmm : bya s.data.toList a = m at *
              clear hmm
              go_wp2
              go_loopw [8, 54] (fun c v wr => ∃ t nt : Nat, t ≤ m ∧ v = .int .i64 t ∧ c = .slice (some ⟨W.heap.size, 0, none⟩) nt M ∧ Hid (nt = (y + t) * w) ∧ wr.ownsRow W.heap.size 4 1 (.slice (some ⟨W.heap.size, 0, none⟩) nt M) nt (bsV (put g w y (rr s.data.toList (a + 1))) nt) ∧ BRow wr q w (rr s.data.toList (a + 1)) ∧ Dk wr d s (a + 1 + nb w) ∧ W.grownBy wr (some d)) (fun _ v _ => m - (intOf v).toNat)
              case atStart => exact ⟨0, n, Nat.zero_le _, rfl, rfl, Hn, unhide HO3, unhide HR3, unhide HK3, unhide HG3⟩
              case round =>
                clear HO3 HR3 HK3 HG3
                obtain ⟨t, nt, ht, rfl, rfl, Hnt, hown, hR, hk, hg⟩ := hrel
                by_cases hltm : t < m
                · have qt : (t : Int) < (m : Int) := by omega
                  have hfit : nt + w ≤ M := by
                    have h1 := Nat.mul_le_mul_right w (show y + t + 1 ≤ h by omega)
                    rw [mul_step] at h1
                    rw [unhide Hnt, show M = w * h from unhide HM, Nat.mul_comm w h]
                    exact h1
                  have hnews : ∀ j u, (bsV (rr s.data.toList (a + 1)) w)[j]? = some u → wr.cell? ((⟨q, 0, none⟩ : Addr).add j) = some u := fun j u hu => by
                    by_cases c : j < w
                    · rw [bsV_get _ _ _ c] at hu
                      cases hu
                      have := (hR.2 j c).1
                      unfold Addr.add
                      by_cases c0 : j = 0 <;> simpa [c0] using this
                    · rw [List.getElem?_eq_none (by rw [bsV_len]; omega)] at hu; cases hu
                  have Hmore := hide (show bsV (put g w y (rr s.data.toList (a + 1))) nt ++ bsV (rr s.data.toList (a + 1)) w = bsV (put g w y (rr s.data.toList (a + 1))) (nt + w) by
                    have h1 := put_more g w y t (rr s.data.toList (a + 1))
                    rw [← Nat.add_assoc, mul_step, ← unhide Hnt] at h1
                    exact h1)
                  go_wp2_with (at_builtin; refine wpList_append_fits _ rfl _ _ 22 rfl W.heap.size 4 i0 1 Try.underlying22 hi hz1 W.heap.size nt M _ rfl hown ⟨q, 0, none⟩ w w (bsV (rr s.data.toList (a + 1)) w) rfl (by rw [bsV_len]; omega) hnews (bsV_one _ _) hfit ?_)
                  intro wa howna hgra
                  rw [unhide Hmore] at howna
                  have HRa := hide (hR.grown hgra (fun e => by have e2 : q = W.heap.size := Option.some.inj e; have := unhide Hqn; omega))
                  have HKa := hide (show Dk wa d s (a + 1 + nb w) from ⟨Nat.lt_of_lt_of_le hk.1 hgra.size, gcell hgra hk.1 (fun e => by have e2 : d = W.heap.size := Option.some.inj e; omega) hk.2.1, gcell hgra hk.1 (fun e => by have e2 : d = W.heap.size := Option.some.inj e; omega) hk.2.2.1, gfroz hgra hk.1 (fun e => by have e2 : d = W.heap.size := Option.some.inj e; omega) hk.2.2.2⟩)
                  have HGa := hide (gmore hg hgra (fun j e => by have e2 : W.heap.size = j := Option.some.inj e; omega))
                  have HOa := hide howna
                  clear hown hR hk hg howna hgra hnews Hmore
                  go_wp2
                  go_roundw
                  case rel => exact ⟨t + 1, nt + w, by omega, by go_num, rfl, hide (by rw [unhide Hnt, ← Nat.add_assoc, mul_step]), unhide HOa, unhide HRa, unhide HKa, unhide HGa⟩
                  case measure => simp [intOf]; omega
                · obtain rfl : t = m := by omega
                  have cl : ¬ ((t : Int) < (t : Int)) := by omega
                  have HOa := hide hown
                  have HKa := hide hk
                  have HGa := hide hg
                  clear hown hR hk hg
                  have qt : (t : Int) ≤ 64 := by omega
                  have qy : (y : Int) ≤ 64 := by omega
                  go_wp2
                  go_roundw
                  case rel => exact ⟨y + t, nt, a + 1 + nb w, k - 1, put g w y (rr s.data.toList (a + 1)), by omega, by go_num, rfl, Hnt, unhide HOa, unhide HKa, m5, by omega, unhide HGa, by omega, hide (by rw [← unhide Hgo]; exact unhide HR)⟩
                  case measure => simp [intOf]; omega
          · skip
            obtain ⟨z1, hz1'⟩ : ∃ z1 : Nat, y = z1 + 1 := ⟨y - 1, by omega⟩
            have e3 : (y : Int) - 1 = (z1 : Int) := by omega
            have q2 : (0 : Int) < (y : Int) := by omega
            have qz : (z1 : Int) ≤ 64 := by omega
            have qz0 : (0 : Int) ≤ (z1 : Int) := by omega
            have HAs := hide (show asA s.data.toList w y a g = eqN (rr s.data.toList (a + 1)) (row g w z1) w by
              unfold asA
              rw [hz1']; simp)
            obtain ⟨lo, hlo⟩ : ∃ lo : Nat, lo = z1 * w := ⟨_, rfl⟩
            have hl4 : lo ≤ 4096 := by rw [hlo]; exact Nat.mul_le_mul (show z1 ≤ 64 by omega) hw
            have e4 := hide (show wrap64 ((z1 : Int) * (w : Int)) = (lo : Int) by
              rw [hlo, ← Int.natCast_mul]
              exact Go.IntWalk.wrap64_in _ (by omega))
            have hnl : n = lo + w := by rw [unhide Hn, hz1', mul_step, hlo]
            have hcap := own_cap (unhide HO1)
            have q3 : (lo : Int) ≤ (n : Int) := by omega
            have q4 : (0 : Int) ≤ (lo : Int) := by omega
            have q5 : n - lo = w := by omega
            have HLast := own_last (y := z1) (by rw [unhide Hn, hz1']) (unhide HO1)
            rw [← hlo, rp_some _ _ _ _ (by omega), Nat.zero_add] at HLast
            have HE := hide (equal_any _ _ w _ _ _ _ w1 hw (unhide HR1).bs HLast)
            have hcl : ¬ (M = lo) := by omega
            clear hlo hz1' hnl HLast
            have e4' := unhide e4
            go_wp2_with fail
            clear e4'

            refine (unhide HE).mono ?_
            rintro e w2 ⟨rfl, hb2⟩
            have HO2 := hide (own_keepD (unhide HO1) hb2)
            have HR3 := hide ((unhide HR1).keep hb2)
            have HK3 := hide ((unhide HK1).keep hb2)
            have HG3 := hide (gtrans (unhide HG1) (gbelow _ hb2))
            clear hb2 HE HO1 HR1 HK1 HG1
            rw [← unhide HAs]
            cases hA : asA s.data.toList w y a g with
            | true =>
              have Hf := hide (rdR_fail s.data.toList w h k y a a g hlt hky (by rw [unhide Hb2, hA]; rfl))
              clear hA
              obtain ⟨-, c0, c1, c2⟩ := unhide HK3
              go_wp2
              refine bodyPost_ret (v := .tuple #[.slice none 0 0, .bool false]) (by simp [results, Try.results27, go_sem]) rfl ⟨gset (unhide HG3) _ _, .inl ⟨a, by rw [← unhide HR]; exact unhide Hf, rfl, (unhide HK3).put a⟩⟩
            | false =>
              have HasA := hide hA
              have HR0 := hide (True.intro)
              clear hA
              have Hgo := hide (rdR_go s.data.toList w h k y a g hlt hky (by rw [unhide Hb2, unhide HasA]; rfl))
              have m4 : bya s.data.toList a ≤ h - y := by rw [← unhide Hz]; exact m2
              have hN9 : nb w ≤ 8 := by unfold nb; omega
              have m5 : a + 1 + nb w ≤ s.size := by rw [← str_len]; exact m3
              have HO3 := hide (show w2.ownsRow W.heap.size 4 1 (.slice (some ⟨W.heap.size, 0, none⟩) n M) n (bsV (put g w y (rr s.data.toList (a + 1))) n) by
                have := unhide HO2
                have e := unhide Hn
                rw [show bsV g n = bsV (put g w y (rr s.data.toList (a + 1))) n by rw [e]; exact put_base g w y _] at this
                exact this)
              clear m2 m3 Hz Hb2 HasA HO2 HR0
              generalize hmm : bya s.data.toList a = m at *
              clear hmm
              go_wp2
              go_loopw [8, 54] (fun c v wr => ∃ t nt : Nat, t ≤ m ∧ v = .int .i64 t ∧ c = .slice (some ⟨W.heap.size, 0, none⟩) nt M ∧ Hid (nt = (y + t) * w) ∧ wr.ownsRow W.heap.size 4 1 (.slice (some ⟨W.heap.size, 0, none⟩) nt M) nt (bsV (put g w y (rr s.data.toList (a + 1))) nt) ∧ BRow wr q w (rr s.data.toList (a + 1)) ∧ Dk wr d s (a + 1 + nb w) ∧ W.grownBy wr (some d)) (fun _ v _ => m - (intOf v).toNat)
              case atStart => exact ⟨0, n, Nat.zero_le _, rfl, rfl, Hn, unhide HO3, unhide HR3, unhide HK3, unhide HG3⟩
              case round =>
                clear HO3 HR3 HK3 HG3
                obtain ⟨t, nt, ht, rfl, rfl, Hnt, hown, hR, hk, hg⟩ := hrel
                by_cases hltm : t < m
                · have qt : (t : Int) < (m : Int) := by omega
                  have hfit : nt + w ≤ M := by
                    have h1 := Nat.mul_le_mul_right w (show y + t + 1 ≤ h by omega)
                    rw [mul_step] at h1
                    rw [unhide Hnt, show M = w * h from unhide HM, Nat.mul_comm w h]
                    exact h1
                  have hnews : ∀ j u, (bsV (rr s.data.toList (a + 1)) w)[j]? = some u → wr.cell? ((⟨q, 0, none⟩ : Addr).add j) = some u := fun j u hu => by
                    by_cases c : j < w
                    · rw [bsV_get _ _ _ c] at hu
                      cases hu
                      have := (hR.2 j c).1
                      unfold Addr.add
                      by_cases c0 : j = 0 <;> simpa [c0] using this
                    · rw [List.getElem?_eq_none (by rw [bsV_len]; omega)] at hu; cases hu
                  have Hmore := hide (show bsV (put g w y (rr s.data.toList (a + 1))) nt ++ bsV (rr s.data.toList (a + 1)) w = bsV (put g w y (rr s.data.toList (a + 1))) (nt + w) by
                    have h1 := put_more g w y t (rr s.data.toList (a + 1))
                    rw [← Nat.add_assoc, mul_step, ← unhide Hnt] at h1
                    exact h1)
                  go_wp2_with (at_builtin; refine wpList_append_fits _ rfl _ _ 22 rfl W.heap.size 4 i0 1 Try.underlying22 hi hz1 W.heap.size nt M _ rfl hown ⟨q, 0, none⟩ w w (bsV (rr s.data.toList (a + 1)) w) rfl (by rw [bsV_len]; omega) hnews (bsV_one _ _) hfit ?_)
                  intro wa howna hgra
                  rw [unhide Hmore] at howna
                  have HRa := hide (hR.grown hgra (fun e => by have e2 : q = W.heap.size := Option.some.inj e; have := unhide Hqn; omega))
                  have HKa := hide (show Dk wa d s (a + 1 + nb w) from ⟨Nat.lt_of_lt_of_le hk.1 hgra.size, gcell hgra hk.1 (fun e => by have e2 : d = W.heap.size := Option.some.inj e; omega) hk.2.1, gcell hgra hk.1 (fun e => by have e2 : d = W.heap.size := Option.some.inj e; omega) hk.2.2.1, gfroz hgra hk.1 (fun e => by have e2 : d = W.heap.size := Option.some.inj e; omega) hk.2.2.2⟩)
                  have HGa := hide (gmore hg hgra (fun j e => by have e2 : W.heap.size = j := Option.some.inj e; omega))
                  have HOa := hide howna
                  clear hown hR hk hg howna hgra hnews Hmore
                  go_wp2
                  go_roundw
                  case rel => exact ⟨t + 1, nt + w, by omega, by go_num, rfl, hide (by rw [unhide Hnt, ← Nat.add_assoc, mul_step]), unhide HOa, unhide HRa, unhide HKa, unhide HGa⟩
                  case measure => simp [intOf]; omega
                · obtain rfl : t = m := by omega
                  have cl : ¬ ((t : Int) < (t : Int)) := by omega
                  have HOa := hide hown
                  have HKa := hide hk
                  have HGa := hide hg
                  clear hown hR hk hg
                  have qt : (t : Int) ≤ 64 := by omega
                  have qy : (y : Int) ≤ 64 := by omega
                  go_wp2
                  go_roundw
                  case rel => exact ⟨y + t, nt, a + 1 + nb w, k - 1, put g w y (rr s.data.toList (a + 1)), by omega, by go_num, rfl, Hnt, unhide HOa, unhide HKa, m5, by omega, unhide HGa, by omega, hide (by rw [← unhide Hgo]; exact unhide HR)⟩
                  case measure => simp [intOf]; omega
        · skip
          have hy1 : ¬ ((0 : Int) < (y : Int)) := by omega
          have hy2 : decide (0 < y) = false := by simpa using hy0
          have HasA := hide (show asA s.data.toList w y a g = false by unfold asA; rw [hy2]; rfl)
          have HO2 := HO1
          have HR3 := HR1
          have HK3 := HK1
          have HG3 := HG1
          have HR0 := hide (True.intro)
          clear HO1 HR1 HK1 HG1

          have Hgo := hide (rdR_go s.data.toList w h k y a g hlt hky (by rw [unhide Hb2, unhide HasA]; rfl))
          have m4 : bya s.data.toList a ≤ h - y := by rw [← unhide Hz]; exact m2
          have hN9 : nb w ≤ 8 := by unfold nb; omega
          have m5 : a + 1 + nb w ≤ s.size := by rw [← str_len]; exact m3
          have HO3 := hide (show w1.ownsRow W.heap.size 4 1 (.slice (some ⟨W.heap.size, 0, none⟩) n M) n (bsV (put g w y (rr s.data.toList (a + 1))) n) by
            have := unhide HO2
            have e := unhide Hn
            rw [show bsV g n = bsV (put g w y (rr s.data.toList (a + 1))) n by rw [e]; exact put_base g w y _] at this
            exact this)
          clear m2 m3 Hz Hb2 HasA HO2 HR0
          generalize hmm : bya s.data.toList a = m at *
          clear hmm
          go_wp2
          go_loopw [8, 54] (fun c v wr => ∃ t nt : Nat, t ≤ m ∧ v = .int .i64 t ∧ c = .slice (some ⟨W.heap.size, 0, none⟩) nt M ∧ Hid (nt = (y + t) * w) ∧ wr.ownsRow W.heap.size 4 1 (.slice (some ⟨W.heap.size, 0, none⟩) nt M) nt (bsV (put g w y (rr s.data.toList (a + 1))) nt) ∧ BRow wr q w (rr s.data.toList (a + 1)) ∧ Dk wr d s (a + 1 + nb w) ∧ W.grownBy wr (some d)) (fun _ v _ => m - (intOf v).toNat)
          case atStart => exact ⟨0, n, Nat.zero_le _, rfl, rfl, Hn, unhide HO3, unhide HR3, unhide HK3, unhide HG3⟩
          case round =>
            clear HO3 HR3 HK3 HG3
            obtain ⟨t, nt, ht, rfl, rfl, Hnt, hown, hR, hk, hg⟩ := hrel
            by_cases hltm : t < m
            · have qt : (t : Int) < (m : Int) := by omega
              have hfit : nt + w ≤ M := by
                have h1 := Nat.mul_le_mul_right w (show y + t + 1 ≤ h by omega)
                rw [mul_step] at h1
                rw [unhide Hnt, show M = w * h from unhide HM, Nat.mul_comm w h]
                exact h1
              have hnews : ∀ j u, (bsV (rr s.data.toList (a + 1)) w)[j]? = some u → wr.cell? ((⟨q, 0, none⟩ : Addr).add j) = some u := fun j u hu => by
                by_cases c : j < w
                · rw [bsV_get _ _ _ c] at hu
                  cases hu
                  have := (hR.2 j c).1
                  unfold Addr.add
                  by_cases c0 : j = 0 <;> simpa [c0] using this
                · rw [List.getElem?_eq_none (by rw [bsV_len]; omega)] at hu; cases hu
              have Hmore := hide (show bsV (put g w y (rr s.data.toList (a + 1))) nt ++ bsV (rr s.data.toList (a + 1)) w = bsV (put g w y (rr s.data.toList (a + 1))) (nt + w) by
                have h1 := put_more g w y t (rr s.data.toList (a + 1))
                rw [← Nat.add_assoc, mul_step, ← unhide Hnt] at h1
                exact h1)
              go_wp2_with (at_builtin; refine wpList_append_fits _ rfl _ _ 22 rfl W.heap.size 4 i0 1 Try.underlying22 hi hz1 W.heap.size nt M _ rfl hown ⟨q, 0, none⟩ w w (bsV (rr s.data.toList (a + 1)) w) rfl (by rw [bsV_len]; omega) hnews (bsV_one _ _) hfit ?_)
              intro wa howna hgra
              rw [unhide Hmore] at howna
              have HRa := hide (hR.grown hgra (fun e => by have e2 : q = W.heap.size := Option.some.inj e; have := unhide Hqn; omega))
              have HKa := hide (show Dk wa d s (a + 1 + nb w) from ⟨Nat.lt_of_lt_of_le hk.1 hgra.size, gcell hgra hk.1 (fun e => by have e2 : d = W.heap.size := Option.some.inj e; omega) hk.2.1, gcell hgra hk.1 (fun e => by have e2 : d = W.heap.size := Option.some.inj e; omega) hk.2.2.1, gfroz hgra hk.1 (fun e => by have e2 : d = W.heap.size := Option.some.inj e; omega) hk.2.2.2⟩)
              have HGa := hide (gmore hg hgra (fun j e => by have e2 : W.heap.size = j := Option.some.inj e; omega))
              have HOa := hide howna
              clear hown hR hk hg howna hgra hnews Hmore
              go_wp2
              go_roundw
              case rel => exact ⟨t + 1, nt + w, by omega, by go_num, rfl, hide (by rw [unhide Hnt, ← Nat.add_assoc, mul_step]), unhide HOa, unhide HRa, unhide HKa, unhide HGa⟩
              case measure => simp [intOf]; omega
            · obtain rfl : t = m := by omega
              have cl : ¬ ((t : Int) < (t : Int)) := by omega
              have HOa := hide hown
              have HKa := hide hk
              have HGa := hide hg
              clear hown hR hk hg
              have qt : (t : Int) ≤ 64 := by omega
              have qy : (y : Int) ≤ 64 := by omega
              go_wp2
              go_roundw
              case rel => exact ⟨y + t, nt, a + 1 + nb w, k - 1, put g w y (rr s.data.toList (a + 1)), by omega, by go_num, rfl, Hnt, unhide HOa, unhide HKa, m5, by omega, unhide HGa, by omega, hide (by rw [← unhide Hgo]; exact unhide HR)⟩
              case measure => simp [intOf]; omega
    · obtain rfl : y = h := by omega
      have cl : ¬ ((y : Int) < (y : Int)) := by omega
      have Hd := hide (rdR_done s.data.toList w y k a g)
      have Hnm := hide (show n = w * y by rw [unhide Hn, Nat.mul_comm])
      go_wp2
      refine bodyPost_ret (v := .tuple #[.slice (some ⟨W.heap.size, 0, none⟩) n M, .bool true]) (by simp [results, Try.results27, go_sem]) rfl ⟨unhide HG, .inr ⟨a, g, W.heap.size, M, by rw [← unhide HR]; exact unhide Hd, by rw [unhide Hnm], Nat.le_refl _, ?_, unhide HK, ha, by omega⟩⟩
      have hb := own_bs (unhide HO)
      rw [← unhide Hnm]
      exact ⟨own_cap (unhide HO), .inr ⟨_, 0, rfl, hb.1, fun j hj => by rw [Nat.zero_add]; exact hb.2 j hj⟩⟩
end Go.Proofs.Ytkjicpbnkehimaa
