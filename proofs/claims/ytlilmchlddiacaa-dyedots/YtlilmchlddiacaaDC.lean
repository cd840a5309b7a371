/-
  Package dye: Dots.
-/
import Derived.Test.YtlilmchlddiacaaDB
namespace Go.Proofs.Ytlilmchlddiacaa
open Go.RowKit

/-- may a picture be so wide? -/
def FitP (w : Int) (n : Nat) : Prop := 1 ≤ w ∧ w ≤ 4096 ∧ n ≤ 65536 ∧ (n : Int) % w = 0
def grB (x : Int) : Prop := 0 ≤ x ∧ x ≤ 255
/-- dots, what was lost and an error are answered -/
def PD (W : World) (n : Nat) (f : Nat → Int) (lost er : Int) (e : Ending) (V : World) : Prop := ∃ q cp, e = .returned (.tuple #[.slice q n cp, .int .i64 lost, .int .i64 er]) ∧ Is V q n f ∧ Below W.heap.size W V
theorem PD.mk {W V : World} {n : Nat} {f : Nat → Int} {lost er : Int} (q : Option Addr) (cp : Nat) (h : Is V q n f) (hb : Below W.heap.size W V) : PD W n f lost er (.returned (.tuple #[.slice q n cp, .int .i64 lost, .int .i64 er])) V := ⟨q, cp, rfl, h, hb⟩
/-- a call that answers dots -/
def AnsD (F : Nat) (args : Array Value) (W : World) (n : Nat) (f : Nat → Int) (lost er : Int) : Prop := Calls Try.prog F args W (PD W n f lost er)

set_option maxRecDepth 100000 in
set_option maxHeartbeats 1000000 in
theorem dots_fit (w : Int) (n cap : Nat) (q : Option Addr) (h : ¬ FitP w n) (W : World) : AnsD 12 #[.int .i64 w, .slice q n cap] W 0 (fun _ => 0) 0 8 := by
  unfold AnsD
  have Hr := hide (PD.mk (W := W) (V := W) (f := fun _ => 0) (lost := 0) (er := 8) none 0 (.inl rfl) (Below.refl _ _))
  unfold FitP at h
  by_cases c1 : w < 1
  · have c1' : decide (w < 1) = true := decide_eq_true c1
    clear h
    go_enter Try.func12, Try.ntmps12
    go_wp2
    exact bodyPost_ret (v := .tuple #[.slice none 0 0, .int .i64 0, .int .i64 8]) (by simp [results, Try.results12, go_sem]) rfl (unhide Hr)
  · have c1' : decide (w < 1) = false := decide_eq_false c1
    by_cases c2 : 4096 < w
    · have c2' : decide (4096 < w) = true := decide_eq_true c2
      clear h
      go_enter Try.func12, Try.ntmps12
      go_wp2
      exact bodyPost_ret (v := .tuple #[.slice none 0 0, .int .i64 0, .int .i64 8]) (by simp [results, Try.results12, go_sem]) rfl (unhide Hr)
    · have c2' : decide (4096 < w) = false := decide_eq_false c2
      by_cases c3 : 65536 < (n : Int)
      · have c3' : decide (65536 < (n : Int)) = true := decide_eq_true c3
        clear h
        go_enter Try.func12, Try.ntmps12
        go_wp2
        exact bodyPost_ret (v := .tuple #[.slice none 0 0, .int .i64 0, .int .i64 8]) (by simp [results, Try.results12, go_sem]) rfl (unhide Hr)
      · have c3' : decide (65536 < (n : Int)) = false := decide_eq_false c3
        obtain ⟨w', rfl⟩ : ∃ w' : Nat, w = (w' : Int) := ⟨w.toNat, by omega⟩
        obtain ⟨r, hr⟩ : ∃ r : Nat, (n : Int) % (w' : Int) = (r : Int) := ⟨n % w', by simp⟩
        have hr2 : r ≠ 0 := fun e => h ⟨by omega, by omega, by omega, by rw [hr, e]; rfl⟩
        have c4 : ((r : Int) != 0) = true := by simp; omega
        have c5 : ((w' : Int) == 0) = false := by simp; omega
        have c6 : ¬ (r : Int) = 0 := by omega
        have c7 : (0 : Int) ≤ (n : Int) := by omega
        clear h hr2
        go_enter Try.func12, Try.ntmps12
        go_wp2
        exact bodyPost_ret (v := .tuple #[.slice none 0 0, .int .i64 0, .int .i64 8]) (by simp [results, Try.results12, go_sem]) rfl (unhide Hr)

theorem PB.new {W : World} {q w n : Nat} {f : Nat → Int} (h : JRow W q n f) : PB (W.alloc (.cells #[.int .i64 (w : Nat), .slice (some ⟨q, 0, none⟩) n n, .int .i64 0] 57)) W.heap.size q w n ⟨f, 0⟩ := by
  have hb := bnew W (.cells #[.int .i64 (w : Nat), .slice (some ⟨q, 0, none⟩) n n, .int .i64 0] 57)
  exact ⟨by have := h.1; omega, by simp, by simp [go_sem], by simp [go_sem], by simp [go_sem], by simp [go_sem], h.keep hb⟩

theorem PB.kept {S : Nat → Prop} {W V : World} {b q w n : Nat} {s : PS} (h : PB W b q w n s) (hK : Kept S W V) (h1 : ¬ S b) (h2 : ¬ S q) : PB V b q w n s := by
  obtain ⟨k1, k2, k3, k4, k5, k6, k7⟩ := h
  exact ⟨k1, Nat.lt_of_lt_of_le k2 hK.size, hK.cell k2 h1 k3, hK.cell k2 h1 k4, hK.cell k2 h1 k5, hK.froz k2 h1 k6, k7.kept hK h2⟩
theorem PB.same {W : World} {b q w n : Nat} {f g : Nat → Int} {l : Int} (h : PB W b q w n ⟨f, l⟩) (hg : ∀ j, j < n → f j = g j) : PB W b q w n ⟨g, l⟩ := by
  obtain ⟨k1, k2, k3, k4, k5, k6, k7⟩ := h
  exact ⟨k1, k2, k3, k4, k5, k6, k7.1, fun j hj => by have := k7.2 j hj; show W.cell? _ = some (.int .i64 (g j)) ∧ _; rw [← hg j hj]; exact this⟩
theorem PB.wr {W : World} {b q w n : Nat} {f g : Nat → Int} {l : Int} (h : PB W b q w n ⟨f, l⟩) {x : Nat} {v : Int} (hv : g x = v) (hg : ∀ j, j < n → j ≠ x → f j = g j) : PB (W.setCell ⟨q, x, none⟩ (.int .i64 v)) b q w n ⟨g, l⟩ := by
  obtain ⟨h1, h2, h3, h4, h5, h6, h7⟩ := h
  exact ⟨h1, by simpa using h2, cfar h3 h1, cfar h4 h1, cfar h5 h1, fset h6, h7.put hv hg⟩

set_option maxRecDepth 100000 in
set_option maxHeartbeats 2000000 in
theorem dots_bad (w n k cap : Nat) (q : Option Addr) (g : Nat → Int) (hw : 0 < w) (hw2 : w ≤ 4096) (hn : n ≤ 65536) (hd : n % w = 0) (hk : k < n) (hg : ∀ j, j < k → grB (g j)) (hbad : ¬ grB (g k)) (W : World) (hI : Is W q n g) : AnsD 12 #[.int .i64 w, .slice q n cap] W 0 (fun _ => 0) 0 3 := by
  unfold AnsD
  obtain ⟨i0, hi, hz0, hz1, hz2⟩ := info_parts info3
  have hby : i0.bytes * n ≤ 281474976710656 := by rw [hz2]; omega
  have hml : n ≤ maxLen := by unfold maxLen; omega
  have c1 : ¬ ((w : Int) < 1) := by omega
  have c1' : decide ((w : Int) < 1) = false := decide_eq_false c1
  have c2 : ¬ (4096 < (w : Int)) := by omega
  have c2' : decide (4096 < (w : Int)) = false := decide_eq_false c2
  have c3 : ¬ (65536 < (n : Int)) := by omega
  have c3' : decide (65536 < (n : Int)) = false := decide_eq_false c3
  have c4 : (n : Int) % (w : Int) = 0 := by omega
  have c5 : ((w : Int) == 0) = false := by simp; omega
  have HI := hide hI
  have HG := hide hg
  have HB := hide hbad
  clear hI hg hbad
  obtain ⟨bq, hbq⟩ : ∃ bq, W.heap.size = bq := ⟨_, rfl⟩
  have Hbq := hide hbq
  clear hbq
  go_enter Try.func12, Try.ntmps12
  go_wp2_with (refine wpList_make_full _ rfl _ _ 34 rfl W.heap.size 3 i0 _ 1 Try.underlying34 hi hz0 hz1 .i64 .i64 (n : Int) (n : Int) n rfl rfl rfl rfl hby hml (Nat.le_refl _) ?_)
  intro wm hown hgrow
  go_upto_region 4 with fail
  have HP := hide (PB.new (w := w) (jrow_made hown))
  have HS := hide (bal (o := .cells #[.int .i64 (w : Nat), .slice (some ⟨W.heap.size, 0, none⟩) n n, .int .i64 0] 57) ((Below.refl _ W).grown hgrow (Nat.le_refl _) (fun k hk => by cases hk)))
  have hbp : W.heap.size ≤ wm.heap.size := hgrow.size
  clear hown hgrow c4
  have HS2 := hide (show Below W.heap.size W (wm.alloc (.cells #[.int .i64 (w : Nat), .slice (some ⟨bq, 0, none⟩) n n, .int .i64 0] 57)) by rw [← unhide Hbq]; exact unhide HS)
  rw [unhide Hbq] at HP hbp ⊢
  clear HS
  generalize wm.alloc (.cells #[.int .i64 (w : Nat), .slice (some ⟨bq, 0, none⟩) n n, .int .i64 0] 57) = w1 at *
  generalize wm.heap.size = bp at *
  go_wp2
  go_loopw [36] (fun i wr => ∃ x : Nat, x ≤ k ∧ i = .int .i64 x ∧ PB wr bp bq w n ⟨upto (fun j => 16 * g j) x, 0⟩ ∧ Below W.heap.size W wr) (fun i _ => n - (intOf i).toNat)
  case atStart => exact ⟨0, Nat.zero_le _, rfl, by rw [upto_zero]; exact unhide HP, unhide HS2⟩
  case round =>
    clear HP HS2
    obtain ⟨x, hx, rfl, hP, hb⟩ := hrel
    by_cases hlt : x < k
    · skip
      obtain ⟨ad0, oo, rfl, hl, hk⟩ := ((unhide HI).keep hb).at (x := x) (by omega)
      have kx := hk x (by omega)
      obtain ⟨P1, P2, P3, P4, P5, P6, P7⟩ := id hP
      have kq := (P7.2 x (by omega)).1
      have kf := (P7.2 x (by omega)).2
      obtain ⟨g1, g2⟩ := unhide HG x (by omega)
      have HPn := hide (hP.wr (g := upto (fun j => 16 * g j) (x + 1)) (x := x) (v := 16 * g x) (by rw [upto_at]) (fun j _ hj => upto_ne _ x j hj))
      have Hbn := hide (bset (p := ⟨bq, x, none⟩) (u := .int .i64 (16 * g x)) hb (by rw [unhide Hbq]; exact Nat.le_refl _))
      generalize (PS.mk (upto (fun j => 16 * g j) x) 0).f x = old at *
      generalize g x = gx at *
      have q0 : (x : Int) < (n : Int) := by omega
      have q1 : (0 : Int) ≤ (x : Int) := by omega
      have r1 : ¬ (gx < 0) := by omega
      have r1' : decide (gx < 0) = false := decide_eq_false r1
      have r2 : ¬ (255 < gx) := by omega
      have r2' : decide (255 < gx) = false := decide_eq_false r2
      clear hk hP hb P1 P2 P3 P5 P6 P7
      go_wp2
      go_roundw
      case rel => exact ⟨x + 1, by omega, by go_num, unhide HPn, unhide Hbn⟩
      case measure => simp [intOf]; omega
    · obtain rfl : k = x := by omega
      obtain ⟨ad0, oo, rfl, hl, hk0⟩ := ((unhide HI).keep hb).at (x := k) hk
      have kx := hk0 k hk
      have q0 : (k : Int) < (n : Int) := by omega
      have q1 : (0 : Int) ≤ (k : Int) := by omega
      have hg0 := unhide HB
      have Hr := hide (PD.mk (W := W) (V := wr) (f := fun _ => 0) (lost := 0) (er := 3) none 0 (.inl rfl) hb)
      unfold grB at hg0
      clear hk0 hP hb HB
      generalize g k = gx at *
      by_cases r1 : gx < 0
      · have r1' : decide (gx < 0) = true := decide_eq_true r1
        clear hg0
        go_wp2
        exact bodyPost_ret (v := .tuple #[.slice none 0 0, .int .i64 0, .int .i64 3]) (by simp [results, Try.results12, go_sem]) rfl (unhide Hr)
      · have r1' : decide (gx < 0) = false := decide_eq_false r1
        have r2 : 255 < gx := by omega
        have r2' : decide (255 < gx) = true := decide_eq_true r2
        clear hg0
        go_wp2
        exact bodyPost_ret (v := .tuple #[.slice none 0 0, .int .i64 0, .int .i64 3]) (by simp [results, Try.results12, go_sem]) rfl (unhide Hr)

set_option maxRecDepth 100000 in
set_option maxHeartbeats 2000000 in
theorem dots_ok (w n cap : Nat) (q : Option Addr) (g : Nat → Int) (hw : 0 < w) (hw2 : w ≤ 4096) (hn : n ≤ 65536) (hd : n % w = 0) (hg : ∀ j, j < n → grB (g j)) (W : World) (hI : Is W q n g) : AnsD 12 #[.int .i64 w, .slice q n cap] W n (dtF w n g) (ruS w n g n).lost 0 := by
  have HD := hide (fun (b q x : Nat) (hx : x < n) V (hV : PB V b q w n (ruS w n g x)) => dot_any b q w n x (ruS w n g x) hw hw2 hx hn (by have := ruS_ms (w := w) hw hg x (by omega); omega) V hV)
  unfold AnsD
  obtain ⟨i0, hi, hz0, hz1, hz2⟩ := info_parts info3
  have hby : i0.bytes * n ≤ 281474976710656 := by rw [hz2]; omega
  have hml : n ≤ maxLen := by unfold maxLen; omega
  have c1 : ¬ ((w : Int) < 1) := by omega
  have c1' : decide ((w : Int) < 1) = false := decide_eq_false c1
  have c2 : ¬ (4096 < (w : Int)) := by omega
  have c2' : decide (4096 < (w : Int)) = false := decide_eq_false c2
  have c3 : ¬ (65536 < (n : Int)) := by omega
  have c3' : decide (65536 < (n : Int)) = false := decide_eq_false c3
  have c4 : (n : Int) % (w : Int) = 0 := by omega
  have c5 : ((w : Int) == 0) = false := by simp; omega
  have HI := hide hI
  have HG := hide hg
  clear hI hg
  obtain ⟨bq, hbq⟩ : ∃ bq, W.heap.size = bq := ⟨_, rfl⟩
  have Hbq := hide hbq
  clear hbq
  go_enter Try.func12, Try.ntmps12
  go_wp2_with (refine wpList_make_full _ rfl _ _ 34 rfl W.heap.size 3 i0 _ 1 Try.underlying34 hi hz0 hz1 .i64 .i64 (n : Int) (n : Int) n rfl rfl rfl rfl hby hml (Nat.le_refl _) ?_)
  intro wm hown hgrow
  go_upto_region 4 with fail
  have HP := hide (PB.new (w := w) (jrow_made hown))
  have HS := hide (bal (o := .cells #[.int .i64 (w : Nat), .slice (some ⟨W.heap.size, 0, none⟩) n n, .int .i64 0] 57) ((Below.refl _ W).grown hgrow (Nat.le_refl _) (fun k hk => by cases hk)))
  have hbp : W.heap.size ≤ wm.heap.size := hgrow.size
  clear hown hgrow c4
  have HS2 := hide (show Below W.heap.size W (wm.alloc (.cells #[.int .i64 (w : Nat), .slice (some ⟨bq, 0, none⟩) n n, .int .i64 0] 57)) by rw [← unhide Hbq]; exact unhide HS)
  rw [unhide Hbq] at HP hbp ⊢
  clear HS
  generalize wm.alloc (.cells #[.int .i64 (w : Nat), .slice (some ⟨bq, 0, none⟩) n n, .int .i64 0] 57) = w1 at *
  generalize wm.heap.size = bp at *
  go_wp2
  go_loopw [36] (fun i wr => ∃ x : Nat, x ≤ n ∧ i = .int .i64 x ∧ PB wr bp bq w n ⟨upto (fun j => 16 * g j) x, 0⟩ ∧ Below W.heap.size W wr) (fun i _ => n - (intOf i).toNat)
  case atStart => exact ⟨0, Nat.zero_le _, rfl, by rw [upto_zero]; exact unhide HP, unhide HS2⟩
  case round =>
    clear HP HS2
    obtain ⟨x, hx, rfl, hP, hb⟩ := hrel
    by_cases hlt : x < n
    · skip
      obtain ⟨ad0, oo, rfl, hl, hk⟩ := ((unhide HI).keep hb).at (x := x) (by omega)
      have kx := hk x (by omega)
      obtain ⟨P1, P2, P3, P4, P5, P6, P7⟩ := id hP
      have kq := (P7.2 x (by omega)).1
      have kf := (P7.2 x (by omega)).2
      obtain ⟨g1, g2⟩ := unhide HG x (by omega)
      have HPn := hide (hP.wr (g := upto (fun j => 16 * g j) (x + 1)) (x := x) (v := 16 * g x) (by rw [upto_at]) (fun j _ hj => upto_ne _ x j hj))
      have Hbn := hide (bset (p := ⟨bq, x, none⟩) (u := .int .i64 (16 * g x)) hb (by rw [unhide Hbq]; exact Nat.le_refl _))
      generalize (PS.mk (upto (fun j => 16 * g j) x) 0).f x = old at *
      generalize g x = gx at *
      have q0 : (x : Int) < (n : Int) := by omega
      have q1 : (0 : Int) ≤ (x : Int) := by omega
      have r1 : ¬ (gx < 0) := by omega
      have r1' : decide (gx < 0) = false := decide_eq_false r1
      have r2 : ¬ (255 < gx) := by omega
      have r2' : decide (255 < gx) = false := decide_eq_false r2
      clear hk hP hb P1 P2 P3 P5 P6 P7
      go_wp2
      go_roundw
      case rel => exact ⟨x + 1, by omega, by go_num, unhide HPn, unhide Hbn⟩
      case measure => simp [intOf]; omega
    · obtain rfl : n = x := by omega
      have cl : ¬ ((n : Int) < (n : Int)) := by omega
      have HP := hide (hP.same (g := fun j => 16 * g j) (fun j hj => by unfold upto; rw [if_pos hj]))
      have HB := hide hb
      have hbpl : bp < wr.heap.size := hP.2.1
      have hbql : bq < wr.heap.size := hP.2.2.2.2.2.2.1
      clear hP hb HI HG
      go_wp2_with (refine wpList_make_full _ rfl _ _ 34 rfl wr.heap.size 3 i0 _ 1 Try.underlying34 hi hz0 hz1 .i64 .i64 (n : Int) (n : Int) n rfl rfl rfl rfl hby hml (Nat.le_refl _) ?_)
      intro w2 hown hgrow
      have HR := hide (jrow_made hown)
      have hW2 := (Below.refl _ wr).grown hgrow (Nat.le_refl _) (fun k hk => by cases hk)
      have HS := hide (btrans (unhide HB) hW2)
      have HP2 := hide ((unhide HP).keep hW2)
      have hcW : W.heap.size ≤ wr.heap.size := (unhide HB).size
      have hbq' : W.heap.size ≤ bq := by rw [unhide Hbq]; exact Nat.le_refl _
      have hbp' : W.heap.size ≤ bp := by omega
      have Hfr := hide (And.intro hcW (And.intro hbq' hbp'))
      clear hown hgrow hi hz0 hz1 hz2 hby hml HB HP hW2 hcW hbq' hbp' hbp
      generalize wr.heap.size = bc at *
      have Hne := hide (show bc ≠ bp ∧ bc ≠ bq by omega)
      clear hbpl hbql
      go_wp2
      go_loopw [59] (fun i wr2 => ∃ x : Nat, x ≤ n ∧ i = .int .i64 x ∧ JRow wr2 bc n (upto (dtF w n g) x) ∧ PB wr2 bp bq w n (ruS w n g x) ∧ Below W.heap.size W wr2) (fun i _ => n - (intOf i).toNat)
      case atStart => exact ⟨0, Nat.zero_le _, rfl, by rw [upto_zero]; exact unhide HR, unhide HP2, unhide HS⟩
      case round =>
        clear HR HP2 HS
        obtain ⟨x, hx, rfl, hR, hP, hb⟩ := hrel
        by_cases hlt : x < n
        · have q0 : (x : Int) < (n : Int) := by omega
          have q1 : (0 : Int) ≤ (x : Int) := by omega
          have HR := hide hR
          have HP := hide hP
          have Hb := hide hb
          clear hR hP hb
          go_wp2_with fail
          refine (unhide HD bp bq x hlt _ (unhide HP)).mono ?_
          rintro e w5 ⟨rfl, hP5, hK5⟩
          have hR5 := (unhide HR).kept hK5 (by have := unhide Hne; omega)
          have kf := (hR5.2 x hlt).2
          have kc := (hR5.2 x hlt).1
          have hb5 := Kept.back (unhide Hb) hK5 (unhide Hb).size (fun i hi => by have := unhide Hfr; omega)
          obtain ⟨v, hv⟩ : ∃ v, dt ((ruS w n g x).f x) = v := ⟨_, rfl⟩
          rw [hv]
          have HRn := hide (hR5.put (g := upto (dtF w n g) (x + 1)) (x := x) (v := v) (by rw [upto_at]; exact hv) (fun j _ hj => upto_ne _ x j hj))
          have HPn := hide (show PB (w5.setCell ⟨bc, x, none⟩ (.int .i64 v)) bp bq w n (ruS w n g (x + 1)) from hP5.kept (kset w5 bc x (.int .i64 v)) (by have := unhide Hne; omega) (by have := unhide Hne; omega))
          have Hbn := hide (bset (p := ⟨bc, x, none⟩) (u := .int .i64 v) hb5 (unhide Hfr).1)
          generalize upto (dtF w n g) x x = old at kc
          clear hR5 hP5 hK5 hb5 hv HR HP Hb
          go_wp2
          go_roundw
          case rel => exact ⟨x + 1, by omega, by go_num, unhide HRn, unhide HPn, unhide Hbn⟩
          case measure => simp [intOf]; omega
        · obtain rfl : n = x := by omega
          have cl : ¬ ((n : Int) < (n : Int)) := by omega
          have HR := hide hR
          have Hb := hide hb
          have kl := hP.2.2.2.2.1
          generalize (ruS w n g n).lost = lo at *
          clear hR hb hP HD
          go_wp2_with fail
          go_region
          go_wp2
          exact bodyPost_ret (v := .tuple #[.slice (some ⟨bc, 0, none⟩) n n, .int .i64 lo, .int .i64 0]) (by simp [results, Try.results12, go_sem]) rfl (PD.mk _ _ (((unhide HR).keep (bdrew _)).is (fun j hj => by simp [upto, hj])) (btrans (unhide Hb) (bdrew _)))
end Go.Proofs.Ytlilmchlddiacaa
