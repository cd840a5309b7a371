/-
  KindBands: the law's walk.
-/
import Derived.Test.YtpcajcgafmmlkaaBandA
import Derived.Test.YtpcajcgafmmlkaaGD
import Derived.Test.YtpcajcgafmmlkaaKindD
namespace Go.Proofs.Ytpcajcgafmmlkaa
open Go.RowKit

def KBands (g w h : Int) (p : Option Addr) (n cap : Nat) (at_ : Int) (W : World) : Prop :=
  Calls Try.prog 6 #[Ch.ch g w h p n cap, .int .i64 at_] W fun e w' => e = .returned (.bool true) ∧ Below W.heap.size W w'

set_option maxHeartbeats 1000000 in
set_option maxRecDepth 100000 in
theorem kbands_err (g w h : Int) (p : Option Addr) (n cap : Nat) (at_ er : Int) (W : World) (Rc : World → Prop) (hRc : ∀ V V', Rc V → Below V.heap.size V V' → Rc V') (hc : Rc W)
    (HA : ∀ V : World, Calls Try.prog 13 #[] V fun e w' => e = .returned (.bool true) ∧ Below V.heap.size V w')
    (HB : ∀ V, Rc V → BandIs g w h p n cap V 0 er) (hp : 1 ≤ er) : KBands g w h p n cap at_ W := by
  have K1 := hide HA
  have K2 := hide HB
  have HRc := hide hRc
  have B0 := bal (o := .cells #[.int .i64 g, .int .i64 w, .int .i64 h, .slice p n cap] 24) (Below.refl W.heap.size W)
  have Hc := hide (hRc _ _ hc B0)
  have HB0 := hide B0
  have HC0 := hide (Ch.OwnC.new W g w h p n cap 24)
  have he : (er != 0) = true := by simp; omega
  clear hRc hc HA HB B0 hp
  unfold KBands
  go_enter Try.func6, Try.ntmps6
  go_wp2_with fail
  generalize W.alloc (.cells #[.int .i64 g, .int .i64 w, .int .i64 h, .slice p n cap] 24) = w0 at *
  refine (unhide K1 _).mono ?_
  rintro e w1 ⟨rfl, hb⟩
  have c := ((unhide HC0).keep hb).2
  have S1 := hb
  clear hb
  go_wp2_with fail
  clear c
  refine (unhide K2 _ (unhide HRc _ _ (unhide Hc) S1)).mono ?_
  rintro e w2 ⟨rfl, hb⟩
  have S2 := btrans (unhide HB0) (btrans S1 hb)
  clear hb S1
  go_wp2
  go_ret
  exact ⟨ret_bool rfl, S2⟩

set_option maxHeartbeats 1000000 in
set_option maxRecDepth 100000 in
theorem kbands_neg (g w h : Int) (p : Option Addr) (n cap : Nat) (at_ kd : Int) (W : World) (Rc : World → Prop) (hRc : ∀ V V', Rc V → Below V.heap.size V V' → Rc V') (hc : Rc W)
    (HA : ∀ V : World, Calls Try.prog 13 #[] V fun e w' => e = .returned (.bool true) ∧ Below V.heap.size V w')
    (HB : ∀ V, Rc V → BandIs g w h p n cap V kd 0) (hk : 1 ≤ kd ∧ kd ≤ 7) (ha : at_ < 0) : KBands g w h p n cap at_ W := by
  have K1 := hide HA
  have K2 := hide HB
  have HRc := hide hRc
  have B0 := bal (o := .cells #[.int .i64 g, .int .i64 w, .int .i64 h, .slice p n cap] 24) (Below.refl W.heap.size W)
  have Hc := hide (hRc _ _ hc B0)
  have HB0 := hide B0
  have HC0 := hide (Ch.OwnC.new W g w h p n cap 24)
  have k1 : decide (kd < 1) = false := by simp; omega
  have k2 : decide (7 < kd) = false := by simp; omega
  clear hRc hc HA HB B0
  unfold KBands
  go_enter Try.func6, Try.ntmps6
  go_wp2_with fail
  generalize W.alloc (.cells #[.int .i64 g, .int .i64 w, .int .i64 h, .slice p n cap] 24) = w0 at *
  refine (unhide K1 _).mono ?_
  rintro e w1 ⟨rfl, hb⟩
  have c := ((unhide HC0).keep hb).2
  have S1 := hb
  clear hb
  go_wp2_with fail
  clear c
  refine (unhide K2 _ (unhide HRc _ _ (unhide Hc) S1)).mono ?_
  rintro e w2 ⟨rfl, hb⟩
  have S2 := btrans (unhide HB0) (btrans S1 hb)
  clear hb S1
  go_wp2
  go_ret
  exact ⟨ret_bool (by first | rfl | (simp; omega)), S2⟩
end Go.Proofs.Ytpcajcgafmmlkaa

namespace Go.Proofs.Ytpcajcgafmmlkaa
open Go.RowKit

def OwnE (W : World) (b : Nat) (g w h : Int) (q : Option Addr) (m cp : Nat) : Prop := Ch.OwnC W b g w h q m cp ∧ W.frozen? ⟨b, 3, none⟩ = false
theorem OwnE.new (W : World) (g w h : Int) (q : Option Addr) (m cp : Nat) (t : TypeId) : OwnE (W.alloc (.cells #[.int .i64 g, .int .i64 w, .int .i64 h, .slice q m cp] t)) W.heap.size g w h q m cp :=
  ⟨Ch.OwnC.new W g w h q m cp t, by simp [go_sem]⟩
theorem OwnE.below {W w1 : World} {B b : Nat} {g w h : Int} {q : Option Addr} {m cp : Nat} (k : OwnE W b g w h q m cp) (hb : Below B W w1) (hB : b < B) (hz : W.heap.size ≤ w1.heap.size) : OwnE w1 b g w h q m cp := by
  obtain ⟨⟨h0, h1, h2, h3, h4⟩, h5⟩ := k
  refine ⟨⟨by omega, ?_, ?_, ?_, ?_⟩, ?_⟩
  · rw [hb.cell (p := ⟨b, 0, none⟩) hB]; exact h1
  · rw [hb.cell (p := ⟨b, 1, none⟩) hB]; exact h2
  · rw [hb.cell (p := ⟨b, 2, none⟩) hB]; exact h3
  · rw [hb.cell (p := ⟨b, 3, none⟩) hB]; exact h4
  · rw [hb.frozen (p := ⟨b, 3, none⟩) hB]; exact h5
theorem OwnE.set3 {W : World} {b : Nat} {g w h : Int} {q : Option Addr} {m cp : Nat} (k : OwnE W b g w h q m cp) (q' : Option Addr) (m' cp' : Nat) : OwnE (W.setCell ⟨b, 3, none⟩ (.slice q' m' cp')) b g w h q' m' cp' := by
  obtain ⟨⟨h0, h1, h2, h3, h4⟩, h5⟩ := k
  refine ⟨⟨by simpa using h0, by simp [go_sem, h1], by simp [go_sem, h2], by simp [go_sem, h3], by simp [go_sem, h4]⟩, by simp [go_sem, h5]⟩

theorem g16_0 {a0 a1 a2 a3 a4 a5 a6 a7 a8 a9 a10 a11 a12 a13 a14 a15 : Oper} : (#[a0, a1, a2, a3, a4, a5, a6, a7, a8, a9, a10, a11, a12, a13, a14, a15] : Array Oper)[0]? = some a0 := rfl
theorem g16_1 {a0 a1 a2 a3 a4 a5 a6 a7 a8 a9 a10 a11 a12 a13 a14 a15 : Oper} : (#[a0, a1, a2, a3, a4, a5, a6, a7, a8, a9, a10, a11, a12, a13, a14, a15] : Array Oper)[1]? = some a1 := rfl
theorem g16_2 {a0 a1 a2 a3 a4 a5 a6 a7 a8 a9 a10 a11 a12 a13 a14 a15 : Oper} : (#[a0, a1, a2, a3, a4, a5, a6, a7, a8, a9, a10, a11, a12, a13, a14, a15] : Array Oper)[2]? = some a2 := rfl
theorem g16_3 {a0 a1 a2 a3 a4 a5 a6 a7 a8 a9 a10 a11 a12 a13 a14 a15 : Oper} : (#[a0, a1, a2, a3, a4, a5, a6, a7, a8, a9, a10, a11, a12, a13, a14, a15] : Array Oper)[3]? = some a3 := rfl
theorem g16_4 {a0 a1 a2 a3 a4 a5 a6 a7 a8 a9 a10 a11 a12 a13 a14 a15 : Oper} : (#[a0, a1, a2, a3, a4, a5, a6, a7, a8, a9, a10, a11, a12, a13, a14, a15] : Array Oper)[4]? = some a4 := rfl
theorem g16_5 {a0 a1 a2 a3 a4 a5 a6 a7 a8 a9 a10 a11 a12 a13 a14 a15 : Oper} : (#[a0, a1, a2, a3, a4, a5, a6, a7, a8, a9, a10, a11, a12, a13, a14, a15] : Array Oper)[5]? = some a5 := rfl
theorem g16_6 {a0 a1 a2 a3 a4 a5 a6 a7 a8 a9 a10 a11 a12 a13 a14 a15 : Oper} : (#[a0, a1, a2, a3, a4, a5, a6, a7, a8, a9, a10, a11, a12, a13, a14, a15] : Array Oper)[6]? = some a6 := rfl
theorem g16_7 {a0 a1 a2 a3 a4 a5 a6 a7 a8 a9 a10 a11 a12 a13 a14 a15 : Oper} : (#[a0, a1, a2, a3, a4, a5, a6, a7, a8, a9, a10, a11, a12, a13, a14, a15] : Array Oper)[7]? = some a7 := rfl
theorem g16_8 {a0 a1 a2 a3 a4 a5 a6 a7 a8 a9 a10 a11 a12 a13 a14 a15 : Oper} : (#[a0, a1, a2, a3, a4, a5, a6, a7, a8, a9, a10, a11, a12, a13, a14, a15] : Array Oper)[8]? = some a8 := rfl
theorem g16_9 {a0 a1 a2 a3 a4 a5 a6 a7 a8 a9 a10 a11 a12 a13 a14 a15 : Oper} : (#[a0, a1, a2, a3, a4, a5, a6, a7, a8, a9, a10, a11, a12, a13, a14, a15] : Array Oper)[9]? = some a9 := rfl
theorem g16_10 {a0 a1 a2 a3 a4 a5 a6 a7 a8 a9 a10 a11 a12 a13 a14 a15 : Oper} : (#[a0, a1, a2, a3, a4, a5, a6, a7, a8, a9, a10, a11, a12, a13, a14, a15] : Array Oper)[10]? = some a10 := rfl
theorem g16_11 {a0 a1 a2 a3 a4 a5 a6 a7 a8 a9 a10 a11 a12 a13 a14 a15 : Oper} : (#[a0, a1, a2, a3, a4, a5, a6, a7, a8, a9, a10, a11, a12, a13, a14, a15] : Array Oper)[11]? = some a11 := rfl
theorem g16_12 {a0 a1 a2 a3 a4 a5 a6 a7 a8 a9 a10 a11 a12 a13 a14 a15 : Oper} : (#[a0, a1, a2, a3, a4, a5, a6, a7, a8, a9, a10, a11, a12, a13, a14, a15] : Array Oper)[12]? = some a12 := rfl
theorem g16_13 {a0 a1 a2 a3 a4 a5 a6 a7 a8 a9 a10 a11 a12 a13 a14 a15 : Oper} : (#[a0, a1, a2, a3, a4, a5, a6, a7, a8, a9, a10, a11, a12, a13, a14, a15] : Array Oper)[13]? = some a13 := rfl
theorem g16_14 {a0 a1 a2 a3 a4 a5 a6 a7 a8 a9 a10 a11 a12 a13 a14 a15 : Oper} : (#[a0, a1, a2, a3, a4, a5, a6, a7, a8, a9, a10, a11, a12, a13, a14, a15] : Array Oper)[14]? = some a14 := rfl
theorem g16_15 {a0 a1 a2 a3 a4 a5 a6 a7 a8 a9 a10 a11 a12 a13 a14 a15 : Oper} : (#[a0, a1, a2, a3, a4, a5, a6, a7, a8, a9, a10, a11, a12, a13, a14, a15] : Array Oper)[15]? = some a15 := rfl
/-- the colours so far -/
def wyL (px : Nat → Int) (way w h at_ m : Nat) : List Int := (List.range m).map (wyC px way w h at_)
theorem wyL_succ (px : Nat → Int) (way w h at_ m : Nat) : wyL px way w h at_ (m + 1) = wyL px way w h at_ m ++ [wyC px way w h at_ m] := by
  unfold wyL; rw [List.range_succ, List.map_append]; rfl

set_option maxHeartbeats 8000000 in
set_option maxRecDepth 100000 in
theorem kbands_plain (w h b o n cap : Nat) (px : Nat → Int) (at_ a : Nat) (kd : Int) (W : World) (hw : 1 ≤ w ∧ w ≤ 64) (hh : 1 ≤ h ∧ h ≤ 64) (hn : n = w * h) (hr : Ch.Row W b o n px) (hk : 1 ≤ kd ∧ kd ≤ 7) (hat : at_ ≤ 9223372036854775807) (ha : a = at_ % w)
    (HA : ∀ V : World, Calls Try.prog 13 #[] V fun e w' => e = .returned (.bool true) ∧ Below V.heap.size V w')
    (HB : ∀ V, Ch.Row V b o n px → BandIs 4 w h (some ⟨b, o, none⟩) n cap V kd 0)
    (HD : ∀ (way : Nat) (V : World) (q cp : Nat), way < 3 → Ch.Row V q 0 n (wyC px way w h a) → BandIs 4 w h (some ⟨q, 0, none⟩) n cp V kd 0) : KBands 4 w h (some ⟨b, o, none⟩) n cap at_ W := by
  have K1 := hide HA
  have K2 := hide HB
  have K3 := hide HD
  have hn4 : n ≤ 4096 := by rw [hn]; exact Nat.mul_le_mul hw.2 hh.2
  have Hn := hide hn
  obtain ⟨i0, hi, hz0, hz1, hz2⟩ := info_parts info3
  have B0 := bal (o := .cells #[.int .i64 4, .int .i64 w, .int .i64 h, .slice (some ⟨b, o, none⟩) n cap] 24) (Below.refl W.heap.size W)
  have HR0 := hide (hr.keep B0)
  have HB0 := hide B0
  have HC0 := hide (Ch.OwnC.new W 4 w h (some ⟨b, o, none⟩) n cap 24)
  have k1 : decide (kd < 1) = false := by simp; omega
  have k2 : decide (7 < kd) = false := by simp; omega
  have hw0 : (w : Int) ≠ 0 := by omega
  have haw : a < w := by rw [ha]; exact Nat.mod_lt _ (by omega)
  have ea : (at_ : Int) % (w : Int) = (a : Int) := by rw [ha, Int.natCast_emod]
  clear hr HA HB HD B0 hn ha
  unfold KBands
  go_enter Try.func6, Try.ntmps6
  go_wp2_with fail
  generalize W.alloc (.cells #[.int .i64 4, .int .i64 w, .int .i64 h, .slice (some ⟨b, o, none⟩) n cap] 24) = w0 at *
  refine (unhide K1 _).mono ?_
  rintro e w1 ⟨rfl, hb⟩
  have c := ((unhide HC0).keep hb).2
  have S1 := hb
  clear hb
  go_wp2_with fail
  clear c
  refine (unhide K2 _ ((unhide HR0).keep S1)).mono ?_
  rintro e wb ⟨rfl, hb⟩
  have S2 := btrans S1 hb
  have HC1 := hide ((unhide HC0).keep S2)
  have HR1 := hide ((unhide HR0).keep S2)
  have HS1 := hide (btrans (unhide HB0) S2)
  have hbz := (unhide HC1).1
  clear hb S1 S2 HB0 HC0 HR0 K1 K2
  have c := (unhide HC1).2
  go_wp2
  rw [ea]
  clear c ea k1 k2
  go_loopw [7] (fun i wr => ∃ v : Int, (0 ≤ v ∧ v ≤ 3) ∧ i = .int .i64 v ∧ Below wb.heap.size wb wr) (fun i _ => 3 - (intOf i).toNat)
  case atStart => exact ⟨0, by omega, rfl, Below.refl _ _⟩
  case round =>
    obtain ⟨v, hv, rfl, hbel⟩ := hrel
    by_cases q2 : v < 3
    · obtain ⟨wy, hwy⟩ : ∃ wy : Nat, v = (wy : Int) := ⟨v.toNat, by omega⟩
      have hlt : wy < 3 := by omega
      have Hwy := hide hwy
      clear hwy
      have K4 := hide (fun V q cp => unhide K3 wy V q cp hlt)
      have c := ((unhide HC1).keep hbel).2
      have hbs := hbel.size
      go_wp2
      clear c
      have DC := OwnE.new wr 4 w h none 0 0 24
      have hbel1 := bal (o := .cells #[.int .i64 4, .int .i64 w, .int .i64 h, .slice none 0 0] 24) hbel
      clear hbel
      obtain ⟨wo, rfl⟩ : ∃ wo : World, wo = wr := ⟨_, rfl⟩
      go_loopw [9] (fun i wr => ∃ (y m cp : Nat) (q : Option Addr), y ≤ h ∧ i = .int .i64 y ∧ m = y * w ∧ OwnE wr wo.heap.size 4 w h q m cp ∧ wr.ownsRow (wo.heap.size + 1) 3 1 (.slice q m cp) m (intsV (wyL px wy w h a m)) ∧ Below wb.heap.size wb wr) (fun i _ => h - (intOf i).toNat)
      case atStart => exact ⟨0, 0, 0, none, Nat.zero_le _, rfl, by simp, DC, World.ownsRow_nil _ _ _ _, hbel1⟩
      case round =>
        clear DC hbel1
        obtain ⟨y, m, cp, q, hy, rfl, hm, DC, hown, hbel⟩ := hrel
        have Hm := hide hm
        have hmn : m ≤ 4096 := by rw [hm]; exact Nat.mul_le_mul (show y ≤ 64 by omega) hw.2
        clear hm
        by_cases hly : y < h
        · have q3 : (y : Int) < (h : Int) := by omega
          have hmw : m + w ≤ n := by
            rw [unhide Hm, unhide Hn, ← mul_step, Nat.mul_comm w h]; exact Nat.mul_le_mul_right w (show y + 1 ≤ h by omega)
          have c := ((unhide HC1).keep hbel).2
          go_wp2
          clear c
          obtain ⟨wi, rfl⟩ : ∃ wi : World, wi = wr := ⟨_, rfl⟩
          go_loopw [10] (fun i wr => ∃ (x cp : Nat) (q : Option Addr), x ≤ w ∧ i = .int .i64 x ∧ OwnE wr wo.heap.size 4 w h q (m + x) cp ∧ wr.ownsRow (wo.heap.size + 1) 3 1 (.slice q (m + x) cp) (m + x) (intsV (wyL px wy w h a (m + x))) ∧ Below wb.heap.size wb wr) (fun i _ => w - (intOf i).toNat)
          case atStart => exact ⟨0, cp, q, Nat.zero_le _, rfl, DC, hown, hbel⟩
          case round =>
            clear DC hown hbel
            obtain ⟨x, cp, q, hx, rfl, DC, hown, hbel⟩ := hrel
            by_cases hlx : x < w
            · have q4 : (x : Int) < (w : Int) := by omega
              obtain ⟨J, hJ⟩ : ∃ J : Nat, J = wyJ wy h y := ⟨_, rfl⟩
              obtain ⟨I, hI⟩ : ∃ I : Nat, I = wyI wy w a x := ⟨_, rfl⟩
              obtain ⟨Jw, hJw⟩ : ∃ Jw : Nat, Jw = J * w := ⟨_, rfl⟩
              obtain ⟨k, hk⟩ : ∃ k : Nat, k = Jw + I := ⟨_, rfl⟩
              have l1 : J < h := by rw [hJ]; unfold wyJ; split <;> omega
              have l2 : I < w := by rw [hI]; unfold wyI; split; exact Nat.mod_lt _ (by omega); split <;> omega
              have l3 : k < n := by
                rw [hk, unhide Hn, hJw]
                have := Nat.mul_le_mul_left w (show J + 1 ≤ h by omega)
                rw [Nat.mul_add, Nat.mul_comm w J] at this
                omega
              have Hv := hide (show wyL px wy w h a (m + x + 1) = wyL px wy w h a (m + x) ++ [px k] by
                rw [wyL_succ, unhide Hm, wyC_at px wy w h a x y hlx, hk, hJw, hJ, hI])
              have e3 := hide (show IntKind.i64.wrap ((J : Int) * (w : Int)) = (Jw : Int) by
                rw [hJw, ← Int.natCast_mul]
                exact (Go.IntWalk.i64_left _).trans (Go.IntWalk.wrap64_in _ (by omega)))
              have e4 := hide (show IntKind.i64.wrap ((Jw : Int) + (I : Int)) = (k : Int) by
                rw [hk]; exact (Go.IntWalk.i64_left _).trans (Go.IntWalk.wrap64_in _ (by omega)))
              have Hld := hide (show ∀ V, Below wb.heap.size wb V → (V.cell? ⟨W.heap.size, 1, none⟩ = some (.int .i64 w) ∧ V.cell? ⟨W.heap.size, 2, none⟩ = some (.int .i64 h) ∧ V.cell? ⟨W.heap.size, 3, none⟩ = some (.slice (some ⟨b, o, none⟩) n cap)) ∧ V.cell? ⟨b, o + k, none⟩ = some (.int .i64 (px k)) from fun V hV =>
                ⟨((unhide HC1).keep hV).2.2, ((unhide HR1).keep hV).2 k l3⟩)
              have HJ := hide hJ
              have HI := hide hI
              clear hJw hk hJ hI
              have hkn : (k : Int) < (n : Int) := by omega
              have hk0 : (0 : Int) ≤ (k : Int) := by omega
              have d3 := DC.1.2.2.2.2
              have f3 := DC.2
              have hdlt := DC.1.1
              have c := ((unhide HC1).keep hbel).2
              by_cases w0 : wy = 0
              · have eI : ((x : Int) + (a : Int)) % (w : Int) = (I : Int) := by rw [unhide HI]; simp [wyI, w0]
                obtain rfl : y = J := by rw [unhide HJ, w0]; rfl
                have v0 : (v == 0) = true := by rw [unhide Hwy, w0]; rfl
                clear w0
                go_wp2_with fail
                clear c
                try rw [eI]
                clear eI
                refine wp_region_noPanic ?_
                refine wp_region_held_drew (S := fun V => Below wb.heap.size wb V) (by kernel_rfl) (Below.drew hbel) ?_
                intro _
                have hSd := Below.drew hbel
                refine wpAnyH_take (i := 0) (oi := _) (v := .pointer (some ⟨wo.heap.size, 3, none⟩)) g16_0 (by kernel_rfl) (by kernel_rfl) (by kernel_rfl) (fun _ _ _ h => h) (Or.inl ⟨by rfl, ?_⟩) (by assumption) ?_
                · intro V hSw
                  try dsimp only at hSw
                  go_simp
                simp only [Act.put, List.setIfInBounds_toArray, List.set_cons_zero, List.set_cons_succ]
                refine wpAnyH_take (i := 2) (oi := _) (v := .pointer (some ⟨W.heap.size, 3, none⟩)) g16_2 (by kernel_rfl) (by kernel_rfl) (by kernel_rfl) (fun _ _ _ h => h) (Or.inl ⟨by rfl, ?_⟩) (by assumption) ?_
                · intro V hSw
                  try dsimp only at hSw
                  go_simp
                simp only [Act.put, List.setIfInBounds_toArray, List.set_cons_zero, List.set_cons_succ]
                refine wpAnyH_take (i := 3) (oi := _) (v := .slice (some ⟨b, o, none⟩) n cap) g16_3 (by kernel_rfl) (by kernel_rfl) (by kernel_rfl) (fun _ _ _ h => h) (Or.inl ⟨by rfl, ?_⟩) (by assumption) ?_
                · intro V hSw
                  try dsimp only at hSw
                  have hl := unhide Hld V hSw
                  go_simp
                simp only [Act.put, List.setIfInBounds_toArray, List.set_cons_zero, List.set_cons_succ]
                refine wpAnyH_take (i := 4) (oi := _) (v := .int .i64 y) g16_4 (by kernel_rfl) (by kernel_rfl) (by kernel_rfl) (fun _ _ _ h => h) (Or.inl ⟨by rfl, ?_⟩) (by assumption) ?_
                · intro V hSw
                  try dsimp only at hSw
                  go_simp
                simp only [Act.put, List.setIfInBounds_toArray, List.set_cons_zero, List.set_cons_succ]
                refine wpAnyH_take (i := 5) (oi := _) (v := .pointer (some ⟨W.heap.size, 1, none⟩)) g16_5 (by kernel_rfl) (by kernel_rfl) (by kernel_rfl) (fun _ _ _ h => h) (Or.inl ⟨by rfl, ?_⟩) (by assumption) ?_
                · intro V hSw
                  try dsimp only at hSw
                  go_simp
                simp only [Act.put, List.setIfInBounds_toArray, List.set_cons_zero, List.set_cons_succ]
                refine wpAnyH_take (i := 6) (oi := _) (v := .int .i64 w) g16_6 (by kernel_rfl) (by kernel_rfl) (by kernel_rfl) (fun _ _ _ h => h) (Or.inl ⟨by rfl, ?_⟩) (by assumption) ?_
                · intro V hSw
                  try dsimp only at hSw
                  have hl := unhide Hld V hSw
                  go_simp
                simp only [Act.put, List.setIfInBounds_toArray, List.set_cons_zero, List.set_cons_succ]
                refine wpAnyH_take (i := 7) (oi := _) (v := .int .i64 Jw) g16_7 (by kernel_rfl) (by kernel_rfl) (by kernel_rfl) (fun _ _ _ h => h) (Or.inl ⟨by rfl, ?_⟩) (by assumption) ?_
                · intro V hSw
                  try dsimp only at hSw
                  go_simp
                  exact unhide e3
                simp only [Act.put, List.setIfInBounds_toArray, List.set_cons_zero, List.set_cons_succ]
                refine wpAnyH_take (i := 8) (oi := _) (v := .int .i64 I) g16_8 (by kernel_rfl) (by kernel_rfl) (by kernel_rfl) (fun _ _ _ h => h) (Or.inl ⟨by rfl, ?_⟩) (by assumption) ?_
                · intro V hSw
                  try dsimp only at hSw
                  go_simp
                simp only [Act.put, List.setIfInBounds_toArray, List.set_cons_zero, List.set_cons_succ]
                refine wpAnyH_take (i := 9) (oi := _) (v := .int .i64 k) g16_9 (by kernel_rfl) (by kernel_rfl) (by kernel_rfl) (fun _ _ _ h => h) (Or.inl ⟨by rfl, ?_⟩) (by assumption) ?_
                · intro V hSw
                  try dsimp only at hSw
                  go_simp
                  exact unhide e4
                simp only [Act.put, List.setIfInBounds_toArray, List.set_cons_zero, List.set_cons_succ]
                refine wpAnyH_take (i := 10) (oi := _) (v := .pointer (some ⟨b, o + k, none⟩)) g16_10 (by kernel_rfl) (by kernel_rfl) (by kernel_rfl) (fun _ _ _ h => h) (Or.inl ⟨by rfl, ?_⟩) (by assumption) ?_
                · intro V hSw
                  try dsimp only at hSw
                  go_simp
                simp only [Act.put, List.setIfInBounds_toArray, List.set_cons_zero, List.set_cons_succ]
                refine wpAnyH_take (i := 11) (oi := _) (v := .int .i64 (px k)) g16_11 (by kernel_rfl) (by kernel_rfl) (by kernel_rfl) (fun _ _ _ h => h) (Or.inl ⟨by rfl, ?_⟩) (by assumption) ?_
                · intro V hSw
                  try dsimp only at hSw
                  have hl := unhide Hld V hSw
                  go_simp
                simp only [Act.put, List.setIfInBounds_toArray, List.set_cons_zero, List.set_cons_succ]
                refine wpAnyH_ready (rs := [1, 12]) (by kernel_rfl) (by simp) ?_
                refine AllReadyH.cons (o := _) g16_1 (fun K hK => ?_) (AllReadyH.cons (o := _) g16_12 (fun K hK => ?_) AllReadyH.nil)
                · go_simp
                  refine hK.out _ _ (Below.drew hbel) (fun _ => ?_)
                  clear hK K
                  refine wpAnyH_ready (rs := [12]) (by kernel_rfl) (by simp) ?_
                  refine AllReadyH.cons (o := _) g16_12 (fun K hK => ?_) AllReadyH.nil
                  go_simp
                  refine hK.out _ _ ((Below.drew hbel).alloc (by simp; omega) _) (fun _ => ?_)
                  clear hK K
                  refine wpAnyH_ready (rs := [13]) (by kernel_rfl) (by simp) ?_
                  refine AllReadyH.cons (o := _) g16_13 (fun K hK => ?_) AllReadyH.nil
                  refine wp_append_own _ _ _ 22 rfl (wo.heap.size + 1) 3 i0 (.int .i64 0) 1 8 Try.underlying22 hi hz0 hz1 hz2 rfl (by decide) (.slice q (m + x) cp) (m + x) (intsV (wyL px wy w h a (m + x))) rfl (hown.drew.alloc _) ⟨wr.heap.size, 0, none⟩ 1 1 [.int .i64 (px k)] rfl ?c1a0 ?c2a0 ?c3a0 ?c4a0 ?c5a0 ?c6a0 ?_
                  case c1a0 => rfl
                  case c2a0 =>
                    intro j u hj
                    match j, hj with
                    | 0, hj => simp at hj; subst hj; simp [Addr.add]
                  case c3a0 => intro u hu; simp at hu; subst hu; rfl
                  case c4a0 => unfold maxLen; omega
                  case c5a0 => omega
                  case c6a0 => simp; omega
                  intro v' w4 hown' hgrow _
                  have B4 := ((Below.drew (Below.refl (wo.heap.size + 1) wr)).alloc (by simp; omega) _).grown hgrow (by simp; omega) (fun k hk => (hown.lt k hk).1)
                  have S4 := hbel.trans (B4.mono (by omega))
                  have D4 := DC.below B4 (by omega) B4.size
                  obtain ⟨q', cap', rfl⟩ := own_form hown'
                  refine hK.out _ _ S4 (fun _ => ?_)
                  clear hK K hown hgrow d3 f3 DC hbel B4 hSd
                  have d3 := D4.1.2.2.2.2
                  have f3 := D4.2
                  refine wpAnyH_ready (rs := [14]) (by kernel_rfl) (by simp) ?_
                  refine AllReadyH.cons (o := _) g16_14 (fun K hK => ?_) AllReadyH.nil
                  go_simp
                  refine hK.out _ _ S4 (fun _ => ?_)
                  clear hK K
                  refine wpAnyH_ready (rs := [15]) (by kernel_rfl) (by simp) ?_
                  refine AllReadyH.cons (o := _) g16_15 (fun K hK => ?_) AllReadyH.nil
                  go_simp
                  have S5 := S4.setCell (p := ⟨wo.heap.size, 3, none⟩) (by dsimp only; omega) (.slice q' (m + x + 1) cap')
                  have D5 := D4.set3 q' (m + x + 1) cap'
                  have own5 := below_setCell_own (a := ⟨wo.heap.size, 3, none⟩) (u := .slice q' (m + x + 1) cap') hown' (by dsimp only; omega)
                  refine hK.out _ _ S5 (fun _ => ?_)
                  refine wpAnyH_done (by kernel_rfl) ?_ _
                  refine NoPanic.normal ?_
                  clear hK K
                  go_wp2
                  go_roundw
                  case rel =>
                    refine ⟨x + 1, cap', q', by omega, by go_num, D5, ?_, S5⟩
                    have hv := unhide Hv
                    rw [show m + (x + 1) = m + x + 1 from rfl, hv]
                    simpa [intsV] using own5
                  case measure => simp [intOf]; omega
                · go_simp
                  refine hK.out _ _ ((Below.drew hbel).alloc (by simp; omega) _) (fun _ => ?_)
                  clear hK K
                  refine wpAnyH_ready (rs := [1]) (by kernel_rfl) (by simp) ?_
                  refine AllReadyH.cons (o := _) g16_1 (fun K hK => ?_) AllReadyH.nil
                  go_simp
                  refine hK.out _ _ ((Below.drew hbel).alloc (by simp; omega) _) (fun _ => ?_)
                  clear hK K
                  refine wpAnyH_ready (rs := [13]) (by kernel_rfl) (by simp) ?_
                  refine AllReadyH.cons (o := _) g16_13 (fun K hK => ?_) AllReadyH.nil
                  refine wp_append_own _ _ _ 22 rfl (wo.heap.size + 1) 3 i0 (.int .i64 0) 1 8 Try.underlying22 hi hz0 hz1 hz2 rfl (by decide) (.slice q (m + x) cp) (m + x) (intsV (wyL px wy w h a (m + x))) rfl (hown.drew.alloc _) ⟨wr.heap.size, 0, none⟩ 1 1 [.int .i64 (px k)] rfl ?c1b0 ?c2b0 ?c3b0 ?c4b0 ?c5b0 ?c6b0 ?_
                  case c1b0 => rfl
                  case c2b0 =>
                    intro j u hj
                    match j, hj with
                    | 0, hj => simp at hj; subst hj; simp [Addr.add]
                  case c3b0 => intro u hu; simp at hu; subst hu; rfl
                  case c4b0 => unfold maxLen; omega
                  case c5b0 => omega
                  case c6b0 => simp; omega
                  intro v' w4 hown' hgrow _
                  have B4 := ((Below.drew (Below.refl (wo.heap.size + 1) wr)).alloc (by simp; omega) _).grown hgrow (by simp; omega) (fun k hk => (hown.lt k hk).1)
                  have S4 := hbel.trans (B4.mono (by omega))
                  have D4 := DC.below B4 (by omega) B4.size
                  obtain ⟨q', cap', rfl⟩ := own_form hown'
                  refine hK.out _ _ S4 (fun _ => ?_)
                  clear hK K hown hgrow d3 f3 DC hbel B4 hSd
                  have d3 := D4.1.2.2.2.2
                  have f3 := D4.2
                  refine wpAnyH_ready (rs := [14]) (by kernel_rfl) (by simp) ?_
                  refine AllReadyH.cons (o := _) g16_14 (fun K hK => ?_) AllReadyH.nil
                  go_simp
                  refine hK.out _ _ S4 (fun _ => ?_)
                  clear hK K
                  refine wpAnyH_ready (rs := [15]) (by kernel_rfl) (by simp) ?_
                  refine AllReadyH.cons (o := _) g16_15 (fun K hK => ?_) AllReadyH.nil
                  go_simp
                  have S5 := S4.setCell (p := ⟨wo.heap.size, 3, none⟩) (by dsimp only; omega) (.slice q' (m + x + 1) cap')
                  have D5 := D4.set3 q' (m + x + 1) cap'
                  have own5 := below_setCell_own (a := ⟨wo.heap.size, 3, none⟩) (u := .slice q' (m + x + 1) cap') hown' (by dsimp only; omega)
                  refine hK.out _ _ S5 (fun _ => ?_)
                  refine wpAnyH_done (by kernel_rfl) ?_ _
                  refine NoPanic.normal ?_
                  clear hK K
                  go_wp2
                  go_roundw
                  case rel =>
                    refine ⟨x + 1, cap', q', by omega, by go_num, D5, ?_, S5⟩
                    have hv := unhide Hv
                    rw [show m + (x + 1) = m + x + 1 from rfl, hv]
                    simpa [intsV] using own5
                  case measure => simp [intOf]; omega
              · by_cases w1 : wy = 1
                · have eJ : (h : Int) - 1 - (y : Int) = (J : Int) := by rw [unhide HJ, w1]; simp only [wyJ, if_true]; omega
                  obtain rfl : x = I := by rw [unhide HI, w1]; rfl
                  have v0 : (v == 0) = false := by rw [unhide Hwy, w1]; rfl
                  have v1 : (v == 1) = true := by rw [unhide Hwy, w1]; rfl
                  clear w0 w1
                  go_wp2_with fail
                  clear c
                  try rw [eJ]
                  clear eJ
                  refine wp_region_noPanic ?_
                  refine wp_region_held_drew (S := fun V => Below wb.heap.size wb V) (by kernel_rfl) (Below.drew hbel) ?_
                  intro _
                  have hSd := Below.drew hbel
                  refine wpAnyH_take (i := 0) (oi := _) (v := .pointer (some ⟨wo.heap.size, 3, none⟩)) g16_0 (by kernel_rfl) (by kernel_rfl) (by kernel_rfl) (fun _ _ _ h => h) (Or.inl ⟨by rfl, ?_⟩) (by assumption) ?_
                  · intro V hSw
                    try dsimp only at hSw
                    go_simp
                  simp only [Act.put, List.setIfInBounds_toArray, List.set_cons_zero, List.set_cons_succ]
                  refine wpAnyH_take (i := 2) (oi := _) (v := .pointer (some ⟨W.heap.size, 3, none⟩)) g16_2 (by kernel_rfl) (by kernel_rfl) (by kernel_rfl) (fun _ _ _ h => h) (Or.inl ⟨by rfl, ?_⟩) (by assumption) ?_
                  · intro V hSw
                    try dsimp only at hSw
                    go_simp
                  simp only [Act.put, List.setIfInBounds_toArray, List.set_cons_zero, List.set_cons_succ]
                  refine wpAnyH_take (i := 3) (oi := _) (v := .slice (some ⟨b, o, none⟩) n cap) g16_3 (by kernel_rfl) (by kernel_rfl) (by kernel_rfl) (fun _ _ _ h => h) (Or.inl ⟨by rfl, ?_⟩) (by assumption) ?_
                  · intro V hSw
                    try dsimp only at hSw
                    have hl := unhide Hld V hSw
                    go_simp
                  simp only [Act.put, List.setIfInBounds_toArray, List.set_cons_zero, List.set_cons_succ]
                  refine wpAnyH_take (i := 4) (oi := _) (v := .int .i64 J) g16_4 (by kernel_rfl) (by kernel_rfl) (by kernel_rfl) (fun _ _ _ h => h) (Or.inl ⟨by rfl, ?_⟩) (by assumption) ?_
                  · intro V hSw
                    try dsimp only at hSw
                    go_simp
                  simp only [Act.put, List.setIfInBounds_toArray, List.set_cons_zero, List.set_cons_succ]
                  refine wpAnyH_take (i := 5) (oi := _) (v := .pointer (some ⟨W.heap.size, 1, none⟩)) g16_5 (by kernel_rfl) (by kernel_rfl) (by kernel_rfl) (fun _ _ _ h => h) (Or.inl ⟨by rfl, ?_⟩) (by assumption) ?_
                  · intro V hSw
                    try dsimp only at hSw
                    go_simp
                  simp only [Act.put, List.setIfInBounds_toArray, List.set_cons_zero, List.set_cons_succ]
                  refine wpAnyH_take (i := 6) (oi := _) (v := .int .i64 w) g16_6 (by kernel_rfl) (by kernel_rfl) (by kernel_rfl) (fun _ _ _ h => h) (Or.inl ⟨by rfl, ?_⟩) (by assumption) ?_
                  · intro V hSw
                    try dsimp only at hSw
                    have hl := unhide Hld V hSw
                    go_simp
                  simp only [Act.put, List.setIfInBounds_toArray, List.set_cons_zero, List.set_cons_succ]
                  refine wpAnyH_take (i := 7) (oi := _) (v := .int .i64 Jw) g16_7 (by kernel_rfl) (by kernel_rfl) (by kernel_rfl) (fun _ _ _ h => h) (Or.inl ⟨by rfl, ?_⟩) (by assumption) ?_
                  · intro V hSw
                    try dsimp only at hSw
                    go_simp
                    exact unhide e3
                  simp only [Act.put, List.setIfInBounds_toArray, List.set_cons_zero, List.set_cons_succ]
                  refine wpAnyH_take (i := 8) (oi := _) (v := .int .i64 x) g16_8 (by kernel_rfl) (by kernel_rfl) (by kernel_rfl) (fun _ _ _ h => h) (Or.inl ⟨by rfl, ?_⟩) (by assumption) ?_
                  · intro V hSw
                    try dsimp only at hSw
                    go_simp
                  simp only [Act.put, List.setIfInBounds_toArray, List.set_cons_zero, List.set_cons_succ]
                  refine wpAnyH_take (i := 9) (oi := _) (v := .int .i64 k) g16_9 (by kernel_rfl) (by kernel_rfl) (by kernel_rfl) (fun _ _ _ h => h) (Or.inl ⟨by rfl, ?_⟩) (by assumption) ?_
                  · intro V hSw
                    try dsimp only at hSw
                    go_simp
                    exact unhide e4
                  simp only [Act.put, List.setIfInBounds_toArray, List.set_cons_zero, List.set_cons_succ]
                  refine wpAnyH_take (i := 10) (oi := _) (v := .pointer (some ⟨b, o + k, none⟩)) g16_10 (by kernel_rfl) (by kernel_rfl) (by kernel_rfl) (fun _ _ _ h => h) (Or.inl ⟨by rfl, ?_⟩) (by assumption) ?_
                  · intro V hSw
                    try dsimp only at hSw
                    go_simp
                  simp only [Act.put, List.setIfInBounds_toArray, List.set_cons_zero, List.set_cons_succ]
                  refine wpAnyH_take (i := 11) (oi := _) (v := .int .i64 (px k)) g16_11 (by kernel_rfl) (by kernel_rfl) (by kernel_rfl) (fun _ _ _ h => h) (Or.inl ⟨by rfl, ?_⟩) (by assumption) ?_
                  · intro V hSw
                    try dsimp only at hSw
                    have hl := unhide Hld V hSw
                    go_simp
                  simp only [Act.put, List.setIfInBounds_toArray, List.set_cons_zero, List.set_cons_succ]
                  refine wpAnyH_ready (rs := [1, 12]) (by kernel_rfl) (by simp) ?_
                  refine AllReadyH.cons (o := _) g16_1 (fun K hK => ?_) (AllReadyH.cons (o := _) g16_12 (fun K hK => ?_) AllReadyH.nil)
                  · go_simp
                    refine hK.out _ _ (Below.drew hbel) (fun _ => ?_)
                    clear hK K
                    refine wpAnyH_ready (rs := [12]) (by kernel_rfl) (by simp) ?_
                    refine AllReadyH.cons (o := _) g16_12 (fun K hK => ?_) AllReadyH.nil
                    go_simp
                    refine hK.out _ _ ((Below.drew hbel).alloc (by simp; omega) _) (fun _ => ?_)
                    clear hK K
                    refine wpAnyH_ready (rs := [13]) (by kernel_rfl) (by simp) ?_
                    refine AllReadyH.cons (o := _) g16_13 (fun K hK => ?_) AllReadyH.nil
                    refine wp_append_own _ _ _ 22 rfl (wo.heap.size + 1) 3 i0 (.int .i64 0) 1 8 Try.underlying22 hi hz0 hz1 hz2 rfl (by decide) (.slice q (m + x) cp) (m + x) (intsV (wyL px wy w h a (m + x))) rfl (hown.drew.alloc _) ⟨wr.heap.size, 0, none⟩ 1 1 [.int .i64 (px k)] rfl ?c1a1 ?c2a1 ?c3a1 ?c4a1 ?c5a1 ?c6a1 ?_
                    case c1a1 => rfl
                    case c2a1 =>
                      intro j u hj
                      match j, hj with
                      | 0, hj => simp at hj; subst hj; simp [Addr.add]
                    case c3a1 => intro u hu; simp at hu; subst hu; rfl
                    case c4a1 => unfold maxLen; omega
                    case c5a1 => omega
                    case c6a1 => simp; omega
                    intro v' w4 hown' hgrow _
                    have B4 := ((Below.drew (Below.refl (wo.heap.size + 1) wr)).alloc (by simp; omega) _).grown hgrow (by simp; omega) (fun k hk => (hown.lt k hk).1)
                    have S4 := hbel.trans (B4.mono (by omega))
                    have D4 := DC.below B4 (by omega) B4.size
                    obtain ⟨q', cap', rfl⟩ := own_form hown'
                    refine hK.out _ _ S4 (fun _ => ?_)
                    clear hK K hown hgrow d3 f3 DC hbel B4 hSd
                    have d3 := D4.1.2.2.2.2
                    have f3 := D4.2
                    refine wpAnyH_ready (rs := [14]) (by kernel_rfl) (by simp) ?_
                    refine AllReadyH.cons (o := _) g16_14 (fun K hK => ?_) AllReadyH.nil
                    go_simp
                    refine hK.out _ _ S4 (fun _ => ?_)
                    clear hK K
                    refine wpAnyH_ready (rs := [15]) (by kernel_rfl) (by simp) ?_
                    refine AllReadyH.cons (o := _) g16_15 (fun K hK => ?_) AllReadyH.nil
                    go_simp
                    have S5 := S4.setCell (p := ⟨wo.heap.size, 3, none⟩) (by dsimp only; omega) (.slice q' (m + x + 1) cap')
                    have D5 := D4.set3 q' (m + x + 1) cap'
                    have own5 := below_setCell_own (a := ⟨wo.heap.size, 3, none⟩) (u := .slice q' (m + x + 1) cap') hown' (by dsimp only; omega)
                    refine hK.out _ _ S5 (fun _ => ?_)
                    refine wpAnyH_done (by kernel_rfl) ?_ _
                    refine NoPanic.normal ?_
                    clear hK K
                    go_wp2
                    go_roundw
                    case rel =>
                      refine ⟨x + 1, cap', q', by omega, by go_num, D5, ?_, S5⟩
                      have hv := unhide Hv
                      rw [show m + (x + 1) = m + x + 1 from rfl, hv]
                      simpa [intsV] using own5
                    case measure => simp [intOf]; omega
                  · go_simp
                    refine hK.out _ _ ((Below.drew hbel).alloc (by simp; omega) _) (fun _ => ?_)
                    clear hK K
                    refine wpAnyH_ready (rs := [1]) (by kernel_rfl) (by simp) ?_
                    refine AllReadyH.cons (o := _) g16_1 (fun K hK => ?_) AllReadyH.nil
                    go_simp
                    refine hK.out _ _ ((Below.drew hbel).alloc (by simp; omega) _) (fun _ => ?_)
                    clear hK K
                    refine wpAnyH_ready (rs := [13]) (by kernel_rfl) (by simp) ?_
                    refine AllReadyH.cons (o := _) g16_13 (fun K hK => ?_) AllReadyH.nil
                    refine wp_append_own _ _ _ 22 rfl (wo.heap.size + 1) 3 i0 (.int .i64 0) 1 8 Try.underlying22 hi hz0 hz1 hz2 rfl (by decide) (.slice q (m + x) cp) (m + x) (intsV (wyL px wy w h a (m + x))) rfl (hown.drew.alloc _) ⟨wr.heap.size, 0, none⟩ 1 1 [.int .i64 (px k)] rfl ?c1b1 ?c2b1 ?c3b1 ?c4b1 ?c5b1 ?c6b1 ?_
                    case c1b1 => rfl
                    case c2b1 =>
                      intro j u hj
                      match j, hj with
                      | 0, hj => simp at hj; subst hj; simp [Addr.add]
                    case c3b1 => intro u hu; simp at hu; subst hu; rfl
                    case c4b1 => unfold maxLen; omega
                    case c5b1 => omega
                    case c6b1 => simp; omega
                    intro v' w4 hown' hgrow _
                    have B4 := ((Below.drew (Below.refl (wo.heap.size + 1) wr)).alloc (by simp; omega) _).grown hgrow (by simp; omega) (fun k hk => (hown.lt k hk).1)
                    have S4 := hbel.trans (B4.mono (by omega))
                    have D4 := DC.below B4 (by omega) B4.size
                    obtain ⟨q', cap', rfl⟩ := own_form hown'
                    refine hK.out _ _ S4 (fun _ => ?_)
                    clear hK K hown hgrow d3 f3 DC hbel B4 hSd
                    have d3 := D4.1.2.2.2.2
                    have f3 := D4.2
                    refine wpAnyH_ready (rs := [14]) (by kernel_rfl) (by simp) ?_
                    refine AllReadyH.cons (o := _) g16_14 (fun K hK => ?_) AllReadyH.nil
                    go_simp
                    refine hK.out _ _ S4 (fun _ => ?_)
                    clear hK K
                    refine wpAnyH_ready (rs := [15]) (by kernel_rfl) (by simp) ?_
                    refine AllReadyH.cons (o := _) g16_15 (fun K hK => ?_) AllReadyH.nil
                    go_simp
                    have S5 := S4.setCell (p := ⟨wo.heap.size, 3, none⟩) (by dsimp only; omega) (.slice q' (m + x + 1) cap')
                    have D5 := D4.set3 q' (m + x + 1) cap'
                    have own5 := below_setCell_own (a := ⟨wo.heap.size, 3, none⟩) (u := .slice q' (m + x + 1) cap') hown' (by dsimp only; omega)
                    refine hK.out _ _ S5 (fun _ => ?_)
                    refine wpAnyH_done (by kernel_rfl) ?_ _
                    refine NoPanic.normal ?_
                    clear hK K
                    go_wp2
                    go_roundw
                    case rel =>
                      refine ⟨x + 1, cap', q', by omega, by go_num, D5, ?_, S5⟩
                      have hv := unhide Hv
                      rw [show m + (x + 1) = m + x + 1 from rfl, hv]
                      simpa [intsV] using own5
                    case measure => simp [intOf]; omega
                · have w2 : wy = 2 := by omega
                  have eI : (w : Int) - 1 - (x : Int) = (I : Int) := by rw [unhide HI, w2]; simp only [wyI]; rw [if_neg (by decide), if_neg (by decide)]; omega
                  obtain rfl : y = J := by rw [unhide HJ, w2]; rfl
                  have v0 : (v == 0) = false := by rw [unhide Hwy, w2]; rfl
                  have v1 : (v == 1) = false := by rw [unhide Hwy, w2]; rfl
                  clear w0 w1 w2
                  go_wp2_with fail
                  clear c
                  try rw [eI]
                  clear eI
                  refine wp_region_noPanic ?_
                  refine wp_region_held_drew (S := fun V => Below wb.heap.size wb V) (by kernel_rfl) (Below.drew hbel) ?_
                  intro _
                  have hSd := Below.drew hbel
                  refine wpAnyH_take (i := 0) (oi := _) (v := .pointer (some ⟨wo.heap.size, 3, none⟩)) g16_0 (by kernel_rfl) (by kernel_rfl) (by kernel_rfl) (fun _ _ _ h => h) (Or.inl ⟨by rfl, ?_⟩) (by assumption) ?_
                  · intro V hSw
                    try dsimp only at hSw
                    go_simp
                  simp only [Act.put, List.setIfInBounds_toArray, List.set_cons_zero, List.set_cons_succ]
                  refine wpAnyH_take (i := 2) (oi := _) (v := .pointer (some ⟨W.heap.size, 3, none⟩)) g16_2 (by kernel_rfl) (by kernel_rfl) (by kernel_rfl) (fun _ _ _ h => h) (Or.inl ⟨by rfl, ?_⟩) (by assumption) ?_
                  · intro V hSw
                    try dsimp only at hSw
                    go_simp
                  simp only [Act.put, List.setIfInBounds_toArray, List.set_cons_zero, List.set_cons_succ]
                  refine wpAnyH_take (i := 3) (oi := _) (v := .slice (some ⟨b, o, none⟩) n cap) g16_3 (by kernel_rfl) (by kernel_rfl) (by kernel_rfl) (fun _ _ _ h => h) (Or.inl ⟨by rfl, ?_⟩) (by assumption) ?_
                  · intro V hSw
                    try dsimp only at hSw
                    have hl := unhide Hld V hSw
                    go_simp
                  simp only [Act.put, List.setIfInBounds_toArray, List.set_cons_zero, List.set_cons_succ]
                  refine wpAnyH_take (i := 4) (oi := _) (v := .int .i64 y) g16_4 (by kernel_rfl) (by kernel_rfl) (by kernel_rfl) (fun _ _ _ h => h) (Or.inl ⟨by rfl, ?_⟩) (by assumption) ?_
                  · intro V hSw
                    try dsimp only at hSw
                    go_simp
                  simp only [Act.put, List.setIfInBounds_toArray, List.set_cons_zero, List.set_cons_succ]
                  refine wpAnyH_take (i := 5) (oi := _) (v := .pointer (some ⟨W.heap.size, 1, none⟩)) g16_5 (by kernel_rfl) (by kernel_rfl) (by kernel_rfl) (fun _ _ _ h => h) (Or.inl ⟨by rfl, ?_⟩) (by assumption) ?_
                  · intro V hSw
                    try dsimp only at hSw
                    go_simp
                  simp only [Act.put, List.setIfInBounds_toArray, List.set_cons_zero, List.set_cons_succ]
                  refine wpAnyH_take (i := 6) (oi := _) (v := .int .i64 w) g16_6 (by kernel_rfl) (by kernel_rfl) (by kernel_rfl) (fun _ _ _ h => h) (Or.inl ⟨by rfl, ?_⟩) (by assumption) ?_
                  · intro V hSw
                    try dsimp only at hSw
                    have hl := unhide Hld V hSw
                    go_simp
                  simp only [Act.put, List.setIfInBounds_toArray, List.set_cons_zero, List.set_cons_succ]
                  refine wpAnyH_take (i := 7) (oi := _) (v := .int .i64 Jw) g16_7 (by kernel_rfl) (by kernel_rfl) (by kernel_rfl) (fun _ _ _ h => h) (Or.inl ⟨by rfl, ?_⟩) (by assumption) ?_
                  · intro V hSw
                    try dsimp only at hSw
                    go_simp
                    exact unhide e3
                  simp only [Act.put, List.setIfInBounds_toArray, List.set_cons_zero, List.set_cons_succ]
                  refine wpAnyH_take (i := 8) (oi := _) (v := .int .i64 I) g16_8 (by kernel_rfl) (by kernel_rfl) (by kernel_rfl) (fun _ _ _ h => h) (Or.inl ⟨by rfl, ?_⟩) (by assumption) ?_
                  · intro V hSw
                    try dsimp only at hSw
                    go_simp
                  simp only [Act.put, List.setIfInBounds_toArray, List.set_cons_zero, List.set_cons_succ]
                  refine wpAnyH_take (i := 9) (oi := _) (v := .int .i64 k) g16_9 (by kernel_rfl) (by kernel_rfl) (by kernel_rfl) (fun _ _ _ h => h) (Or.inl ⟨by rfl, ?_⟩) (by assumption) ?_
                  · intro V hSw
                    try dsimp only at hSw
                    go_simp
                    exact unhide e4
                  simp only [Act.put, List.setIfInBounds_toArray, List.set_cons_zero, List.set_cons_succ]
                  refine wpAnyH_take (i := 10) (oi := _) (v := .pointer (some ⟨b, o + k, none⟩)) g16_10 (by kernel_rfl) (by kernel_rfl) (by kernel_rfl) (fun _ _ _ h => h) (Or.inl ⟨by rfl, ?_⟩) (by assumption) ?_
                  · intro V hSw
                    try dsimp only at hSw
                    go_simp
                  simp only [Act.put, List.setIfInBounds_toArray, List.set_cons_zero, List.set_cons_succ]
                  refine wpAnyH_take (i := 11) (oi := _) (v := .int .i64 (px k)) g16_11 (by kernel_rfl) (by kernel_rfl) (by kernel_rfl) (fun _ _ _ h => h) (Or.inl ⟨by rfl, ?_⟩) (by assumption) ?_
                  · intro V hSw
                    try dsimp only at hSw
                    have hl := unhide Hld V hSw
                    go_simp
                  simp only [Act.put, List.setIfInBounds_toArray, List.set_cons_zero, List.set_cons_succ]
                  refine wpAnyH_ready (rs := [1, 12]) (by kernel_rfl) (by simp) ?_
                  refine AllReadyH.cons (o := _) g16_1 (fun K hK => ?_) (AllReadyH.cons (o := _) g16_12 (fun K hK => ?_) AllReadyH.nil)
                  · go_simp
                    refine hK.out _ _ (Below.drew hbel) (fun _ => ?_)
                    clear hK K
                    refine wpAnyH_ready (rs := [12]) (by kernel_rfl) (by simp) ?_
                    refine AllReadyH.cons (o := _) g16_12 (fun K hK => ?_) AllReadyH.nil
                    go_simp
                    refine hK.out _ _ ((Below.drew hbel).alloc (by simp; omega) _) (fun _ => ?_)
                    clear hK K
                    refine wpAnyH_ready (rs := [13]) (by kernel_rfl) (by simp) ?_
                    refine AllReadyH.cons (o := _) g16_13 (fun K hK => ?_) AllReadyH.nil
                    refine wp_append_own _ _ _ 22 rfl (wo.heap.size + 1) 3 i0 (.int .i64 0) 1 8 Try.underlying22 hi hz0 hz1 hz2 rfl (by decide) (.slice q (m + x) cp) (m + x) (intsV (wyL px wy w h a (m + x))) rfl (hown.drew.alloc _) ⟨wr.heap.size, 0, none⟩ 1 1 [.int .i64 (px k)] rfl ?c1a2 ?c2a2 ?c3a2 ?c4a2 ?c5a2 ?c6a2 ?_
                    case c1a2 => rfl
                    case c2a2 =>
                      intro j u hj
                      match j, hj with
                      | 0, hj => simp at hj; subst hj; simp [Addr.add]
                    case c3a2 => intro u hu; simp at hu; subst hu; rfl
                    case c4a2 => unfold maxLen; omega
                    case c5a2 => omega
                    case c6a2 => simp; omega
                    intro v' w4 hown' hgrow _
                    have B4 := ((Below.drew (Below.refl (wo.heap.size + 1) wr)).alloc (by simp; omega) _).grown hgrow (by simp; omega) (fun k hk => (hown.lt k hk).1)
                    have S4 := hbel.trans (B4.mono (by omega))
                    have D4 := DC.below B4 (by omega) B4.size
                    obtain ⟨q', cap', rfl⟩ := own_form hown'
                    refine hK.out _ _ S4 (fun _ => ?_)
                    clear hK K hown hgrow d3 f3 DC hbel B4 hSd
                    have d3 := D4.1.2.2.2.2
                    have f3 := D4.2
                    refine wpAnyH_ready (rs := [14]) (by kernel_rfl) (by simp) ?_
                    refine AllReadyH.cons (o := _) g16_14 (fun K hK => ?_) AllReadyH.nil
                    go_simp
                    refine hK.out _ _ S4 (fun _ => ?_)
                    clear hK K
                    refine wpAnyH_ready (rs := [15]) (by kernel_rfl) (by simp) ?_
                    refine AllReadyH.cons (o := _) g16_15 (fun K hK => ?_) AllReadyH.nil
                    go_simp
                    have S5 := S4.setCell (p := ⟨wo.heap.size, 3, none⟩) (by dsimp only; omega) (.slice q' (m + x + 1) cap')
                    have D5 := D4.set3 q' (m + x + 1) cap'
                    have own5 := below_setCell_own (a := ⟨wo.heap.size, 3, none⟩) (u := .slice q' (m + x + 1) cap') hown' (by dsimp only; omega)
                    refine hK.out _ _ S5 (fun _ => ?_)
                    refine wpAnyH_done (by kernel_rfl) ?_ _
                    refine NoPanic.normal ?_
                    clear hK K
                    go_wp2
                    go_roundw
                    case rel =>
                      refine ⟨x + 1, cap', q', by omega, by go_num, D5, ?_, S5⟩
                      have hv := unhide Hv
                      rw [show m + (x + 1) = m + x + 1 from rfl, hv]
                      simpa [intsV] using own5
                    case measure => simp [intOf]; omega
                  · go_simp
                    refine hK.out _ _ ((Below.drew hbel).alloc (by simp; omega) _) (fun _ => ?_)
                    clear hK K
                    refine wpAnyH_ready (rs := [1]) (by kernel_rfl) (by simp) ?_
                    refine AllReadyH.cons (o := _) g16_1 (fun K hK => ?_) AllReadyH.nil
                    go_simp
                    refine hK.out _ _ ((Below.drew hbel).alloc (by simp; omega) _) (fun _ => ?_)
                    clear hK K
                    refine wpAnyH_ready (rs := [13]) (by kernel_rfl) (by simp) ?_
                    refine AllReadyH.cons (o := _) g16_13 (fun K hK => ?_) AllReadyH.nil
                    refine wp_append_own _ _ _ 22 rfl (wo.heap.size + 1) 3 i0 (.int .i64 0) 1 8 Try.underlying22 hi hz0 hz1 hz2 rfl (by decide) (.slice q (m + x) cp) (m + x) (intsV (wyL px wy w h a (m + x))) rfl (hown.drew.alloc _) ⟨wr.heap.size, 0, none⟩ 1 1 [.int .i64 (px k)] rfl ?c1b2 ?c2b2 ?c3b2 ?c4b2 ?c5b2 ?c6b2 ?_
                    case c1b2 => rfl
                    case c2b2 =>
                      intro j u hj
                      match j, hj with
                      | 0, hj => simp at hj; subst hj; simp [Addr.add]
                    case c3b2 => intro u hu; simp at hu; subst hu; rfl
                    case c4b2 => unfold maxLen; omega
                    case c5b2 => omega
                    case c6b2 => simp; omega
                    intro v' w4 hown' hgrow _
                    have B4 := ((Below.drew (Below.refl (wo.heap.size + 1) wr)).alloc (by simp; omega) _).grown hgrow (by simp; omega) (fun k hk => (hown.lt k hk).1)
                    have S4 := hbel.trans (B4.mono (by omega))
                    have D4 := DC.below B4 (by omega) B4.size
                    obtain ⟨q', cap', rfl⟩ := own_form hown'
                    refine hK.out _ _ S4 (fun _ => ?_)
                    clear hK K hown hgrow d3 f3 DC hbel B4 hSd
                    have d3 := D4.1.2.2.2.2
                    have f3 := D4.2
                    refine wpAnyH_ready (rs := [14]) (by kernel_rfl) (by simp) ?_
                    refine AllReadyH.cons (o := _) g16_14 (fun K hK => ?_) AllReadyH.nil
                    go_simp
                    refine hK.out _ _ S4 (fun _ => ?_)
                    clear hK K
                    refine wpAnyH_ready (rs := [15]) (by kernel_rfl) (by simp) ?_
                    refine AllReadyH.cons (o := _) g16_15 (fun K hK => ?_) AllReadyH.nil
                    go_simp
                    have S5 := S4.setCell (p := ⟨wo.heap.size, 3, none⟩) (by dsimp only; omega) (.slice q' (m + x + 1) cap')
                    have D5 := D4.set3 q' (m + x + 1) cap'
                    have own5 := below_setCell_own (a := ⟨wo.heap.size, 3, none⟩) (u := .slice q' (m + x + 1) cap') hown' (by dsimp only; omega)
                    refine hK.out _ _ S5 (fun _ => ?_)
                    refine wpAnyH_done (by kernel_rfl) ?_ _
                    refine NoPanic.normal ?_
                    clear hK K
                    go_wp2
                    go_roundw
                    case rel =>
                      refine ⟨x + 1, cap', q', by omega, by go_num, D5, ?_, S5⟩
                      have hv := unhide Hv
                      rw [show m + (x + 1) = m + x + 1 from rfl, hv]
                      simpa [intsV] using own5
                    case measure => simp [intOf]; omega
            · have e : w = x := by omega
              subst e
              have cl : ¬ ((w : Int) < (w : Int)) := by omega
              have c := ((unhide HC1).keep hbel).2
              have Hs := hide (show m + w = (y + 1) * w by rw [mul_step, unhide Hm])
              have HD1 := hide DC
              have HO1 := hide hown
              have HS2 := hide hbel
              clear DC hown hbel
              go_wp2
              go_roundw
              case rel => exact ⟨y + 1, m + w, cp, q, by omega, by go_num, unhide Hs, unhide HD1, unhide HO1, unhide HS2⟩
              case measure => simp [intOf]; omega
        · have e : h = y := by omega
          subst e
          have cl : ¬ ((h : Int) < (h : Int)) := by omega
          have em : m = n := by rw [unhide Hm, unhide Hn, Nat.mul_comm]
          subst em
          have hm1 : 1 ≤ m := by rw [unhide Hm]; exact Nat.mul_pos hh.1 hw.1
          obtain ⟨qa, ca, eq⟩ := own_slice hown hm1
          cases eq
          have Hrow := hide (show Ch.Row wr qa 0 m (wyC px wy w h a) from ⟨(hown.lt qa rfl).2, fun k hk => by
            rw [Nat.zero_add, hown.cellAt k (by omega)]
            simp [intsV, wyL, hk]⟩)
          have c := ((unhide HC1).keep hbel).2
          have d := DC.1.2
          have HS2 := hide hbel
          clear DC hown hbel
          go_wp2_with fail
          clear c d
          refine (unhide K4 _ qa cp (unhide Hrow)).mono ?_
          rintro e w5 ⟨rfl, hb⟩
          have S5 := btrans (unhide HS2) hb
          clear hb
          go_wp2
          go_roundw
          case rel => exact ⟨v + 1, by omega, rfl, S5⟩
          case measure => simp [intOf]; omega
    · have cl : ¬ (v < 3) := by omega
      have S5 := btrans (unhide HS1) hbel
      clear hbel
      go_wp2
      go_ret
      exact ⟨ret_bool rfl, S5⟩
end Go.Proofs.Ytpcajcgafmmlkaa

namespace Go.Proofs.Ytpcajcgafmmlkaa
open Go.RowKit

theorem wf_i64 {i : Int} (h : (Lit.int .i64 i).wf = true) : -9223372036854775808 ≤ i ∧ i ≤ 9223372036854775807 := by
  have h2 : (decide (IntKind.i64.min ≤ i) && decide (i ≤ IntKind.i64.max)) = true := h
  rw [Bool.and_eq_true, decide_eq_true_eq, decide_eq_true_eq] at h2
  have e1 : IntKind.i64.min = -9223372036854775808 := by decide
  have e2 : IntKind.i64.max = 9223372036854775807 := by decide
  rw [e1, e2] at h2
  exact h2
/-- whatever the chart and the numbers -/
theorem kbands_walk (g w h : Int) (p : Option Addr) (n cap : Nat) (px : Nat → Int) (at_ : Int) (W : World) (hc : Ch.Cells W p n px) (hat : -9223372036854775808 ≤ at_ ∧ at_ ≤ 9223372036854775807) : KBands g w h p n cap at_ W := by
  by_cases he : bdE g w h n px = 0
  · have h0 : Ch.wE g w h n px = 0 := by
      unfold bdE at he
      by_cases e : Ch.wE g w h n px = 0
      · exact e
      · rw [if_neg e] at he; exact absurd he e
    have hg : g = 4 := by
      unfold bdE at he
      rw [if_pos h0] at he
      by_cases e : g = 4
      · exact e
      · rw [if_neg e] at he; exact absurd he (by decide)
    have HB : ∀ V, Ch.Cells V p n px → BandIs g w h p n cap V (bandO px w.toNat h.toNat) 0 := fun V hV => by
      have := band_any g w h p n cap px V hV
      rw [if_pos he, he] at this
      exact this
    obtain ⟨-, hw, hh, hn, hal, b, o, hp, hr⟩ := Ch.wE_zero g w h p n px W hc h0
    by_cases ha : at_ < 0
    · exact kbands_neg g w h p n cap at_ _ W (fun V => Ch.Cells V p n px) (fun V V' h hb => h.keep hb) hc kalive_any HB (bandO_range px w.toNat h.toNat) ha
    · obtain ⟨w', rfl⟩ : ∃ w' : Nat, w = (w' : Int) := ⟨w.toNat, by omega⟩
      obtain ⟨h', rfl⟩ : ∃ h' : Nat, h = (h' : Int) := ⟨h.toNat, by omega⟩
      obtain ⟨a', rfl⟩ : ∃ a' : Nat, at_ = (a' : Int) := ⟨at_.toNat, by omega⟩
      have hn' : n = w' * h' := by rw [← Int.natCast_mul] at hn; exact Int.ofNat.inj hn
      subst hp hg
      rw [Int.toNat_natCast, Int.toNat_natCast] at HB
      refine kbands_plain w' h' b o n cap px a' (a' % w') (bandO px w' h') W (by omega) (by omega) hn' hr (bandO_range px w' h') (by omega) rfl kalive_any (fun V hV => HB V (Or.inr ⟨b, o, rfl, hV⟩)) ?_
      intro way V q cp hway hV
      have hin : Ch.allin (wyC px way w' h' (a' % w')) n = true := by
        have key : ∀ k, k ≤ n → Ch.allin (wyC px way w' h' (a' % w')) k = true := by
          intro k
          induction k with
          | zero => intro _; rfl
          | succ k ih =>
            intro hk
            have hw1 : 1 ≤ w' := by omega
            have hky : k / w' < h' := by rw [Nat.div_lt_iff_lt_mul (by omega), Nat.mul_comm]; omega
            have e := wyC_at px way w' h' (a' % w') (k % w') (k / w') (Nat.mod_lt _ (by omega))
            rw [Nat.mul_comm (k / w') w', Nat.div_add_mod] at e
            have l1 : wyJ way h' (k / w') < h' := by
              generalize k / w' = y at hky
              unfold wyJ; split <;> omega
            have l2 : wyI way w' (a' % w') (k % w') < w' := by
              have := Nat.mod_lt k (show w' > 0 by omega)
              unfold wyI; split; exact Nat.mod_lt _ (by omega); split <;> omega
            have l3 : wyJ way h' (k / w') * w' + wyI way w' (a' % w') (k % w') < n := by
              rw [hn']
              have := Nat.mul_le_mul_left w' (show wyJ way h' (k / w') + 1 ≤ h' by omega)
              rw [Nat.mul_add, Nat.mul_comm w' (wyJ way h' (k / w'))] at this
              omega
            have r := Ch.allin_get px n hal _ l3
            rw [← e] at r
            simp [Ch.allin, ih (by omega), r.1, r.2]
        exact key n (Nat.le_refl _)
      have hE0 : Ch.wE 4 w' h' n (wyC px way w' h' (a' % w')) = 0 := by
        unfold Ch.wE
        have s1 : Ch.sw (w' : Int) = true := (Ch.sw_iff _).2 hw
        have s2 : Ch.sw (h' : Int) = true := (Ch.sw_iff _).2 hh
        simp [Ch.okg, s1, s2, hin, hn]
      have := band_any 4 w' h' (some ⟨q, 0, none⟩) n cp (wyC px way w' h' (a' % w')) V (Or.inr ⟨q, 0, rfl, hV⟩)
      have hb0 : bdE 4 w' h' n (wyC px way w' h' (a' % w')) = 0 := by unfold bdE; rw [if_pos hE0, if_pos rfl]
      rw [if_pos hb0, hb0, Int.toNat_natCast, Int.toNat_natCast, wy_band px way w' h' (a' % w') (by omega)] at this
      exact this
  · have hp : 1 ≤ bdE g w h n px := by
      unfold bdE at *
      by_cases e : Ch.wE g w h n px = 0
      · rw [if_pos e] at *
        by_cases e4 : g = 4
        · rw [if_pos e4] at he; exact absurd rfl he
        · rw [if_neg e4]; decide
      · rw [if_neg e]; exact Ch.wE_pos g w h n px e
    refine kbands_err g w h p n cap at_ (bdE g w h n px) W (fun V => Ch.Cells V p n px) (fun V V' h hb => h.keep hb) hc kalive_any (fun V hV => ?_) hp
    have := band_any g w h p n cap px V hV
    rw [if_neg he] at this
    exact this
end Go.Proofs.Ytpcajcgafmmlkaa
