/-
  What Pack of package cards answers.
-/
import Derived.Test.YtkjicpbnkehimaaCdE
import Derived.Test.YtkjicpbnkehimaaBldF
namespace Go.Proofs.Ytkjicpbnkehimaa
open Go.RowKit

def PackIs (F : Nat) (w h : Int) (p : Option Addr) (n cap : Nat) (W : World) (s : ByteArray) (er : Int) : Prop := Calls Try.prog F #[tr w h p n cap] W fun e w' => e = .returned (.tuple #[.string s, .int .i64 er]) ∧ Below W.heap.size W w'
theorem one_cell (n : Nat) (h : n < 256) : [Value.int .u8 (n : Int)] = Lib.byteCells [UInt8.ofNat n] := by
  simp only [Lib.byteCells, List.map_cons, List.map_nil]
  rw [toNat_ofNat n h]
theorem str_cells (l : List UInt8) : Lib.strCells ⟨l.toArray⟩ = Lib.byteCells l := rfl
theorem cf_step (f : Nat → Bool) (w h y : Nat) (hy : y < h) : cf f w h (h - y) y = (if ah f w y then [] else UInt8.ofNat (ru f w h y) :: holes (row f w y) w) ++ cf f w h (h - (y + 1)) (y + 1) := by
  obtain ⟨k, hk⟩ : ∃ k, h - y = k + 1 := ⟨h - y - 1, by omega⟩
  rw [hk, cf, show h - (y + 1) = k by omega]

theorem pack_err (w h : Int) (p : Option Addr) (n cap : Nat) (W : World) (er : Int) (her : wE w h n = er) (hp : (er != 0) = true) : PackIs 6 w h p n cap W ⟨#[]⟩ er := by
  have HW := hide (fun W => wrong_any w h p n cap W)
  rw [her] at HW
  unfold WrongIs at HW
  clear her
  unfold PackIs
  go_enter Try.func6, Try.ntmps6
  go_wp2_with fail
  refine (unhide HW _).mono ?_
  rintro e w1 ⟨rfl, hb⟩
  have S := btrans (bal (Below.refl _ _)) hb
  clear hb
  go_wp2
  exact bodyPost_ret (v := .tuple #[.string ⟨#[]⟩, .int .i64 er]) (by simp [results, Try.results6, go_sem]) rfl ⟨rfl, S⟩

set_option maxRecDepth 100000 in
set_option maxHeartbeats 4000000 in
theorem pack_ok {W : World} {w h : Nat} {p : Option Addr} {n cap : Nat} {f : Nat → Bool} (r : Rt W w h p n cap f) : PackIs 6 w h p n cap W ⟨(pk f w h).toArray⟩ 0 := by
  have hw := r.1
  have hh := r.2.1
  have her : wE w h n = 0 := by
    unfold wE
    rw [if_pos (by simp [sd]; omega), if_pos (by rw [r.2.2.1]; simp)]
  have HW := hide (fun W => wrong_any w h p n cap W)
  rw [her] at HW
  unfold WrongIs at HW
  have T0 := hide (Tb.new r)
  have B0 := hide (bal (o := .cells #[.int .i64 w, .int .i64 h, .slice p n cap] 24) (Below.refl W.heap.size W))
  have hc := rt_cap r
  have HRow := hide (show ∀ y : Nat, y < h → ∀ V : World, Calls Try.prog 18 #[tr w h p n cap, .int .i64 y] V fun e w' => e = .returned (rowV p cap w y) ∧ Below V.heap.size V w' from fun y hy V => row_any w h y p n cap V hw hy hh hc)
  have Hbd := hide (body_len f w h hw hh)
  clear r her hc
  unfold PackIs
  go_enter Try.func6, Try.ntmps6
  go_wp2_with fail
  generalize W.alloc (.cells #[.int .i64 w, .int .i64 h, .slice p n cap] 24) = w0 at *
  refine (unhide HW _).mono ?_
  rintro e w1 ⟨rfl, hb⟩
  have S1 := hide (btrans (unhide B0) hb)
  have T1 := hide ((unhide T0).keep hb)
  clear hb T0 B0 HW
  have B1 := Lib.fresh_isBuilder 40 5 w1
  have A1 := bal (o := .cells #[.pointer none, .slice none 0 0] 40) (Below.refl w1.heap.size w1)
  have hsz := (unhide T1).1.1
  go_wp2_with fail
  generalize w1.alloc (.cells #[.pointer none, .slice none 0 0] 40) = w2 at *
  refine (str_any w1.heap.size w1.heap.size [] ⟨#[74, 81, 49]⟩ _ B1 (by decide) A1.size).mono ?_
  rintro e w3 ⟨⟨k3, rfl⟩, B3, hb3⟩
  have S3 := A1.trans hb3
  rw [List.nil_append, show Lib.strCells ⟨#[74, 81, 49]⟩ = Lib.byteCells [74, 81, 49] from rfl] at B3
  clear B1 hb3 A1
  obtain ⟨-, c0, c1, c2⟩ := (unhide T1).1.keep S3
  have q1 : (w : Int) ≤ 64 := by omega
  have q2 : (h : Int) ≤ 64 := by omega
  go_wp2_with fail
  clear c0 c1 c2
  refine (byte_any w1.heap.size w1.heap.size _ (w : Int) _ B3 (by rw [Lib.byteCells_length]; decide) S3.size).mono ?_
  rintro e w4 ⟨rfl, B4, hb4⟩
  have S4 := S3.trans hb4
  rw [one_cell w (by omega), ← byteCells_append] at B4
  clear B3 hb4 S3
  obtain ⟨-, c0, c1, c2⟩ := (unhide T1).1.keep S4
  go_wp2_with fail
  clear c0 c1 c2
  refine (byte_any w1.heap.size w1.heap.size _ (h : Int) _ B4 (by rw [Lib.byteCells_length]; simp) S4.size).mono ?_
  rintro e w5 ⟨rfl, B5, hb5⟩
  have S5 := S4.trans hb5
  rw [one_cell h (by omega), ← byteCells_append] at B5
  clear B4 hb5 S4
  obtain ⟨-, c0, c1, c2⟩ := (unhide T1).1.keep S5
  go_wp2
  clear c0 c1 c2
  go_loopw [23] (fun i wr => ∃ (y : Nat) (acc : List UInt8), y ≤ h ∧ i = .int .i64 y ∧ Below w1.heap.size w1 wr ∧ Bd w1.heap.size w1.heap.size (Lib.byteCells acc) wr ∧ acc ++ cf f w h (h - y) y = body f w h) (fun i _ => h - (intOf i).toNat)
  case atStart => exact ⟨0, [74, 81, 49] ++ [UInt8.ofNat w] ++ [UInt8.ofNat h], Nat.zero_le _, rfl, S5, B5, rfl⟩
  case round =>
    clear B5 S5
    obtain ⟨y, acc, hy, rfl, hbel, Bk, hacc⟩ := hrel
    have Hacc := hide hacc
    have Hal := hide (show acc.length ≤ 581 by have h1 := congrArg List.length hacc; have h2 := unhide Hbd; rw [List.length_append] at h1; omega)
    clear hacc
    by_cases hlt : y < h
    · have Hst := hide (cf_step f w h y hlt)
      have HA := hide (asahead_any ((unhide T1).2.keep hbel) y hlt)
      obtain ⟨-, c0, c1, c2⟩ := (unhide T1).1.keep hbel
      have q3 : (y : Int) < (h : Int) := by omega
      have hru := ru_spec f w h y hlt
      cases ha : ah f w y with
      | true =>
        rw [ha] at HA Hst
        clear ha hru
        go_wp2_with fail
        refine (unhide HA).mono ?_
        rintro e w6 ⟨rfl, hb6⟩
        have B6 := bd_keep Bk hb6
        have S6 := hbel.trans (hb6.mono hbel.size)
        clear Bk hbel hb6 c0 c1 c2 HA
        go_wp2
        go_roundw
        case rel => exact ⟨y + 1, acc, by omega, by go_num, S6, B6, by rw [← unhide Hacc, unhide Hst]; simp⟩
        case measure => simp [intOf]; omega
      | false =>
        rw [ha] at HA Hst
        clear ha
        go_wp2_with fail
        refine (unhide HA).mono ?_
        rintro e w6 ⟨rfl, hb6⟩
        have B6 := bd_keep Bk hb6
        have S6 := hbel.trans (hb6.mono hbel.size)
        clear Bk hbel hb6 c0 c1 c2 HA
        have HF := hide (rowsFrom_any ((unhide T1).2.keep S6) y hlt)
        obtain ⟨-, c0, c1, c2⟩ := (unhide T1).1.keep S6
        have hr1 : ru f w h y ≤ 64 := by omega
        clear hru
        generalize ru f w h y = m at *
        have q4 : (m : Int) ≤ 64 := by omega
        go_wp2_with fail
        refine (unhide HF).mono ?_
        rintro e w7 ⟨rfl, hb7⟩
        have B7 := bd_keep B6 hb7
        have S7 := S6.trans (hb7.mono S6.size)
        clear B6 S6 hb7 c0 c1 c2 HF
        go_wp2_with fail
        refine (byte_any w1.heap.size w1.heap.size _ (m : Int) _ B7 (by have := unhide Hal; rw [Lib.byteCells_length]; omega) S7.size).mono ?_
        rintro e w8 ⟨rfl, B8, hb8⟩
        have S8 := S7.trans hb8
        rw [one_cell m (by omega), ← byteCells_append] at B8
        clear B7 hb8 S7
        obtain ⟨-, c0, c1, c2⟩ := (unhide T1).1.keep S8
        go_wp2_with fail
        refine (unhide HRow y hlt _).mono ?_
        rintro e w9 ⟨rfl, hb9⟩
        have B9 := bd_keep B8 hb9
        have S9 := S8.trans (hb9.mono S8.size)
        clear B8 S8 hb9 c0 c1 c2
        have HP := hide (punched_any _ w _ _ w9 hw (rt_row ((unhide T1).2.keep S9) y hlt))
        dsimp only [rowV] at *
        generalize rp p cap (y * w) = rpp at *
        generalize cap - y * w = rcc at *
        go_wp2_with fail
        refine (unhide HP).mono ?_
        rintro e w10 ⟨rfl, hb10⟩
        have B10 := bd_keep B9 hb10
        have S10 := S9.trans (hb10.mono S9.size)
        clear B9 S9 hb10 HP
        have Hhl := hide (show (holes (row f w y) w).length ≤ 8 by rw [holes_len]; unfold nb; omega)
        generalize holes (row f w y) w = hl at *
        go_wp2_with fail
        refine (str_any w1.heap.size w1.heap.size _ ⟨hl.toArray⟩ _ B10 (by have h1 := unhide Hal; have h2 := unhide Hhl; have h3 : (⟨hl.toArray⟩ : ByteArray).size = hl.length := rfl; rw [Lib.byteCells_length, List.length_append, h3]; simp; omega) S10.size).mono ?_
        rintro e w11 ⟨⟨k11, rfl⟩, B11, hb11⟩
        have S11 := S10.trans hb11
        rw [str_cells, ← byteCells_append] at B11
        clear B10 hb11 S10
        go_wp2
        go_roundw
        case rel => exact ⟨y + 1, acc ++ [UInt8.ofNat m] ++ hl, by omega, by go_num, S11, B11, by rw [← unhide Hacc, unhide Hst]; simp⟩
        case measure => simp [intOf]; omega
    · obtain rfl : y = h := by omega
      have cl : ¬ ((y : Int) < (y : Int)) := by omega
      have Hb := hide (show acc = body f w y by have := unhide Hacc; rw [Nat.sub_self, cf, List.append_nil] at this; exact this)
      have Hbt := hide (bl_lt acc)
      go_wp2_with fail
      refine (string_f w1.heap.size w1.heap.size acc _ (Lib.IsBuilderF.of Bk) hbel.size).mono ?_
      rintro e w6 ⟨rfl, B6, hb6⟩
      have S6 := hbel.trans hb6
      clear Bk hbel hb6
      have HB := hide (balance_any ⟨acc.toArray⟩ (by have h1 := unhide Hal; have h3 : (⟨acc.toArray⟩ : ByteArray).size = acc.length := rfl; rw [h3]; unfold maxLen; omega) w6)
      rw [show (⟨acc.toArray⟩ : ByteArray).data.toList = acc from rfl] at HB
      have Hpk := hide (show pk f w y = acc ++ [UInt8.ofNat (bl acc)] by unfold pk; rw [← unhide Hb])
      generalize bl acc = m at *
      go_wp2_with fail
      refine (unhide HB).mono ?_
      rintro e w7 ⟨rfl, hq⟩
      replace hq := hq.symm
      subst hq
      go_wp2_with fail
      refine (byte_f w1.heap.size w1.heap.size _ (m : Int) _ B6 (by have := unhide Hal; rw [Lib.byteCells_length]; omega) S6.size).mono ?_
      rintro e w7 ⟨rfl, B7, hb7⟩
      have S7 := S6.trans hb7
      rw [one_cell m (unhide Hbt), ← byteCells_append] at B7
      clear B6 hb7 S6 HB
      go_wp2_with fail
      refine (string_f w1.heap.size w1.heap.size _ _ B7 S7.size).mono ?_
      rintro e w8 ⟨rfl, B8, hb8⟩
      have S8 := btrans (unhide S1) (S7.trans hb8)
      clear B7 hb8 S7 B8
      go_wp2
      exact bodyPost_ret (v := .tuple #[.string ⟨(acc ++ [UInt8.ofNat m]).toArray⟩, .int .i64 0]) (by simp [results, Try.results6, go_sem]) rfl ⟨by rw [unhide Hpk], S8⟩
end Go.Proofs.Ytkjicpbnkehimaa
