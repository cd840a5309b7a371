/-
  What Read of the reference answers of a text that is wrong ahead of its rows.
-/
import Derived.Test.YtncjbmafefeajaaDoorRefB
namespace Go.Proofs.YtncjbmafefeajaaDoor
open Go.RowKit

def RFailIs (s : ByteArray) (W : World) (er at' : Int) : Prop := Calls Tryd.prog 9 #[.string s] W fun e w' => e = .returned (.tuple #[ch 0 0 0 none 0 0, .agg #[.int .i64 er, .int .i64 at']]) ∧ Below W.heap.size W w'

set_option maxHeartbeats 4000000 in
theorem bad_any (er at' : Int) (W : World) : Calls Tryd.prog 16 #[.int .i64 er, .int .i64 at'] W fun e w' => e = .returned (.tuple #[ch 0 0 0 none 0 0, .agg #[.int .i64 er, .int .i64 at']]) ∧ Below W.heap.size W w' := by
  go_enter Tryd.func16, Tryd.ntmps16
  go_wp2
  exact bodyPost_ret (v := .tuple #[ch 0 0 0 none 0 0, .agg #[.int .i64 er, .int .i64 at']]) (by simp [results, Tryd.results16, go_sem]) rfl ⟨rfl, bal (bal (Below.refl _ _))⟩
set_option maxHeartbeats 4000000 in
set_option maxRecDepth 100000 in
theorem rread_much (s : ByteArray) (W : World) (h : 65536 < s.size) : RFailIs s W 4 0 := by
  have HB := hide (fun W => bad_any 4 0 W)
  have h' : decide ((65536 : Int) < (s.size : Int)) = true := by simp; omega
  obtain ⟨D, F, S⟩ := two_boxes W
  have HS := hide S
  clear S
  unfold RFailIs
  go_enter Tryd.func9, Tryd.ntmps9
  go_wp2_with fail
  generalize (W.alloc (.cells #[.int .i64 0, .int .i64 0, .int .i64 0, .slice none 0 0] 27)).alloc (.cells #[.int .i64 0, .int .i64 0] 30) = w0 at *
  refine (unhide HB _).mono ?_
  rintro e w1 ⟨rfl, hb⟩
  have D1 := D.keep hb
  have F1 := F.keep hb
  have S1 := btrans (unhide HS) hb
  clear D F hb
  obtain ⟨⟨-, d⟩, df⟩ := D1
  obtain ⟨-, f, ff⟩ := F1
  go_wp2
  exact bodyPost_ret (v := .tuple #[ch 0 0 0 none 0 0, .agg #[.int .i64 4, .int .i64 0]]) (by simp [results, Tryd.results9, go_sem, d, f]) rfl ⟨rfl, bset (bset (bset (bset (bset (bset S1 (by dsimp only; omega)) (by dsimp only; omega)) (by dsimp only; omega)) (by dsimp only; omega)) (by dsimp only; omega)) (by dsimp only; omega)⟩

set_option maxHeartbeats 4000000 in
set_option maxRecDepth 100000 in
theorem rread_sign (s : ByteArray) (W : World) (h : s.size ≤ 65536) (h6 : st s 0 [226, 150, 179] = false) (h4 : st s 0 [226, 150, 161] = false) : RFailIs s W 2 0 := by
  have HB := hide (fun W => bad_any 2 0 W)
  have H6 := hide (fun W => starts_any s 0 [226, 150, 179] W (by omega) (by decide) (by decide))
  have H4 := hide (fun W => starts_any s 0 [226, 150, 161] W (by omega) (by decide) (by decide))
  rw [h6] at H6
  rw [h4] at H4
  clear h6 h4
  have h' : decide ((65536 : Int) < (s.size : Int)) = false := by simp; omega
  obtain ⟨D0, F0, S0⟩ := two_boxes W
  have D := D0.alloc (.cells #[.int .i64 4, .int .i64 0, .int .i64 0, .slice none 0 0] 27)
  have F := F0.alloc (.cells #[.int .i64 4, .int .i64 0, .int .i64 0, .slice none 0 0] 27)
  have HS := hide (bal (o := .cells #[.int .i64 4, .int .i64 0, .int .i64 0, .slice none 0 0] 27) S0)
  clear D0 F0 S0
  unfold RFailIs
  go_enter Tryd.func9, Tryd.ntmps9
  go_wp2_with fail
  generalize ((W.alloc (.cells #[.int .i64 0, .int .i64 0, .int .i64 0, .slice none 0 0] 27)).alloc (.cells #[.int .i64 0, .int .i64 0] 30)).alloc (.cells #[.int .i64 4, .int .i64 0, .int .i64 0, .slice none 0 0] 27) = w0 at *
  refine (unhide H6 _).mono ?_
  rintro e w1 ⟨rfl, rfl⟩
  go_wp2_with fail
  refine (unhide H4 _).mono ?_
  rintro e w1 ⟨rfl, rfl⟩
  go_wp2_with fail
  refine (unhide HB _).mono ?_
  rintro e w2 ⟨rfl, hb⟩
  have D1 := D.keep hb
  have F1 := F.keep hb
  have S1 := btrans (unhide HS) hb
  clear D F hb
  obtain ⟨⟨-, d⟩, df⟩ := D1
  obtain ⟨-, f, ff⟩ := F1
  go_wp2
  exact bodyPost_ret (v := .tuple #[ch 0 0 0 none 0 0, .agg #[.int .i64 2, .int .i64 0]]) (by simp [results, Tryd.results9, go_sem, d, f]) rfl ⟨rfl, bset (bset (bset (bset (bset (bset S1 (by dsimp only; omega)) (by dsimp only; omega)) (by dsimp only; omega)) (by dsimp only; omega)) (by dsimp only; omega)) (by dsimp only; omega)⟩

/-- a chart's box with its first cell set -/
theorem OwnD.set0 {W : World} {b : Nat} {g w h : Int} {p : Option Addr} {n cap : Nat} (k : OwnD W b g w h p n cap) (g' : Int) : OwnD (W.setCell ⟨b, 0, none⟩ (.int .i64 g')) b g' w h p n cap := by
  obtain ⟨⟨h0, h1, h2, h3, h4⟩, f1, f2, f3, f4⟩ := k
  refine ⟨⟨by simpa using h0, ?_, ?_, ?_, ?_⟩, ?_, ?_, ?_, ?_⟩
  all_goals simp [go_sem, h1, h2, h3, h4, f1, f2, f3, f4]
theorem OwnD.far {W : World} {b c o : Nat} {v : Value} {g w h : Int} {p : Option Addr} {n cap : Nat} (k : OwnD W b g w h p n cap) (hc : c ≠ b) : OwnD (W.setCell ⟨c, o, none⟩ v) b g w h p n cap := by
  obtain ⟨⟨h0, h1, h2, h3, h4⟩, f1, f2, f3, f4⟩ := k
  refine ⟨⟨by simpa using h0, ?_, ?_, ?_, ?_⟩, ?_, ?_, ?_, ?_⟩
  all_goals simp [go_sem, h1, h2, h3, h4, f1, f2, f3, f4]

set_option maxHeartbeats 4000000 in
set_option maxRecDepth 100000 in
theorem rread_line4 (s : ByteArray) (W : World) (h : s.size ≤ 65536) (h6 : st s 0 [226, 150, 179] = false) (h4 : st s 0 [226, 150, 161] = true) (hl : lf s 3 = false) : RFailIs s W 2 3 := by
  have HB := hide (fun W => bad_any 2 3 W)
  have H6 := hide (fun W => starts_any s 0 [226, 150, 179] W (by omega) (by decide) (by decide))
  have H4 := hide (fun W => starts_any s 0 [226, 150, 161] W (by omega) (by decide) (by decide))
  have HL := hide (fun W => starts_any s 3 [10] W (by omega) (by decide) (by decide))
  rw [h6] at H6
  rw [h4] at H4
  rw [st_lf, hl] at HL
  clear h6 h4 hl
  have h' : decide ((65536 : Int) < (s.size : Int)) = false := by simp; omega
  obtain ⟨D0, F0, S0⟩ := two_boxes W
  have D := D0.alloc (.cells #[.int .i64 4, .int .i64 0, .int .i64 0, .slice none 0 0] 27)
  have F := F0.alloc (.cells #[.int .i64 4, .int .i64 0, .int .i64 0, .slice none 0 0] 27)
  have HS := hide (bal (o := .cells #[.int .i64 4, .int .i64 0, .int .i64 0, .slice none 0 0] 27) S0)
  clear D0 F0 S0
  unfold RFailIs
  go_enter Tryd.func9, Tryd.ntmps9
  go_wp2_with fail
  generalize ((W.alloc (.cells #[.int .i64 0, .int .i64 0, .int .i64 0, .slice none 0 0] 27)).alloc (.cells #[.int .i64 0, .int .i64 0] 30)).alloc (.cells #[.int .i64 4, .int .i64 0, .int .i64 0, .slice none 0 0] 27) = w0 at *
  refine (unhide H6 _).mono ?_
  rintro e w1 ⟨rfl, rfl⟩
  go_wp2_with fail
  refine (unhide H4 _).mono ?_
  rintro e w1 ⟨rfl, rfl⟩
  go_wp2_with fail
  refine (unhide HL _).mono ?_
  rintro e w1 ⟨rfl, rfl⟩
  go_wp2_with fail
  refine (unhide HB _).mono ?_
  rintro e w2 ⟨rfl, hb⟩
  have D1 := D.keep hb
  have F1 := F.keep hb
  have S1 := btrans (unhide HS) hb
  clear D F hb
  obtain ⟨⟨-, d⟩, df⟩ := D1
  obtain ⟨-, f, ff⟩ := F1
  go_wp2
  exact bodyPost_ret (v := .tuple #[ch 0 0 0 none 0 0, .agg #[.int .i64 2, .int .i64 3]]) (by simp [results, Tryd.results9, go_sem, d, f]) rfl ⟨rfl, bset (bset (bset (bset (bset (bset S1 (by dsimp only; omega)) (by dsimp only; omega)) (by dsimp only; omega)) (by dsimp only; omega)) (by dsimp only; omega)) (by dsimp only; omega)⟩

set_option maxHeartbeats 4000000 in
set_option maxRecDepth 100000 in
theorem rread_line6 (s : ByteArray) (W : World) (h : s.size ≤ 65536) (h6 : st s 0 [226, 150, 179] = true) (hl : lf s 3 = false) : RFailIs s W 2 3 := by
  have HB := hide (fun W => bad_any 2 3 W)
  have H6 := hide (fun W => starts_any s 0 [226, 150, 179] W (by omega) (by decide) (by decide))
  have HL := hide (fun W => starts_any s 3 [10] W (by omega) (by decide) (by decide))
  rw [h6] at H6
  rw [st_lf, hl] at HL
  clear h6 hl
  have h' : decide ((65536 : Int) < (s.size : Int)) = false := by simp; omega
  obtain ⟨D0, F0, S0⟩ := two_boxes W
  have C0 := OwnD.new ((W.alloc (.cells #[.int .i64 0, .int .i64 0, .int .i64 0, .slice none 0 0] 27)).alloc (.cells #[.int .i64 0, .int .i64 0] 30)) 4 0 0 none 0 0 27
  rw [World.size_alloc, World.size_alloc] at C0
  have D := D0.alloc (.cells #[.int .i64 4, .int .i64 0, .int .i64 0, .slice none 0 0] 27)
  have F := F0.alloc (.cells #[.int .i64 4, .int .i64 0, .int .i64 0, .slice none 0 0] 27)
  have HS := hide (bal (o := .cells #[.int .i64 4, .int .i64 0, .int .i64 0, .slice none 0 0] 27) S0)
  clear D0 F0 S0
  unfold RFailIs
  go_enter Tryd.func9, Tryd.ntmps9
  go_wp2_with fail
  generalize ((W.alloc (.cells #[.int .i64 0, .int .i64 0, .int .i64 0, .slice none 0 0] 27)).alloc (.cells #[.int .i64 0, .int .i64 0] 30)).alloc (.cells #[.int .i64 4, .int .i64 0, .int .i64 0, .slice none 0 0] 27) = w0 at *
  refine (unhide H6 _).mono ?_
  rintro e w1 ⟨rfl, rfl⟩
  have c0 := C0.1.2.1
  have cf := C0.2.1
  have D' := D.far (c := W.heap.size + 1 + 1) (o := 0) (v := .int .i64 6) (by omega)
  have F' := F.far (c := W.heap.size + 1 + 1) (o := 0) (v := .int .i64 6) (by omega)
  have HS' := hide (bset (p := ⟨W.heap.size + 1 + 1, 0, none⟩) (u := .int .i64 6) (unhide HS) (by dsimp only; omega))
  go_wp2_with fail
  generalize w1.setCell ⟨W.heap.size + 1 + 1, 0, none⟩ (.int .i64 6) = w3 at *
  refine (unhide HL _).mono ?_
  rintro e w4 ⟨rfl, rfl⟩
  go_wp2_with fail
  refine (unhide HB _).mono ?_
  rintro e w2 ⟨rfl, hb⟩
  have D1 := D'.keep hb
  have F1 := F'.keep hb
  have S1 := btrans (unhide HS') hb
  clear D F D' F' hb C0 c0 cf
  obtain ⟨⟨-, d⟩, df⟩ := D1
  obtain ⟨-, f, ff⟩ := F1
  go_wp2
  exact bodyPost_ret (v := .tuple #[ch 0 0 0 none 0 0, .agg #[.int .i64 2, .int .i64 3]]) (by simp [results, Tryd.results9, go_sem, d, f]) rfl ⟨rfl, bset (bset (bset (bset (bset (bset S1 (by dsimp only; omega)) (by dsimp only; omega)) (by dsimp only; omega)) (by dsimp only; omega)) (by dsimp only; omega)) (by dsimp only; omega)⟩
end Go.Proofs.YtncjbmafefeajaaDoor
