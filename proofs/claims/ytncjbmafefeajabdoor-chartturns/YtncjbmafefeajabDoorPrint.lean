/-
  What Print of package chart answers.
-/
import Derived.Test.YtncjbmafefeajabDoorSign
namespace Go.Proofs.YtncjbmafefeajabDoor
open Go.RowKit

/-- the bytes of a colour's sign -/
def sb (c : Int) : List UInt8 := Lib.encodeRune (sg c)
/-- the first signs of a row that begins at a place -/
def rowT (px : Nat → Int) (lo : Nat) : Nat → List UInt8
  | 0 => []
  | k + 1 => rowT px lo k ++ sb (px (lo + k))
/-- the rows from the m-th down to the first -/
def rowsT (px : Nat → Int) (w : Nat) : Nat → List UInt8
  | 0 => []
  | m + 1 => rowT px (m * w) w ++ [10] ++ rowsT px w m
def gridT (g : Int) : List UInt8 := if g = 4 then [226, 150, 161] else [226, 150, 179]
def printT (g : Int) (px : Nat → Int) (w h : Nat) : List UInt8 := gridT g ++ [10] ++ rowsT px w h

theorem sb_le (c : Int) : (sb c).length ≤ 4 := by
  have := Lib.runeCells_le (sg c)
  rw [Lib.runeCells_length] at this
  exact this.2
theorem rowT_le (px : Nat → Int) (lo k : Nat) : (rowT px lo k).length ≤ 4 * k := by
  induction k with
  | zero => simp [rowT]
  | succ k ih => have := sb_le (px (lo + k)); simp [rowT]; omega
def yv : Nat → Int | 0 => -1 | m + 1 => m

def PrintIs (F : Nat) (g w h : Int) (p : Option Addr) (n cap : Nat) (W : World) (s : ByteArray) (er : Int) : Prop := Calls Tryd.prog F #[ch g w h p n cap] W fun e w' => e = .returned (.tuple #[.string s, .int .i64 er]) ∧ Below W.heap.size W w'

theorem byteCells_append (a b : List UInt8) : Lib.byteCells (a ++ b) = Lib.byteCells a ++ Lib.byteCells b := by simp [Lib.byteCells]

theorem own_keep {w w1 : World} {B : Nat} {e : TypeId} {size : Nat} {v : Value} {n : Nat} {xs : List Value} (h : w.ownsRow B e size v n xs) (hb : Below w.heap.size w w1) : w1.ownsRow B e size v n xs :=
  h.kept (row := none) ⟨hb.os, hb.tape, hb.output, hb.size, fun k hk _ => hb.block k hk⟩ (by cases v.ownBlock <;> simp)
theorem at_keep {w w1 : World} {B b : Nat} {p : Value} {bs : List Value} (h : Lib.BuilderAt 46 5 B b p bs w) (hb : Below w.heap.size w w1) : Lib.BuilderAt 46 5 B b p bs w1 := by
  have hl := h.lt
  obtain ⟨hB, v, hbk, hown, hne⟩ := h
  exact ⟨hB, v, by rw [hb.block b hl]; exact hbk, own_keep hown hb, hne⟩
theorem bd_keep {w w1 : World} {B b : Nat} {bs : List Value} (h : Bd B b bs w) (hb : Below w.heap.size w w1) : Bd B b bs w1 := by
  rcases h with h | h
  · exact Or.inl (at_keep h hb)
  · exact Or.inr (at_keep h hb)
theorem sg_i32 (c : Int) (hc : 0 ≤ c ∧ c ≤ 61) : -2147483648 ≤ sg c ∧ sg c ≤ 2147483647 := by
  unfold sg
  repeat' split
  all_goals omega

theorem gridT_len (g : Int) : (gridT g).length = 3 := by unfold gridT; split <;> rfl
theorem grid_cells (g : Int) (hg : g = 4 ∨ g = 6) : Lib.runeCells (if g = 4 then 9633 else 9651) = Lib.byteCells (gridT g) := by
  rw [← Lib.byteCells_encodeRune]
  rcases hg with rfl | rfl <;> exact congrArg Lib.byteCells (by decide)
theorem ten : [Value.int .u8 10] = Lib.byteCells [10] := rfl

set_option maxHeartbeats 4000000 in
theorem print_ok (g : Int) (w h b o n cap : Nat) (px : Nat → Int) (W : World) (hg : g = 4 ∨ g = 6) (hw : 1 ≤ w ∧ w ≤ 64) (hh : 1 ≤ h ∧ h ≤ 64) (hn : n = w * h) (hcap : n ≤ cap) (hmax : cap ≤ 9223372036854775807) (hr : Row W b o n px) (hT : Tab W) (her : wE g w h n px = 0) (hcol : allin px n = true) :
    PrintIs 8 g w h (some ⟨b, o, none⟩) n cap W ⟨(printT g px w h).toArray⟩ 0 := by
  have HW := hide (fun W (hc : Row W b o n px) => wrong_any g w h (some ⟨b, o, none⟩) n cap px W (Or.inr ⟨b, o, rfl, hc⟩))
  rw [her] at HW
  have R := hr.keep (bal (o := .cells #[.int .i64 g, .int .i64 w, .int .i64 h, .slice (some ⟨b, o, none⟩) n cap] 24) (Below.refl _ _))
  have T := hT.keep (bal (o := .cells #[.int .i64 g, .int .i64 w, .int .i64 h, .slice (some ⟨b, o, none⟩) n cap] 24) (Below.refl _ _))
  have Hn := hide hn
  have Hcol := hide (allin_get px n hcol)
  have HG := hide (fun W => gridSign_any g W hg)
  have Hg := hide hg
  clear her hr hn hcol hg hT
  unfold PrintIs
  go_enter Tryd.func8, Tryd.ntmps8
  go_wp2_with fail
  refine (unhide HW _ R).mono ?_
  rintro e w1 ⟨rfl, hb⟩
  have S1 := btrans (bal (Below.refl _ _)) hb
  have R1 := R.keep hb
  have T1 := T.keep hb
  have C1 := (OwnC.new W g w h (some ⟨b, o, none⟩) n cap 24).keep hb
  clear hb R T HW
  have B1 := Lib.fresh_isBuilder 46 5 w1
  have C2 := C1.alloc (.cells #[.pointer none, .slice none 0 0] 46)
  obtain ⟨-, c0, c1, c2, c3⟩ := C2
  go_wp2_with fail
  clear c0 c1 c2 c3
  refine (unhide HG _).mono ?_
  rintro e w2 ⟨rfl, rfl⟩
  have HG2 := hide (grid_cells g (unhide Hg))
  have hgs : -2147483648 ≤ (if g = 4 then (9633 : Int) else 9651) ∧ (if g = 4 then (9633 : Int) else 9651) ≤ 2147483647 := by split <;> omega
  generalize (if g = 4 then (9633 : Int) else 9651) = gs at *
  go_wp2_with fail
  refine (rune_any w1.heap.size w1.heap.size [] gs hgs _ B1 (by simp) (by simp)).mono ?_
  rintro e w2 ⟨⟨k, rfl⟩, B2, hb2⟩
  have S2 := (bal (o := .cells #[.pointer none, .slice none 0 0] 46) (Below.refl w1.heap.size w1)).trans hb2
  rw [List.nil_append, unhide HG2] at B2
  clear B1 hb2 HG HG2 hgs
  go_wp2_with fail
  refine (byte_any w1.heap.size w1.heap.size _ 10 _ B2 (by have := gridT_len g; rw [Lib.byteCells_length]; omega) (by have := S2.size; omega)).mono ?_
  rintro e w3 ⟨rfl, B3, hb3⟩
  have S3 := S2.trans hb3
  rw [ten, ← byteCells_append] at B3
  clear B2 hb3 S2
  obtain ⟨-, c0, c1, c2, c3⟩ := C1.keep S3
  go_wp2
  clear c0 c1 c2 c3
  have hsz1 : w1.heap.size ≤ w3.heap.size := S3.size
  go_loopw [6] (fun i wr => ∃ (m : Nat) (acc : List UInt8), m ≤ h ∧ i = .int .i64 (yv m) ∧ Below w1.heap.size w1 wr ∧ Bd w1.heap.size w1.heap.size (Lib.byteCells acc) wr ∧ acc ++ rowsT px w m = gridT g ++ [10] ++ rowsT px w h ∧ acc.length + m * 300 ≤ 4 + h * 300) (fun i _ => (intOf i + 1).toNat)
  case atStart => exact ⟨h, gridT g ++ [10], Nat.le_refl _, by rw [show yv h = (h : Int) - 1 by cases h <;> simp [yv] <;> omega], S3, B3, rfl, by simp [gridT_len]⟩
  case round =>
    clear B3 S3 hsz1
    obtain ⟨m, acc, hm, rfl, hbel, Bk, hacc, hal⟩ := hrel
    have Hacc := hide hacc
    have Hal := hide hal
    clear hacc hal
    rcases m with _ | m
    · simp only [yv]
      have Hp := hide (show acc = printT g px w h by have := unhide Hacc; rw [show rowsT px w 0 = [] from rfl, List.append_nil] at this; exact this)
      go_wp2_with fail
      refine (Tryd.Builder_String_any w1.heap.size w1.heap.size acc _ Bk hbel.size).mono ?_
      rintro e w4 ⟨rfl, hb4⟩
      have S4 := btrans S1 (hbel.trans hb4)
      clear hbel hb4 Bk
      go_wp2
      exact bodyPost_ret (v := .tuple #[.string ⟨acc.toArray⟩, .int .i64 0]) (by simp [results, Tryd.results8, go_sem]) rfl ⟨by rw [unhide Hp], S4⟩
    · simp only [yv]
      obtain ⟨-, c0, c1, c2, c3⟩ := C1.keep hbel
      have hlo : ∃ lo, lo = m * w := ⟨_, rfl⟩
      obtain ⟨lo, hlo⟩ := hlo
      have e1 : (m : Int) * (w : Int) = (lo : Int) := by rw [hlo]; simp
      have e2 : ((m : Int) + 1) * (w : Int) = ((lo + w : Nat) : Int) := by rw [hlo]; simp [Int.add_mul]
      have hle : lo + w ≤ n := by
        rw [hlo, unhide Hn]
        have := Nat.mul_le_mul_right w (show m + 1 ≤ h by omega)
        rw [Nat.add_mul, Nat.one_mul] at this
        rw [Nat.mul_comm w h]; exact this
      have Hlo := hide hlo
      clear hlo
      go_wp2_with fail
      clear c0 c1 c2 c3 e1 e2
      simp only [Nat.add_sub_cancel_left]
      go_loopw [39] (fun i wr => ∃ k : Nat, k ≤ w ∧ i = .int .i64 k ∧ Below w1.heap.size w1 wr ∧ Bd w1.heap.size w1.heap.size (Lib.byteCells (acc ++ rowT px lo k)) wr) (fun i _ => w - (intOf i).toNat)
      case atStart => exact ⟨0, Nat.zero_le _, rfl, hbel, by simpa [rowT] using Bk⟩
      case round =>
        clear hbel Bk
        obtain ⟨k, hk, rfl, hbel, Bk⟩ := hrel
        by_cases hlt : k < w
        · have cx := (R1.keep hbel).2 (lo + k) (by omega)
          rw [← Nat.add_assoc] at cx
          have hc := unhide Hcol (lo + k) (by omega)
          have Hs := hide (show rowT px lo (k + 1) = rowT px lo k ++ sb (px (lo + k)) from rfl)
          generalize px (lo + k) = c at *
          go_wp2_with fail
          refine (sign_any c _ (by omega) (T1.keep hbel)).mono ?_
          rintro e w4 ⟨rfl, hb4⟩
          have B4 := bd_keep Bk hb4
          have S4 := hbel.trans (hb4.mono hbel.size)
          have hi32 := sg_i32 c hc
          have Hsb := hide (show Lib.runeCells (sg c) = Lib.byteCells (sb c) from (Lib.byteCells_encodeRune _).symm)
          clear Bk hb4 hbel cx
          generalize sg c = sc at *
          go_wp2_with fail
          refine (rune_any w1.heap.size w1.heap.size _ sc hi32 _ B4 (by have := unhide Hal; have := rowT_le px lo k; rw [Lib.byteCells_length, List.length_append]; omega) S4.size).mono ?_
          rintro e w5 ⟨⟨k5, rfl⟩, B5, hb5⟩
          rw [unhide Hsb, ← byteCells_append, List.append_assoc, ← unhide Hs] at B5
          have S5 := S4.trans hb5
          clear B4 S4 hb5
          go_wp2
          go_roundw
          case rel => exact ⟨k + 1, by omega, by go_num, S5, B5⟩
          case measure => simp [intOf]; omega
        · have e : k = w := by omega
          subst e
          have cl : ¬ ((k : Int) < (k : Int)) := by omega
          go_wp2_with fail
          refine (byte_any w1.heap.size w1.heap.size _ 10 _ Bk (by have := unhide Hal; have := rowT_le px lo k; rw [Lib.byteCells_length, List.length_append]; omega) hbel.size).mono ?_
          rintro e w5 ⟨rfl, B5, hb5⟩
          rw [ten, ← byteCells_append] at B5
          have S5 := hbel.trans hb5
          clear Bk hbel hb5
          go_wp2
          go_roundw
          case rel =>
            refine ⟨m, acc ++ rowT px lo k ++ [10], by omega, by
              cases m with
              | zero => rfl
              | succ m => exact congrArg (Value.int .i64) (show ((m + 1 : Nat) : Int) - 1 = (m : Int) by omega), S5, B5, ?_, ?_⟩
            · rw [← unhide Hacc, rowsT, ← unhide Hlo]; simp
            · have := unhide Hal
              have := rowT_le px lo k
              simp; omega
          case measure => simp [intOf]

theorem print_err (g w h : Int) (p : Option Addr) (n cap : Nat) (px : Nat → Int) (W : World) (hc : Cells W p n px) (er : Int) (her : wE g w h n px = er) (hp : 1 ≤ er) : PrintIs 8 g w h p n cap W ⟨#[]⟩ er := by
  have HW := hide (fun W (hc : Cells W p n px) => wrong_any g w h p n cap px W hc)
  rw [her] at HW
  have Hc := hide (hc.keep (bal (o := .cells #[.int .i64 g, .int .i64 w, .int .i64 h, .slice p n cap] 24) (Below.refl _ _)))
  clear her hc
  unfold PrintIs
  go_enter Tryd.func8, Tryd.ntmps8
  go_wp2_with fail
  refine (unhide HW _ (unhide Hc)).mono ?_
  rintro e w1 ⟨rfl, hb⟩
  have S := btrans (bal (Below.refl _ _)) hb
  clear hb Hc
  go_wp2
  exact bodyPost_ret (v := .tuple #[.string ⟨#[]⟩, .int .i64 er]) (by simp [results, Tryd.results8, go_sem]) rfl ⟨rfl, S⟩
end Go.Proofs.YtncjbmafefeajabDoor
