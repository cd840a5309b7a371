/-
  What Print of the reference answers.
-/
import Derived.Test.YtncjbmafefeajabDoorSigns
namespace Go.Proofs.YtncjbmafefeajabDoor
open Go.RowKit

/-- what stands through a statement that draws its order -/
abbrev RS (wr : World) (c : Nat) (g w h : Int) (p : Option Addr) (n cap : Nat) (W : World) : Prop :=
  Below wr.heap.size wr W ∧ W.cell? ⟨c, 0, none⟩ = some (.int .i64 g) ∧ W.cell? ⟨c, 1, none⟩ = some (.int .i64 w) ∧ W.cell? ⟨c, 2, none⟩ = some (.int .i64 h) ∧ W.cell? ⟨c, 3, none⟩ = some (.slice p n cap)
theorem RS.init {wr : World} {c : Nat} {g w h : Int} {p : Option Addr} {n cap : Nat} (C : OwnC wr c g w h p n cap) : RS wr c g w h p n cap wr.drew :=
  ⟨Below.drew (Below.refl _ _), C.2⟩
theorem RS.keep {wr W w1 : World} {c : Nat} {g w h : Int} {p : Option Addr} {n cap : Nat} (hc : c < wr.heap.size) (k : RS wr c g w h p n cap W) (hb : Below W.heap.size W w1) : RS wr c g w h p n cap w1 := by
  have C : OwnC W c g w h p n cap := ⟨by have := k.1.size; omega, k.2⟩
  exact ⟨btrans k.1 hb, (C.keep hb).2⟩
theorem str_add (l m : List UInt8) : (⟨l.toArray⟩ : ByteArray) ++ ⟨m.toArray⟩ = ⟨(l ++ m).toArray⟩ := by
  apply ByteArray.ext
  simp
theorem rowsT_le (px : Nat → Int) (w y : Nat) (hw : w ≤ 64) : (rowsT px w y).length ≤ y * 300 := by
  induction y with
  | zero => simp [rowsT]
  | succ y ih => have := rowT_le px (y * w) w; simp [rowsT]; omega
theorem atX_in (w h : Nat) (px : Nat → Int) (x y : Nat) (hx : x < w) (hy : y < h) : atX w h px x y = px (y * w + x) := by
  unfold atX
  rw [Int.emod_eq_of_lt (by omega) (by omega), Int.emod_eq_of_lt (by omega) (by omega)]
  congr 1

theorem g10_0 {a0 a1 a2 a3 a4 a5 a6 a7 a8 a9 : Oper} : (#[a0, a1, a2, a3, a4, a5, a6, a7, a8, a9] : Array Oper)[0]? = some a0 := rfl
theorem g10_1 {a0 a1 a2 a3 a4 a5 a6 a7 a8 a9 : Oper} : (#[a0, a1, a2, a3, a4, a5, a6, a7, a8, a9] : Array Oper)[1]? = some a1 := rfl
theorem g10_2 {a0 a1 a2 a3 a4 a5 a6 a7 a8 a9 : Oper} : (#[a0, a1, a2, a3, a4, a5, a6, a7, a8, a9] : Array Oper)[2]? = some a2 := rfl
theorem g10_3 {a0 a1 a2 a3 a4 a5 a6 a7 a8 a9 : Oper} : (#[a0, a1, a2, a3, a4, a5, a6, a7, a8, a9] : Array Oper)[3]? = some a3 := rfl
theorem g10_4 {a0 a1 a2 a3 a4 a5 a6 a7 a8 a9 : Oper} : (#[a0, a1, a2, a3, a4, a5, a6, a7, a8, a9] : Array Oper)[4]? = some a4 := rfl
theorem g10_5 {a0 a1 a2 a3 a4 a5 a6 a7 a8 a9 : Oper} : (#[a0, a1, a2, a3, a4, a5, a6, a7, a8, a9] : Array Oper)[5]? = some a5 := rfl
theorem g10_6 {a0 a1 a2 a3 a4 a5 a6 a7 a8 a9 : Oper} : (#[a0, a1, a2, a3, a4, a5, a6, a7, a8, a9] : Array Oper)[6]? = some a6 := rfl
theorem g10_7 {a0 a1 a2 a3 a4 a5 a6 a7 a8 a9 : Oper} : (#[a0, a1, a2, a3, a4, a5, a6, a7, a8, a9] : Array Oper)[7]? = some a7 := rfl
theorem g10_8 {a0 a1 a2 a3 a4 a5 a6 a7 a8 a9 : Oper} : (#[a0, a1, a2, a3, a4, a5, a6, a7, a8, a9] : Array Oper)[8]? = some a8 := rfl
theorem g10_9 {a0 a1 a2 a3 a4 a5 a6 a7 a8 a9 : Oper} : (#[a0, a1, a2, a3, a4, a5, a6, a7, a8, a9] : Array Oper)[9]? = some a9 := rfl
theorem add_str (l m : List UInt8) (w : World) (h : l.length + m.length ≤ 1000000) : (binOp .add 9 (.string ⟨l.toArray⟩) (.string ⟨m.toArray⟩)).run Tryd.prog w = .ok (.string ⟨(l ++ m).toArray⟩) w := by
  rw [binOp_string_add]
  exact run_string_add_lists w l m (by omega) (by omega)
theorem sign_cell {W : World} {B g cap c : Nat} (h : W.ownsRow B 9 1 (.slice (some ⟨g, 0, none⟩) 62 cap) 62 (signCells 62)) (hc : c < 62) : W.cell? ⟨g, c, none⟩ = some (signV c) := by
  rw [h.cellAt c (by omega)]
  simp [signCells, hc]

set_option maxHeartbeats 4000000 in
set_option maxRecDepth 100000 in
theorem rprint_ok (g : Int) (w h b o n cap : Nat) (px : Nat → Int) (W : World) (hg : g = 4 ∨ g = 6) (hw : 1 ≤ w ∧ w ≤ 64) (hh : 1 ≤ h ∧ h ≤ 64) (hn : n = w * h) (hr : Row W b o n px) (her : wE g w h n px = 0) (hcol : allin px n = true) :
    PrintIs 9 g w h (some ⟨b, o, none⟩) n cap W ⟨(printT g px w h).toArray⟩ 0 := by
  have HW := hide (fun W (hc : Row W b o n px) => rwrong_any g w h (some ⟨b, o, none⟩) n cap px W (Or.inr ⟨b, o, rfl, hc⟩))
  rw [her] at HW
  have R := hr.keep (bal (o := .cells #[.int .i64 g, .int .i64 w, .int .i64 h, .slice (some ⟨b, o, none⟩) n cap] 24) (Below.refl _ _))
  have HC := hide (fun (x y : Int) W (hc : Row W b o n px) => cell_any g w h b o n cap px x y W (by omega) (by omega) (by rw [hn]; simp) hc)
  have Hn := hide hn
  have Hcol := hide (allin_get px n hcol)
  have Hg := hide hg
  clear her hr hn hcol hg
  unfold PrintIs
  go_enter Tryd.func9, Tryd.ntmps9
  go_wp2_with fail
  refine (unhide HW _ R).mono ?_
  rintro e w1 ⟨rfl, hb⟩
  have S1 := btrans (bal (Below.refl _ _)) hb
  have R1 := R.keep hb
  have C1 := (OwnC.new W g w h (some ⟨b, o, none⟩) n cap 24).keep hb
  clear hb R HW
  go_wp2
  go_loopw [6, 5] (fun i s wr => ∃ y : Nat, y ≤ h ∧ i = .int .i64 y ∧ s = .string ⟨(rowsT px w y).toArray⟩ ∧ Below w1.heap.size w1 wr) (fun i _ _ => h - (intOf i).toNat)
  case atStart => exact ⟨0, Nat.zero_le _, rfl, rfl, Below.refl _ _⟩
  case round =>
    obtain ⟨y, hy, rfl, rfl, hbel⟩ := hrel
    obtain ⟨-, c0, c1, c2, c3⟩ := C1.keep hbel
    by_cases hlt : y < h
    · have Hlt := hide hlt
      go_wp2_with fail
      clear c0 c1 c2 c3
      go_loopw [8, 7] (fun i s wr => ∃ x : Nat, x ≤ w ∧ i = .int .i64 x ∧ s = .string ⟨(rowT px (y * w) x).toArray⟩ ∧ Below w1.heap.size w1 wr) (fun i _ _ => w - (intOf i).toNat)
      case atStart => exact ⟨0, Nat.zero_le _, rfl, rfl, hbel⟩
      case round =>
        clear hbel
        obtain ⟨x, hx, rfl, rfl, hbel⟩ := hrel
        have C2 := C1.keep hbel
        have R2 := R1.keep hbel
        obtain ⟨-, c0, c1, c2, c3⟩ := C1.keep hbel
        by_cases hl2 : x < w
        · have hle : y * w + x < n := by
            rw [unhide Hn]
            have := Nat.mul_le_mul_right w (show y + 1 ≤ h by omega)
            rw [Nat.add_mul, Nat.one_mul] at this
            rw [Nat.mul_comm w h]; omega
          have hc := unhide Hcol _ hle
          have HC2 := hide (unhide HC x y)
          rw [atX_in w h px x y hl2 (unhide Hlt)] at HC2
          have Hrow := hide (show rowT px (y * w) (x + 1) = rowT px (y * w) x ++ sb (px (y * w + x)) from rfl)
          obtain ⟨cN, hcN⟩ : ∃ cN : Nat, px (y * w + x) = cN := ⟨(px (y * w + x)).toNat, by omega⟩
          rw [hcN] at HC2 hc Hrow
          clear hcN
          have hl := rowT_le px (y * w) x
          have hlb := sb_le cN
          have hcn : cN < 62 := by omega
          have hcz : (cN : Int) < 62 := by omega
          go_wp2_with fail
          refine wp_region_noPanic ?_
          refine wp_region_held_drew (S := fun V => RS wr W.heap.size g w h (some ⟨b, o, none⟩) n cap V) (by kernel_rfl) (RS.init C2) ?_
          intro _
          have hS := RS.init C2
          clear c0 c1 c2 c3
          refine wpAnyH_take (i := 0) (oi := _) (v := .string ⟨(rowT px (y * w) x).toArray⟩) g10_0 (by kernel_rfl) (by kernel_rfl) (by kernel_rfl) (fun _ _ _ h => h) (Or.inl ⟨by rfl, ?_⟩) (by assumption) ?_
          · intro w hSw
            try dsimp only at hSw
            go_simp
          simp only [Act.put, List.setIfInBounds_toArray, List.set_cons_zero, List.set_cons_succ]
          refine wpAnyH_take (i := 2) (oi := _) (v := (.agg #[.int .i64 g, .int .i64 w, .int .i64 h, .slice (some ⟨b, o, none⟩) n cap])) g10_2 (by kernel_rfl) (by kernel_rfl) (by kernel_rfl) (fun _ _ _ h => h) (Or.inl ⟨by rfl, ?_⟩) (by assumption) ?_
          · intro w hSw
            try dsimp only at hSw
            go_simp
          simp only [Act.put, List.setIfInBounds_toArray, List.set_cons_zero, List.set_cons_succ]
          refine wpAnyH_take (i := 3) (oi := _) (v := .int .i64 x) g10_3 (by kernel_rfl) (by kernel_rfl) (by kernel_rfl) (fun _ _ _ h => h) (Or.inl ⟨by rfl, ?_⟩) (by assumption) ?_
          · intro w hSw
            try dsimp only at hSw
            go_simp
          simp only [Act.put, List.setIfInBounds_toArray, List.set_cons_zero, List.set_cons_succ]
          refine wpAnyH_take (i := 4) (oi := _) (v := .int .i64 y) g10_4 (by kernel_rfl) (by kernel_rfl) (by kernel_rfl) (fun _ _ _ h => h) (Or.inl ⟨by rfl, ?_⟩) (by assumption) ?_
          · intro w hSw
            try dsimp only at hSw
            go_simp
          simp only [Act.put, List.setIfInBounds_toArray, List.set_cons_zero, List.set_cons_succ]
          refine wpAnyH_ready (rs := [1]) (by kernel_rfl) (by simp) ?_
          refine AllReadyH.cons (o := _) g10_1 (fun K hK => ?_) AllReadyH.nil
          go_simp
          refine (signs_any _).mono ?_
          rintro e w4 ⟨g4, cap4, rfl, hown4, hb⟩
          have hS4 := RS.keep C2.1 hS hb
          refine hK.out _ _ hS4 (fun _ => ?_)
          clear hb hS
          clear hK K
          refine wpAnyH_ready (rs := [5]) (by kernel_rfl) (by simp) ?_
          refine AllReadyH.cons (o := _) g10_5 (fun K hK => ?_) AllReadyH.nil
          go_simp
          refine (unhide HC2 _ (R2.keep hS4.1)).mono ?_
          rintro e w5 ⟨rfl, hb⟩
          have hS5 := RS.keep C2.1 hS4 hb
          have hcell := sign_cell (own_keep hown4 hb) (show cN < 62 by omega)
          refine hK.out _ _ hS5 (fun _ => ?_)
          clear hb hS4 hown4
          clear hK K
          refine wpAnyH_ready (rs := [6]) (by kernel_rfl) (by simp) ?_
          refine AllReadyH.cons (o := _) g10_6 (fun K hK => ?_) AllReadyH.nil
          go_simp
          refine hK.out _ _ hS5 (fun _ => ?_)
          clear hK K
          refine wpAnyH_ready (rs := [7]) (by kernel_rfl) (by simp) ?_
          refine AllReadyH.cons (o := _) g10_7 (fun K hK => ?_) AllReadyH.nil
          go_simp
          refine hK.out _ _ hS5 (fun _ => ?_)
          clear hK K
          refine wpAnyH_ready (rs := [8]) (by kernel_rfl) (by simp) ?_
          refine AllReadyH.cons (o := _) g10_8 (fun K hK => ?_) AllReadyH.nil
          go_simp
          rw [show signV cN = .string ⟨(sb cN).toArray⟩ from rfl, add_str (rowT px (y * w) x) (sb cN) _ (by omega)]
          simp only [Result.andThen]
          rw [Oper.upon_value]
          refine hK.out _ _ hS5 (fun _ => ?_)
          clear hK K
          refine wpAnyH_ready (rs := [9]) (by kernel_rfl) (by simp) ?_
          refine AllReadyH.cons (o := _) g10_9 (fun K hK => ?_) AllReadyH.nil
          go_simp
          refine hK.out _ _ hS5 (fun _ => ?_)
          refine wpAnyH_done (by kernel_rfl) ?_ _
          refine NoPanic.normal ?_
          clear hK K
          have S5 := btrans hbel hS5.1
          clear hS5 hcell
          go_wp2
          go_roundw
          case rel => exact ⟨x + 1, by omega, by go_num, by rw [unhide Hrow], S5⟩
          case measure => simp [intOf]; omega
        · have e : x = w := by omega
          subst e
          have cl : ¬ ((x : Int) < (x : Int)) := by omega
          have hl := rowT_le px (y * x) x
          have hl2 := rowsT_le px x y (by omega)
          have Hs := hide (show (⟨(rowT px (y * x) x).toArray⟩ : ByteArray) ++ ⟨#[10]⟩ ++ ⟨(rowsT px x y).toArray⟩ = ⟨(rowsT px x (y + 1)).toArray⟩ by
            rw [show (⟨#[10]⟩ : ByteArray) = ⟨([10] : List UInt8).toArray⟩ from rfl, str_add, str_add]; rfl)
          go_wp2_with fail
          go_roundw
          case rel => exact ⟨y + 1, by omega, by go_num, by rw [unhide Hs], hbel⟩
          case measure => simp [intOf]; omega
    · have e : y = h := by omega
      subst e
      have cl : ¬ ((y : Int) < (y : Int)) := by omega
      have hl2 := rowsT_le px w y (by omega)
      rcases unhide Hg with rfl | rfl
      · have Hs := hide (show (⟨#[226, 150, 161, 10]⟩ : ByteArray) ++ ⟨(rowsT px w y).toArray⟩ = ⟨(printT 4 px w y).toArray⟩ by
          rw [show (⟨#[226, 150, 161, 10]⟩ : ByteArray) = ⟨([226, 150, 161, 10] : List UInt8).toArray⟩ from rfl, str_add]; rfl)
        go_wp2
        exact bodyPost_ret (v := .tuple #[.string (⟨#[226, 150, 161, 10]⟩ ++ ⟨(rowsT px w y).toArray⟩), .int .i64 0]) (by simp [results, Tryd.results9, go_sem]) rfl ⟨by rw [unhide Hs], btrans S1 hbel⟩
      · have Hs := hide (show (⟨#[226, 150, 179, 10]⟩ : ByteArray) ++ ⟨(rowsT px w y).toArray⟩ = ⟨(printT 6 px w y).toArray⟩ by
          rw [show (⟨#[226, 150, 179, 10]⟩ : ByteArray) = ⟨([226, 150, 179, 10] : List UInt8).toArray⟩ from rfl, str_add]; rfl)
        go_wp2
        exact bodyPost_ret (v := .tuple #[.string (⟨#[226, 150, 179, 10]⟩ ++ ⟨(rowsT px w y).toArray⟩), .int .i64 0]) (by simp [results, Tryd.results9, go_sem]) rfl ⟨by rw [unhide Hs], btrans S1 hbel⟩

theorem rprint_err (g w h : Int) (p : Option Addr) (n cap : Nat) (px : Nat → Int) (W : World) (hc : Cells W p n px) (er : Int) (her : wE g w h n px = er) (hp : 1 ≤ er) : PrintIs 9 g w h p n cap W ⟨#[]⟩ er := by
  have HW := hide (fun W (hc : Cells W p n px) => rwrong_any g w h p n cap px W hc)
  rw [her] at HW
  have Hc := hide (hc.keep (bal (o := .cells #[.int .i64 g, .int .i64 w, .int .i64 h, .slice p n cap] 24) (Below.refl _ _)))
  clear her hc
  unfold PrintIs
  go_enter Tryd.func9, Tryd.ntmps9
  go_wp2_with fail
  refine (unhide HW _ (unhide Hc)).mono ?_
  rintro e w1 ⟨rfl, hb⟩
  have S := btrans (bal (Below.refl _ _)) hb
  clear hb Hc
  go_wp2
  exact bodyPost_ret (v := .tuple #[.string ⟨#[]⟩, .int .i64 er]) (by simp [results, Tryd.results9, go_sem]) rfl ⟨rfl, S⟩

/-- what Print answers, of anything -/
def prS (g w h : Int) (n : Nat) (px : Nat → Int) : ByteArray := if wE g w h n px = 0 then ⟨(printT g px w.toNat h.toNat).toArray⟩ else ⟨#[]⟩
theorem print_any (g w h : Int) (p : Option Addr) (n cap : Nat) (px : Nat → Int) (W : World) (hc : Cells W p n px) (hcap : n ≤ cap) (hmax : cap ≤ 9223372036854775807) (hT : Tab W) : PrintIs 8 g w h p n cap W (prS g w h n px) (wE g w h n px) := by
  unfold prS
  by_cases e : wE g w h n px = 0
  · obtain ⟨hg, hw, hh, hn, hcol, b, o, rfl, r⟩ := wE_zero g w h p n px W hc e
    obtain ⟨w, rfl⟩ : ∃ k : Nat, w = k := ⟨w.toNat, by omega⟩
    obtain ⟨h, rfl⟩ : ∃ k : Nat, h = k := ⟨h.toNat, by omega⟩
    have hn' : n = w * h := by exact_mod_cast hn
    rw [if_pos e, e]
    exact print_ok g w h b o n cap px W hg (by omega) (by omega) hn' hcap hmax r hT e hcol
  · rw [if_neg e]
    exact print_err g w h p n cap px W hc _ rfl (wE_pos g w h n px e)
theorem rprint_any (g w h : Int) (p : Option Addr) (n cap : Nat) (px : Nat → Int) (W : World) (hc : Cells W p n px) : PrintIs 9 g w h p n cap W (prS g w h n px) (wE g w h n px) := by
  unfold prS
  by_cases e : wE g w h n px = 0
  · obtain ⟨hg, hw, hh, hn, hcol, b, o, rfl, r⟩ := wE_zero g w h p n px W hc e
    obtain ⟨w, rfl⟩ : ∃ k : Nat, w = k := ⟨w.toNat, by omega⟩
    obtain ⟨h, rfl⟩ : ∃ k : Nat, h = k := ⟨h.toNat, by omega⟩
    have hn' : n = w * h := by exact_mod_cast hn
    rw [if_pos e, e]
    exact rprint_ok g w h b o n cap px W hg (by omega) (by omega) hn' r e hcol
  · rw [if_neg e]
    exact rprint_err g w h p n cap px W hc _ rfl (wE_pos g w h n px e)
end Go.Proofs.YtncjbmafefeajabDoor
