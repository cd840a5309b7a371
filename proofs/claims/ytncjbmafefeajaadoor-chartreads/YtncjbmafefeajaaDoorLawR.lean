/-
  The walk of ChartReads: it answers true.
-/
import Derived.Test.YtncjbmafefeajaaDoorRefF
namespace Go.Proofs.YtncjbmafefeajaaDoor
open Go.RowKit

/-- a row of ours as a row of colours -/
theorem row_own {W : World} {B q cap : Nat} {xs : List Int} {px : Nat → Int} {n : Nat} (h : W.ownsRow B 3 1 (.slice (some ⟨q, 0, none⟩) n cap) n (intsV xs)) (hx : ∀ k, k < n → xs[k]? = some (px k)) : Row W q 0 n px := by
  refine ⟨(h.lt q rfl).2, fun k hk => ?_⟩
  rw [Nat.zero_add, h.cellAt k (by omega)]
  simp [intsV, hx k hk]

/-- what the reference's Read answers of a readable text -/
def RReadOk (s : ByteArray) (W : World) (g : Int) (rows : List (List Int)) : Prop := Calls Tryd.prog 9 #[.string s] W fun e w' => ∃ q cap, e = .returned (.tuple #[ch g (headLen rows) rows.length q (lowCells rows rows.length).length cap, .agg #[.int .i64 0, .int .i64 0]]) ∧ w'.ownsRow W.heap.size 3 1 (.slice q (lowCells rows rows.length).length cap) (lowCells rows rows.length).length (intsV (lowCells rows rows.length)) ∧ Below W.heap.size W w'

/-- either both refuse a text alike, or both read it, as one chart -/
def Pair (s : ByteArray) : Prop :=
  (∃ er at' : Int, (∀ W, Tabs W → FailIs s W er at') ∧ ∀ W, RFailIs s W er at') ∨
  (∃ (g w h : Int) (k : Nat) (px : Nat → Int), k ≤ 4096 ∧
    (∀ V, Tabs V → Calls Tryd.prog 8 #[.string s] V fun e w' => ∃ q cap, e = .returned (.tuple #[ch g w h (some ⟨q, 0, none⟩) k cap, .agg #[.int .i64 0, .int .i64 0]]) ∧ Row w' q 0 k px ∧ Below V.heap.size V w') ∧
    (∀ V, Calls Tryd.prog 9 #[.string s] V fun e w' => ∃ q cap, e = .returned (.tuple #[ch g w h (some ⟨q, 0, none⟩) k cap, .agg #[.int .i64 0, .int .i64 0]]) ∧ Row w' q 0 k px ∧ Below V.heap.size V w'))

theorem pair_ok {s : ByteArray} {g : Int} {rows : List (List Int)} (h : Text s g rows) (hR : ∀ W, RReadOk s W g rows) : Pair s := by
  have h' := h
  obtain ⟨hsz, hg, _, _, p, k1, k2, k3⟩ := h'
  have hr := k1.range
  have hw : ∀ cs ∈ rows, cs.length = headLen rows := fun cs hc => (hr.2.2 cs hc).2.2.1
  have hfl := flat_len rows (headLen rows) hw
  have hl1 : 1 ≤ rows.length := by rcases rows with _ | ⟨r, rs⟩; exact absurd rfl k2; simp
  have hh : 1 ≤ headLen rows ∧ headLen rows ≤ 64 := by
    rcases rows with _ | ⟨r, rs⟩
    · exact absurd rfl k2
    · have := hr.2.2 r (by simp)
      exact ⟨this.1, this.2.1⟩
  have hk1 : 1 ≤ rows.length * headLen rows := Nat.mul_pos hl1 hh.1
  have hk2 : rows.length * headLen rows ≤ 4096 := Nat.mul_le_mul hr.2.1 hh.2
  have e3 := lowCells_all rows
  have e4 : (lowCells rows rows.length).length = rows.length * headLen rows := by rw [e3]; exact hfl
  have key : ∀ {B : Nat} {w' : World} {q : Option Addr} {cap : Nat}, w'.ownsRow B 3 1 (.slice q (lowCells rows rows.length).length cap) (lowCells rows rows.length).length (intsV (lowCells rows rows.length)) → ∃ q', q = some ⟨q', 0, none⟩ ∧ Row w' q' 0 (rows.length * headLen rows) (fun k => rows.reverse.flatten.getD k 0) := by
    intro B w' q cap hown
    rw [e4] at hown
    obtain ⟨q', cap', hq⟩ := own_slice hown hk1
    cases hq
    refine ⟨q', rfl, row_own hown (fun k hk => ?_)⟩
    rw [e3, List.getD_eq_getElem?_getD, List.getElem?_eq_getElem (by omega)]
    rfl
  refine Or.inr ⟨g, headLen rows, rows.length, rows.length * headLen rows, fun k => rows.reverse.flatten.getD k 0, hk2, fun V hT => ?_, fun V => ?_⟩
  · refine (read_text s g rows V h hT).mono ?_
    rintro e w' ⟨q, cap, rfl, hown, hbel⟩
    obtain ⟨q', rfl, hrow⟩ := key hown
    exact ⟨q', cap, by rw [e4], hrow, hbel⟩
  · refine (hR V).mono ?_
    rintro e w' ⟨q, cap, rfl, hown, hbel⟩
    obtain ⟨q', rfl, hrow⟩ := key hown
    exact ⟨q', cap, by rw [e4], hrow, hbel⟩

set_option maxHeartbeats 4000000 in
set_option maxRecDepth 100000 in
theorem reads_walk (s : ByteArray) (n : Int) (W : World) (hn : -9223372036854775808 ≤ n ∧ n ≤ 9223372036854775807) (hP : Pair s) (hT : Tabs W) :
    Calls Tryd.prog 3 #[.string s, .int .i64 n] W fun e w' => e = .returned (.bool true) ∧ Below W.heap.size W w' := by
  have H4 := hide (sign_any n W hn hT.1)
  have H5 := hide (fun V => rsign_any n V hn)
  have H6 := hide (fun V (hT : Tabs V) => colour_any s V hT.1 hT.2)
  have H7 := hide (rcolour_any s)
  generalize sg n = sn at *
  generalize (colP (Lib.decodeGo s).1 (Lib.decodeGo s).2).1 = c1 at *
  generalize (colP (Lib.decodeGo s).1 (Lib.decodeGo s).2).2 = c2 at *
  clear hn
  rcases hP with ⟨er, at', hF, hG⟩ | ⟨g, w, h, k, px, hk, hF, hG⟩
  · have HF := hide hF
    have HG := hide hG
    clear hF hG
    go_enter Tryd.func3, Tryd.ntmps3
    go_wp2_with fail
    refine (unhide H4).mono ?_
    rintro e w1 ⟨rfl, S1⟩
    have T1 := hT.keep S1
    clear hT H4
    go_wp2_with fail
    refine (unhide H5 _).mono ?_
    rintro e w2 ⟨rfl, hb⟩
    have T2 := T1.keep hb
    have S2 := btrans S1 hb
    clear hb T1 S1 H5
    go_wp2_with fail
    refine (unhide H6 _ T2).mono ?_
    rintro e w3 ⟨rfl, hb⟩
    have T3 := T2.keep hb
    have S3 := btrans S2 hb
    clear hb T2 S2 H6
    go_wp2_with fail
    refine (unhide H7 _).mono ?_
    rintro e w4 ⟨rfl, hb⟩
    have T4 := T3.keep hb
    have S4 := btrans S3 hb
    clear hb T3 S3 H7
    go_wp2_with fail
    refine (unhide HF _ T4).mono ?_
    rintro e w5 ⟨rfl, hb⟩
    have S5 := btrans S4 hb
    clear hb T4 S4 HF
    have B6 := bal (o := .cells #[.int .i64 er, .int .i64 at'] 30) (bal (o := .cells #[.int .i64 0, .int .i64 0, .int .i64 0, .slice none 0 0] 27) (Below.refl w5.heap.size w5))
    have C6 := (OwnC.new w5 0 0 0 none 0 0 27).alloc (.cells #[.int .i64 er, .int .i64 at'] 30)
    have F6 := OwnW.new (w5.alloc (.cells #[.int .i64 0, .int .i64 0, .int .i64 0, .slice none 0 0] 27)) er at' 30
    rw [World.size_alloc] at F6
    have S6 := btrans S5 B6
    clear B6 S5
    go_wp2_with fail
    generalize (w5.alloc (.cells #[.int .i64 0, .int .i64 0, .int .i64 0, .slice none 0 0] 27)).alloc (.cells #[.int .i64 er, .int .i64 at'] 30) = w6 at *
    generalize w5.heap.size = b5 at *
    refine (unhide HG _).mono ?_
    rintro e w7 ⟨rfl, hb⟩
    have S7 := btrans S6 hb
    have C7 := C6.keep hb
    have F7 := F6.keep hb
    clear hb S6 C6 F6 HG
    have B8 := bal (o := .cells #[.int .i64 er, .int .i64 at'] 30) (bal (o := .cells #[.int .i64 0, .int .i64 0, .int .i64 0, .slice none 0 0] 27) (Below.refl w7.heap.size w7))
    have D8 := (OwnC.new w7 0 0 0 none 0 0 27).alloc (.cells #[.int .i64 er, .int .i64 at'] 30)
    have G8 := OwnW.new (w7.alloc (.cells #[.int .i64 0, .int .i64 0, .int .i64 0, .slice none 0 0] 27)) er at' 30
    rw [World.size_alloc] at G8
    have S8 := btrans S7 B8
    have C8 := C7.keep B8
    have F8 := F7.keep B8
    clear B8 S7 C7 F7
    have c := C8.2
    have d := D8.2
    have HSm := hide (same_none)
    go_wp2_with fail
    clear c d
    generalize (w7.alloc (.cells #[.int .i64 0, .int .i64 0, .int .i64 0, .slice none 0 0] 27)).alloc (.cells #[.int .i64 er, .int .i64 at'] 30) = w8 at *
    generalize w7.heap.size = b7 at *
    refine (unhide HSm _).mono ?_
    rintro e w9 ⟨rfl, hb⟩
    have S9 := btrans S8 hb
    have f9 := (F8.keep hb).2.1
    have g9 := (G8.keep hb).2.1
    clear hb S8 C8 F8 D8 G8 HSm
    go_wp2
    go_ret
    exact ⟨rfl, S9⟩
  · have HF := hide hF
    have HG := hide hG
    clear hF hG
    go_enter Tryd.func3, Tryd.ntmps3
    go_wp2_with fail
    refine (unhide H4).mono ?_
    rintro e w1 ⟨rfl, S1⟩
    have T1 := hT.keep S1
    clear hT H4
    go_wp2_with fail
    refine (unhide H5 _).mono ?_
    rintro e w2 ⟨rfl, hb⟩
    have T2 := T1.keep hb
    have S2 := btrans S1 hb
    clear hb T1 S1 H5
    go_wp2_with fail
    refine (unhide H6 _ T2).mono ?_
    rintro e w3 ⟨rfl, hb⟩
    have T3 := T2.keep hb
    have S3 := btrans S2 hb
    clear hb T2 S2 H6
    go_wp2_with fail
    refine (unhide H7 _).mono ?_
    rintro e w4 ⟨rfl, hb⟩
    have T4 := T3.keep hb
    have S4 := btrans S3 hb
    clear hb T3 S3 H7
    go_wp2_with fail
    refine (unhide HF _ T4).mono ?_
    rintro e w5 ⟨q5, cap5, rfl, R5, hb⟩
    have S5 := btrans S4 hb
    clear hb T4 S4 HF
    have B6 := bal (o := .cells #[.int .i64 0, .int .i64 0] 30) (bal (o := .cells #[.int .i64 g, .int .i64 w, .int .i64 h, .slice (some ⟨q5, 0, none⟩) k cap5] 27) (Below.refl w5.heap.size w5))
    have C6 := (OwnC.new w5 g w h (some ⟨q5, 0, none⟩) k cap5 27).alloc (.cells #[.int .i64 0, .int .i64 0] 30)
    have F6 := OwnW.new (w5.alloc (.cells #[.int .i64 g, .int .i64 w, .int .i64 h, .slice (some ⟨q5, 0, none⟩) k cap5] 27)) 0 0 30
    rw [World.size_alloc] at F6
    have S6 := btrans S5 B6
    have R6 := R5.keep B6
    clear B6 S5 R5
    go_wp2_with fail
    generalize (w5.alloc (.cells #[.int .i64 g, .int .i64 w, .int .i64 h, .slice (some ⟨q5, 0, none⟩) k cap5] 27)).alloc (.cells #[.int .i64 0, .int .i64 0] 30) = w6 at *
    generalize w5.heap.size = b5 at *
    refine (unhide HG _).mono ?_
    rintro e w7 ⟨q7, cap7, rfl, R7, hb⟩
    have S7 := btrans S6 hb
    have C7 := C6.keep hb
    have F7 := F6.keep hb
    have P7 := R6.keep hb
    clear hb S6 C6 F6 HG R6
    have B8 := bal (o := .cells #[.int .i64 0, .int .i64 0] 30) (bal (o := .cells #[.int .i64 g, .int .i64 w, .int .i64 h, .slice (some ⟨q7, 0, none⟩) k cap7] 27) (Below.refl w7.heap.size w7))
    have D8 := (OwnC.new w7 g w h (some ⟨q7, 0, none⟩) k cap7 27).alloc (.cells #[.int .i64 0, .int .i64 0] 30)
    have G8 := OwnW.new (w7.alloc (.cells #[.int .i64 g, .int .i64 w, .int .i64 h, .slice (some ⟨q7, 0, none⟩) k cap7] 27)) 0 0 30
    rw [World.size_alloc] at G8
    have S8 := btrans S7 B8
    have C8 := C7.keep B8
    have F8 := F7.keep B8
    have HSm := hide (same_any g w h q5 0 k cap5 q7 0 cap7 px _ hk (P7.keep B8) (R7.keep B8))
    clear B8 S7 C7 F7 P7 R7
    have c := C8.2
    have d := D8.2
    go_wp2_with fail
    clear c d
    refine (unhide HSm).mono ?_
    rintro e w9 ⟨rfl, hb⟩
    have S9 := btrans S8 hb
    have f9 := (F8.keep hb).2.1
    have g9 := (G8.keep hb).2.1
    clear hb S8 C8 F8 D8 G8 HSm
    go_wp2
    go_ret
    exact ⟨rfl, S9⟩
end Go.Proofs.YtncjbmafefeajaaDoor
