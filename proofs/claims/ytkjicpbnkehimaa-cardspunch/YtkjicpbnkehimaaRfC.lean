/-
  What the document's Pack answers.
-/
import Derived.Test.YtkjicpbnkehimaaRfB
import Derived.Test.YtkjicpbnkehimaaCdF
import Derived.Lib.BufferRead
namespace Go.Proofs.Ytkjicpbnkehimaa
open Go.RowKit

theorem g10_0 {a0 a1 a2 a3 a4 a5 a6 a7 a8 a9 : Oper} : (#[a0, a1, a2, a3, a4, a5, a6, a7, a8, a9] : Array Oper)[0]? = some a0 := rfl
theorem g10_1 {a0 a1 a2 a3 a4 a5 a6 a7 a8 a9 : Oper} : (#[a0, a1, a2, a3, a4, a5, a6, a7, a8, a9] : Array Oper)[1]? = some a1 := rfl
theorem g10_2 {a0 a1 a2 a3 a4 a5 a6 a7 a8 a9 : Oper} : (#[a0, a1, a2, a3, a4, a5, a6, a7, a8, a9] : Array Oper)[2]? = some a2 := rfl
theorem g10_3 {a0 a1 a2 a3 a4 a5 a6 a7 a8 a9 : Oper} : (#[a0, a1, a2, a3, a4, a5, a6, a7, a8, a9] : Array Oper)[3]? = some a3 := rfl
theorem g10_4 {a0 a1 a2 a3 a4 a5 a6 a7 a8 a9 : Oper} : (#[a0, a1, a2, a3, a4, a5, a6, a7, a8, a9] : Array Oper)[4]? = some a4 := rfl
theorem g10_5 {a0 a1 a2 a3 a4 a5 a6 a7 a8 a9 : Oper} : (#[a0, a1, a2, a3, a4, a5, a6, a7, a8, a9] : Array Oper)[5]? = some a5 := rfl
theorem g10_6 {a0 a1 a2 a3 a4 a5 a6 a7 a8 a9 : Oper} : (#[a0, a1, a2, a3, a4, a5, a6, a7, a8, a9] : Array Oper)[6]? = some a6 := rfl
theorem g10_7 {a0 a1 a2 a3 a4 a5 a6 a7 a8 a9 : Oper} : (#[a0, a1, a2, a3, a4, a5, a6, a7, a8, a9] : Array Oper)[7]? = some a7 := rfl
theorem g10_8 {a0 a1 a2 a3 a4 a5 a6 a7 a8 a9 : Oper} : (#[a0, a1, a2, a3, a4, a5, a6, a7, a8, a9] : Array Oper)[8]? = some a8 := rfl
theorem g10_9 {a0 a1 a2 a3 a4 a5 a6 a7 a8 a9 : Oper} : (#[a0, a1, a2, a3, a4, a5, a6, a7, a8, a9] : Array Oper)[9]? = some a9 := rfl

theorem rw_ah (f : Nat → Bool) (w y m : Nat) (hm : 1 ≤ m) (h : ∀ x, x < w → row f w (y + m - 1) x = row f w y x) : rwE f w y (y + m) = ah f w (y + m) := by
  unfold ah rwE
  rw [decide_eq_true (by omega), Bool.true_and, Bool.eq_iff_iff, eqN_iff, eqN_iff]
  constructor
  · intro k x hx
    rw [h x hx]; exact (k x hx).symm
  · intro k x hx
    have := k x hx
    rw [h x hx] at this
    exact this.symm
theorem ys_one (l : List UInt8) : ∀ u ∈ Lib.byteCells l, u.oneCell' = true := by
  intro u hu
  simp only [Lib.byteCells, List.mem_map] at hu
  obtain ⟨c, -, rfl⟩ := hu
  rfl
theorem run_append_none {W : World} {ty : TypeId} {q : Option Addr} {n c : Nat} (h : n ≤ c) : (Builtin.append_ #[35, 35] ty #[.slice q n c, .slice none 0 0]).run Try.prog W = .ok (.slice q n c) W := by
  obtain ⟨i0, hi, hz0, hz1, hz2⟩ := info_parts info5
  cases q <;> simp [Builtin.append_, run_underlying Try.underlying35, sizeOf, typeInfo, hi, Builtin.lenOf, h, run_firstCells_none, storeCells]
/-- append(s, x...) of two rows of bytes -/
theorem wp_append_any {o : Oper} {a : Act} {K : Act → World → Prop} {Q : Exit → Act → World → Prop} {w : World} {base base' n m : Nat} {v x : Value} {xs news : List Value} (s xo : Operand) (ho : o.op = .call { callee := .builtin .append, args := #[s, xo], argTypes := #[35, 35] })
    (hown : w.ownsRow base 5 1 v n xs) (hx : w.ownsRow base' 5 1 x m news) (hs : a.eval s = v) (hxe : a.eval xo = x) (hone : ∀ u ∈ news, u.oneCell' = true) (hn : n + m ≤ 100000) (hb : base ≤ w.heap.size)
    (h : ∀ v' w', w'.ownsRow base 5 1 v' (n + m) (xs ++ news) → w.grownBy w' v.ownBlock → K (a.put o.dst v') w') : o.wp Try.prog a w K Q := by
  obtain ⟨i0, hi, hz0, hz1, hz2⟩ := info_parts info5
  have hl := hx.1
  rcases hx.2 with ⟨rfl, rfl⟩ | ⟨g, cap, cur, rfl, r⟩
  · obtain rfl : news = [] := by simpa using hl
    obtain ⟨q, c, rfl⟩ := bd_slice0 hown
    have hnc : n ≤ c := by
      rcases hown.2 with ⟨e, e2⟩ | ⟨g, cap, cur, e, -, -, hnc, -⟩
      · omega
      · cases e; exact hnc
    have hr := run_append_none (W := w) (ty := o.type) (q := q) hnc
    have hk := h _ _ (by simpa using hown) (World.grownBy.refl _ _)
    simpa [Oper.wp, execOp, ho, resolve, invoke, builtin, hs, hxe, hr, Result.andThen, Oper.upon_value] using hk
  · exact wp_append_own w s xo 35 ho base 5 i0 (.int .u8 0) 1 1 Try.underlying35 hi hz0 hz1 hz2 rfl (by decide) v n xs hs hown ⟨g, 0, none⟩ m cap news hxe hl (hx.cells rfl) hone (by unfold maxLen; omega) (by omega) hb (fun v' w' a b _ => h v' w' a b)

theorem bal' {B : Nat} {W w1 : World} {o : Obj} (h : Below B W w1) (hB : B ≤ w1.heap.size) : Below B W (w1.alloc o) := h.alloc hB o
theorem own_ys {W : World} {B n k : Nat} {q : Option Addr} {l : List UInt8} (h : W.ownsRow B 5 1 (.slice q n k) n (Lib.byteCells l)) : Ys W q n l := by
  have hl := h.1
  rw [Lib.byteCells_length, Nat.mul_one] at hl
  refine ⟨hl.symm, ?_⟩
  rcases h.2 with ⟨e, e2⟩ | ⟨g, cap, cur, e, r⟩
  · exact .inl e2
  · cases e
    refine .inr ⟨g, rfl, (h.lt g rfl).2, fun j hj => ?_⟩
    rw [h.cellAt j (by omega)]
    have hj2 : j < l.length := by omega
    simp only [Lib.byteCells, List.getElem?_map, List.getElem?_eq_getElem hj2, Option.map_some]
    unfold bya
    rw [List.getD_eq_getElem?_getD, List.getElem?_eq_getElem hj2]; rfl
theorem own_str {W : World} {B n c : Nat} {q : Option Addr} {l : List UInt8} (h : W.ownsRow B 5 1 (.slice q n c) n (Lib.byteCells l)) : (convert 35 9 (.slice q n c)).run Try.prog W = .ok (.string ⟨l.toArray⟩) W := by
  have hy := own_ys h
  rcases h.2 with ⟨e, e2⟩ | ⟨g, cap, cur, e, r⟩
  · cases e
    obtain rfl : l = [] := List.length_eq_zero_iff.1 (by have := hy.1; omega)
    exact Lib.run_convert_nil_bytes W 35 9 5 0 Try.underlying35 Try.underlying5 Try.underlying9
  · cases e
    refine run_str hy.1 fun j hj => ?_
    rcases hy.2 with h0 | ⟨b, e, -, hc⟩
    · omega
    · cases e; exact hc j hj

theorem rpack_err (w h : Int) (p : Option Addr) (n cap : Nat) (W : World) (er : Int) (her : wE w h n = er) (hp : (er != 0) = true) : PackIs 7 w h p n cap W ⟨#[]⟩ er := by
  have HW := hide (fun W => rwrong_any w h p n cap W)
  rw [her] at HW
  unfold WrongIs at HW
  clear her
  unfold PackIs
  go_enter Try.func7, Try.ntmps7
  go_wp2_with fail
  refine (unhide HW _).mono ?_
  rintro e w1 ⟨rfl, hb⟩
  have S := btrans (bal (Below.refl _ _)) hb
  clear hb
  go_wp2
  exact bodyPost_ret (v := .tuple #[.string ⟨#[]⟩, .int .i64 er]) (by simp [results, Try.results7, go_sem]) rfl ⟨rfl, S⟩

set_option maxRecDepth 100000 in
set_option maxHeartbeats 8000000 in
theorem rpack_ok {W : World} {w h : Nat} {p : Option Addr} {n cap : Nat} {f : Nat → Bool} (r : Rt W w h p n cap f) : PackIs 7 w h p n cap W ⟨(pk f w h).toArray⟩ 0 := by
  obtain ⟨i0, hi, hz0, hz1, hz2⟩ := info_parts info5
  have hw := r.1
  have hh := r.2.1
  have her : wE w h n = 0 := by
    unfold wE
    rw [if_pos (by simp [sd]; omega), if_pos (by rw [r.2.2.1]; simp)]
  have HW := hide (fun W => rwrong_any w h p n cap W)
  rw [her] at HW
  unfold WrongIs at HW
  have T0 := hide (Tb.new r)
  have B0 := hide (bal (o := .cells #[.int .i64 w, .int .i64 h, .slice p n cap] 24) (Below.refl W.heap.size W))
  have Hbd := hide (body_len f w h hw hh)
  have HN8 := hide (show nb w ≤ 8 by unfold nb; omega)
  have Hrl := hide (show ∀ y, y < h → (y + 1) * w ≤ n from fun y hy => by rw [r.2.2.1, Nat.mul_comm w h]; exact Nat.mul_le_mul_right w hy)
  clear r her
  unfold PackIs
  go_enter Try.func7, Try.ntmps7
  go_wp2_with fail
  generalize W.alloc (.cells #[.int .i64 w, .int .i64 h, .slice p n cap] 24) = w0 at *
  refine (unhide HW _).mono ?_
  rintro e w1 ⟨rfl, hb⟩
  have S1 := hide (btrans (unhide B0) hb)
  have T1 := hide ((unhide T0).keep hb)
  clear hb T0 B0 HW
  obtain ⟨-, c0, c1, c2⟩ := (unhide T1).1
  have HTV := hide (show ∀ V, Below w1.heap.size w1 V → Rt V w h p n cap f from fun V hV => ((unhide T1).keep hV).2)
  have Hld := hide (show ∀ V, Below w1.heap.size w1 V → V.cell? ⟨W.heap.size, 0, none⟩ = some (.int .i64 w) ∧ V.cell? ⟨W.heap.size, 1, none⟩ = some (.int .i64 h) ∧ V.cell? ⟨W.heap.size, 2, none⟩ = some (.slice p n cap) from fun V hV => ((unhide T1).keep hV).1.2)
  have q1 : (w : Int) ≤ 64 := by omega
  have q2 : (h : Int) ≤ 64 := by omega
  have O0 := hide (show (w1.alloc (.cells #[.int .u8 74, .int .u8 81, .int .u8 49, .int .u8 (w : Int), .int .u8 (h : Int)] 5)).ownsRow w1.heap.size 5 1 (.slice (some ⟨w1.heap.size, 0, none⟩) 5 5) 5 (Lib.byteCells [74, 81, 49, UInt8.ofNat w, UInt8.ofNat h]) by
    have := World.ownsRow_lit (base := w1.heap.size) (e := 5) (size := 1) w1 #[.int .u8 74, .int .u8 81, .int .u8 49, .int .u8 (w : Int), .int .u8 (h : Int)] 5 (Nat.le_refl _) (by unfold maxLen; omega) rfl
    have e : Lib.byteCells [74, 81, 49, UInt8.ofNat w, UInt8.ofNat h] = [.int .u8 74, .int .u8 81, .int .u8 49, .int .u8 (w : Int), .int .u8 (h : Int)] := by
      simp only [Lib.byteCells, List.map_cons, List.map_nil]
      rw [toNat_ofNat w (by omega), toNat_ofNat h (by omega)]; rfl
    rw [e]
    simpa using this)
  have S2 := hide (bal (o := .cells #[.int .u8 74, .int .u8 81, .int .u8 49, .int .u8 (w : Int), .int .u8 (h : Int)] 5) (Below.refl w1.heap.size w1))
  go_wp2
  clear c0 c1 c2
  generalize w1.alloc (.cells #[.int .u8 74, .int .u8 81, .int .u8 49, .int .u8 (w : Int), .int .u8 (h : Int)] 5) = w2 at *
  go_loopw [5, 6] (fun c v wr => ∃ (y na : Nat) (q : Option Addr) (k : Nat) (acc : List UInt8), y ≤ h ∧ v = .int .i64 y ∧ c = .slice q na k ∧ Hid (na = acc.length) ∧ wr.ownsRow w1.heap.size 5 1 (.slice q na k) na (Lib.byteCells acc) ∧ Below w1.heap.size w1 wr ∧ Hid (acc ++ cf f w h (h - y) y = body f w h)) (fun _ v _ => h - (intOf v).toNat)
  case atStart => exact ⟨0, 5, some ⟨w1.heap.size, 0, none⟩, 5, [74, 81, 49, UInt8.ofNat w, UInt8.ofNat h], Nat.zero_le _, rfl, rfl, rfl, unhide O0, unhide S2, rfl⟩
  case round =>
    clear O0 S2
    obtain ⟨y, na, q, k, acc, hy, rfl, rfl, Hna, hown, hb, Hacc⟩ := hrel
    have HO := hide hown
    have Hb := hide hb
    obtain ⟨c0, c1, c2⟩ := unhide Hld _ hb
    have hna6 : na ≤ 581 := by have h1 := congrArg List.length (unhide Hacc); have h2 := unhide Hbd; have h3 := unhide Hna; rw [List.length_append] at h1; omega
    clear hown hb
    by_cases hlt : y < h
    · have q3 : (y : Int) < (h : Int) := by omega
      have HC := hide (show ∀ V, Below w1.heap.size w1 V → Calls Try.prog 23 #[tr w h p n cap, .int .i64 y] V fun e w' => (∃ q c, e = .returned (.slice q (nb w) c) ∧ w'.ownsRow V.heap.size 5 1 (.slice q (nb w) c) (nb w) (Lib.byteCells (holes (row f w y) w))) ∧ Below V.heap.size V w' from fun V hV => rholes_any (h := h) (Rg.of (unhide HTV V hV)) y (unhide Hrl y hlt))
      by_cases hy0 : 0 < y
      · obtain ⟨z0, hz0'⟩ : ∃ z0 : Nat, y = z0 + 1 := ⟨y - 1, by omega⟩
        have e0 : (y : Int) - 1 = (z0 : Int) := by omega
        have q4 : (0 : Int) < (y : Int) := by omega
        have q40 : (z0 : Int) ≤ 64 := by omega
        have q41 : (0 : Int) ≤ (z0 : Int) := by omega
        have HR := hide (rows_g (h := h) (Rg.of (unhide HTV _ (unhide Hb))) y z0 (unhide Hrl y hlt) (unhide Hrl z0 (by omega)))
        have Hv0 := hide (show rwE f w y z0 = ah f w y by unfold ah rwE; rw [hz0']; simp; rfl)
        clear hz0'
        cases hah : ah f w y with
        | true =>
          have Hst := hide (by have := cf_step f w h y hlt; rw [hah] at this; exact this)
          rw [hah] at Hv0
          clear hah
          go_wp2_with fail
          refine (unhide HR).mono ?_
          rintro e wt ⟨rfl, hbt⟩
          rw [unhide Hv0]
          have HO2 := hide (own_keep (unhide HO) hbt)
          have Hb2 := hide ((unhide Hb).trans (hbt.mono (unhide Hb).size))
          clear hbt HO Hb HR Hv0 c0 c1 c2
          go_wp2
          go_roundw
          case rel => exact ⟨y + 1, na, q, k, acc, by omega, by go_num, rfl, Hna, unhide HO2, unhide Hb2, hide (by rw [← unhide Hacc, unhide Hst]; simp)⟩
          case measure => simp [intOf]; omega
        | false =>
          rw [hah] at Hv0
          go_wp2_with fail
          refine (unhide HR).mono ?_
          rintro e wt ⟨rfl, hbt⟩
          rw [unhide Hv0]
          have HO2 := hide (own_keep (unhide HO) hbt)
          have Hb2 := hide ((unhide Hb).trans (hbt.mono (unhide Hb).size))
          clear hbt HO Hb HR Hv0 c0 c1 c2
          generalize wt = wr at *
          have HO := HO2
          have Hb := Hb2
          clear HO2 Hb2 e0 q4
          have Hst := hide (by have := cf_step f w h y hlt; rw [hah] at this; exact this)
          have hru := ru_spec f w h y hlt
          have Hru := hide (show 1 ≤ ru f w h y ∧ ru f w h y ≤ 64 by omega)
          clear hah hru
          go_wp2
          go_loopw [7] (fun c wr => ∃ m : Nat, 1 ≤ m ∧ y + m ≤ h ∧ c = .int .i64 m ∧ Hid (rn (ah f w) (h - y - m) (y + m) + m = ru f w h y) ∧ Hid (∀ x, x < w → row f w (y + m - 1) x = row f w y x) ∧ wr.ownsRow w1.heap.size 5 1 (.slice q na k) na (Lib.byteCells acc) ∧ Below w1.heap.size w1 wr) (fun c _ => h - (intOf c).toNat)
          case atStart => exact ⟨1, Nat.le_refl _, by omega, rfl, rfl, hide (fun x _ => by rw [Nat.add_sub_cancel]), unhide HO, unhide Hb⟩
          case round =>
            clear HO Hb
            obtain ⟨m, hm1, hmh, rfl, Hrn, Hrow, hown, hb⟩ := hrel
            have HO := hide hown
            have Hb := hide hb
            obtain ⟨c0, c1, c2⟩ := unhide Hld _ hb
            clear hown hb
            have q5 : (y : Int) ≤ 64 := by omega
            have q6 : (m : Int) ≤ 64 := by omega
            have q7 : (0 : Int) ≤ (m : Int) := by omega
            have hm6 : m < 256 := by omega
            have em : IntKind.u8.wrap (m : Int) = (m : Int) := Go.IntWalk.u8_in _ (by omega)
            by_cases hltm : y + m < h
            · obtain ⟨z, hz⟩ : ∃ z : Nat, z = y + m := ⟨_, rfl⟩
              have e1 : (y : Int) + (m : Int) = (z : Int) := by omega
              have q8 : (z : Int) < (h : Int) := by omega
              have HR2 := hide (rows_g (h := h) (Rg.of (unhide HTV _ (unhide Hb))) y z (unhide Hrl y hlt) (unhide Hrl z (by omega)))
              have Hval := hide (show rwE f w y z = ah f w z by
                rw [hz]
                exact rw_ah f w y m hm1 (unhide Hrow))
              have Hs := hide (show rn (ah f w) (h - y - m) (y + m) = if ah f w z then rn (ah f w) (h - y - (m + 1)) (y + (m + 1)) + 1 else 0 by
                obtain ⟨kk, hkk⟩ : ∃ kk, h - y - m = kk + 1 := ⟨h - y - m - 1, by omega⟩
                rw [hkk, rn, hz, show h - y - (m + 1) = kk by omega]; rfl)
              have Hnx := hide (show ah f w z = true → ∀ x, x < w → row f w (y + (m + 1) - 1) x = row f w y x from fun e x hx => by
                rw [← unhide Hrow x hx, show y + (m + 1) - 1 = (y + m - 1) + 1 by omega]
                exact ah_row f w (y + m - 1) (by rw [← e, hz]; congr 1; omega) x hx)
              have Hltm := hide hltm
              clear hz hltm
              generalize ah f w z = b at *
              go_wp2_with fail
              refine (unhide HR2).mono ?_
              rintro e wt ⟨rfl, hbt⟩
              rw [unhide Hval]
              have HO2 := hide (own_keep (unhide HO) hbt)
              have Hb2 := hide ((unhide Hb).trans (hbt.mono (unhide Hb).size))
              clear hbt HO Hb HR2 Hval c0 c1 c2
              generalize wt = wr at *
              have HO := HO2
              have Hb := Hb2
              clear HO2 Hb2
              cases b
              · have Hmm := hide (show m = ru f w h y by have h1 := unhide Hrn; have h2 := unhide Hs; simp at h2; omega)
                clear Hs Hrn Hnx Hrow e1 q8 Hltm
                go_wp2_with fail
                refine wp_region_noPanic ?_
                refine wp_region_held_drew (S := fun V => Below w1.heap.size w1 V) (by kernel_rfl) (Below.drew (unhide Hb)) ?_
                intro hS0
                have HOc := hide (own_keep (unhide HO) (Below.drew (Below.refl _ _)))
                clear HO Hb
                generalize hwc : wr.drew = wc at *
                clear hwc
                refine wpAnyH_take (i := 0) (oi := _) (v := .slice q na k) g10_0 (by kernel_rfl) (by kernel_rfl) (by kernel_rfl) (fun _ _ _ h => h) (Or.inl ⟨by rfl, ?_⟩) (by assumption) ?_
                · intro V hSw
                  try dsimp only at hSw
                  go_simp
                simp only [Act.put, List.setIfInBounds_toArray, List.set_cons_zero, List.set_cons_succ]
                refine wpAnyH_take (i := 1) (oi := _) (v := .int .i64 m) g10_1 (by kernel_rfl) (by kernel_rfl) (by kernel_rfl) (fun _ _ _ h => h) (Or.inl ⟨by rfl, ?_⟩) (by assumption) ?_
                · intro V hSw
                  try dsimp only at hSw
                  go_simp
                simp only [Act.put, List.setIfInBounds_toArray, List.set_cons_zero, List.set_cons_succ]
                refine wpAnyH_take (i := 2) (oi := _) (v := .int .u8 m) g10_2 (by kernel_rfl) (by kernel_rfl) (by kernel_rfl) (fun _ _ _ h => h) (Or.inl ⟨by rfl, ?_⟩) (by assumption) ?_
                · intro V hSw
                  try dsimp only at hSw
                  go_simp
                simp only [Act.put, List.setIfInBounds_toArray, List.set_cons_zero, List.set_cons_succ]
                refine wpAnyH_take (i := 6) (oi := _) (v := .int .i64 y) g10_6 (by kernel_rfl) (by kernel_rfl) (by kernel_rfl) (fun _ _ _ h => h) (Or.inl ⟨by rfl, ?_⟩) (by assumption) ?_
                · intro V hSw
                  try dsimp only at hSw
                  go_simp
                simp only [Act.put, List.setIfInBounds_toArray, List.set_cons_zero, List.set_cons_succ]
                refine wpAnyH_take (i := 5) (oi := _) (v := .agg #[.int .i64 w, .int .i64 h, .slice p n cap]) g10_5 (by kernel_rfl) (by kernel_rfl) (by kernel_rfl) (fun _ _ _ h => h) (Or.inl ⟨by rfl, ?_⟩) (by assumption) ?_
                · intro V hSw
                  try dsimp only at hSw
                  have hl := unhide Hld V hSw
                  go_simp
                simp only [Act.put, List.setIfInBounds_toArray, List.set_cons_zero, List.set_cons_succ]
                refine wpAnyH_ready (rs := [3]) (by kernel_rfl) (by simp) ?_
                refine AllReadyH.cons (o := _) g10_3 (fun K hK => ?_) AllReadyH.nil
                go_simp
                refine hK.out _ _ (hS0.alloc hS0.size (.cells #[.int .u8 (m : Int)] 5)) (fun hSa => ?_)
                clear hK K
                have HOa := hide ((unhide HOc).alloc (.cells #[.int .u8 (m : Int)] 5))
                have hsb : (wc.alloc (.cells #[.int .u8 (m : Int)] 5)).cell? ⟨wc.heap.size, 0, none⟩ = some (.int .u8 (m : Int)) := by simp [go_sem]
                have hsl : wc.heap.size < (wc.alloc (.cells #[.int .u8 (m : Int)] 5)).heap.size := by simp
                clear hS0 HOc
                generalize wc.heap.size = sb at *
                generalize wc.alloc (.cells #[.int .u8 (m : Int)] 5) = wc at *
                have hS0 := hSa
                have HOc := HOa
                clear hSa HOa
                refine wpAnyH_ready (rs := [4]) (by kernel_rfl) (by simp) ?_
                refine AllReadyH.cons (o := _) g10_4 (fun K hK => ?_) AllReadyH.nil
                refine wp_append_own _ _ _ 35 rfl w1.heap.size 5 i0 (.int .u8 0) 1 1 Try.underlying35 hi hz0 hz1 hz2 rfl (by decide) (.slice q na k) na (Lib.byteCells acc) rfl (unhide HOc) ⟨sb, 0, none⟩ 1 1 [.int .u8 (m : Int)] rfl ?c11 ?c21 ?c31 ?c41 ?c51 ?c61 ?_
                case c11 => rfl
                case c21 =>
                  intro j u hj
                  match j, hj with
                  | 0, hj => simp at hj; subst hj; simpa [Addr.add] using hsb
                case c31 => intro u hu; simp at hu; subst hu; rfl
                case c41 => unfold maxLen; omega
                case c51 => omega
                case c61 => exact hS0.size
                intro v' w4 hown' hgrow _
                obtain ⟨q1, k1, rfl⟩ := bd_slice0 hown'
                have hS4 : Below w1.heap.size w1 w4 := hS0.grown hgrow hS0.size (fun x hx => ((unhide HOc).lt x hx).1)
                refine hK.out _ _ hS4 (fun _ => ?_)
                clear hK K
                rw [one_cell' m hm6, ← byteCells_append] at hown'
                have HO1 := hide hown'
                clear hown' hgrow hS0 HOc hsb hsl
                have hS0 := hS4
                clear hS4
                generalize w4 = wc at *
                refine wpAnyH_ready (rs := [7]) (by kernel_rfl) (by simp) ?_
                refine AllReadyH.cons (o := _) g10_7 (fun K hK => ?_) AllReadyH.nil
                go_simp
                refine (unhide HC _ hS0).mono ?_
                rintro e wd ⟨⟨qh, ch, rfl, hoh⟩, hbd⟩
                refine hK.out _ _ (hS0.trans (hbd.mono hS0.size)) (fun hSa => ?_)
                clear hK K
                have HOa := hide (own_keep (unhide HO1) hbd)
                have HH := hide hoh
                clear hS0 HO1 hoh hbd
                have hS0 := hSa
                have HO1 := HOa
                clear hSa HOa
                generalize wd = wc at *
                refine wpAnyH_ready (rs := [8]) (by kernel_rfl) (by simp) ?_
                refine AllReadyH.cons (o := _) g10_8 (fun K hK => ?_) AllReadyH.nil
                refine wp_append_any _ _ rfl (unhide HO1) (unhide HH) rfl rfl (ys_one _) (by have h1 := unhide Hna; have h2 := unhide HN8; omega) hS0.size ?_
                intro v' w5 hown' hgrow
                obtain ⟨q2, k2, rfl⟩ := bd_slice0 hown'
                have hS5 : Below w1.heap.size w1 w5 := hS0.grown hgrow hS0.size (fun x hx => ((unhide HO1).lt x hx).1)
                refine hK.out _ _ hS5 (fun _ => ?_)
                clear hK K
                rw [← byteCells_append] at hown'
                have HO2 := hide hown'
                clear hown' hgrow hS0 HO1 HH
                have hS0 := hS5
                clear hS5
                refine wpAnyH_take (i := 9) (oi := _) (v := .slice q2 (na + 1 + nb w) k2) g10_9 (by kernel_rfl) (by kernel_rfl) (by kernel_rfl) (fun _ _ _ h => h) (Or.inl ⟨by rfl, ?_⟩) (by assumption) ?_
                · intro V hSw
                  try dsimp only at hSw
                  go_simp
                simp only [Act.put, List.setIfInBounds_toArray, List.set_cons_zero, List.set_cons_succ]
                refine wpAnyH_done (by kernel_rfl) ?_ _
                refine NoPanic.normal ?_
                have Hb5 := hide hS0
                clear hS0
                go_wp2
                go_roundw
                case rel => exact ⟨y + 1, na + 1 + nb w, q2, k2, acc ++ [UInt8.ofNat m] ++ holes (row f w y) w, by omega, by go_num, rfl, hide (by have := unhide Hna; simp [holes_len]; omega), unhide HO2, unhide Hb5, hide (by rw [← unhide Hacc, unhide Hst, ← unhide Hmm]; simp)⟩
                case measure => simp [intOf]; omega
              · go_wp2
                go_roundw
                case rel => exact ⟨m + 1, by omega, by have := unhide Hltm; omega, by go_num, hide (by have h1 := unhide Hrn; have h2 := unhide Hs; simp at h2; omega), hide (by first | exact unhide Hnx rfl | exact unhide Hnx trivial), unhide HO, unhide Hb⟩
                case measure => have := unhide Hltm; simp [intOf]; omega
            · have q8 : ¬ ((y : Int) + (m : Int) < (h : Int)) := by omega
              have q9 : decide ((y : Int) + (m : Int) < (h : Int)) = false := by simpa using q8
              have Hmm := hide (show m = ru f w h y by
                have h1 := unhide Hrn
                rw [show h - y - m = 0 by omega, rn] at h1
                omega)
              clear Hrn Hrow
              go_wp2_with fail
              refine wp_region_noPanic ?_
              refine wp_region_held_drew (S := fun V => Below w1.heap.size w1 V) (by kernel_rfl) (Below.drew (unhide Hb)) ?_
              intro hS0
              have HOc := hide (own_keep (unhide HO) (Below.drew (Below.refl _ _)))
              clear HO Hb
              generalize hwc : wr.drew = wc at *
              clear hwc
              refine wpAnyH_take (i := 0) (oi := _) (v := .slice q na k) g10_0 (by kernel_rfl) (by kernel_rfl) (by kernel_rfl) (fun _ _ _ h => h) (Or.inl ⟨by rfl, ?_⟩) (by assumption) ?_
              · intro V hSw
                try dsimp only at hSw
                go_simp
              simp only [Act.put, List.setIfInBounds_toArray, List.set_cons_zero, List.set_cons_succ]
              refine wpAnyH_take (i := 1) (oi := _) (v := .int .i64 m) g10_1 (by kernel_rfl) (by kernel_rfl) (by kernel_rfl) (fun _ _ _ h => h) (Or.inl ⟨by rfl, ?_⟩) (by assumption) ?_
              · intro V hSw
                try dsimp only at hSw
                go_simp
              simp only [Act.put, List.setIfInBounds_toArray, List.set_cons_zero, List.set_cons_succ]
              refine wpAnyH_take (i := 2) (oi := _) (v := .int .u8 m) g10_2 (by kernel_rfl) (by kernel_rfl) (by kernel_rfl) (fun _ _ _ h => h) (Or.inl ⟨by rfl, ?_⟩) (by assumption) ?_
              · intro V hSw
                try dsimp only at hSw
                go_simp
              simp only [Act.put, List.setIfInBounds_toArray, List.set_cons_zero, List.set_cons_succ]
              refine wpAnyH_take (i := 6) (oi := _) (v := .int .i64 y) g10_6 (by kernel_rfl) (by kernel_rfl) (by kernel_rfl) (fun _ _ _ h => h) (Or.inl ⟨by rfl, ?_⟩) (by assumption) ?_
              · intro V hSw
                try dsimp only at hSw
                go_simp
              simp only [Act.put, List.setIfInBounds_toArray, List.set_cons_zero, List.set_cons_succ]
              refine wpAnyH_take (i := 5) (oi := _) (v := .agg #[.int .i64 w, .int .i64 h, .slice p n cap]) g10_5 (by kernel_rfl) (by kernel_rfl) (by kernel_rfl) (fun _ _ _ h => h) (Or.inl ⟨by rfl, ?_⟩) (by assumption) ?_
              · intro V hSw
                try dsimp only at hSw
                have hl := unhide Hld V hSw
                go_simp
              simp only [Act.put, List.setIfInBounds_toArray, List.set_cons_zero, List.set_cons_succ]
              refine wpAnyH_ready (rs := [3]) (by kernel_rfl) (by simp) ?_
              refine AllReadyH.cons (o := _) g10_3 (fun K hK => ?_) AllReadyH.nil
              go_simp
              refine hK.out _ _ (hS0.alloc hS0.size (.cells #[.int .u8 (m : Int)] 5)) (fun hSa => ?_)
              clear hK K
              have HOa := hide ((unhide HOc).alloc (.cells #[.int .u8 (m : Int)] 5))
              have hsb : (wc.alloc (.cells #[.int .u8 (m : Int)] 5)).cell? ⟨wc.heap.size, 0, none⟩ = some (.int .u8 (m : Int)) := by simp [go_sem]
              have hsl : wc.heap.size < (wc.alloc (.cells #[.int .u8 (m : Int)] 5)).heap.size := by simp
              clear hS0 HOc
              generalize wc.heap.size = sb at *
              generalize wc.alloc (.cells #[.int .u8 (m : Int)] 5) = wc at *
              have hS0 := hSa
              have HOc := HOa
              clear hSa HOa
              refine wpAnyH_ready (rs := [4]) (by kernel_rfl) (by simp) ?_
              refine AllReadyH.cons (o := _) g10_4 (fun K hK => ?_) AllReadyH.nil
              refine wp_append_own _ _ _ 35 rfl w1.heap.size 5 i0 (.int .u8 0) 1 1 Try.underlying35 hi hz0 hz1 hz2 rfl (by decide) (.slice q na k) na (Lib.byteCells acc) rfl (unhide HOc) ⟨sb, 0, none⟩ 1 1 [.int .u8 (m : Int)] rfl ?c12 ?c22 ?c32 ?c42 ?c52 ?c62 ?_
              case c12 => rfl
              case c22 =>
                intro j u hj
                match j, hj with
                | 0, hj => simp at hj; subst hj; simpa [Addr.add] using hsb
              case c32 => intro u hu; simp at hu; subst hu; rfl
              case c42 => unfold maxLen; omega
              case c52 => omega
              case c62 => exact hS0.size
              intro v' w4 hown' hgrow _
              obtain ⟨q1, k1, rfl⟩ := bd_slice0 hown'
              have hS4 : Below w1.heap.size w1 w4 := hS0.grown hgrow hS0.size (fun x hx => ((unhide HOc).lt x hx).1)
              refine hK.out _ _ hS4 (fun _ => ?_)
              clear hK K
              rw [one_cell' m hm6, ← byteCells_append] at hown'
              have HO1 := hide hown'
              clear hown' hgrow hS0 HOc hsb hsl
              have hS0 := hS4
              clear hS4
              generalize w4 = wc at *
              refine wpAnyH_ready (rs := [7]) (by kernel_rfl) (by simp) ?_
              refine AllReadyH.cons (o := _) g10_7 (fun K hK => ?_) AllReadyH.nil
              go_simp
              refine (unhide HC _ hS0).mono ?_
              rintro e wd ⟨⟨qh, ch, rfl, hoh⟩, hbd⟩
              refine hK.out _ _ (hS0.trans (hbd.mono hS0.size)) (fun hSa => ?_)
              clear hK K
              have HOa := hide (own_keep (unhide HO1) hbd)
              have HH := hide hoh
              clear hS0 HO1 hoh hbd
              have hS0 := hSa
              have HO1 := HOa
              clear hSa HOa
              generalize wd = wc at *
              refine wpAnyH_ready (rs := [8]) (by kernel_rfl) (by simp) ?_
              refine AllReadyH.cons (o := _) g10_8 (fun K hK => ?_) AllReadyH.nil
              refine wp_append_any _ _ rfl (unhide HO1) (unhide HH) rfl rfl (ys_one _) (by have h1 := unhide Hna; have h2 := unhide HN8; omega) hS0.size ?_
              intro v' w5 hown' hgrow
              obtain ⟨q2, k2, rfl⟩ := bd_slice0 hown'
              have hS5 : Below w1.heap.size w1 w5 := hS0.grown hgrow hS0.size (fun x hx => ((unhide HO1).lt x hx).1)
              refine hK.out _ _ hS5 (fun _ => ?_)
              clear hK K
              rw [← byteCells_append] at hown'
              have HO2 := hide hown'
              clear hown' hgrow hS0 HO1 HH
              have hS0 := hS5
              clear hS5
              refine wpAnyH_take (i := 9) (oi := _) (v := .slice q2 (na + 1 + nb w) k2) g10_9 (by kernel_rfl) (by kernel_rfl) (by kernel_rfl) (fun _ _ _ h => h) (Or.inl ⟨by rfl, ?_⟩) (by assumption) ?_
              · intro V hSw
                try dsimp only at hSw
                go_simp
              simp only [Act.put, List.setIfInBounds_toArray, List.set_cons_zero, List.set_cons_succ]
              refine wpAnyH_done (by kernel_rfl) ?_ _
              refine NoPanic.normal ?_
              have Hb5 := hide hS0
              clear hS0
              go_wp2
              go_roundw
              case rel => exact ⟨y + 1, na + 1 + nb w, q2, k2, acc ++ [UInt8.ofNat m] ++ holes (row f w y) w, by omega, by go_num, rfl, hide (by have := unhide Hna; simp [holes_len]; omega), unhide HO2, unhide Hb5, hide (by rw [← unhide Hacc, unhide Hst, ← unhide Hmm]; simp)⟩
              case measure => simp [intOf]; omega
      · have q4 : ¬ ((0 : Int) < (y : Int)) := by omega
        have q40 : decide (0 < y) = false := by simpa using hy0
        have hah : ah f w y = false := by unfold ah; rw [q40]; rfl
        have Hst := hide (by have := cf_step f w h y hlt; rw [hah] at this; exact this)
        have hru := ru_spec f w h y hlt
        have Hru := hide (show 1 ≤ ru f w h y ∧ ru f w h y ≤ 64 by omega)
        clear hah hru
        go_wp2
        go_loopw [7] (fun c wr => ∃ m : Nat, 1 ≤ m ∧ y + m ≤ h ∧ c = .int .i64 m ∧ Hid (rn (ah f w) (h - y - m) (y + m) + m = ru f w h y) ∧ Hid (∀ x, x < w → row f w (y + m - 1) x = row f w y x) ∧ wr.ownsRow w1.heap.size 5 1 (.slice q na k) na (Lib.byteCells acc) ∧ Below w1.heap.size w1 wr) (fun c _ => h - (intOf c).toNat)
        case atStart => exact ⟨1, Nat.le_refl _, by omega, rfl, rfl, hide (fun x _ => by rw [Nat.add_sub_cancel]), unhide HO, unhide Hb⟩
        case round =>
          clear HO Hb
          obtain ⟨m, hm1, hmh, rfl, Hrn, Hrow, hown, hb⟩ := hrel
          have HO := hide hown
          have Hb := hide hb
          obtain ⟨c0, c1, c2⟩ := unhide Hld _ hb
          clear hown hb
          have q5 : (y : Int) ≤ 64 := by omega
          have q6 : (m : Int) ≤ 64 := by omega
          have q7 : (0 : Int) ≤ (m : Int) := by omega
          have hm6 : m < 256 := by omega
          have em : IntKind.u8.wrap (m : Int) = (m : Int) := Go.IntWalk.u8_in _ (by omega)
          by_cases hltm : y + m < h
          · obtain ⟨z, hz⟩ : ∃ z : Nat, z = y + m := ⟨_, rfl⟩
            have e1 : (y : Int) + (m : Int) = (z : Int) := by omega
            have q8 : (z : Int) < (h : Int) := by omega
            have HR2 := hide (rows_g (h := h) (Rg.of (unhide HTV _ (unhide Hb))) y z (unhide Hrl y hlt) (unhide Hrl z (by omega)))
            have Hval := hide (show rwE f w y z = ah f w z by
              rw [hz]
              exact rw_ah f w y m hm1 (unhide Hrow))
            have Hs := hide (show rn (ah f w) (h - y - m) (y + m) = if ah f w z then rn (ah f w) (h - y - (m + 1)) (y + (m + 1)) + 1 else 0 by
              obtain ⟨kk, hkk⟩ : ∃ kk, h - y - m = kk + 1 := ⟨h - y - m - 1, by omega⟩
              rw [hkk, rn, hz, show h - y - (m + 1) = kk by omega]; rfl)
            have Hnx := hide (show ah f w z = true → ∀ x, x < w → row f w (y + (m + 1) - 1) x = row f w y x from fun e x hx => by
              rw [← unhide Hrow x hx, show y + (m + 1) - 1 = (y + m - 1) + 1 by omega]
              exact ah_row f w (y + m - 1) (by rw [← e, hz]; congr 1; omega) x hx)
            have Hltm := hide hltm
            clear hz hltm
            generalize ah f w z = b at *
            go_wp2_with fail
            refine (unhide HR2).mono ?_
            rintro e wt ⟨rfl, hbt⟩
            rw [unhide Hval]
            have HO2 := hide (own_keep (unhide HO) hbt)
            have Hb2 := hide ((unhide Hb).trans (hbt.mono (unhide Hb).size))
            clear hbt HO Hb HR2 Hval c0 c1 c2
            generalize wt = wr at *
            have HO := HO2
            have Hb := Hb2
            clear HO2 Hb2
            cases b
            · have Hmm := hide (show m = ru f w h y by have h1 := unhide Hrn; have h2 := unhide Hs; simp at h2; omega)
              clear Hs Hrn Hnx Hrow e1 q8 Hltm
              go_wp2_with fail
              refine wp_region_noPanic ?_
              refine wp_region_held_drew (S := fun V => Below w1.heap.size w1 V) (by kernel_rfl) (Below.drew (unhide Hb)) ?_
              intro hS0
              have HOc := hide (own_keep (unhide HO) (Below.drew (Below.refl _ _)))
              clear HO Hb
              generalize hwc : wr.drew = wc at *
              clear hwc
              refine wpAnyH_take (i := 0) (oi := _) (v := .slice q na k) g10_0 (by kernel_rfl) (by kernel_rfl) (by kernel_rfl) (fun _ _ _ h => h) (Or.inl ⟨by rfl, ?_⟩) (by assumption) ?_
              · intro V hSw
                try dsimp only at hSw
                go_simp
              simp only [Act.put, List.setIfInBounds_toArray, List.set_cons_zero, List.set_cons_succ]
              refine wpAnyH_take (i := 1) (oi := _) (v := .int .i64 m) g10_1 (by kernel_rfl) (by kernel_rfl) (by kernel_rfl) (fun _ _ _ h => h) (Or.inl ⟨by rfl, ?_⟩) (by assumption) ?_
              · intro V hSw
                try dsimp only at hSw
                go_simp
              simp only [Act.put, List.setIfInBounds_toArray, List.set_cons_zero, List.set_cons_succ]
              refine wpAnyH_take (i := 2) (oi := _) (v := .int .u8 m) g10_2 (by kernel_rfl) (by kernel_rfl) (by kernel_rfl) (fun _ _ _ h => h) (Or.inl ⟨by rfl, ?_⟩) (by assumption) ?_
              · intro V hSw
                try dsimp only at hSw
                go_simp
              simp only [Act.put, List.setIfInBounds_toArray, List.set_cons_zero, List.set_cons_succ]
              refine wpAnyH_take (i := 6) (oi := _) (v := .int .i64 y) g10_6 (by kernel_rfl) (by kernel_rfl) (by kernel_rfl) (fun _ _ _ h => h) (Or.inl ⟨by rfl, ?_⟩) (by assumption) ?_
              · intro V hSw
                try dsimp only at hSw
                go_simp
              simp only [Act.put, List.setIfInBounds_toArray, List.set_cons_zero, List.set_cons_succ]
              refine wpAnyH_take (i := 5) (oi := _) (v := .agg #[.int .i64 w, .int .i64 h, .slice p n cap]) g10_5 (by kernel_rfl) (by kernel_rfl) (by kernel_rfl) (fun _ _ _ h => h) (Or.inl ⟨by rfl, ?_⟩) (by assumption) ?_
              · intro V hSw
                try dsimp only at hSw
                have hl := unhide Hld V hSw
                go_simp
              simp only [Act.put, List.setIfInBounds_toArray, List.set_cons_zero, List.set_cons_succ]
              refine wpAnyH_ready (rs := [3]) (by kernel_rfl) (by simp) ?_
              refine AllReadyH.cons (o := _) g10_3 (fun K hK => ?_) AllReadyH.nil
              go_simp
              refine hK.out _ _ (hS0.alloc hS0.size (.cells #[.int .u8 (m : Int)] 5)) (fun hSa => ?_)
              clear hK K
              have HOa := hide ((unhide HOc).alloc (.cells #[.int .u8 (m : Int)] 5))
              have hsb : (wc.alloc (.cells #[.int .u8 (m : Int)] 5)).cell? ⟨wc.heap.size, 0, none⟩ = some (.int .u8 (m : Int)) := by simp [go_sem]
              have hsl : wc.heap.size < (wc.alloc (.cells #[.int .u8 (m : Int)] 5)).heap.size := by simp
              clear hS0 HOc
              generalize wc.heap.size = sb at *
              generalize wc.alloc (.cells #[.int .u8 (m : Int)] 5) = wc at *
              have hS0 := hSa
              have HOc := HOa
              clear hSa HOa
              refine wpAnyH_ready (rs := [4]) (by kernel_rfl) (by simp) ?_
              refine AllReadyH.cons (o := _) g10_4 (fun K hK => ?_) AllReadyH.nil
              refine wp_append_own _ _ _ 35 rfl w1.heap.size 5 i0 (.int .u8 0) 1 1 Try.underlying35 hi hz0 hz1 hz2 rfl (by decide) (.slice q na k) na (Lib.byteCells acc) rfl (unhide HOc) ⟨sb, 0, none⟩ 1 1 [.int .u8 (m : Int)] rfl ?c13 ?c23 ?c33 ?c43 ?c53 ?c63 ?_
              case c13 => rfl
              case c23 =>
                intro j u hj
                match j, hj with
                | 0, hj => simp at hj; subst hj; simpa [Addr.add] using hsb
              case c33 => intro u hu; simp at hu; subst hu; rfl
              case c43 => unfold maxLen; omega
              case c53 => omega
              case c63 => exact hS0.size
              intro v' w4 hown' hgrow _
              obtain ⟨q1, k1, rfl⟩ := bd_slice0 hown'
              have hS4 : Below w1.heap.size w1 w4 := hS0.grown hgrow hS0.size (fun x hx => ((unhide HOc).lt x hx).1)
              refine hK.out _ _ hS4 (fun _ => ?_)
              clear hK K
              rw [one_cell' m hm6, ← byteCells_append] at hown'
              have HO1 := hide hown'
              clear hown' hgrow hS0 HOc hsb hsl
              have hS0 := hS4
              clear hS4
              generalize w4 = wc at *
              refine wpAnyH_ready (rs := [7]) (by kernel_rfl) (by simp) ?_
              refine AllReadyH.cons (o := _) g10_7 (fun K hK => ?_) AllReadyH.nil
              go_simp
              refine (unhide HC _ hS0).mono ?_
              rintro e wd ⟨⟨qh, ch, rfl, hoh⟩, hbd⟩
              refine hK.out _ _ (hS0.trans (hbd.mono hS0.size)) (fun hSa => ?_)
              clear hK K
              have HOa := hide (own_keep (unhide HO1) hbd)
              have HH := hide hoh
              clear hS0 HO1 hoh hbd
              have hS0 := hSa
              have HO1 := HOa
              clear hSa HOa
              generalize wd = wc at *
              refine wpAnyH_ready (rs := [8]) (by kernel_rfl) (by simp) ?_
              refine AllReadyH.cons (o := _) g10_8 (fun K hK => ?_) AllReadyH.nil
              refine wp_append_any _ _ rfl (unhide HO1) (unhide HH) rfl rfl (ys_one _) (by have h1 := unhide Hna; have h2 := unhide HN8; omega) hS0.size ?_
              intro v' w5 hown' hgrow
              obtain ⟨q2, k2, rfl⟩ := bd_slice0 hown'
              have hS5 : Below w1.heap.size w1 w5 := hS0.grown hgrow hS0.size (fun x hx => ((unhide HO1).lt x hx).1)
              refine hK.out _ _ hS5 (fun _ => ?_)
              clear hK K
              rw [← byteCells_append] at hown'
              have HO2 := hide hown'
              clear hown' hgrow hS0 HO1 HH
              have hS0 := hS5
              clear hS5
              refine wpAnyH_take (i := 9) (oi := _) (v := .slice q2 (na + 1 + nb w) k2) g10_9 (by kernel_rfl) (by kernel_rfl) (by kernel_rfl) (fun _ _ _ h => h) (Or.inl ⟨by rfl, ?_⟩) (by assumption) ?_
              · intro V hSw
                try dsimp only at hSw
                go_simp
              simp only [Act.put, List.setIfInBounds_toArray, List.set_cons_zero, List.set_cons_succ]
              refine wpAnyH_done (by kernel_rfl) ?_ _
              refine NoPanic.normal ?_
              have Hb5 := hide hS0
              clear hS0
              go_wp2
              go_roundw
              case rel => exact ⟨y + 1, na + 1 + nb w, q2, k2, acc ++ [UInt8.ofNat m] ++ holes (row f w y) w, by omega, by go_num, rfl, hide (by have := unhide Hna; simp [holes_len]; omega), unhide HO2, unhide Hb5, hide (by rw [← unhide Hacc, unhide Hst, ← unhide Hmm]; simp)⟩
              case measure => simp [intOf]; omega
            · go_wp2
              go_roundw
              case rel => exact ⟨m + 1, by omega, by have := unhide Hltm; omega, by go_num, hide (by have h1 := unhide Hrn; have h2 := unhide Hs; simp at h2; omega), hide (by first | exact unhide Hnx rfl | exact unhide Hnx trivial), unhide HO, unhide Hb⟩
              case measure => have := unhide Hltm; simp [intOf]; omega
          · have q8 : ¬ ((y : Int) + (m : Int) < (h : Int)) := by omega
            have q9 : decide ((y : Int) + (m : Int) < (h : Int)) = false := by simpa using q8
            have Hmm := hide (show m = ru f w h y by
              have h1 := unhide Hrn
              rw [show h - y - m = 0 by omega, rn] at h1
              omega)
            clear Hrn Hrow
            go_wp2_with fail
            refine wp_region_noPanic ?_
            refine wp_region_held_drew (S := fun V => Below w1.heap.size w1 V) (by kernel_rfl) (Below.drew (unhide Hb)) ?_
            intro hS0
            have HOc := hide (own_keep (unhide HO) (Below.drew (Below.refl _ _)))
            clear HO Hb
            generalize hwc : wr.drew = wc at *
            clear hwc
            refine wpAnyH_take (i := 0) (oi := _) (v := .slice q na k) g10_0 (by kernel_rfl) (by kernel_rfl) (by kernel_rfl) (fun _ _ _ h => h) (Or.inl ⟨by rfl, ?_⟩) (by assumption) ?_
            · intro V hSw
              try dsimp only at hSw
              go_simp
            simp only [Act.put, List.setIfInBounds_toArray, List.set_cons_zero, List.set_cons_succ]
            refine wpAnyH_take (i := 1) (oi := _) (v := .int .i64 m) g10_1 (by kernel_rfl) (by kernel_rfl) (by kernel_rfl) (fun _ _ _ h => h) (Or.inl ⟨by rfl, ?_⟩) (by assumption) ?_
            · intro V hSw
              try dsimp only at hSw
              go_simp
            simp only [Act.put, List.setIfInBounds_toArray, List.set_cons_zero, List.set_cons_succ]
            refine wpAnyH_take (i := 2) (oi := _) (v := .int .u8 m) g10_2 (by kernel_rfl) (by kernel_rfl) (by kernel_rfl) (fun _ _ _ h => h) (Or.inl ⟨by rfl, ?_⟩) (by assumption) ?_
            · intro V hSw
              try dsimp only at hSw
              go_simp
            simp only [Act.put, List.setIfInBounds_toArray, List.set_cons_zero, List.set_cons_succ]
            refine wpAnyH_take (i := 6) (oi := _) (v := .int .i64 y) g10_6 (by kernel_rfl) (by kernel_rfl) (by kernel_rfl) (fun _ _ _ h => h) (Or.inl ⟨by rfl, ?_⟩) (by assumption) ?_
            · intro V hSw
              try dsimp only at hSw
              go_simp
            simp only [Act.put, List.setIfInBounds_toArray, List.set_cons_zero, List.set_cons_succ]
            refine wpAnyH_take (i := 5) (oi := _) (v := .agg #[.int .i64 w, .int .i64 h, .slice p n cap]) g10_5 (by kernel_rfl) (by kernel_rfl) (by kernel_rfl) (fun _ _ _ h => h) (Or.inl ⟨by rfl, ?_⟩) (by assumption) ?_
            · intro V hSw
              try dsimp only at hSw
              have hl := unhide Hld V hSw
              go_simp
            simp only [Act.put, List.setIfInBounds_toArray, List.set_cons_zero, List.set_cons_succ]
            refine wpAnyH_ready (rs := [3]) (by kernel_rfl) (by simp) ?_
            refine AllReadyH.cons (o := _) g10_3 (fun K hK => ?_) AllReadyH.nil
            go_simp
            refine hK.out _ _ (hS0.alloc hS0.size (.cells #[.int .u8 (m : Int)] 5)) (fun hSa => ?_)
            clear hK K
            have HOa := hide ((unhide HOc).alloc (.cells #[.int .u8 (m : Int)] 5))
            have hsb : (wc.alloc (.cells #[.int .u8 (m : Int)] 5)).cell? ⟨wc.heap.size, 0, none⟩ = some (.int .u8 (m : Int)) := by simp [go_sem]
            have hsl : wc.heap.size < (wc.alloc (.cells #[.int .u8 (m : Int)] 5)).heap.size := by simp
            clear hS0 HOc
            generalize wc.heap.size = sb at *
            generalize wc.alloc (.cells #[.int .u8 (m : Int)] 5) = wc at *
            have hS0 := hSa
            have HOc := HOa
            clear hSa HOa
            refine wpAnyH_ready (rs := [4]) (by kernel_rfl) (by simp) ?_
            refine AllReadyH.cons (o := _) g10_4 (fun K hK => ?_) AllReadyH.nil
            refine wp_append_own _ _ _ 35 rfl w1.heap.size 5 i0 (.int .u8 0) 1 1 Try.underlying35 hi hz0 hz1 hz2 rfl (by decide) (.slice q na k) na (Lib.byteCells acc) rfl (unhide HOc) ⟨sb, 0, none⟩ 1 1 [.int .u8 (m : Int)] rfl ?c14 ?c24 ?c34 ?c44 ?c54 ?c64 ?_
            case c14 => rfl
            case c24 =>
              intro j u hj
              match j, hj with
              | 0, hj => simp at hj; subst hj; simpa [Addr.add] using hsb
            case c34 => intro u hu; simp at hu; subst hu; rfl
            case c44 => unfold maxLen; omega
            case c54 => omega
            case c64 => exact hS0.size
            intro v' w4 hown' hgrow _
            obtain ⟨q1, k1, rfl⟩ := bd_slice0 hown'
            have hS4 : Below w1.heap.size w1 w4 := hS0.grown hgrow hS0.size (fun x hx => ((unhide HOc).lt x hx).1)
            refine hK.out _ _ hS4 (fun _ => ?_)
            clear hK K
            rw [one_cell' m hm6, ← byteCells_append] at hown'
            have HO1 := hide hown'
            clear hown' hgrow hS0 HOc hsb hsl
            have hS0 := hS4
            clear hS4
            generalize w4 = wc at *
            refine wpAnyH_ready (rs := [7]) (by kernel_rfl) (by simp) ?_
            refine AllReadyH.cons (o := _) g10_7 (fun K hK => ?_) AllReadyH.nil
            go_simp
            refine (unhide HC _ hS0).mono ?_
            rintro e wd ⟨⟨qh, ch, rfl, hoh⟩, hbd⟩
            refine hK.out _ _ (hS0.trans (hbd.mono hS0.size)) (fun hSa => ?_)
            clear hK K
            have HOa := hide (own_keep (unhide HO1) hbd)
            have HH := hide hoh
            clear hS0 HO1 hoh hbd
            have hS0 := hSa
            have HO1 := HOa
            clear hSa HOa
            generalize wd = wc at *
            refine wpAnyH_ready (rs := [8]) (by kernel_rfl) (by simp) ?_
            refine AllReadyH.cons (o := _) g10_8 (fun K hK => ?_) AllReadyH.nil
            refine wp_append_any _ _ rfl (unhide HO1) (unhide HH) rfl rfl (ys_one _) (by have h1 := unhide Hna; have h2 := unhide HN8; omega) hS0.size ?_
            intro v' w5 hown' hgrow
            obtain ⟨q2, k2, rfl⟩ := bd_slice0 hown'
            have hS5 : Below w1.heap.size w1 w5 := hS0.grown hgrow hS0.size (fun x hx => ((unhide HO1).lt x hx).1)
            refine hK.out _ _ hS5 (fun _ => ?_)
            clear hK K
            rw [← byteCells_append] at hown'
            have HO2 := hide hown'
            clear hown' hgrow hS0 HO1 HH
            have hS0 := hS5
            clear hS5
            refine wpAnyH_take (i := 9) (oi := _) (v := .slice q2 (na + 1 + nb w) k2) g10_9 (by kernel_rfl) (by kernel_rfl) (by kernel_rfl) (fun _ _ _ h => h) (Or.inl ⟨by rfl, ?_⟩) (by assumption) ?_
            · intro V hSw
              try dsimp only at hSw
              go_simp
            simp only [Act.put, List.setIfInBounds_toArray, List.set_cons_zero, List.set_cons_succ]
            refine wpAnyH_done (by kernel_rfl) ?_ _
            refine NoPanic.normal ?_
            have Hb5 := hide hS0
            clear hS0
            go_wp2
            go_roundw
            case rel => exact ⟨y + 1, na + 1 + nb w, q2, k2, acc ++ [UInt8.ofNat m] ++ holes (row f w y) w, by omega, by go_num, rfl, hide (by have := unhide Hna; simp [holes_len]; omega), unhide HO2, unhide Hb5, hide (by rw [← unhide Hacc, unhide Hst, ← unhide Hmm]; simp)⟩
            case measure => simp [intOf]; omega
    · obtain rfl : y = h := by omega
      have cl : ¬ ((y : Int) < (y : Int)) := by omega
      have Hb9 := hide (show acc = body f w y by have := unhide Hacc; rw [Nat.sub_self, cf, List.append_nil] at this; exact this)
      have HCk := hide (fun V (hV : V = wr) => rcheck_any q na k acc V (by omega) (by rw [hV]; exact own_ys (unhide HO)))
      have Hbt := hide (bl_lt acc)
      have Hpk := hide (show pk f w y = acc ++ [UInt8.ofNat (bl acc)] by unfold pk; rw [← unhide Hb9])
      have hsz := (unhide Hb).size
      generalize bl acc = m at *
      go_wp2_with fail
      clear c0 c1 c2
      refine (unhide HCk _ rfl).mono ?_
      rintro e wx ⟨rfl, hq⟩
      replace hq := hq.symm
      subst hq
      go_wp2_with (at_builtin; refine wpList_append_own _ rfl _ _ 35 rfl w1.heap.size 5 i0 (.int .u8 0) 1 1 Try.underlying35 hi hz0 hz1 hz2 rfl (by decide) _ _ _ rfl ((unhide HO).alloc _) ⟨wr.heap.size, 0, none⟩ 1 1 [.int .u8 (m : Int)] rfl rfl ?d1 ?d2 ?d3 ?d4 ?d5 ?_)
      case d1 =>
        intro j u hj
        match j, hj with
        | 0, hj => simp at hj; subst hj; simp [Addr.add]
      case d2 => intro u hu; simp at hu; subst hu; rfl
      case d3 => unfold maxLen; omega
      case d4 => omega
      case d5 => simp; omega
      intro v' w2' hown' hgrow _
      obtain ⟨q', cap', rfl⟩ := bd_slice0 hown'
      rw [one_cell' m (unhide Hbt), ← byteCells_append] at hown'
      have S9 := hide (show Below W.heap.size W w2' from btrans (unhide S1) ((bal' (unhide Hb) hsz).grown hgrow (by simp; omega) (fun x hx => ((unhide HO).lt x hx).1)))
      have Hst := hide (own_str hown')
      clear hown' hgrow HO Hb HCk
      go_wp2
      rw [unhide Hst]
      simp only [Result.andThen]
      rw [Oper.upon_value]
      go_wp2
      exact bodyPost_ret (v := .tuple #[.string ⟨(acc ++ [UInt8.ofNat m]).toArray⟩, .int .i64 0]) (by simp [results, Try.results7, go_sem]) rfl ⟨by rw [unhide Hpk], unhide S9⟩
end Go.Proofs.Ytkjicpbnkehimaa
