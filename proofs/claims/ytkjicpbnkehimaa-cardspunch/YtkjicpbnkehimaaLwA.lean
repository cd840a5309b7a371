/-
  CardsCheck: a closed fact that is asked first, and the law's walk.
-/
import Derived.Test.YtkjicpbnkehimaaCdF
import Derived.Test.YtkjicpbnkehimaaDkF
import Derived.Lib.ConvBytes
namespace Go.Proofs.Ytkjicpbnkehimaa
open Go.RowKit

def LawIs (F : Nat) (args : Array Value) (W : World) : Prop := Calls Try.prog F args W fun e V => e = .returned (.bool true) ∧ Below W.heap.size W V
theorem alive_len : (pk (fun _ => true) 1 1).length = 8 := by decide +kernel
set_option maxHeartbeats 1000000 in
theorem alive_any (W : World) : Calls Try.prog 11 #[] W fun e w' => e = .returned (.bool true) ∧ Below W.heap.size W w' := by
  have B0 := hide (bal (o := .cells #[.bool true] 4) (Below.refl W.heap.size W))
  have hR : Rt (W.alloc (.cells #[.bool true] 4)) 1 1 (some ⟨W.heap.size, 0, none⟩) 1 1 (fun _ => true) := ⟨by omega, by omega, rfl, Nat.le_refl _, .inr ⟨_, _, rfl, by simp, fun k hk => by
    obtain rfl : k = 0 := by omega
    simp [go_sem]⟩⟩
  have HP := hide (pack_ok hR)
  have Hl := hide (show (⟨(pk (fun _ => true) 1 1).toArray⟩ : ByteArray).size = 8 from alive_len)
  unfold PackIs at HP
  clear hR
  go_enter Try.func11, Try.ntmps11
  go_wp2_with fail
  generalize pk (fun _ => true) 1 1 = l at *
  refine (unhide HP).mono ?_
  rintro e w1 ⟨rfl, hb⟩
  have S1 := hide (btrans (unhide B0) hb)
  have hsz : ((({ data := l.toArray } : ByteArray).size : Int) == 8) = true := by rw [unhide Hl]; rfl
  have hsz2 : l.length = 8 := unhide Hl
  clear hb HP Hl
  go_wp2
  go_ret
  exact ⟨rfl, unhide S1⟩

/-- []byte(s) -/
theorem bytes_row (w : World) (s : ByteArray) : Below w.heap.size w (Lib.bytesWorld w 5 s) ∧ YRow (Lib.bytesWorld w 5 s) w.heap.size s.size (bya s.data.toList) := by
  refine ⟨⟨rfl, rfl, rfl, by rw [Lib.bytesWorld_size]; omega, fun k hk => Lib.bytesWorld_at_old w 5 s k hk⟩, by rw [Lib.bytesWorld_size]; omega, fun j hj => ⟨Lib.bytesWorld_cell w 5 s j hj, ?_⟩⟩
  have h1 := Lib.bytesWorld_at_new w 5 s
  have h2 : s.size ≤ (Lib.bytesCells w 5 s).size := by
    unfold Lib.bytesCells
    rw [Array.size_append, Array.size_map]
    exact Nat.le_add_right _ _
  unfold World.frozen?
  rw [h1]
  simp
  omega
theorem yset_bya {W : World} {b k : Nat} {l : List UInt8} (h : YRow W b k (bya l)) (hk : k = l.length) (i v : Nat) (hi : i < k) (hv : v < 256) : ∀ j, j < k → (W.setCell ⟨b, i, none⟩ (.int .u8 (v : Int))).cell? ⟨b, j, none⟩ = some (.int .u8 ((bya (l.set i (UInt8.ofNat v)) j : Nat) : Int)) := by
  intro j hj
  have h1 := ((h.set i v).2 j hj).1
  rw [h1]
  show some (Value.int .u8 (((if j = i then v else bya l j : Nat)) : Int)) = _
  have e : (if j = i then v else bya l j) = bya (l.set i (UInt8.ofNat v)) j := by
    unfold bya
    rw [List.getD_eq_getElem?_getD, List.getD_eq_getElem?_getD, List.getElem?_set]
    by_cases c : j = i
    · subst c
      rw [if_pos rfl, if_pos rfl, if_pos (by omega)]
      exact (toNat_ofNat v hv).symm
    · rw [if_neg c, if_neg (fun e => c e.symm)]
  rw [e]

set_option maxHeartbeats 2000000 in
theorem check_err (w h : Int) (p : Option Addr) (n cap : Nat) (i v : Int) (W : World) (h0 : wE w h n ≠ 0) : LawIs 5 #[tr w h p n cap, .int .i64 i, .int .i64 v] W := by
  unfold LawIs
  obtain ⟨er, he⟩ : ∃ er, wE w h n = er := ⟨_, rfl⟩
  rw [he] at h0
  have hr' : (er != 0) = true := by simp [h0]
  have HA := hide (fun V => alive_any V)
  have HP := hide (fun V => pack_err w h p n cap V er he hr')
  unfold PackIs at HP
  have HO := hide (OwnM.new W w h p n cap 24)
  have B0 := hide (bal (o := .cells #[.int .i64 w, .int .i64 h, .slice p n cap] 24) (Below.refl W.heap.size W))
  clear he h0
  go_enter Try.func5, Try.ntmps5
  go_wp2_with fail
  refine (unhide HA _).mono ?_
  rintro e w1 ⟨rfl, hb1⟩
  obtain ⟨k1, k2, k3, k4⟩ := (unhide HO).keep hb1
  have S1 := hide (btrans (unhide B0) hb1)
  clear hb1
  go_wp2_with fail
  refine (unhide HP _).mono ?_
  rintro e w2 ⟨rfl, hb2⟩
  have S2 := hide (btrans (unhide S1) hb2)
  clear hb2 k1 k2 k3 k4
  go_wp2
  go_ret
  exact ⟨rfl, unhide S2⟩

set_option maxRecDepth 100000 in
set_option maxHeartbeats 4000000 in
theorem check_ok {W : World} {w h : Nat} {p : Option Addr} {n cap : Nat} {f : Nat → Bool} (r : Rt W w h p n cap f) (i v : Int) : LawIs 5 #[tr w h p n cap, .int .i64 i, .int .i64 v] W := by
  unfold LawIs
  have hw := r.1
  have hh := r.2.1
  have HA := hide (fun V => alive_any V)
  have HT := hide (Tb.new r)
  have B0 := hide (bal (o := .cells #[.int .i64 w, .int .i64 h, .slice p n cap] 24) (Below.refl W.heap.size W))
  have hL6 : (pk f w h).length ≤ 582 := by have := body_len f w h hw hh; unfold pk; simp; omega
  have HW := hide (fun (a b : Nat) (u : UInt8) => one_wrong f w h a b u)
  clear r hw hh
  go_enter Try.func5, Try.ntmps5
  go_wp2_with fail
  generalize W.alloc (.cells #[.int .i64 w, .int .i64 h, .slice p n cap] 24) = w0 at *
  refine (unhide HA _).mono ?_
  rintro e w1 ⟨rfl, hb1⟩
  have HT1 := hide ((unhide HT).keep hb1)
  have S1 := hide (btrans (unhide B0) hb1)
  have HP := hide (pack_ok (unhide HT1).2)
  unfold PackIs at HP
  obtain ⟨k1, k2, k3, k4⟩ := (unhide HT1).1
  clear hb1 HT B0
  generalize pk f w h = P at *
  go_wp2_with fail
  refine (unhide HP).mono ?_
  rintro e w2 ⟨rfl, hb2⟩
  have S2 := hide (btrans (unhide S1) hb2)
  clear hb2 k1 k2 k3 k4 S1 HP HT1
  have hsz : (({ data := P.toArray } : ByteArray).size) = P.length := rfl
  by_cases c1 : i < 0
  · go_wp2
    go_ret
    exact ⟨rfl, unhide S2⟩
  · have d1 : decide (i < 0) = false := by simpa using c1
    by_cases c2 : (P.length : Int) ≤ i
    · go_wp2
      go_ret
      exact ⟨rfl, unhide S2⟩
    · have d2 : decide ((P.length : Int) ≤ i) = false := by simpa using c2
      by_cases c3 : v < 1
      · go_wp2
        go_ret
        exact ⟨rfl, unhide S2⟩
      · have d3 : decide (v < 1) = false := by simpa using c3
        by_cases c4 : 255 < v
        · go_wp2
          go_ret
          exact ⟨rfl, unhide S2⟩
        · have d4 : decide (255 < v) = false := by simpa using c4
          obtain ⟨a, rfl⟩ := Int.eq_ofNat_of_zero_le (show 0 ≤ i by omega)
          obtain ⟨b, rfl⟩ := Int.eq_ofNat_of_zero_le (show 0 ≤ v by omega)
          go_wp2
          rw [Lib.run_convert_string_bytes w2 9 35 5 ⟨P.toArray⟩ Try.underlying9 Try.underlying35 Try.underlying5]
          simp only [Result.andThen]
          rw [Oper.upon_value]
          obtain ⟨hb3, hY⟩ := bytes_row w2 ⟨P.toArray⟩
          rw [hsz] at hY
          rw [hsz]
          replace hY : YRow (Lib.bytesWorld w2 5 ⟨P.toArray⟩) w2.heap.size P.length (bya P) := hY
          generalize Lib.bytesWorld w2 5 ⟨P.toArray⟩ = w3 at *
          generalize grownCap w2 P.length 0 5 = gc at *
          have hg3 : W.heap.size ≤ w2.heap.size := (unhide S2).size
          have S3 := hide (btrans (unhide S2) hb3)
          obtain ⟨g, hg⟩ : ∃ g, g = w2.heap.size := ⟨_, rfl⟩
          rw [← hg] at hY hg3 ⊢
          have ha : a < P.length := by omega
          obtain ⟨u, hu⟩ : ∃ u : Nat, u = (bya P a + b) % 256 := ⟨_, rfl⟩
          have hu2 : u < 256 := by omega
          obtain ⟨x, hx⟩ := unhide HW a b (UInt8.ofNat u) ha (by omega) (by omega) (by rw [toNat_ofNat u hu2]; exact hu)
          have k1 := (hY.2 a ha).1
          have k2 := (hY.2 a ha).2
          have Hst := hide (run_str (c := gc) (l := P.set a (UInt8.ofNat u)) (by simp) (yset_bya hY rfl a u ha hu2))
          have hxl := bya_lt P a
          have e1 : ((bya P a : Int) + (b : Int)) % 256 = (u : Int) := by omega
          have S4 := hide (bset (p := ⟨g, a, none⟩) (u := .int .u8 (u : Int)) (unhide S3) hg3)
          have HU := hide (unpack_any ⟨(P.set a (UInt8.ofNat u)).toArray⟩ (by
            have e : (⟨(P.set a (UInt8.ofNat u)).toArray⟩ : ByteArray).size = (P.set a (UInt8.ofNat u)).length := rfl
            rw [e, List.length_set]; unfold maxLen; omega) (w3.setCell ⟨g, a, none⟩ (.int .u8 (u : Int))))
          have Hx := hide (show unp (⟨(P.set a (UInt8.ofNat u)).toArray⟩ : ByteArray).data.toList = .inl x from hx)
          clear hY hg hu hx hb3 S3 S2 HW
          generalize bya P a = y at *
          generalize P.set a (UInt8.ofNat u) = P2 at *
          go_wp2
          rw [unhide Hst]
          simp only [Result.andThen]
          rw [Oper.upon_value]
          clear k1 k2
          generalize w3.setCell ⟨g, a, none⟩ (.int .u8 (u : Int)) = w4 at *
          go_wp2_with fail
          refine (unhide HU).mono ?_
          rintro e w5 ⟨hb5, hcase⟩
          rcases hcase with ⟨x2, -, rfl⟩ | ⟨ww, hh, gg, q, cp, hun, -, -⟩
          · have S5 := hide (btrans (unhide S4) hb5)
            clear hb5
            go_wp2
            go_ret
            exact ⟨rfl, by repeat first | exact unhide S5 | refine bal ?_ | refine bset ?_ (by have := (unhide S5).size; simp; try omega)⟩
          · rw [unhide Hx] at hun; cases hun
theorem checks_any (w h : Int) (p : Option Addr) (n cap : Nat) (f : Nat → Bool) (i v : Int) (W : World) (hc : Bs W p n cap f) : LawIs 5 #[tr w h p n cap, .int .i64 i, .int .i64 v] W := by
  by_cases h0 : wE w h n = 0
  · obtain ⟨w', h', rfl, rfl, b1, b2, b3⟩ := wE_zero w h n h0
    exact check_ok ⟨b1, b2, b3, hc⟩ i v
  · exact check_err w h p n cap i v W h0
end Go.Proofs.Ytkjicpbnkehimaa
