/-
  The walk of ChartTurns: it answers true.
-/
import Derived.Test.YtncjbmafefeajabDoorTurnsA
namespace Go.Proofs.YtncjbmafefeajabDoor
open Go.RowKit

theorem rowx_keep {W w1 : World} {p : Option Addr} {n : Nat} {px : Nat → Int} (h : ∃ b o, p = some ⟨b, o, none⟩ ∧ Row W b o n px) (hb : Below W.heap.size W w1) : ∃ b o, p = some ⟨b, o, none⟩ ∧ Row w1 b o n px := by
  obtain ⟨b, o, e, r⟩ := h
  exact ⟨b, o, e, r.keep hb⟩

set_option maxHeartbeats 4000000 in
set_option maxRecDepth 100000 in
theorem turns_walk (g w h : Int) (p : Option Addr) (n cap : Nat) (px : Nat → Int) (s : ByteArray) (W : World) (hc : Cells W p n px) (hcap : n ≤ cap) (hmax : cap ≤ 9223372036854775807) (hT : Tabs W) :
    Calls Tryd.prog 4 #[ch g w h p n cap, .string s] W fun e w' => e = .returned (.bool true) ∧ Below W.heap.size W w' := by
  have B0 := bal (o := .cells #[.int .i64 g, .int .i64 w, .int .i64 h, .slice p n cap] 24) (Below.refl W.heap.size W)
  have T0 := hT.keep B0
  have HA := hide (alive_any _ T0)
  have K0 := hc.keep B0
  have C0 := OwnC.new W g w h p n cap 24
  have H8 := hide (fun V (hc : Cells V p n px) (hT : Tab V) => print_any g w h p n cap px V hc hcap hmax hT)
  have HB := hide B0
  clear hT B0 hcap hmax
  by_cases e : wE g w h n px = 0
  · obtain ⟨hg, hw, hh, hn, hcol, b0, o0, hp0, r0⟩ := wE_zero g w h p n px W hc e
    have hn4 : n ≤ 4096 := by
      have := Int.mul_le_mul (a := w) (b := h) (c := 64) (d := 64) (by omega) (by omega) (by omega) (by omega)
      omega
    have hps : prS g w h n px = ⟨(printT g px w.toNat h.toNat).toArray⟩ := by unfold prS; rw [if_pos e]
    have hnn : n = w.toNat * h.toNat := by
      have e1 : w = (w.toNat : Int) := by omega
      have e2 : h = (h.toNat : Int) := by omega
      rw [e1, e2] at hn
      exact_mod_cast hn
    have HR := hide (print_read g w.toNat h.toNat n px hg (by omega) (by omega) hnn hcol)
    rw [show ((w.toNat : Nat) : Int) = w by omega, show ((h.toNat : Nat) : Int) = h by omega] at HR
    rw [e, hps] at H8
    have K0 : ∃ b o, p = some ⟨b, o, none⟩ ∧ Row (W.alloc (.cells #[.int .i64 g, .int .i64 w, .int .i64 h, .slice p n cap] 24)) b o n px := by
      rcases K0 with hz | k
      · have := Int.mul_le_mul (a := 1) (b := 1) (c := w) (d := h) (by omega) (by omega) (by omega) (by omega)
        omega
      · exact k
    have H8 := hide (fun V (hc : ∃ b o, p = some ⟨b, o, none⟩ ∧ Row V b o n px) => unhide H8 V (Or.inr hc))
    generalize printT g px w.toNat h.toNat = ps at *
    clear hc e hps hg hw hh hn hcol b0 o0 hp0 r0 hnn
    rcases read_cases s with ⟨g', rows, ht⟩ | ⟨er, at', her, hF⟩
    · obtain ⟨w', k, qx, hk1, hE, hP0, hF⟩ := read_print s g' rows ht
      have HF := hide hF
      have HE := hide hE
      have HP0 := hide hP0
      clear ht hF hE hP0
      generalize ((w' : Nat) : Int) = w' at *
      generalize ((rows.length : Nat) : Int) = h' at *
      go_enter Tryd.func4, Tryd.ntmps4
      go_wp2_with fail
      generalize W.alloc (.cells #[.int .i64 g, .int .i64 w, .int .i64 h, .slice p n cap] 24) = w0 at *
      refine (unhide HA).mono ?_
      rintro e w1 ⟨rfl, hb⟩
      have c := (C0.keep hb).2
      have K1 := rowx_keep K0 hb
      have T1 := T0.keep hb
      have S1 := btrans (unhide HB) hb
      have C1 := C0.keep hb
      clear hb HA K0 T0 C0 HB
      go_wp2_with fail
      clear c
      refine (unhide H8 _ K1 T1.1).mono ?_
      rintro e w2 ⟨rfl, hb⟩
      have T2 := T1.keep hb
      have S2 := btrans S1 hb
      have C2 := C1.keep hb
      have K2 := rowx_keep K1 hb
      clear hb K1 T1 S1 C1
      go_wp2_with fail
      refine (unhide HR _ T2).mono ?_
      rintro e w3 ⟨q3, cap3, rfl, row3, hb⟩
      have T3 := T2.keep hb
      have S3 := btrans S2 hb
      have C3 := C2.keep hb
      obtain ⟨b0, o0, hp0, r2⟩ := K2
      have r3 := r2.keep hb
      clear hb T2 S2 C2 r2
      subst hp0
      have B4 := bal (o := .cells #[.int .i64 0, .int .i64 0] 36) (bal (o := .cells #[.int .i64 g, .int .i64 w, .int .i64 h, .slice (some ⟨q3, 0, none⟩) n cap3] 24) (Below.refl w3.heap.size w3))
      have HSm := hide (same_any g w h b0 o0 n cap q3 0 cap3 px _ hn4 (r3.keep B4) (row3.keep B4))
      have T4 := T3.keep B4
      have S4 := btrans S3 B4
      have c := (C3.keep B4).2
      clear T3 S3 C3 r3 row3 B4
      go_wp2_with fail
      clear c
      refine (unhide HSm).mono ?_
      rintro e w5 ⟨rfl, hb⟩
      have T5 := T4.keep hb
      have S5 := btrans S4 hb
      clear hb T4 S4 HSm
      go_wp2_with fail
      refine (unhide HF _ T5).mono ?_
      rintro e w6 ⟨q6, cap6, rfl, row6, hcap6, hb⟩
      have T6 := T5.keep hb
      have S6 := btrans S5 hb
      have B7 := bal (o := .cells #[.int .i64 0, .int .i64 0] 36) (bal (o := .cells #[.int .i64 g', .int .i64 w', .int .i64 h', .slice (some ⟨q6, 0, none⟩) k cap6] 24) (Below.refl w6.heap.size w6))
      have T7 := T6.keep B7
      have S7 := btrans S6 B7
      have HP := hide (print_any g' w' h' (some ⟨q6, 0, none⟩) k cap6 qx _ (Or.inr ⟨q6, 0, rfl, row6.keep B7⟩) hcap6.1 hcap6.2 T7.1)
      rw [unhide HE, unhide HP0] at HP
      clear hb T5 S5 T6 S6 row6 B7 T7
      go_wp2_with fail
      refine (unhide HP).mono ?_
      rintro e w8 ⟨rfl, hb⟩
      have S8 := btrans S7 hb
      clear hb HP S7
      go_wp2
      go_ret
      exact ⟨rfl, S8⟩
    · have HF := hide hF
      have her' : (er != 0) = true := by simp [her]
      clear hF
      go_enter Tryd.func4, Tryd.ntmps4
      go_wp2_with fail
      generalize W.alloc (.cells #[.int .i64 g, .int .i64 w, .int .i64 h, .slice p n cap] 24) = w0 at *
      refine (unhide HA).mono ?_
      rintro e w1 ⟨rfl, hb⟩
      have c := (C0.keep hb).2
      have K1 := rowx_keep K0 hb
      have T1 := T0.keep hb
      have S1 := btrans (unhide HB) hb
      have C1 := C0.keep hb
      clear hb HA K0 T0 C0 HB
      go_wp2_with fail
      clear c
      refine (unhide H8 _ K1 T1.1).mono ?_
      rintro e w2 ⟨rfl, hb⟩
      have T2 := T1.keep hb
      have S2 := btrans S1 hb
      have C2 := C1.keep hb
      have K2 := rowx_keep K1 hb
      clear hb K1 T1 S1 C1
      go_wp2_with fail
      refine (unhide HR _ T2).mono ?_
      rintro e w3 ⟨q3, cap3, rfl, row3, hb⟩
      have T3 := T2.keep hb
      have S3 := btrans S2 hb
      have C3 := C2.keep hb
      obtain ⟨b0, o0, hp0, r2⟩ := K2
      have r3 := r2.keep hb
      clear hb T2 S2 C2 r2
      subst hp0
      have B4 := bal (o := .cells #[.int .i64 0, .int .i64 0] 36) (bal (o := .cells #[.int .i64 g, .int .i64 w, .int .i64 h, .slice (some ⟨q3, 0, none⟩) n cap3] 24) (Below.refl w3.heap.size w3))
      have HSm := hide (same_any g w h b0 o0 n cap q3 0 cap3 px _ hn4 (r3.keep B4) (row3.keep B4))
      have T4 := T3.keep B4
      have S4 := btrans S3 B4
      have c := (C3.keep B4).2
      clear T3 S3 C3 r3 row3 B4
      go_wp2_with fail
      clear c
      refine (unhide HSm).mono ?_
      rintro e w5 ⟨rfl, hb⟩
      have T5 := T4.keep hb
      have S5 := btrans S4 hb
      clear hb T4 S4 HSm
      go_wp2_with fail
      refine (unhide HF _ T5).mono ?_
      rintro e w6 ⟨rfl, hb⟩
      have S6 := bal (o := .cells #[.int .i64 er, .int .i64 at'] 36) (bal (o := .cells #[.int .i64 0, .int .i64 0, .int .i64 0, .slice none 0 0] 24) (btrans S5 hb))
      clear hb S5 T5
      go_wp2
      go_ret
      exact ⟨rfl, S6⟩
  · have hp1 := wE_pos g w h n px e
    have hp2 : (wE g w h n px == 0) = false := by simp [e]
    generalize wE g w h n px = ee at *
    generalize prS g w h n px = ps at *
    clear hc e
    rcases read_cases s with ⟨g', rows, ht⟩ | ⟨er, at', her, hF⟩
    · obtain ⟨w', k, qx, hk1, hE, hP0, hF⟩ := read_print s g' rows ht
      have HF := hide hF
      have HE := hide hE
      have HP0 := hide hP0
      clear ht hF hE hP0
      generalize ((w' : Nat) : Int) = w' at *
      generalize ((rows.length : Nat) : Int) = h' at *
      go_enter Tryd.func4, Tryd.ntmps4
      go_wp2_with fail
      generalize W.alloc (.cells #[.int .i64 g, .int .i64 w, .int .i64 h, .slice p n cap] 24) = w0 at *
      refine (unhide HA).mono ?_
      rintro e w1 ⟨rfl, hb⟩
      have c := (C0.keep hb).2
      have K1 := Cells.keep K0 hb
      have T1 := T0.keep hb
      have S1 := btrans (unhide HB) hb
      have C1 := C0.keep hb
      clear hb HA K0 T0 C0 HB
      go_wp2_with fail
      clear c
      refine (unhide H8 _ K1 T1.1).mono ?_
      rintro e w2 ⟨rfl, hb⟩
      have T2 := T1.keep hb
      have S2 := btrans S1 hb
      have C2 := C1.keep hb
      have K2 := Cells.keep K1 hb
      clear hb K1 T1 S1 C1
      have T5 := T2
      have S5 := S2
      clear T2 S2 C2 K2
      go_wp2_with fail
      refine (unhide HF _ T5).mono ?_
      rintro e w6 ⟨q6, cap6, rfl, row6, hcap6, hb⟩
      have T6 := T5.keep hb
      have S6 := btrans S5 hb
      have B7 := bal (o := .cells #[.int .i64 0, .int .i64 0] 36) (bal (o := .cells #[.int .i64 g', .int .i64 w', .int .i64 h', .slice (some ⟨q6, 0, none⟩) k cap6] 24) (Below.refl w6.heap.size w6))
      have T7 := T6.keep B7
      have S7 := btrans S6 B7
      have HP := hide (print_any g' w' h' (some ⟨q6, 0, none⟩) k cap6 qx _ (Or.inr ⟨q6, 0, rfl, row6.keep B7⟩) hcap6.1 hcap6.2 T7.1)
      rw [unhide HE, unhide HP0] at HP
      clear hb T5 S5 T6 S6 row6 B7 T7
      go_wp2_with fail
      refine (unhide HP).mono ?_
      rintro e w8 ⟨rfl, hb⟩
      have S8 := btrans S7 hb
      clear hb HP S7
      go_wp2
      go_ret
      exact ⟨rfl, S8⟩
    · have HF := hide hF
      have her' : (er != 0) = true := by simp [her]
      clear hF
      go_enter Tryd.func4, Tryd.ntmps4
      go_wp2_with fail
      generalize W.alloc (.cells #[.int .i64 g, .int .i64 w, .int .i64 h, .slice p n cap] 24) = w0 at *
      refine (unhide HA).mono ?_
      rintro e w1 ⟨rfl, hb⟩
      have c := (C0.keep hb).2
      have K1 := Cells.keep K0 hb
      have T1 := T0.keep hb
      have S1 := btrans (unhide HB) hb
      have C1 := C0.keep hb
      clear hb HA K0 T0 C0 HB
      go_wp2_with fail
      clear c
      refine (unhide H8 _ K1 T1.1).mono ?_
      rintro e w2 ⟨rfl, hb⟩
      have T2 := T1.keep hb
      have S2 := btrans S1 hb
      have C2 := C1.keep hb
      have K2 := Cells.keep K1 hb
      clear hb K1 T1 S1 C1
      have T5 := T2
      have S5 := S2
      clear T2 S2 C2 K2
      go_wp2_with fail
      refine (unhide HF _ T5).mono ?_
      rintro e w6 ⟨rfl, hb⟩
      have S6 := bal (o := .cells #[.int .i64 er, .int .i64 at'] 36) (bal (o := .cells #[.int .i64 0, .int .i64 0, .int .i64 0, .slice none 0 0] 24) (btrans S5 hb))
      clear hb S5 T5
      go_wp2
      go_ret
      exact ⟨rfl, S6⟩
end Go.Proofs.YtncjbmafefeajabDoor
