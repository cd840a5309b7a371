/-
  ClothTurned: the law's walk.
-/
import Derived.Test.YtbbilogkblmniaaTuM
import Derived.Test.YtbbilogkblmniaaClF
namespace Go.Proofs.Ytbbilogkblmniaa
open Go.RowKit

/-- truths in a box that may be written -/
def OwnW (W : World) (b : Nat) (w h : Int) (p : Option Addr) (n cap : Nat) : Prop := OwnM W b w h p n cap ∧ W.frozen? ⟨b, 2, none⟩ = false
theorem OwnW.keep {W w1 : World} {b : Nat} {w h : Int} {p : Option Addr} {n cap : Nat} (k : OwnW W b w h p n cap) (hb : Below W.heap.size W w1) : OwnW w1 b w h p n cap := ⟨k.1.keep hb, keepF hb k.1.1 k.2⟩
theorem OwnW.grown {a c : World} {row : Option Nat} {b : Nat} {w h : Int} {p : Option Addr} {n cap : Nat} (k : OwnW a b w h p n cap) (hg : a.grownBy c row) (hne : some b ≠ row) : OwnW c b w h p n cap := ⟨k.1.grown hg hne, gfroz hg k.1.1 hne k.2⟩
theorem OwnW.set {W : World} {b : Nat} {w h : Int} {p : Option Addr} {n cap : Nat} (k : OwnW W b w h p n cap) (p' : Option Addr) (n' cap' : Nat) : OwnW (W.setCell ⟨b, 2, none⟩ (.slice p' n' cap')) b w h p' n' cap' := by
  obtain ⟨⟨k0, k1, k2, k3⟩, k4⟩ := k
  exact ⟨⟨by simpa using k0, by rw [World.cell?_setCell_other _ _ _ _ (by intro e; cases e)]; exact k1, by rw [World.cell?_setCell_other _ _ _ _ (by intro e; cases e)]; exact k2, World.cell?_setCell_same' _ _ _ (by rw [k3]; rfl)⟩, by rw [World.frozen?_setCell]; exact k4⟩

set_option maxRecDepth 100000 in
set_option maxHeartbeats 4000000 in
theorem turn_any (w h : Int) (p : Option Addr) (n cap : Nat) (f : Nat → Bool) (W : World) (hB : Bs W p n cap f) (hn : n ≤ 140737488355328) : LawIs 6 #[tr w h p n cap] W := by
  unfold LawIs
  obtain ⟨i0, hi, hz0, hz1, hz2⟩ := info_parts info4
  have HA := hide (fun V => alive_any V)
  have HO := hide (OwnM.new W w h p n cap 24)
  have B0 := hide (bal (o := .cells #[.int .i64 w, .int .i64 h, .slice p n cap] 24) (Below.refl W.heap.size W))
  have HB := hide (hB.keep (unhide B0))
  clear hB
  go_enter Try.func6, Try.ntmps6
  go_wp2_with fail
  generalize W.alloc (.cells #[.int .i64 w, .int .i64 h, .slice p n cap] 24) = w0 at *
  refine (unhide HA _).mono ?_
  rintro e w1 ⟨rfl, hb1⟩
  have HO1 := hide ((unhide HO).keep hb1)
  have HB1 := hide ((unhide HB).keep hb1)
  have S1 := hide (btrans (unhide B0) hb1)
  obtain ⟨k0, k1, k2, k3⟩ := (unhide HO1)
  clear hb1 HO HB B0
  go_wp2
  have HW0 := hide (show OwnW (w1.alloc (.cells #[.int .i64 w, .int .i64 h, .slice none 0 0] 24)) w1.heap.size w h none 0 0 from ⟨OwnM.new w1 w h none 0 0 24, by simp [go_sem]⟩)
  have S2 := hide (bal (o := .cells #[.int .i64 w, .int .i64 h, .slice none 0 0] 24) (Below.refl w1.heap.size w1))
  have hsz2 : (w1.alloc (.cells #[.int .i64 w, .int .i64 h, .slice none 0 0] 24)).heap.size = w1.heap.size + 1 := by simp
  have Hsz2 := hide hsz2
  clear hsz2 k0 k1 k2 k3
  generalize w1.alloc (.cells #[.int .i64 w, .int .i64 h, .slice none 0 0] 24) = wa at *
  obtain ⟨bn, hbn⟩ : ∃ b, b = w1.heap.size := ⟨_, rfl⟩
  rw [← hbn] at HW0 Hsz2
  rw [← hbn]
  have Hbn := hide hbn
  clear hbn
  go_loopw [24] (fun i wr => ∃ (x cp : Nat) (q : Option Addr), x ≤ n ∧ i = .int .i64 x ∧ OwnW wr bn w h q x cp ∧ wr.ownsRow (bn + 1) 4 1 (.slice q x cp) x (bitsV (nt f) x) ∧ bn < wr.heap.size ∧ Below w1.heap.size w1 wr) (fun i _ => n - (intOf i).toNat)
  case atStart => exact ⟨0, 0, none, Nat.zero_le _, rfl, unhide HW0, World.ownsRow_nil _ _ _ _, by rw [unhide Hsz2]; omega, unhide S2⟩
  case round =>
    clear HW0 S2 Hsz2
    obtain ⟨x, cp, q, hx, rfl, hW, hown, hbw, hb⟩ := hrel
    have HW := hide hW
    have Hb := hide hb
    have HOw := hide hown
    clear hb hW hown
    by_cases hlt : x < n
    · have q1 : (x : Int) < (n : Int) := by omega
      have q2 : (0 : Int) ≤ (x : Int) := by omega
      obtain ⟨b1, o1, rfl, l1, c1⟩ := bs_at ((unhide HB1).keep (unhide Hb)) hlt
      obtain ⟨⟨m0, m1, m2, m3⟩, m4⟩ := unhide HW
      have Hsu := hide (bitsV_succ (nt f) x)
      have Hnt := hide (show nt f x = !f x from rfl)
      generalize f x = v at *
      have hO1 := unhide HOw
      have hx63 : x + 1 ≤ 140737488355328 := by omega
      go_wp2_with (at_builtin; refine wpList_append_own _ rfl _ _ 22 rfl (bn + 1) 4 i0 (.bool false) 1 1 Try.underlying22 hi hz0 hz1 hz2 rfl (by decide) _ _ _ rfl (hO1.alloc _) ⟨wr.heap.size, 0, none⟩ 1 1 [.bool (!v)] rfl rfl (cell_one_new _ _ _) (by simp [Value.oneCell']) (by unfold maxLen; omega) (by omega) (by simp; omega) ?_)
      intro v' w4 hown' hgrow _
      have B1 := bal (o := .cells #[.bool (!v)] 4) (Below.refl wr.heap.size wr)
      have hW4 := ((unhide HW).keep B1).grown hgrow (fun e => by have := (hO1.lt bn e.symm).1; omega)
      have S4 := (btrans (unhide Hb) B1).grown hgrow (by have h1 := (btrans (unhide Hb) B1).size; exact h1) (fun k hk => by have := (hO1.lt k hk).1; have := unhide Hbn; omega)
      obtain ⟨q', cap', rfl⟩ := own_form hown'
      obtain ⟨⟨j0, j1, j2, j3⟩, j4⟩ := hW4
      have HW5 := hide ((show OwnW w4 bn w h q x cp from ⟨⟨j0, j1, j2, j3⟩, j4⟩).set q' (x + 1) cap')
      have HO5 := hide (ownsRow_setCell_below hown' (a := ⟨bn, 2, none⟩) (Nat.lt_succ_self _) (.slice q' (x + 1) cap'))
      have Hb5 := hide (bset (p := ⟨bn, 2, none⟩) (u := .slice q' (x + 1) cap') S4 (by rw [unhide Hbn]; exact Nat.le_refl _))
      have hbw5 : bn < w4.heap.size := j0
      clear hO1 hown' hgrow S4 B1 c1 m0 m1 m2 m3 m4 HW HOw Hb
      go_wp2
      go_roundw
      case rel => exact ⟨x + 1, cap', q', by omega, by go_num, unhide HW5, by rw [unhide Hsu, unhide Hnt]; exact unhide HO5, by simpa using hbw5, unhide Hb5⟩
      case measure => simp [intOf]; omega
    · obtain rfl : n = x := by omega
      have cl : ¬ ((n : Int) < (n : Int)) := by omega
      have HBn := hide (own_bs (unhide HOw))
      have HBm := hide ((unhide HB1).keep (unhide Hb))
      have HM := hide ((unhide HO1).keep (unhide Hb))
      have HWn := hide (unhide HW).1
      have S5 := hide (btrans (unhide S1) (unhide Hb))
      clear HW HOw Hb hlt
      by_cases h0 : cE w h n = 0
      · obtain ⟨w', h', rfl, rfl, e1, e2, e3, e4⟩ := cE_zero h0
        have HH := hide (show ∀ V, Below wr.heap.size wr V → HangsIs w' h' p n cap V (hgB f w' h') 0 from fun V hV => hangs_ok ⟨e1, e2, e3, (unhide HBm).keep hV⟩ e4)
        have HH2 := hide (show ∀ V, Below wr.heap.size wr V → HangsIs w' h' q n cp V (hgB f w' h') 0 from fun V hV => by have := hangs_ok ⟨e1, e2, e3, (unhide HBn).keep hV⟩ e4; rw [hg_nt] at this; exact this)
        have HL := hide (show ∀ V, Below wr.heap.size wr V → LayersOk 11 w' h' p n cap V (lyL f w' h') from fun V hV => layers_ok ⟨e1, e2, e3, (unhide HBm).keep hV⟩ e4)
        have HL2 := hide (show ∀ V, Below wr.heap.size wr V → LayersOk 11 w' h' q n cp V (lyL (nt f) w' h') from fun V hV => layers_ok ⟨e1, e2, e3, (unhide HBn).keep hV⟩ e4)
        have Hll := hide (ly_nt f w' h')
        generalize hgB f w' h' = ok at *
        have gok : (ok == ok) = true := by simp
        clear h0 e1 e2 e3 e4
        obtain ⟨m0, m1, m2, m3⟩ := unhide HM
        go_wp2_with fail
        refine (unhide HH _ (Below.refl _ _)).mono ?_
        rintro e w5 ⟨rfl, hb5⟩
        have T5 := hide hb5
        obtain ⟨j0, j1, j2, j3⟩ := (unhide HWn).keep hb5
        clear hb5 m0 m1 m2 m3
        go_wp2_with fail
        refine (unhide HH2 _ (unhide T5)).mono ?_
        rintro e w6 ⟨rfl, hb6⟩
        have T6 := hide (btrans (unhide T5) hb6)
        obtain ⟨m0, m1, m2, m3⟩ := (unhide HM).keep (unhide T6)
        clear hb6 j0 j1 j2 j3
        go_wp2_with fail
        refine (unhide HL _ (unhide T6)).mono ?_
        rintro e w7 ⟨q7, c7, l7, rfl, hl7, _, hb7⟩
        have T7 := hide (btrans (unhide T6) hb7)
        have Hl7 := hide hl7
        obtain ⟨j0, j1, j2, j3⟩ := (unhide HWn).keep (unhide T7)
        clear hb7 hl7 m0 m1 m2 m3
        go_wp2_with fail
        refine (unhide HL2 _ (unhide T7)).mono ?_
        rintro e w8 ⟨q8, c8, l8, rfl, hl8, _, hb8⟩
        have T8 := hide (btrans (unhide S5) (btrans (unhide T7) hb8))
        obtain rfl : l8 = l7 := by rw [hl8, unhide Hll, unhide Hl7]
        have gl : ((l8 : Int) == (l8 : Int)) = true := by simp
        clear hb8 hl8 j0 j1 j2 j3
        go_wp2
        go_ret
        exact ⟨rfl, unhide T8⟩
      · obtain ⟨er, he⟩ : ∃ er, cE w h n = er := ⟨_, rfl⟩
        rw [he] at h0
        have HH := hide (fun V => hangs_err w h p n cap V er he h0)
        have HH2 := hide (fun V => hangs_err w h q n cp V er he h0)
        have HL := hide (fun V => layers_err w h p n cap V er he h0)
        have HL2 := hide (fun V => layers_err w h q n cp V er he h0)
        have gr : (er == er) = true := by simp
        clear he h0
        obtain ⟨m0, m1, m2, m3⟩ := unhide HM
        go_wp2_with fail
        refine (unhide HH _).mono ?_
        rintro e w5 ⟨rfl, hb5⟩
        have T5 := hide hb5
        obtain ⟨j0, j1, j2, j3⟩ := (unhide HWn).keep hb5
        clear hb5 m0 m1 m2 m3
        go_wp2_with fail
        refine (unhide HH2 _).mono ?_
        rintro e w6 ⟨rfl, hb6⟩
        have T6 := hide (btrans (unhide T5) hb6)
        obtain ⟨m0, m1, m2, m3⟩ := (unhide HM).keep (unhide T6)
        clear hb6 j0 j1 j2 j3
        go_wp2_with fail
        refine (unhide HL _).mono ?_
        rintro e w7 ⟨rfl, hb7⟩
        have T7 := hide (btrans (unhide T6) hb7)
        obtain ⟨j0, j1, j2, j3⟩ := (unhide HWn).keep (unhide T7)
        clear hb7 m0 m1 m2 m3
        go_wp2_with fail
        refine (unhide HL2 _).mono ?_
        rintro e w8 ⟨rfl, hb8⟩
        have T8 := hide (btrans (unhide S5) (btrans (unhide T7) hb8))
        clear hb8 j0 j1 j2 j3
        go_wp2
        go_ret
        exact ⟨rfl, unhide T8⟩
end Go.Proofs.Ytbbilogkblmniaa
