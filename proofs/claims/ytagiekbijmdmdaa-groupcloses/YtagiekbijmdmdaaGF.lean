/-
  What images of package group answers: of each cell's point, where a mirror and a turn take it, on the torus.
-/
import Derived.Test.YtagiekbijmdmdaaGE
namespace Go.Proofs.Ytagiekbijmdmdaa
open Go.RowKit

set_option maxHeartbeats 2000000 in
set_option maxRecDepth 100000 in
theorem images_any (g : Int) (n : Nat) (q : Option Addr) (k cap : Nat) (t : Nat) (f : Bool) (w : World) (hg : g = 4 ∨ g = 6) (ht : (t : Int) < g) (hn : 1 ≤ n ∧ n ≤ 24) (hk : k = n * n) :
    Calls Try.prog 44 #[tv g n q k cap, .int .i64 t, .bool f] w fun e w' => ∃ b, e = .returned (.slice (some ⟨b, 0, none⟩) k k) ∧ PRow w' b k (imX g t f n) (imY g t f n) ∧ (PKind w' b ∧ w.heap.size ≤ b) ∧ Below w.heap.size w w' := by
  have hk5 : k ≤ 576 := by rw [hk]; exact Nat.mul_le_mul hn.2 hn.2
  have hk1 : 1 ≤ k := by rw [hk]; exact Nat.mul_pos hn.1 hn.1
  have Hk := hide hk
  have Hg := hide hg
  clear hk hg
  obtain ⟨i0, hi, hz0, hz1, hz2⟩ := info_parts info33
  have T0 := (OwnT.new w g n q k cap 66).alloc (.cells #[.int .i64 t, .bool f, .int .i64 0, .int .i64 0] 45)
  have M0 := OwnM.new (w.alloc (.cells #[.int .i64 g, .int .i64 n, .slice q k cap] 66)) t f 0 0 45
  have B0 := hide (bal (o := .cells #[.int .i64 t, .bool f, .int .i64 0, .int .i64 0] 45) (bal (o := .cells #[.int .i64 g, .int .i64 n, .slice q k cap] 66) (Below.refl w.heap.size w)))
  rw [World.size_alloc] at M0
  have hsz : ((w.alloc (.cells #[.int .i64 g, .int .i64 n, .slice q k cap] 66)).alloc (.cells #[.int .i64 t, .bool f, .int .i64 0, .int .i64 0] 45)).heap.size = w.heap.size + 2 := by simp
  have hby : i0.bytes * k ≤ 281474976710656 := by rw [hz2]; omega
  have hml : k ≤ maxLen := by unfold maxLen; omega
  go_enter Try.func44, Try.ntmps44
  go_wp2_with (refine wpList_make_full _ rfl _ _ 36 rfl w.heap.size 33 i0 _ 2 Try.underlying36 hi hz0 hz1 .i64 .i64 (k : Int) (k : Int) k rfl rfl rfl rfl hby hml (by simp; omega) ?_)
  intro wm hown hgrow
  generalize (w.alloc (.cells #[.int .i64 g, .int .i64 n, .slice q k cap] 66)).alloc (.cells #[.int .i64 t, .bool f, .int .i64 0, .int .i64 0] 45) = w0 at *
  obtain ⟨P0, F0⟩ := prow_made (fx := imX g t f n) (fy := imY g t f n) hown
  have K0 : PKind wm (w.heap.size + 2) := Lib.ownsRow_kind hown _ rfl
  have S0 := (Below.refl w0.heap.size w0).grown hgrow (Nat.le_refl _) (fun k hk => by cases hk)
  have T1 := T0.keep S0
  have M1 : CM wm (w.heap.size + 1) t f 0 0 := (M0.keep S0).2.1
  have S1 := hide (btrans (unhide B0) S0)
  have hzm : w.heap.size + 2 < wm.heap.size := P0.1
  clear hown hgrow S0 T0 M0 B0 hsz hby hml
  go_wp2
  go_loopw [21] (fun v wr => ∃ i : Nat, i ≤ k ∧ v = .int .i64 i ∧ PRow wr (w.heap.size + 2) k (upTo i (imX g t f n)) (upTo i (imY g t f n)) ∧ PFree wr (w.heap.size + 2) k ∧ PKind wr (w.heap.size + 2) ∧ Below (w.heap.size + 2) wm wr) (fun v _ => k - (intOf v).toNat)
  case atStart => exact ⟨0, Nat.zero_le _, rfl, P0, F0, K0, Below.refl _ _⟩
  case round =>
    clear P0 F0 K0
    obtain ⟨i, hik, rfl, P, F, PK, hbel⟩ := hrel
    have HPK := hide PK
    clear PK
    by_cases hlt : i < k
    · have T2 := (T1.below hbel (by omega) (by have := hbel.size; omega)).2
      have M2 := M1.below hbel (by omega)
      have HP := hide (fun V => point_any g n q k cap i V (by omega) (by omega))
      obtain ⟨hx, hy⟩ := cell_xy i n hn.1 (by rw [← unhide Hk]; exact hlt)
      have HA := hide (apply_small g t f 0 0 ((i : Int) % n) ((i : Int) / n) (unhide Hg) (by omega) (by omega) (by omega) (by omega) (by omega))
      rw [Int.toNat_natCast] at HA
      have HO := hide (fun V => onto_any g n q k cap (mv g t f 0 0 ((i : Int) % n) ((i : Int) / n)).1 (mv g t f 0 0 ((i : Int) % n) ((i : Int) / n)).2 V (by omega))
      have EX := hide (show imX g t f n i = (mv g t f 0 0 ((i : Int) % n) ((i : Int) / n)).1 % n from rfl)
      have EY := hide (show imY g t f n i = (mv g t f 0 0 ((i : Int) % n) ((i : Int) / n)).2 % n from rfl)
      rw [← unhide EX, ← unhide EY] at HO
      clear EX EY hx hy
      generalize (mv g t f 0 0 ((i : Int) % n) ((i : Int) / n)).1 = X at *
      generalize (mv g t f 0 0 ((i : Int) % n) ((i : Int) / n)).2 = Y at *
      go_wp2_with fail
      have hrz : w.heap.size + 2 < wr.heap.size := P.1
      have Mk := hide (show ∀ V, Below wr.heap.size wr V → Below wr.heap.size wr V ∧ (V.cell? ⟨w.heap.size, 0, none⟩ = some (.int .i64 g) ∧ V.cell? ⟨w.heap.size, 1, none⟩ = some (.int .i64 n) ∧ V.cell? ⟨w.heap.size, 2, none⟩ = some (.slice q k cap)) ∧ CM V (w.heap.size + 1) t f 0 0 from fun V hV =>
        ⟨hV, ⟨keepC hV (by omega) T2.1, keepC hV (by omega) T2.2.1, keepC hV (by omega) T2.2.2⟩, M2.below hV (by omega)⟩)
      have hB1 := True.intro
      have hB2 := True.intro
      have hz := True.intro
      have hzl := True.intro
      go_region_held3 (fun V => Below wr.heap.size wr V ∧ (V.cell? ⟨w.heap.size, 0, none⟩ = some (.int .i64 g) ∧ V.cell? ⟨w.heap.size, 1, none⟩ = some (.int .i64 n) ∧ V.cell? ⟨w.heap.size, 2, none⟩ = some (.slice q k cap)) ∧ CM V (w.heap.size + 1) t f 0 0)
        (first
          | (exact unhide Mk _ (Below.drew (Below.refl _ _)))
          | (exact unhide Mk _ (bal (Below.drew (Below.refl _ _))))
          | (exact unhide Mk _ hB2)
          | (exact unhide Mk _ (bal hB2))
          | (exact unhide Mk _ (bset (bset hB2 hzl) hzl))
          | (exact unhide Mk _ hB1)
          | (exact unhide Mk _ (bal hB1)))
        (first
          | (go_at_call 60; refine (unhide HP _).mono ?_; rintro e w1 ⟨rfl, hb⟩; have hz := ((Own.new wr 0 0 33).keep (Below.drew (Below.refl _ _))).keep hb; have hB1 := btrans (Below.drew (bal (Below.refl wr.heap.size wr))) hb)
          | (go_at_call 60; refine (unhide HP _).mono ?_; rintro e w1 ⟨rfl, hb⟩; have hB1 := btrans (Below.drew (Below.refl wr.heap.size wr)) hb)
          | (go_at_call 61; refine (unhide HA _).mono ?_; rintro e w2 ⟨rfl, hb2⟩; have hz2 := hz.keep hb2; have z := hz2.2; have hzl : wr.heap.size ≤ wr.heap.size := Nat.le_refl _; have hB2 := btrans hB1 hb2)
          | (go_at_call 61; refine (unhide HA _).mono ?_; rintro e w2 ⟨rfl, hb2⟩; have hz2 := (Own.new w1 0 0 33).keep hb2; have z := hz2.2; have hzl : wr.heap.size ≤ w1.heap.size := hB1.size; have hB2 := btrans (bal hB1) hb2)
          | (go_at_call 61; refine (unhide HA _).mono ?_; rintro e w2 ⟨rfl, hb2⟩; have hB2 := btrans hB1 hb2))
      · have Z := Own.new w2 X Y 33
        have SV := bal (o := .cells #[.int .i64 X, .int .i64 Y] 33) hB2
        generalize w2.alloc (.cells #[.int .i64 X, .int .i64 Y] 33) = V at *
        have T3 := (unhide Mk _ SV).2.1
        have HP3 := hide (P.keep SV)
        have HF3 := hide (F.keep P.1 SV)
        have HK3 := hide ((unhide HPK).keep P.1 SV)
        have HS3 := hide (hbel.trans (SV.mono (show w.heap.size + 2 ≤ wr.heap.size by omega)))
        have hVz := Z.1
        have hVs := SV.size
        have z := Z.2.1
        clear P F hbel HP HA T2 M2 Mk
        go_wp2_with fail
        clear z T3
        refine (unhide HO _).mono ?_
        rintro e w3 ⟨rfl, hb3⟩
        have P4 := (unhide HP3).keep hb3
        have F4 := (unhide HF3).keep (unhide HP3).1 hb3
        have HK4 := hide ((unhide HK3).keep (unhide HP3).1 hb3)
        have S4 := (unhide HS3).trans (hb3.mono (show w.heap.size + 2 ≤ V.heap.size by omega))
        obtain ⟨p1, p2⟩ := P4.2 i hlt
        obtain ⟨f1, f2⟩ := F4 i hlt
        have hi0 : (0 : Int) ≤ (i : Int) := by omega
        have hik2 : (i : Int) < (k : Int) := by omega
        have HP4 := hide P4
        have HF4 := hide F4
        have HS4 := hide S4
        clear P4 F4 S4 HP3 HF3 HS3 hb3
        go_wp2
        go_roundw
        case rel => exact ⟨i + 1, by omega, by go_num, (unhide HP4).set hlt, (unhide HF4).set.set, (unhide HK4).set.set, ((unhide HS4).setCell (p := ⟨w.heap.size + 2, i * 2, none⟩) (Nat.le_refl _) _).setCell (p := ⟨w.heap.size + 2, i * 2 + 1, none⟩) (Nat.le_refl _) _⟩
        case measure => simp [intOf]; omega
      · have Z := hz2.set X Y
        have SV := bset (p := ⟨w1.heap.size, 1, none⟩) (u := .int .i64 Y) (bset (p := ⟨w1.heap.size, 0, none⟩) (u := .int .i64 X) hB2 hzl) hzl
        generalize (w2.setCell ⟨w1.heap.size, 0, none⟩ (.int .i64 X)).setCell ⟨w1.heap.size, 1, none⟩ (.int .i64 Y) = V at *
        have T3 := (unhide Mk _ SV).2.1
        have HP3 := hide (P.keep SV)
        have HF3 := hide (F.keep P.1 SV)
        have HK3 := hide ((unhide HPK).keep P.1 SV)
        have HS3 := hide (hbel.trans (SV.mono (show w.heap.size + 2 ≤ wr.heap.size by omega)))
        have hVz := Z.1
        have hVs := SV.size
        have z := Z.2.1
        clear P F hbel HP HA T2 M2 Mk
        go_wp2_with fail
        clear z T3
        refine (unhide HO _).mono ?_
        rintro e w3 ⟨rfl, hb3⟩
        have P4 := (unhide HP3).keep hb3
        have F4 := (unhide HF3).keep (unhide HP3).1 hb3
        have HK4 := hide ((unhide HK3).keep (unhide HP3).1 hb3)
        have S4 := (unhide HS3).trans (hb3.mono (show w.heap.size + 2 ≤ V.heap.size by omega))
        obtain ⟨p1, p2⟩ := P4.2 i hlt
        obtain ⟨f1, f2⟩ := F4 i hlt
        have hi0 : (0 : Int) ≤ (i : Int) := by omega
        have hik2 : (i : Int) < (k : Int) := by omega
        have HP4 := hide P4
        have HF4 := hide F4
        have HS4 := hide S4
        clear P4 F4 S4 HP3 HF3 HS3 hb3
        go_wp2
        go_roundw
        case rel => exact ⟨i + 1, by omega, by go_num, (unhide HP4).set hlt, (unhide HF4).set.set, (unhide HK4).set.set, ((unhide HS4).setCell (p := ⟨w.heap.size + 2, i * 2, none⟩) (Nat.le_refl _) _).setCell (p := ⟨w.heap.size + 2, i * 2 + 1, none⟩) (Nat.le_refl _) _⟩
        case measure => simp [intOf]; omega
      · have Z := hz2.set X Y
        have SV := bset (p := ⟨wr.heap.size, 1, none⟩) (u := .int .i64 Y) (bset (p := ⟨wr.heap.size, 0, none⟩) (u := .int .i64 X) hB2 hzl) hzl
        generalize (w2.setCell ⟨wr.heap.size, 0, none⟩ (.int .i64 X)).setCell ⟨wr.heap.size, 1, none⟩ (.int .i64 Y) = V at *
        have T3 := (unhide Mk _ SV).2.1
        have HP3 := hide (P.keep SV)
        have HF3 := hide (F.keep P.1 SV)
        have HK3 := hide ((unhide HPK).keep P.1 SV)
        have HS3 := hide (hbel.trans (SV.mono (show w.heap.size + 2 ≤ wr.heap.size by omega)))
        have hVz := Z.1
        have hVs := SV.size
        have z := Z.2.1
        clear P F hbel HP HA T2 M2 Mk
        go_wp2_with fail
        clear z T3
        refine (unhide HO _).mono ?_
        rintro e w3 ⟨rfl, hb3⟩
        have P4 := (unhide HP3).keep hb3
        have F4 := (unhide HF3).keep (unhide HP3).1 hb3
        have HK4 := hide ((unhide HK3).keep (unhide HP3).1 hb3)
        have S4 := (unhide HS3).trans (hb3.mono (show w.heap.size + 2 ≤ V.heap.size by omega))
        obtain ⟨p1, p2⟩ := P4.2 i hlt
        obtain ⟨f1, f2⟩ := F4 i hlt
        have hi0 : (0 : Int) ≤ (i : Int) := by omega
        have hik2 : (i : Int) < (k : Int) := by omega
        have HP4 := hide P4
        have HF4 := hide F4
        have HS4 := hide S4
        clear P4 F4 S4 HP3 HF3 HS3 hb3
        go_wp2
        go_roundw
        case rel => exact ⟨i + 1, by omega, by go_num, (unhide HP4).set hlt, (unhide HF4).set.set, (unhide HK4).set.set, ((unhide HS4).setCell (p := ⟨w.heap.size + 2, i * 2, none⟩) (Nat.le_refl _) _).setCell (p := ⟨w.heap.size + 2, i * 2 + 1, none⟩) (Nat.le_refl _) _⟩
        case measure => simp [intOf]; omega
    · have e : i = k := by omega
      subst e
      have cl : ¬ ((i : Int) < (i : Int)) := by omega
      have HP5 := hide (show PRow wr (w.heap.size + 2) i (imX g t f n) (imY g t f n) from ⟨P.1, fun j hj => by have := P.2 j hj; simpa [upTo, hj] using this⟩)
      have HS5 := hide (show Below w.heap.size w wr from (unhide S1).trans (hbel.mono (by omega)))
      clear P F hbel
      go_wp2
      go_ret
      exact ⟨_, rfl, unhide HP5, ⟨unhide HPK, by omega⟩, unhide HS5⟩
end Go.Proofs.Ytagiekbijmdmdaa
