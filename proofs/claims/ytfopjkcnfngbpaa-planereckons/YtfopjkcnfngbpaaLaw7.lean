/-
  The walk of the law PlaneGcd out of the contracts of Gcd, Times and the reference's Divides and Product, in plain variables.
-/
import Derived.Test.YtfopjkcnfngbpaaGcdD
import Derived.Test.YtfopjkcnfngbpaaDiv
import Derived.Test.YtfopjkcnfngbpaaRing
namespace Go.Proofs.Ytfopjkcnfngbpaa
open Go.RowKit

theorem Own.step' {W w1 : World} {o : Obj} {b : Nat} {x y : Int} (h : Own W b x y) (hb : Below (W.alloc o).heap.size (W.alloc o) w1) : Own w1 b x y :=
  (h.alloc o).keep hb

/-- a call of Gcd answers some point of which Q holds -/
def GcdIs (g ax ay bx b : Int) (Q : Int → Int → Prop) : Prop := ∀ W : World, Calls Try.prog 12 #[.int .i64 g, .agg #[.int .i64 ax, .int .i64 ay], .agg #[.int .i64 bx, .int .i64 b]] W fun e w' => (∃ u v, e = .returned (.tuple #[.agg #[.int .i64 u, .int .i64 v], .int .i64 0]) ∧ Q u v) ∧ Below W.heap.size W w'

set_option maxHeartbeats 1000000 in
theorem gcd_err (g ax ay bx b : Int) (w : World) (er : Int) (he : Hid (e2 g ax ay bx b = er)) (hp : 1 ≤ er) :
    Calls Try.prog 12 #[.int .i64 g, .agg #[.int .i64 ax, .int .i64 ay], .agg #[.int .i64 bx, .int .i64 b]] w fun e w' => e = .returned (.tuple #[.agg #[.int .i64 0, .int .i64 0], .int .i64 er]) ∧ Below w.heap.size w w' := by
  go_enter Try.func12, Try.ntmps12
  go_wp2_with fail
  refine (wrongPoints2 g ax ay bx b _ _ _ ?_ ?_ ?_ ?_ ?_).mono ?_
  · simp
  · simp [go_sem]
  · simp [go_sem]
  · simp [go_sem]
  · simp [go_sem]
  rw [unhide he]
  rintro e w1 ⟨rfl, hb⟩
  have R := ((Own.new ((w.alloc (.cells #[.int .i64 ax, .int .i64 ay] 23)).alloc (.cells #[.int .i64 bx, .int .i64 b] 23)) 0 0 23).alloc (.cells #[.int .i64 ax, .int .i64 ay, .int .i64 bx, .int .i64 b] 23)).keep hb
  have S := btrans (bal (bal (bal (bal (Below.refl _ _))))) hb
  simp only [World.size_alloc] at R
  clear hb
  have q1 := R.2
  go_wp2
  exact bodyPost_ret (v := .tuple #[.agg #[.int .i64 0, .int .i64 0], .int .i64 er]) (by simp [results, Try.results12, go_sem, q1]) rfl ⟨rfl, bset (bset S (by dsimp only; omega)) (by dsimp only; omega)⟩

def Law7 (g ax ay bx b cx c : Int) (w : World) : Prop :=
  Calls Try.prog 7 #[.int .i64 g, .agg #[.int .i64 ax, .int .i64 ay], .agg #[.int .i64 bx, .int .i64 b], .agg #[.int .i64 cx, .int .i64 c]] w fun e w' => e = .returned (.bool true) ∧ Below w.heap.size w w'

/-- the boxes of the law's last statement -/
def L7B (w : World) (cx c dx dy fx fy : Int) (kd kf : Nat) (W : World) : Prop :=
  Below w.heap.size w W ∧ Own W (w.heap.size + 1 + 1) cx c ∧ Own W kd dx dy ∧ Own W kf fx fy
theorem L7B.keep {w W w1 : World} {cx c dx dy fx fy : Int} {kd kf : Nat} (h : L7B w cx c dx dy fx fy kd kf W) (hb : Below W.heap.size W w1) : L7B w cx c dx dy fx fy kd kf w1 :=
  ⟨btrans h.1 hb, h.2.1.keep hb, h.2.2.1.keep hb, h.2.2.2.keep hb⟩
abbrev L7S (w : World) (cx c dx dy fx fy : Int) (kd kf : Nat) (W : World) : Prop :=
  L7B w cx c dx dy fx fy kd kf W ∧ D2 W (w.heap.size + 1 + 1) (.int .i64 cx) (.int .i64 c) ∧ D2 W kd (.int .i64 dx) (.int .i64 dy) ∧ D2 W kf (.int .i64 fx) (.int .i64 fy)
theorem L7B.s {w W : World} {cx c dx dy fx fy : Int} {kd kf : Nat} (h : L7B w cx c dx dy fx fy kd kf W) : L7S w cx c dx dy fx fy kd kf W := ⟨h, h.2.1.2.1, h.2.2.1.2.1, h.2.2.2.2.1⟩

set_option maxRecDepth 100000 in
set_option maxHeartbeats 2000000 in
theorem law7_err (g ax ay bx b cx c : Int) (w : World) (er : Int) (he : Hid (e2 g ax ay bx b = er)) (hp : 1 ≤ er) : Law7 g ax ay bx b cx c w := by
  unfold Law7
  go_enter Try.func7, Try.ntmps7
  go_wp2_with fail
  refine (alive_any _).mono ?_
  rintro e w1 ⟨rfl, hb⟩
  have A1 := (((Own.new w ax ay 23).alloc (.cells #[.int .i64 bx, .int .i64 b] 23)).alloc (.cells #[.int .i64 cx, .int .i64 c] 23)).keep hb
  have B1 := ((Own.new (w.alloc (.cells #[.int .i64 ax, .int .i64 ay] 23)) bx b 23).alloc (.cells #[.int .i64 cx, .int .i64 c] 23)).keep hb
  have S1 := btrans (bal (bal (bal (Below.refl _ _)))) hb
  simp only [World.size_alloc] at B1
  clear hb
  have q0 := A1.2.1
  have q1 := B1.2.1
  go_wp2_with fail
  clear q0 q1
  refine (gcd_err g ax ay bx b _ er he hp).mono ?_
  rintro e w2 ⟨rfl, hb⟩
  have S2 := btrans S1 hb
  go_wp2
  go_ret
  exact ⟨rfl, bal S2⟩

set_option maxRecDepth 100000 in
set_option maxHeartbeats 8000000 in
theorem law7_ok (g ax ay bx b cx c : Int) (w : World) (xx xy E1 yx yy E2 : Int) (Q1 Q2 Q3 : Int → Int → Prop) (G1 : GcdIs g ax ay bx b Q1) (T1 : TimesIs g ax ay cx c xx xy E1) (T2 : TimesIs g bx b cx c yx yy E2)
    (hD : Hid (∀ dx dy, Q1 dx dy → DivIs g dx dy ax ay ∧ DivIs g dx dy bx b ∧ (∀ fx fy, Q2 fx fy → DivIs g cx c fx fy ∧ ∃ p1 p2, RProdIs g cx c dx dy p1 p2 ∧ DivIs g p1 p2 fx fy ∧ DivIs g fx fy p1 p2)))
    (hE : Hid (1 ≤ E1 ∨ (E1 = 0 ∧ 1 ≤ E2) ∨ (E1 = 0 ∧ E2 = 0 ∧ GcdIs g xx xy yx yy Q3 ∧ ∀ u v, Q3 u v → Q2 u v))) : Law7 g ax ay bx b cx c w := by
  unfold Law7
  go_enter Try.func7, Try.ntmps7
  go_wp2_with fail
  refine (alive_any _).mono ?_
  rintro e w1 ⟨rfl, hb⟩
  have A1 := (((Own.new w ax ay 23).alloc (.cells #[.int .i64 bx, .int .i64 b] 23)).alloc (.cells #[.int .i64 cx, .int .i64 c] 23)).keep hb
  have B1 := ((Own.new (w.alloc (.cells #[.int .i64 ax, .int .i64 ay] 23)) bx b 23).alloc (.cells #[.int .i64 cx, .int .i64 c] 23)).keep hb
  have C1 := (Own.new ((w.alloc (.cells #[.int .i64 ax, .int .i64 ay] 23)).alloc (.cells #[.int .i64 bx, .int .i64 b] 23)) cx c 23).keep hb
  have S1 := btrans (bal (bal (bal (Below.refl _ _)))) hb
  simp only [World.size_alloc] at B1 C1
  clear hb
  have q0 := A1.2.1
  have q1 := B1.2.1
  go_wp2_with fail
  clear q0 q1
  refine (G1 _).mono ?_
  rintro e w2 ⟨⟨dx, dy, rfl, hQ⟩, hb⟩
  obtain ⟨V1, V2, hF⟩ := unhide hD dx dy hQ
  have HF := hide hF
  clear hF hQ
  have A2 := A1.keep hb
  have B2 := B1.keep hb
  have C2 := C1.keep hb
  have S2 := btrans S1 hb
  clear A1 B1 C1 S1 hb
  have q0 := (A2.alloc (.cells #[.int .i64 dx, .int .i64 dy] 23)).2.1
  go_wp2_with fail
  clear q0
  refine (V1 _).mono ?_
  rintro e w3 ⟨rfl, hb⟩
  have A3 := A2.step' hb
  have B3 := B2.step' hb
  have C3 := C2.step' hb
  have D3 := (Own.new w2 dx dy 23).keep hb
  have S3 := btrans (bal S2) hb
  clear A2 B2 C2 S2 hb
  have q0 := B3.2.1
  have q1 := D3.2.1
  go_wp2_with fail
  clear q0 q1
  refine (V2 _).mono ?_
  rintro e w4 ⟨rfl, hb⟩
  have A4 := A3.keep hb
  have B4 := B3.keep hb
  have C4 := C3.keep hb
  have D4 := D3.keep hb
  have S4 := btrans S3 hb
  clear A3 B3 C3 D3 S3 hb
  have q0 := A4.2.1
  have q1 := C4.2.1
  go_wp2_with fail
  clear q0 q1
  refine (T1 _).mono ?_
  rintro e w5 ⟨rfl, hb⟩
  have B5 := B4.keep hb
  have C5 := C4.keep hb
  have D5 := D4.keep hb
  have S5 := btrans S4 hb
  clear A4 B4 C4 D4 S4 hb
  have q0 := (B5.alloc (.cells #[.int .i64 xx, .int .i64 xy] 23)).2.1
  have q1 := (C5.alloc (.cells #[.int .i64 xx, .int .i64 xy] 23)).2.1
  go_wp2_with fail
  clear q0 q1
  refine (T2 _).mono ?_
  rintro e w6 ⟨rfl, hb⟩
  have C6 := C5.step' hb
  have D6 := D5.step' hb
  have X6 := (Own.new w5 xx xy 23).keep hb
  have S6 := btrans (bal S5) hb
  clear B5 C5 D5 S5 hb
  rcases unhide hE with h | ⟨rfl, h⟩ | ⟨rfl, rfl, G2, hF2⟩
  · go_wp2
    go_ret
    exact ⟨rfl, bal S6⟩
  · go_wp2
    go_ret
    exact ⟨rfl, bal S6⟩
  · have HF2 := hide hF2
    clear hF2
    have q0 := (X6.alloc (.cells #[.int .i64 yx, .int .i64 yy] 23)).2.1
    go_wp2_with fail
    clear q0
    refine (G2 _).mono ?_
    rintro e w7 ⟨⟨fx, fy, rfl, hQ⟩, hb⟩
    obtain ⟨V3, p1, p2, P1, V4, V5⟩ := unhide HF fx fy (unhide HF2 fx fy hQ)
    clear hQ HF HF2
    have C7 := C6.step' hb
    have D7 := D6.step' hb
    have S7 := btrans (bal S6) hb
    clear C6 D6 X6 S6 hb
    have L0 : L7B w cx c dx dy fx fy w2.heap.size w7.heap.size (w7.alloc (.cells #[.int .i64 fx, .int .i64 fy] 23)) := ⟨bal S7, C7.alloc _, D7.alloc _, Own.new w7 fx fy 23⟩
    clear C7 D7 S7
    obtain ⟨kd, hkd⟩ : ∃ kd, kd = w2.heap.size := ⟨_, rfl⟩
    rw [← hkd] at L0 ⊢
    clear hkd
    obtain ⟨kf, hkf⟩ : ∃ kf, kf = w7.heap.size := ⟨_, rfl⟩
    have LF := L0
    rw [← hkf] at LF
    go_wp2_with fail
    rw [← hkf]
    clear hkf L0
    go_region_held3 (fun W => L7S w cx c dx dy fx fy kd kf W)
      (first | exact (LF.keep (Below.drew (Below.refl _ _))).s | (refine (L7B.keep (by assumption : L7S w cx c dx dy fx fy kd kf _).1 hb).s))
      (first
        | (go_at_call_of 25 (#[Value.int IntKind.i64 g, Value.agg #[Value.int IntKind.i64 cx, Value.int IntKind.i64 c], Value.agg #[Value.int IntKind.i64 fx, Value.int IntKind.i64 fy]] : Array Value); refine (V3 _).mono ?_; rintro e w1 ⟨rfl, hb⟩)
        | (go_at_call 26; refine (P1 _).mono ?_; rintro e w1 ⟨rfl, hb⟩)
        | (go_at_call_of 25 (#[Value.int IntKind.i64 g, Value.agg #[Value.int IntKind.i64 p1, Value.int IntKind.i64 p2], Value.agg #[Value.int IntKind.i64 fx, Value.int IntKind.i64 fy]] : Array Value); refine (V4 _).mono ?_; rintro e w1 ⟨rfl, hb⟩)
        | (go_at_call_of 25 (#[Value.int IntKind.i64 g, Value.agg #[Value.int IntKind.i64 fx, Value.int IntKind.i64 fy], Value.agg #[Value.int IntKind.i64 p1, Value.int IntKind.i64 p2]] : Array Value); refine (V5 _).mono ?_; rintro e w1 ⟨rfl, hb⟩))
    go_wp2
    go_ret
    exact ⟨rfl, (by assumption : L7S w cx c dx dy fx fy kd kf _).1.1⟩

end Go.Proofs.Ytfopjkcnfngbpaa
