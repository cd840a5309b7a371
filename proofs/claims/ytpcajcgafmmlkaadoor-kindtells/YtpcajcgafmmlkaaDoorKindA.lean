/-
  Package kind: the pattern's value and box; first and turns.
-/
import Derived.Test.YtpcajcgafmmlkaaDoorHC
import Derived.Test.YtpcajcgafmmlkaaDoorLAll
import Derived.Test.YtpcajcgafmmlkaaDoorGL
import Derived.Test.YtpcajcgafmmlkaaDoorGN
namespace Go.Proofs.YtpcajcgafmmlkaaDoor
open Go.RowKit

/-- a pattern: its chart, its moves, its finest steps -/
abbrev pvV (g w h : Int) (p : Option Addr) (n cap : Nat) (q k cp : Nat) (s u v : Nat) : Value :=
  .agg #[.int .i64 g, .int .i64 w, .int .i64 h, .slice p n cap, .slice (some ⟨q, 0, none⟩) k cp, .int .i64 s, .int .i64 0, .int .i64 u, .int .i64 v]
abbrev pcV (g w h : Int) (p : Option Addr) (n cap : Nat) (q k cp : Nat) (s u v : Nat) : Obj :=
  .cells #[.int .i64 g, .int .i64 w, .int .i64 h, .slice p n cap, .slice (some ⟨q, 0, none⟩) k cp, .int .i64 s, .int .i64 0, .int .i64 u, .int .i64 v] 35
def OwnP (W : World) (b : Nat) (g w h : Int) (p : Option Addr) (n cap : Nat) (q k cp : Nat) (s u v : Nat) : Prop := b < W.heap.size ∧
  W.cell? ⟨b, 0, none⟩ = some (.int .i64 g) ∧ W.cell? ⟨b, 1, none⟩ = some (.int .i64 w) ∧ W.cell? ⟨b, 2, none⟩ = some (.int .i64 h) ∧ W.cell? ⟨b, 3, none⟩ = some (.slice p n cap) ∧
  W.cell? ⟨b, 4, none⟩ = some (.slice (some ⟨q, 0, none⟩) k cp) ∧ W.cell? ⟨b, 5, none⟩ = some (.int .i64 s) ∧ W.cell? ⟨b, 6, none⟩ = some (.int .i64 0) ∧ W.cell? ⟨b, 7, none⟩ = some (.int .i64 u) ∧ W.cell? ⟨b, 8, none⟩ = some (.int .i64 v)
theorem OwnP.keep {W w1 : World} {b : Nat} {g w h : Int} {p : Option Addr} {n cap q k cp s u v : Nat} (H : OwnP W b g w h p n cap q k cp s u v) (hb : Below W.heap.size W w1) : OwnP w1 b g w h p n cap q k cp s u v := by
  obtain ⟨h0, h1, h2, h3, h4, h5, h6, h7, h8, h9⟩ := H
  exact ⟨Nat.lt_of_lt_of_le h0 hb.size, keepC hb h0 h1, keepC hb h0 h2, keepC hb h0 h3, keepC hb h0 h4, keepC hb h0 h5, keepC hb h0 h6, keepC hb h0 h7, keepC hb h0 h8, keepC hb h0 h9⟩
theorem OwnP.alloc {W : World} {b : Nat} {g w h : Int} {p : Option Addr} {n cap q k cp s u v : Nat} (H : OwnP W b g w h p n cap q k cp s u v) (o : Obj) : OwnP (W.alloc o) b g w h p n cap q k cp s u v := H.keep (bal (Below.refl _ _))
theorem OwnP.new (W : World) (g w h : Int) (p : Option Addr) (n cap q k cp s u v : Nat) : OwnP (W.alloc (pcV g w h p n cap q k cp s u v)) W.heap.size g w h p n cap q k cp s u v :=
  ⟨by simp, by simp [go_sem], by simp [go_sem], by simp [go_sem], by simp [go_sem], by simp [go_sem], by simp [go_sem], by simp [go_sem], by simp [go_sem], by simp [go_sem]⟩

/-- the first move of a turn, with a flip or without -/
def fi (L : List Mv) (t : Nat) (f : Bool) : Option Mv := L.find? fun m => m.1 == t && m.2.1 == f
def fiV : Option Mv → Value
  | some m => .tuple #[.agg #[.int .i64 m.1, .bool m.2.1, .int .i64 m.2.2.1, .int .i64 m.2.2.2], .bool true]
  | none => .tuple #[.agg #[.int .i64 0, .bool false, .int .i64 0, .int .i64 0], .bool false]
theorem fi_hit {L : List Mv} {t : Nat} {f : Bool} {k : Nat} {m : Mv} (h : fi (L.take k) t f = none) (hk : L[k]? = some m) (hm : m.1 = t ∧ m.2.1 = f) : fi L t f = some m := by
  unfold fi at *
  rw [← List.take_append_drop k L, List.find?_append, h, Option.none_or]
  have : L.drop k = m :: L.drop (k + 1) := by
    have hl : k < L.length := (List.getElem?_eq_some_iff.1 hk).1
    rw [List.drop_eq_getElem_cons hl]
    congr 1
    exact Option.some.inj ((List.getElem?_eq_getElem hl).symm.trans hk)
  rw [this, List.find?_cons_of_pos (by simp [hm])]
theorem fi_miss {L : List Mv} {t : Nat} {f : Bool} {k : Nat} {m : Mv} (h : fi (L.take k) t f = none) (hk : L[k]? = some m) (hm : ¬ (m.1 = t ∧ m.2.1 = f)) : fi (L.take (k + 1)) t f = none := by
  unfold fi at *
  rw [List.take_add_one, hk, List.find?_append, h, Option.none_or]
  simp
  exact fun a b => hm ⟨a, b⟩

set_option maxHeartbeats 4000000 in
set_option maxRecDepth 100000 in
theorem first_any (g w h : Int) (p : Option Addr) (n cap q cp s u v : Nat) (L : List Mv) (t : Nat) (f : Bool) (W : World) (hl : L.length ≤ 6912) (hm : MRow W q L) :
    Calls Tryd.prog 43 #[pvV g w h p n cap q L.length cp s u v, .int .i64 t, .bool f] W fun e w' => e = .returned (fiV (fi L t f)) ∧ Below W.heap.size W w' := by
  have B0 := bal (o := .cells #[.int .i64 0, .bool false, .int .i64 0, .int .i64 0] 41) (bal (o := pcV g w h p n cap q L.length cp s u v) (Below.refl W.heap.size W))
  have Hm := hide (hm.keep B0)
  have HB := hide B0
  have R0 := OwnM.new (W.alloc (pcV g w h p n cap q L.length cp s u v)) 0 false 0 0 41
  rw [World.size_alloc] at R0
  have HR := hide R0
  clear hm B0 R0
  go_enter Tryd.func43, Tryd.ntmps43
  go_wp2
  generalize (W.alloc (pcV g w h p n cap q L.length cp s u v)).alloc (.cells #[.int .i64 0, .bool false, .int .i64 0, .int .i64 0] 41) = w0 at *
  go_loopw [13] (fun i wr => ∃ k : Nat, k ≤ L.length ∧ i = .int .i64 k ∧ fi (L.take k) t f = none ∧ Below w0.heap.size w0 wr) (fun i _ => L.length - (intOf i).toNat)
  case atStart => exact ⟨0, Nat.zero_le _, rfl, rfl, Below.refl _ _⟩
  case round =>
    obtain ⟨k, hk, rfl, hno, hbel⟩ := hrel
    by_cases hlt : k < L.length
    · have q1 : (0 : Int) ≤ (k : Int) := by omega
      have q2 : (k : Int) < (L.length : Int) := by omega
      obtain ⟨⟨a, b, X, Y⟩, hmk⟩ : ∃ m, L[k]? = some m := ⟨_, List.getElem?_eq_getElem hlt⟩
      have p1 := ((unhide Hm).keep hbel).2 k _ hmk
      have hbN := bal (o := .cells #[.int .i64 a, .bool b, .int .i64 X, .int .i64 Y] 41) (Below.refl wr.heap.size wr)
      have HSN := hide (btrans hbel hbN)
      have Hl := hide hlt
      by_cases ha : a = t
      · subst ha
        by_cases hb : b = f
        · subst hb
          have Hf := hide (fi_hit hno hmk ⟨rfl, rfl⟩)
          have R1 := (unhide HR).keep (btrans hbel hbN)
          have r := R1.2
          have hb1 := (unhide HB).size
          clear hno hmk hbel hbN
          go_wp2_with fail
          exact bodyPost_ret (v := fiV (some (a, b, X, Y))) (by simp [results, Tryd.results43, go_sem, r, fiV]) rfl ⟨by rw [unhide Hf], bset (bset (bset (bset (btrans (unhide HB) (unhide HSN)) (by dsimp only; omega)) (by dsimp only; omega)) (by dsimp only; omega)) (by dsimp only; omega)⟩
        · have Hf := hide (fi_miss hno hmk (fun k => hb k.2))
          have hbb : (b == f) = false := by simp [hb]
          clear hno hmk hbel hbN hb
          go_wp2
          go_roundw
          case rel => exact ⟨k + 1, unhide Hl, by go_num, unhide Hf, unhide HSN⟩
          case measure => have := unhide Hl; simp [intOf]; omega
      · have Hf := hide (fi_miss hno hmk (fun k => ha k.1))
        have haa : ((a : Int) == (t : Int)) = false := by simp; omega
        clear hno hmk hbel hbN ha
        go_wp2
        go_roundw
        case rel => exact ⟨k + 1, unhide Hl, by go_num, unhide Hf, unhide HSN⟩
        case measure => have := unhide Hl; simp [intOf]; omega
    · have e : L.length = k := by omega
      have cl : ¬ ((k : Int) < (L.length : Int)) := by omega
      rw [← e, List.take_length] at hno
      have r := ((unhide HR).keep hbel).2
      have HSe := hide (btrans (unhide HB) hbel)
      clear hbel hk hlt e
      go_wp2
      exact bodyPost_ret (v := fiV none) (by simp [results, Tryd.results43, go_sem, r, fiV]) rfl ⟨rfl, bset (bset (bset (bset (unhide HSe) (by dsimp only; omega)) (by dsimp only; omega)) (by dsimp only; omega)) (by dsimp only; omega)⟩
end Go.Proofs.YtpcajcgafmmlkaaDoor

namespace Go.Proofs.YtpcajcgafmmlkaaDoor
open Go.RowKit

theorem Cn_le (p : Nat → Bool) (M : Nat) : Cn p M ≤ M := by
  unfold Cn
  exact Nat.le_trans (List.length_filter_le _ _) (by simp)
set_option maxHeartbeats 4000000 in
set_option maxRecDepth 100000 in
theorem turns_any (g w h : Int) (p : Option Addr) (n cap q cp s u v : Nat) (L : List Mv) (G : Nat) (W : World) (hg : g = (G : Int)) (hG : G ≤ 6) (hl : L.length ≤ 6912) (hm : MRow W q L) :
    Calls Tryd.prog 25 #[pvV g w h p n cap q L.length cp s u v] W fun e w' => e = .returned (.int .i64 (Cn (fun t => (fi L t false).isSome) G)) ∧ Below W.heap.size W w' := by
  have HF := hide (fun (V : World) (t : Nat) (hm : MRow V q L) => first_any g w h p n cap q cp s u v L t false V hl hm)
  subst hg
  have B0 := bal (o := pcV G w h p n cap q L.length cp s u v) (Below.refl W.heap.size W)
  have Hm := hide (hm.keep B0)
  have HB := hide B0
  have HP := hide (OwnP.new W G w h p n cap q L.length cp s u v)
  clear hm B0
  go_enter Tryd.func25, Tryd.ntmps25
  go_wp2
  generalize W.alloc (pcV G w h p n cap q L.length cp s u v) = w0 at *
  go_loopw [3, 10] (fun c i wr => ∃ k : Nat, k ≤ G ∧ i = .int .i64 k ∧ c = .int .i64 (Cn (fun t => (fi L t false).isSome) k) ∧ Below w0.heap.size w0 wr) (fun _ i _ => G - (intOf i).toNat)
  case atStart => exact ⟨0, Nat.zero_le _, rfl, by simp [Cn], Below.refl _ _⟩
  case round =>
    obtain ⟨k, hk, rfl, rfl, hbel⟩ := hrel
    have hcl := Cn_le (fun t => (fi L t false).isSome) k
    by_cases hlt : k < G
    · have q2 : (k : Int) < (G : Int) := by omega
      have Hcn := hide (Cn_succ (fun t => (fi L t false).isSome) k)
      have HF1 := hide (fun V hm => unhide HF V k hm)
      have Hl := hide hlt
      have c := ((unhide HP).keep hbel).2
      have hm1 := (unhide Hm).keep hbel
      cases hf : fi L k false with
      | none =>
        rw [hf] at HF1
        have Hc2 := hide (show Cn (fun t => (fi L t false).isSome) (k + 1) = Cn (fun t => (fi L t false).isSome) k by rw [unhide Hcn, hf]; rfl)
        generalize Cn (fun t => (fi L t false).isSome) k = cn at *
        clear Hcn hf
        go_wp2_with fail
        clear c
        refine (unhide HF1 _ hm1).mono ?_
        rintro e w4 ⟨rfl, hb⟩
        have S4 := hide (bal (o := .cells #[.int .i64 0, .bool false, .int .i64 0, .int .i64 0] 41) (btrans hbel hb))
        clear hb hbel hm1
        simp only [fiV]
        go_wp2
        go_roundw
        case rel => exact ⟨k + 1, unhide Hl, by go_num, by rw [unhide Hc2], unhide S4⟩
        case measure => have := unhide Hl; simp [intOf]; omega
      | some m =>
        rw [hf] at HF1
        have Hc2 := hide (show Cn (fun t => (fi L t false).isSome) (k + 1) = Cn (fun t => (fi L t false).isSome) k + 1 by rw [unhide Hcn, hf]; rfl)
        generalize Cn (fun t => (fi L t false).isSome) k = cn at *
        clear Hcn hf
        obtain ⟨a, b, X, Y⟩ := m
        go_wp2_with fail
        clear c
        refine (unhide HF1 _ hm1).mono ?_
        rintro e w4 ⟨rfl, hb⟩
        have S4 := hide (bal (o := .cells #[.int .i64 a, .bool b, .int .i64 X, .int .i64 Y] 41) (btrans hbel hb))
        clear hb hbel hm1
        simp only [fiV]
        go_wp2
        go_roundw
        case rel => exact ⟨k + 1, unhide Hl, by go_num, by rw [unhide Hc2]; go_num, unhide S4⟩
        case measure => have := unhide Hl; simp [intOf]; omega
    · have e : G = k := by omega
      subst e
      have cl : ¬ ((G : Int) < (G : Int)) := by omega
      have HSe := hide (btrans (unhide HB) hbel)
      clear hbel hk hlt
      go_wp2
      go_ret
      exact ⟨rfl, unhide HSe⟩
end Go.Proofs.YtpcajcgafmmlkaaDoor

namespace Go.Proofs.YtpcajcgafmmlkaaDoor
open Go.RowKit

set_option maxHeartbeats 1000000 in
theorem minus_any (a b c d : Int) (W : World) (h : (-1048576 ≤ a ∧ a ≤ 1048576) ∧ (-1048576 ≤ b ∧ b ≤ 1048576) ∧ (-1048576 ≤ c ∧ c ≤ 1048576) ∧ (-1048576 ≤ d ∧ d ≤ 1048576)) :
    Calls Tryd.prog 62 #[.agg #[.int .i64 a, .int .i64 b], .agg #[.int .i64 c, .int .i64 d]] W fun e w' => e = .returned (.agg #[.int .i64 (a - c), .int .i64 (b - d)]) ∧ Below W.heap.size W w' := by
  go_enter Tryd.func62, Tryd.ntmps62
  go_wp2
  exact bodyPost_ret (v := .agg #[.int .i64 (a - c), .int .i64 (b - d)]) (by simp [results, Tryd.results62, go_sem]) rfl ⟨rfl, bal (bal (bal (Below.refl _ _)))⟩
set_option maxHeartbeats 1000000 in
theorem kpart_any (x y m : Int) (W : World) (hm : m = 2 ∨ m = 3) (h : (-1048576 ≤ x ∧ x ≤ 1048576) ∧ (-1048576 ≤ y ∧ y ≤ 1048576)) :
    Calls Tryd.prog 61 #[.agg #[.int .i64 x, .int .i64 y], .int .i64 m] W fun e w' => e = .returned (if x % m = 0 ∧ y % m = 0 then .tuple #[.agg #[.int .i64 (x / m), .int .i64 (y / m)], .bool true] else .tuple #[.agg #[.int .i64 0, .int .i64 0], .bool false]) ∧ Below W.heap.size W w' := by
  have h0 : m ≠ 0 := by omega
  have none : ∀ W : World, (x.tmod m != 0) = true ∨ (x.tmod m != 0) = false ∧ (y.tmod m != 0) = true → Calls Tryd.prog 61 #[.agg #[.int .i64 x, .int .i64 y], .int .i64 m] W fun e w' => e = .returned (.tuple #[.agg #[.int .i64 0, .int .i64 0], .bool false]) ∧ Below W.heap.size W w' := by
    intro W hh
    rcases hh with hh | ⟨hx, hy⟩
    · go_enter Tryd.func61, Tryd.ntmps61
      go_wp2
      exact bodyPost_ret (v := .tuple #[.agg #[.int .i64 0, .int .i64 0], .bool false]) (by simp [results, Tryd.results61, go_sem]) rfl ⟨rfl, bal (bal (Below.refl _ _))⟩
    · go_enter Tryd.func61, Tryd.ntmps61
      go_wp2
      exact bodyPost_ret (v := .tuple #[.agg #[.int .i64 0, .int .i64 0], .bool false]) (by simp [results, Tryd.results61, go_sem]) rfl ⟨rfl, bal (bal (Below.refl _ _))⟩
  by_cases hx : x % m = 0
  · have fx : x.tmod m = 0 := Int.tmod_eq_zero_of_dvd (Int.dvd_of_emod_eq_zero hx)
    by_cases hy : y % m = 0
    · have fy : y.tmod m = 0 := Int.tmod_eq_zero_of_dvd (Int.dvd_of_emod_eq_zero hy)
      have dx : x.tdiv m = x / m := Int.tdiv_eq_ediv_of_dvd (Int.dvd_of_emod_eq_zero hx)
      have dy : y.tdiv m = y / m := Int.tdiv_eq_ediv_of_dvd (Int.dvd_of_emod_eq_zero hy)
      rw [if_pos ⟨hx, hy⟩]
      have gx : (x.tmod m != 0) = false := by simp [fx]
      have gy : (y.tmod m != 0) = false := by simp [fy]
      have bx : -1048576 ≤ x / m ∧ x / m ≤ 1048576 := by rcases hm with rfl | rfl <;> omega
      have b2 : -1048576 ≤ y / m ∧ y / m ≤ 1048576 := by rcases hm with rfl | rfl <;> omega
      have wx : IntKind.i64.wrap (x / m) = x / m := (Go.IntWalk.i64_left _).trans (Go.IntWalk.wrap64_in _ (by omega))
      have wy : IntKind.i64.wrap (y / m) = y / m := (Go.IntWalk.i64_left _).trans (Go.IntWalk.wrap64_in _ (by omega))
      clear hx hy none
      have Z1 := (Own.new W x y 33).alloc (.cells #[.int .i64 0, .int .i64 0] 33)
      have Z2 := Own.new (W.alloc (.cells #[.int .i64 x, .int .i64 y] 33)) 0 0 33
      have B0 := hide (bal (o := .cells #[.int .i64 0, .int .i64 0] 33) (bal (o := .cells #[.int .i64 x, .int .i64 y] 33) (Below.refl W.heap.size W)))
      simp only [World.size_alloc] at Z2
      go_enter Tryd.func61, Tryd.ntmps61
      go_wp2
      generalize (W.alloc (.cells #[.int .i64 x, .int .i64 y] 33)).alloc (.cells #[.int .i64 0, .int .i64 0] 33) = w0 at *
      have Mk := hide (show ∀ V, Below (W.heap.size + 1) w0 V → V.cell? ⟨W.heap.size, 0, none⟩ = some (.int .i64 x) ∧ V.cell? ⟨W.heap.size, 1, none⟩ = some (.int .i64 y) from fun V hV =>
        ⟨by rw [hV.cell (p := ⟨W.heap.size, 0, none⟩) (by dsimp only; omega)]; exact Z1.2.1.1, by rw [hV.cell (p := ⟨W.heap.size, 1, none⟩) (by dsimp only; omega)]; exact Z1.2.1.2⟩)
      have Hz := hide Z2
      have z := Z2.2
      clear Z1 Z2
      go_region_held3 (fun V => (Below (W.heap.size + 1) w0 V ∧ W.heap.size + 1 < V.heap.size) ∧ (V.cell? ⟨W.heap.size, 0, none⟩ = some (.int .i64 x) ∧ V.cell? ⟨W.heap.size, 1, none⟩ = some (.int .i64 y)) ∧ R2 V (W.heap.size + 1))
        (first
          | (exact SR.init (unhide Mk) (unhide Hz))
          | assumption
          | (exact SR.set (unhide Mk) (by assumption) _ _))
        (fail)
      go_wp2
      exact bodyPost_ret (v := .tuple #[.agg #[.int .i64 (x / m), .int .i64 (y / m)], .bool true]) (by simp [results, Tryd.results61, go_sem, z]) rfl ⟨rfl, bset (bset (Below.drew (unhide B0)) (by dsimp only; omega)) (by dsimp only; omega)⟩
    · rw [if_neg (fun k => hy k.2)]
      exact none W (Or.inr ⟨by simp [fx], by simp; exact fun k => hy (Int.emod_eq_zero_of_dvd (Int.dvd_of_tmod_eq_zero k))⟩)
  · rw [if_neg (fun k => hx k.1)]
    exact none W (Or.inl (by simp; exact fun k => hx (Int.emod_eq_zero_of_dvd (Int.dvd_of_tmod_eq_zero k))))
set_option maxHeartbeats 1000000 in
theorem kcompose_any (g t : Int) (f : Bool) (x y t' : Int) (f' : Bool) (x' y' T : Int) (F : Bool) (X Y : Int) (W : World) (hC : ComposeIs g t f x y t' f' x' y' T F X Y 0) :
    Calls Tryd.prog 60 #[.int .i64 g, .agg #[.int .i64 t, .bool f, .int .i64 x, .int .i64 y], .agg #[.int .i64 t', .bool f', .int .i64 x', .int .i64 y']] W fun e w' => e = .returned (.agg #[.int .i64 T, .bool F, .int .i64 X, .int .i64 Y]) ∧ Below W.heap.size W w' := by
  have HC := hide hC
  clear hC
  go_enter Tryd.func60, Tryd.ntmps60
  go_wp2_with fail
  refine (unhide HC _).mono ?_
  rintro e w1 ⟨rfl, hb⟩
  have R0 := OwnM.new ((W.alloc (.cells #[.int .i64 t, .bool f, .int .i64 x, .int .i64 y] 41)).alloc (.cells #[.int .i64 t', .bool f', .int .i64 x', .int .i64 y'] 41)) 0 false 0 0 41
  simp only [World.size_alloc] at R0
  have r := ((R0.keep hb).alloc (.cells #[.int .i64 T, .bool F, .int .i64 X, .int .i64 Y] 41)).2
  have S1 := bal (o := .cells #[.int .i64 T, .bool F, .int .i64 X, .int .i64 Y] 41) (btrans (bal (bal (bal (Below.refl W.heap.size W)))) hb)
  clear R0 hb
  go_wp2
  exact bodyPost_ret (v := .agg #[.int .i64 T, .bool F, .int .i64 X, .int .i64 Y]) (by simp [results, Tryd.results60, go_sem, r]) rfl ⟨rfl, bset (bset (bset (bset S1 (by dsimp only; omega)) (by dsimp only; omega)) (by dsimp only; omega)) (by dsimp only; omega)⟩
set_option maxHeartbeats 1000000 in
theorem kkeeps_any (g w h : Int) (p : Option Addr) (n cap q k cp s u v : Nat) (t : Int) (f : Bool) (x y : Int) (W : World) (kb : Bool) (ke : Int) (Rc : World → Prop) (hRc : ∀ V V', Rc V → Below V.heap.size V V' → Rc V')
    (hK : ∀ V, Rc V → KeepsIs 74 g w h p n cap t f x y V kb ke) (hc : Rc W) :
    Calls Tryd.prog 63 #[pvV g w h p n cap q k cp s u v, .agg #[.int .i64 t, .bool f, .int .i64 x, .int .i64 y]] W fun e w' => e = .returned (.bool kb) ∧ Below W.heap.size W w' := by
  have B0 := bal (o := .cells #[.int .i64 t, .bool f, .int .i64 x, .int .i64 y] 41) (bal (o := pcV g w h p n cap q k cp s u v) (Below.refl W.heap.size W))
  have Hc := hide (hRc _ _ hc B0)
  have HK := hide hK
  clear hc hRc hK
  go_enter Tryd.func63, Tryd.ntmps63
  go_wp2_with fail
  refine (unhide HK _ (unhide Hc)).mono ?_
  rintro e w1 ⟨rfl, hb⟩
  have S1 := btrans B0 hb
  clear B0 hb
  go_wp2
  go_ret
  exact ⟨ret_bool (by simp), S1⟩
end Go.Proofs.YtpcajcgafmmlkaaDoor

namespace Go.Proofs.YtpcajcgafmmlkaaDoor
open Go.RowKit

def bMv (t : Nat) (f : Bool) (X Y s u v i j : Nat) : Mv := (t, f, X + (i * s + j * u), Y + j * v)
def bRow (t : Nat) (f : Bool) (X Y s u v i : Nat) (c : Nat) : List Mv := (List.range c).map fun j => bMv t f X Y s u v i j
def bAll (t : Nat) (f : Bool) (X Y s u v c : Nat) (k : Nat) : List Mv := (List.range k).flatMap fun i => bRow t f X Y s u v i c
theorem bRow_succ (t : Nat) (f : Bool) (X Y s u v i c : Nat) : bRow t f X Y s u v i (c + 1) = bRow t f X Y s u v i c ++ [bMv t f X Y s u v i c] := by
  unfold bRow; rw [List.range_succ, List.map_append]; rfl
theorem bAll_succ (t : Nat) (f : Bool) (X Y s u v c k : Nat) : bAll t f X Y s u v c (k + 1) = bAll t f X Y s u v c k ++ bRow t f X Y s u v k c := by
  unfold bAll; rw [List.range_succ, List.flatMap_append]; simp
theorem bRow_len (t : Nat) (f : Bool) (X Y s u v i c : Nat) : (bRow t f X Y s u v i c).length = c := by unfold bRow; simp
theorem bAll_len (t : Nat) (f : Bool) (X Y s u v c k : Nat) : (bAll t f X Y s u v c k).length = k * c := by
  induction k with
  | zero => simp [bAll]
  | succ k ih => rw [bAll_succ, List.length_append, ih, bRow_len, Nat.add_mul, Nat.one_mul]

set_option maxHeartbeats 4000000 in
set_option maxRecDepth 100000 in
theorem behind_any (g w h : Int) (p : Option Addr) (n cap q kk cp s u v : Nat) (t : Nat) (f : Bool) (X Y c : Nat) (W : World) (hc : 1 ≤ c ∧ c ≤ 3) (hs : s ≤ 24) (hu : u ≤ 24) (hv : v ≤ 24) (hX : X ≤ 24) (hY : Y ≤ 24) :
    Calls Tryd.prog 44 #[pvV g w h p n cap q kk cp s u v, .agg #[.int .i64 t, .bool f, .int .i64 X, .int .i64 Y], .int .i64 c] W fun e w' => ∃ b cp', e = .returned (.slice (some ⟨b, 0, none⟩) (bAll t f X Y s u v c c).length cp') ∧ (MRow w' b (bAll t f X Y s u v c c) ∧ W.heap.size ≤ b) ∧ Below W.heap.size W w' := by
  obtain ⟨i0, hi, hz0, hz1, hz2⟩ := info_parts info45
  have B0 := bal (o := .cells #[.int .i64 t, .bool f, .int .i64 X, .int .i64 Y] 41) (bal (o := pcV g w h p n cap q kk cp s u v) (Below.refl W.heap.size W))
  have HB := hide B0
  have HP := hide ((OwnP.new W g w h p n cap q kk cp s u v).alloc (.cells #[.int .i64 t, .bool f, .int .i64 X, .int .i64 Y] 41))
  have M0 := OwnM.new (W.alloc (pcV g w h p n cap q kk cp s u v)) t f X Y 41
  rw [World.size_alloc] at M0
  have HM := hide M0
  clear M0 B0
  go_enter Tryd.func44, Tryd.ntmps44
  go_wp2
  generalize (W.alloc (pcV g w h p n cap q kk cp s u v)).alloc (.cells #[.int .i64 t, .bool f, .int .i64 X, .int .i64 Y] 41) = w0 at *
  go_loopw [7, 12] (fun o i wr => ∃ k : Nat, k ≤ c ∧ i = .int .i64 k ∧ wr.ownsRow w0.heap.size 41 4 o (bAll t f X Y s u v c k).length (mvsV (bAll t f X Y s u v c k)) ∧ Below w0.heap.size w0 wr) (fun _ i _ => c - (intOf i).toNat)
  case atStart => exact ⟨0, by omega, rfl, by simpa [bAll, mvsV] using World.ownsRow_nil w0 w0.heap.size 41 4, Below.refl _ _⟩
  case round =>
    obtain ⟨k, hk, rfl, hown, hbel⟩ := hrel
    by_cases hlt : k < c
    · have q2 : (k : Int) < (c : Int) := by omega
      have Hown := hide hown
      have Hbel := hide hbel
      clear hown hbel
      go_wp2
      go_loopw [7, 16] (fun o i wr => ∃ j : Nat, j ≤ c ∧ i = .int .i64 j ∧ wr.ownsRow w0.heap.size 41 4 o (bAll t f X Y s u v c k ++ bRow t f X Y s u v k j).length (mvsV (bAll t f X Y s u v c k ++ bRow t f X Y s u v k j)) ∧ Below w0.heap.size w0 wr) (fun _ i _ => c - (intOf i).toNat)
      case atStart => exact ⟨0, by omega, rfl, by simpa [bRow] using unhide Hown, unhide Hbel⟩
      case round =>
        clear Hown Hbel
        obtain ⟨j, hj, rfl, hown, hbel⟩ := hrel
        by_cases hlj : j < c
        · have q3 : (j : Int) < (c : Int) := by omega
          have Hs := hide (show bAll t f X Y s u v c k ++ bRow t f X Y s u v k (j + 1) = (bAll t f X Y s u v c k ++ bRow t f X Y s u v k j) ++ [bMv t f X Y s u v k j] by rw [bRow_succ, List.append_assoc])
          have hlen : (bAll t f X Y s u v c k ++ bRow t f X Y s u v k j).length ≤ 12 := by
            rw [List.length_append, bAll_len, bRow_len]
            have := Nat.mul_le_mul hk hc.2
            omega
          unfold bMv at Hs
          have l1 : k * s ≤ 72 := Nat.mul_le_mul (show k ≤ 3 by omega) hs
          have l2 : j * u ≤ 72 := Nat.mul_le_mul (show j ≤ 3 by omega) hu
          have l3 : j * v ≤ 72 := Nat.mul_le_mul (show j ≤ 3 by omega) hv
          have m1 : IntKind.i64.wrap ((k : Int) * (s : Int)) = ((k * s : Nat) : Int) := by rw [← Int.natCast_mul]; exact (Go.IntWalk.i64_left _).trans (Go.IntWalk.wrap64_in _ (by omega))
          have m2 : IntKind.i64.wrap ((j : Int) * (u : Int)) = ((j * u : Nat) : Int) := by rw [← Int.natCast_mul]; exact (Go.IntWalk.i64_left _).trans (Go.IntWalk.wrap64_in _ (by omega))
          have m3 : IntKind.i64.wrap ((j : Int) * (v : Int)) = ((j * v : Nat) : Int) := by rw [← Int.natCast_mul]; exact (Go.IntWalk.i64_left _).trans (Go.IntWalk.wrap64_in _ (by omega))
          generalize k * s = A1 at *
          generalize j * u = A2 at *
          generalize j * v = A3 at *
          generalize bAll t f X Y s u v c k ++ bRow t f X Y s u v k j = L0 at *
          have hbN := bal (o := .cells #[.int .i64 t, .bool f, .int .i64 X, .int .i64 Y] 41) (Below.refl wr.heap.size wr)
          have a := ((unhide HP).keep (btrans hbel hbN)).2
          have a2 := ((unhide HP).keep (btrans hbel (bal (o := .cells #[.int .i64 t, .bool f, .int .i64 ((X : Int) + ((A1 : Int) + (A2 : Int))), .int .i64 Y] 41) (Below.refl wr.heap.size wr)))).2
          have b := ((unhide HM).keep hbel).2.1
          have hs4 := hbel.size
          have hs5 := (unhide HP).1
          have n1 : ¬ wr.heap.size = W.heap.size := by omega
          have n2 : ¬ W.heap.size = wr.heap.size := by omega
          have hw0 : W.heap.size ≤ w0.heap.size := (unhide HB).size
          go_wp2_with (at_builtin; refine wpList_append_own _ rfl _ _ 31 rfl w0.heap.size 41 i0 (.agg #[.int .i64 0, .bool false, .int .i64 0, .int .i64 0]) 4 32 Tryd.underlying31 hi hz0 hz1 hz2 rfl (by decide) _ _ _ rfl ((hown.alloc _).alloc _) ⟨wr.heap.size + 1, 0, none⟩ 1 1 (mvC (t, f, X + (A1 + A2), Y + A3)) rfl rfl ?c1 ?c2 ?c3 ?c4 ?c5 ?_)
          case c1 =>
            intro j u hj
            match j, hj with
            | 0, hj => simp [mvC] at hj; subst hj; simp [Addr.add, go_sem]
            | 1, hj => simp [mvC] at hj; subst hj; simp [Addr.add, go_sem]
            | 2, hj => simp [mvC] at hj; subst hj; simp [Addr.add, go_sem]
            | 3, hj => simp [mvC] at hj; subst hj; simp [Addr.add, go_sem]
            | j + 4, hj => simp [mvC] at hj
          case c2 => intro u hu; simp [mvC] at hu; rcases hu with rfl | rfl | rfl | rfl <;> rfl
          case c3 => unfold maxLen; omega
          case c4 => omega
          case c5 => simp; omega
          intro v' w5 hown' hgrow _
          have S5 := ((hbel.alloc hbel.size _).alloc (by simp; omega) _).grown hgrow (by simp; omega) (fun k hk => (hown.lt k hk).1)
          clear hgrow hown hbel a a2 b
          go_wp2
          go_roundw
          case rel => exact ⟨j + 1, by omega, by go_num, by rw [unhide Hs, List.length_append, mvsV_snoc]; exact hown', S5⟩
          case measure => simp [intOf]; omega
        · have e : c = j := by omega
          subst e
          have cl : ¬ ((c : Int) < (c : Int)) := by omega
          have HSe := hide hbel
          have HOe := hide hown
          clear hbel hown hlj hj
          go_wp2
          go_roundw
          case rel => exact ⟨k + 1, by omega, by go_num, by rw [bAll_succ]; exact unhide HOe, unhide HSe⟩
          case measure => simp [intOf]; omega
    · have e : c = k := by omega
      subst e
      have cl : ¬ ((c : Int) < (c : Int)) := by omega
      have hpos : 1 ≤ (bAll t f X Y s u v c c).length := by rw [bAll_len]; exact Nat.mul_pos hc.1 hc.1
      obtain ⟨qb, cpb, rfl⟩ := own_slice hown hpos
      have HSe := hide (btrans (unhide HB) hbel)
      have HMR := hide (And.intro (mrow_own hown) (Nat.le_trans (unhide HB).size (hown.lt qb rfl).1))
      clear hbel hown hlt hk hpos
      go_wp2
      exact bodyPost_ret (v := .slice (some ⟨qb, 0, none⟩) (bAll t f X Y s u v c c).length cpb) (by simp [results, Tryd.results44]) rfl ⟨qb, ⟨cpb, rfl⟩, unhide HMR, unhide HSe⟩
end Go.Proofs.YtpcajcgafmmlkaaDoor

namespace Go.Proofs.YtpcajcgafmmlkaaDoor
open Go.RowKit

theorem compose_mid (g t : Int) (f : Bool) (x y t' : Int) (f' : Bool) (x' y' : Int) (hg : g = 4 ∨ g = 6) (ht : 0 ≤ t ∧ t < g) (ht' : 0 ≤ t' ∧ t' < g) (hx : -1000 ≤ x ∧ x ≤ 1000) (hy : -1000 ≤ y ∧ y ≤ 1000) (hx' : -1000 ≤ x' ∧ x' ≤ 1000) (hy' : -1000 ≤ y' ∧ y' ≤ 1000) :
    ComposeIs g t f x y t' f' x' y' (cT g t f t') (cF f f') (mv g t.toNat f x y x' y').1 (mv g t.toNat f x y x' y').2 0 := by
  have h := compose_any g t f x y t' f' x' y'
  have w1 := wE_of hg ht (sm2_of (x := x) (y := y) (by omega) (by omega))
  have w2 := wE_of hg ht' (sm2_of (x := x') (y := y') (by omega) (by omega))
  have hz := Sz.mv (g := g) (show Sz g 2000 x' y' by unfold Sz; omega) (show Sz g 2000 x y by unfold Sz; omega) t.toNat f
  have hE : kE g t f x y t' x' y' = 0 := by
    rw [kE_of g t f x y t' x' y' w1 w2, if_pos]
    exact sm2_of (by unfold Sz at hz; omega) (by unfold Sz at hz; omega)
  obtain ⟨-, -, -, e1, e2, e3⟩ := kE_zero g t f x y t' f' x' y' hE
  rw [hE, e1, e2, e3] at h
  exact h
/-- no step makes a mirror of a flip: K tells the steps -/
def glB (K : Int → Int → Bool) (g : Int) (t X Y : Nat) : Bool :=
  !(decide ((0 - (mv g t true X Y X Y).1) % 2 = 0) && decide ((0 - (mv g t true X Y X Y).2) % 2 = 0) && K ((0 - (mv g t true X Y X Y).1) / 2) ((0 - (mv g t true X Y X Y).2) / 2))

set_option maxHeartbeats 4000000 in
set_option maxRecDepth 100000 in
theorem isGlide_any (g w h : Int) (p : Option Addr) (n cap q k cp s u v : Nat) (t X Y : Nat) (K : Int → Int → Bool) (Rc : World → Prop) (W : World) (hg : g = 4 ∨ g = 6) (ht : (t : Int) < g) (hX : X ≤ 200) (hY : Y ≤ 200) (h0 : K 0 0 = true)
    (hRc : ∀ V V', Rc V → Below V.heap.size V V' → Rc V') (HK : ∀ V, Rc V → ∀ x y : Int, -10000 ≤ x ∧ x ≤ 10000 → -10000 ≤ y ∧ y ≤ 10000 → KeepsIs 74 g w h p n cap 0 false x y V (K x y) 0) (hc : Rc W) :
    Calls Tryd.prog 45 #[pvV g w h p n cap q k cp s u v, .agg #[.int .i64 t, .bool true, .int .i64 X, .int .i64 Y]] W fun e w' => e = .returned (.bool (glB K g t X Y)) ∧ Below W.heap.size W w' := by
  have hcm := compose_mid g t true X Y t true X Y hg ⟨by omega, ht⟩ ⟨by omega, ht⟩ (by omega) (by omega) (by omega) (by omega)
  have hz := Sz.mv (g := g) (show Sz g 400 X Y by unfold Sz; omega) (show Sz g 400 X Y by unfold Sz; omega) t true
  rw [Int.toNat_natCast, show cT g t true t = 0 by simp only [cT]; rcases hg with rfl | rfl <;> omega, show cF true true = false from rfl] at hcm
  generalize hA : glB K g t X Y = ans
  unfold glB at hA
  generalize (mv g t true X Y X Y).1 = T1 at *
  generalize (mv g t true X Y X Y).2 = T2 at *
  have b1 : -800 ≤ T1 ∧ T1 ≤ 800 := by unfold Sz at hz; omega
  have b2 : -800 ≤ T2 ∧ T2 ≤ 800 := by unfold Sz at hz; omega
  have HC := hide (fun V => kcompose_any g t true X Y t true X Y 0 false T1 T2 V hcm)
  have HMi := hide (fun V => minus_any 0 0 T1 T2 V (by omega))
  have HPa := hide (fun V => kpart_any (0 - T1) (0 - T2) 2 V (Or.inl rfl) (by omega))
  have e1 : T1 = 0 → 0 - T1 = 0 := by omega
  have e2 : T2 = 0 → 0 - T2 = 0 := by omega
  have b3 : -800 ≤ 0 - T1 ∧ 0 - T1 ≤ 800 := by omega
  have b4 : -800 ≤ 0 - T2 ∧ 0 - T2 ≤ 800 := by omega
  generalize 0 - T1 = M1 at *
  generalize 0 - T2 = M2 at *
  have HKe := hide (fun V (hc : Rc V) x y hx hy => kkeeps_any g w h p n cap q k cp s u v 0 false x y V (K x y) 0 Rc hRc (fun V' hV' => HK V' hV' x y hx hy) hc)
  have HRc := hide hRc
  have B0 := bal (o := .cells #[.int .i64 t, .bool true, .int .i64 X, .int .i64 Y] 41) (bal (o := pcV g w h p n cap q k cp s u v) (Below.refl W.heap.size W))
  have Hc := hide (hRc _ _ hc B0)
  have HB := hide B0
  have HP := hide ((OwnP.new W g w h p n cap q k cp s u v).alloc (.cells #[.int .i64 t, .bool true, .int .i64 X, .int .i64 Y] 41))
  have hG := hide hg
  clear hcm hz HK hRc hc B0 hg
  go_enter Tryd.func45, Tryd.ntmps45
  go_wp2_with fail
  generalize (W.alloc (pcV g w h p n cap q k cp s u v)).alloc (.cells #[.int .i64 t, .bool true, .int .i64 X, .int .i64 Y] 41) = w0 at *
  refine (unhide HC _).mono ?_
  rintro e w1 ⟨rfl, hb⟩
  have S1 := bal (o := .cells #[.int .i64 0, .bool false, .int .i64 T1, .int .i64 T2] 41) hb
  have HT := hide (OwnM.new w1 0 false T1 T2 41)
  clear hb
  by_cases hT : T1 = 0 ∧ T2 = 0
  · obtain ⟨rfl, rfl⟩ := hT
    rw [e1 rfl, e2 rfl] at hA
    simp [h0] at hA
    subst hA
    go_wp2
    go_ret
    exact ⟨ret_bool (by simp), btrans (unhide HB) S1⟩
  · have hT2 : (T1 == 0) = false ∨ T1 = 0 ∧ (T2 == 0) = false := by
      by_cases e : T1 = 0
      · exact Or.inr ⟨e, by simp; exact fun e2 => hT ⟨e, e2⟩⟩
      · exact Or.inl (by simp [e])
    clear hT e1 e2
    by_cases hd : M1 % 2 = 0 ∧ M2 % 2 = 0
    · rw [if_pos hd] at HPa
      have d1 : -10000 ≤ M1 / 2 ∧ M1 / 2 ≤ 10000 := by omega
      have d2 : -10000 ≤ M2 / 2 ∧ M2 / 2 ≤ 10000 := by omega
      have hans : (!(decide (M1 % 2 = 0) && decide (M2 % 2 = 0) && K (M1 / 2) (M2 / 2))) = !K (M1 / 2) (M2 / 2) := by simp only [hd, decide_true, Bool.true_and]
      have hA2 := hA.symm.trans hans
      have HK1 := hide (fun V hc => unhide HKe V hc _ _ d1 d2)
      generalize M1 / 2 = D1 at *
      generalize M2 / 2 = D2 at *
      generalize K D1 D2 = kb at *
      subst hA2
      clear hd hans hA HKe
      rcases hT2 with hT | ⟨rfl, hT⟩
      all_goals
        go_wp2_with fail
        generalize w1.alloc (.cells #[.int .i64 0, .bool false, .int .i64 _, .int .i64 T2] 41) = w2 at *
        refine (unhide HMi _).mono ?_
        rintro e w3 ⟨rfl, hb⟩
        have S3 := btrans S1 hb
        clear hb S1
        go_wp2_with fail
        refine (unhide HPa _).mono ?_
        rintro e w4 ⟨rfl, hb⟩
        have S4 := btrans S3 (bal (o := .cells #[.int .i64 D1, .int .i64 D2] 33) hb)
        have a := ((unhide HP).keep S4).2
        clear hb S3
        go_wp2_with fail
        clear a
        generalize w4.alloc (.cells #[.int .i64 D1, .int .i64 D2] 33) = w5 at *
        refine (unhide HK1 _ (unhide HRc _ _ (unhide Hc) S4)).mono ?_
        rintro e w6 ⟨rfl, hb⟩
        have S6 := btrans S4 hb
        clear hb S4
        go_wp2
        go_ret
        exact ⟨ret_bool (by simp), btrans (unhide HB) S6⟩
    · rw [if_neg hd] at HPa
      have hans : (!(decide (M1 % 2 = 0) && decide (M2 % 2 = 0) && K (M1 / 2) (M2 / 2))) = true := by
        by_cases e : M1 % 2 = 0
        · have e2 : ¬ M2 % 2 = 0 := fun k => hd ⟨e, k⟩
          simp only [e, e2, decide_true, decide_false, Bool.true_and, Bool.false_and, Bool.not_false]
        · simp only [e, decide_false, Bool.false_and, Bool.not_false]
      have hA2 := hA.symm.trans hans
      subst hA2
      clear hd hans hA HKe
      rcases hT2 with hT | ⟨rfl, hT⟩
      all_goals
        go_wp2_with fail
        generalize w1.alloc (.cells #[.int .i64 0, .bool false, .int .i64 _, .int .i64 T2] 41) = w2 at *
        refine (unhide HMi _).mono ?_
        rintro e w3 ⟨rfl, hb⟩
        have S3 := btrans S1 hb
        clear hb S1
        go_wp2_with fail
        refine (unhide HPa _).mono ?_
        rintro e w4 ⟨rfl, hb⟩
        have S4 := btrans S3 (bal (o := .cells #[.int .i64 0, .int .i64 0] 33) hb)
        clear hb S3
        go_wp2
        go_ret
        exact ⟨ret_bool (by simp), btrans (unhide HB) S4⟩
end Go.Proofs.YtpcajcgafmmlkaaDoor
