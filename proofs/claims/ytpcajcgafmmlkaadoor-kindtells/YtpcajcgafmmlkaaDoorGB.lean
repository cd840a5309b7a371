/-
  What cellBy and onto of package group answer.
-/
import Derived.Test.YtpcajcgafmmlkaaDoorGA
namespace Go.Proofs.YtpcajcgafmmlkaaDoor
open Go.RowKit

set_option maxHeartbeats 600000 in
theorem cellBy_any (g n : Int) (q : Option Addr) (k cap : Nat) (x y u v : Int) (w : World) (hn : 1 ≤ n ∧ n ≤ 24) (hx : 0 ≤ x ∧ x ≤ 24) (hy : 0 ≤ y ∧ y ≤ 24) (hu : 0 ≤ u ∧ u ≤ 24) (hv : 0 ≤ v ∧ v ≤ 24) : Calls Tryd.prog 72 #[tv g n q k cap, .agg #[.int .i64 x, .int .i64 y], .agg #[.int .i64 u, .int .i64 v]] w fun e w' => e = .returned (.int .i64 ((y + v) % n * n + (x + u) % n)) ∧ Below w.heap.size w w' := by
  have h0 : n ≠ 0 := by omega
  have e1 := hide (wrap_tmod (x + u) n (by omega) (by omega) (by omega))
  have e2 := hide (wrap_tmod (y + v) n (by omega) (by omega) (by omega))
  have HC := hide (fun W => gcell_any g n q k cap ((x + u) % n) ((y + v) % n) W hn ⟨Int.emod_nonneg _ h0, by have := Int.emod_lt_of_pos (x + u) (show 0 < n by omega); omega⟩ ⟨Int.emod_nonneg _ h0, by have := Int.emod_lt_of_pos (y + v) (show 0 < n by omega); omega⟩)
  rw [← unhide e1, ← unhide e2] at HC
  have T0 := ((OwnT.new w g n q k cap 74).alloc (.cells #[.int .i64 x, .int .i64 y] 33)).alloc (.cells #[.int .i64 u, .int .i64 v] 33)
  have Z1 := (Own.new (w.alloc (.cells #[.int .i64 g, .int .i64 n, .slice q k cap] 74)) x y 33).alloc (.cells #[.int .i64 u, .int .i64 v] 33)
  have Z2 := Own.new ((w.alloc (.cells #[.int .i64 g, .int .i64 n, .slice q k cap] 74)).alloc (.cells #[.int .i64 x, .int .i64 y] 33)) u v 33
  have B0 := hide (bal (o := .cells #[.int .i64 u, .int .i64 v] 33) (bal (o := .cells #[.int .i64 x, .int .i64 y] 33) (bal (o := .cells #[.int .i64 g, .int .i64 n, .slice q k cap] 74) (Below.refl w.heap.size w))))
  simp only [World.size_alloc] at Z1 Z2
  go_enter Tryd.func72, Tryd.ntmps72
  go_wp2_with fail
  generalize ((w.alloc (.cells #[.int .i64 g, .int .i64 n, .slice q k cap] 74)).alloc (.cells #[.int .i64 x, .int .i64 y] 33)).alloc (.cells #[.int .i64 u, .int .i64 v] 33) = w0 at *
  have Mk := hide (fun V (hV : Below w0.heap.size w0 V) => (⟨hV, (T0.keep hV).2, (Z1.keep hV).2.1, (Z2.keep hV).2.1⟩ : _ ∧ _ ∧ _ ∧ _))
  clear T0 Z1 Z2
  go_region_held3 (fun V => Below w0.heap.size w0 V ∧ (V.cell? ⟨w.heap.size, 0, none⟩ = some (.int .i64 g) ∧ V.cell? ⟨w.heap.size, 1, none⟩ = some (.int .i64 n) ∧ V.cell? ⟨w.heap.size, 2, none⟩ = some (.slice q k cap)) ∧ (V.cell? ⟨w.heap.size + 1, 0, none⟩ = some (.int .i64 x) ∧ V.cell? ⟨w.heap.size + 1, 1, none⟩ = some (.int .i64 y)) ∧ (V.cell? ⟨w.heap.size + 2, 0, none⟩ = some (.int .i64 u) ∧ V.cell? ⟨w.heap.size + 2, 1, none⟩ = some (.int .i64 v)))
    (first
      | (exact unhide Mk _ (Below.drew (Below.refl _ _)))
      | (exact unhide Mk _ (btrans (by assumption : Below w0.heap.size w0 _ ∧ _).1 hb)))
    (first
      | (go_at_call 79; refine (unhide HC _).mono ?_; rintro e w1 ⟨rfl, hb⟩))
  go_wp2
  go_ret
  exact ⟨ret_int (by rw [unhide e1, unhide e2]), btrans (unhide B0) (by assumption : Below w0.heap.size w0 _ ∧ _).1⟩

/-- a point's box that may be written, whatever it holds -/
abbrev R2 (V : World) (b : Nat) : Prop := (V.cell? ⟨b, 0, none⟩ = some (hat V b 0) ∧ V.cell? ⟨b, 1, none⟩ = some (hat V b 1)) ∧ V.frozen? ⟨b, 0, none⟩ = false ∧ V.frozen? ⟨b, 1, none⟩ = false
theorem R2.of {V : World} {b : Nat} {x y : Int} (h : Own V b x y) : R2 V b := ⟨⟨hat_of h.2.1.1, hat_of h.2.1.2⟩, h.2.2⟩
/-- what holds while a struct of two parts is made: nothing below B has turned, the loads L, and the box B -/
abbrev SR (B : Nat) (w0 : World) (L : World → Prop) (V : World) : Prop := (Below B w0 V ∧ B < V.heap.size) ∧ L V ∧ R2 V B
theorem SR.init {B : Nat} {w0 : World} {L : World → Prop} {x y : Int} (Mk : ∀ V, Below B w0 V → L V) (h : Own w0 B x y) : SR B w0 L w0.drew :=
  ⟨⟨Below.drew (Below.refl _ _), by simpa using h.1⟩, Mk _ (Below.drew (Below.refl _ _)), R2.of (h.keep (Below.drew (Below.refl _ _)))⟩
theorem SR.call {B : Nat} {w0 : World} {L : World → Prop} {V V' : World} (Mk : ∀ V, Below B w0 V → L V) (h : SR B w0 L V) (hb : Below V.heap.size V V') : SR B w0 L V' := by
  obtain ⟨⟨h1, h2⟩, _, ⟨h3, h4⟩, h5, h6⟩ := h
  have hB := h1.trans (hb.mono (Nat.le_of_lt h2))
  exact ⟨⟨hB, Nat.lt_of_lt_of_le h2 hb.size⟩, Mk _ hB, ⟨hat_of (keepC hb h2 h3), hat_of (keepC hb h2 h4)⟩, keepF hb h2 h5, keepF hb h2 h6⟩
theorem SR.set {B : Nat} {w0 : World} {L : World → Prop} {V : World} (Mk : ∀ V, Below B w0 V → L V) (h : SR B w0 L V) (v0 v1 : Value) : SR B w0 L ((V.setCell ⟨B, 0, none⟩ v0).setCell ⟨B, 1, none⟩ v1) := by
  obtain ⟨⟨h1, h2⟩, _, ⟨h3, h4⟩, h5, h6⟩ := h
  have hB := (h1.setCell (p := ⟨B, 0, none⟩) (Nat.le_refl _) v0).setCell (p := ⟨B, 1, none⟩) (Nat.le_refl _) v1
  refine ⟨⟨hB, by simpa using h2⟩, Mk _ hB, ⟨?_, ?_⟩, ?_, ?_⟩
  · exact hat_of (v := v0) (by simp [go_sem, h3])
  · exact hat_of (v := v1) (by simp [go_sem, h4])
  · simp [go_sem, h5]
  · simp [go_sem, h6]

set_option maxHeartbeats 1000000 in
theorem onto_any (g n : Int) (q : Option Addr) (k cap : Nat) (x y : Int) (w : World) (hn : 1 ≤ n ∧ n ≤ 24) : Calls Tryd.prog 71 #[tv g n q k cap, .agg #[.int .i64 x, .int .i64 y]] w fun e w' => e = .returned (.agg #[.int .i64 (x % n), .int .i64 (y % n)]) ∧ Below w.heap.size w w' := by
  have HX := hide (fun W => gmodulo_any x n W (by omega))
  have HY := hide (fun W => gmodulo_any y n W (by omega))
  generalize x % n = xx at *
  generalize y % n = yy at *
  have T0 := ((OwnT.new w g n q k cap 74).alloc (.cells #[.int .i64 x, .int .i64 y] 33)).alloc (.cells #[.int .i64 0, .int .i64 0] 33)
  have Z1 := (Own.new (w.alloc (.cells #[.int .i64 g, .int .i64 n, .slice q k cap] 74)) x y 33).alloc (.cells #[.int .i64 0, .int .i64 0] 33)
  have Z2 := Own.new ((w.alloc (.cells #[.int .i64 g, .int .i64 n, .slice q k cap] 74)).alloc (.cells #[.int .i64 x, .int .i64 y] 33)) 0 0 33
  have B0 := hide (bal (o := .cells #[.int .i64 0, .int .i64 0] 33) (bal (o := .cells #[.int .i64 x, .int .i64 y] 33) (bal (o := .cells #[.int .i64 g, .int .i64 n, .slice q k cap] 74) (Below.refl w.heap.size w))))
  simp only [World.size_alloc] at Z1 Z2
  go_enter Tryd.func71, Tryd.ntmps71
  go_wp2_with fail
  generalize ((w.alloc (.cells #[.int .i64 g, .int .i64 n, .slice q k cap] 74)).alloc (.cells #[.int .i64 x, .int .i64 y] 33)).alloc (.cells #[.int .i64 0, .int .i64 0] 33) = w0 at *
  have Mk := hide (show ∀ V, Below (w.heap.size + 1 + 1) w0 V → V.cell? ⟨w.heap.size, 1, none⟩ = some (.int .i64 n) ∧ V.cell? ⟨w.heap.size + 1, 0, none⟩ = some (.int .i64 x) ∧ V.cell? ⟨w.heap.size + 1, 1, none⟩ = some (.int .i64 y) from fun V hV =>
    ⟨by rw [hV.cell (p := ⟨w.heap.size, 1, none⟩) (by dsimp only; omega)]; exact T0.2.2.1, by rw [hV.cell (p := ⟨w.heap.size + 1, 0, none⟩) (by dsimp only; omega)]; exact Z1.2.1.1, by rw [hV.cell (p := ⟨w.heap.size + 1, 1, none⟩) (by dsimp only; omega)]; exact Z1.2.1.2⟩)
  have Hz := hide Z2
  have z := Z2.2
  clear T0 Z1 Z2
  go_region_held3 (fun V => (Below (w.heap.size + 1 + 1) w0 V ∧ w.heap.size + 1 + 1 < V.heap.size) ∧ (V.cell? ⟨w.heap.size, 1, none⟩ = some (.int .i64 n) ∧ V.cell? ⟨w.heap.size + 1, 0, none⟩ = some (.int .i64 x) ∧ V.cell? ⟨w.heap.size + 1, 1, none⟩ = some (.int .i64 y)) ∧ R2 V (w.heap.size + 1 + 1))
    (first
      | (exact SR.init (unhide Mk) (unhide Hz))
      | assumption
      | (exact SR.set (unhide Mk) (by assumption) _ _))
    (first
      | (go_at_call_of 78 x; refine (unhide HX _).mono ?_; rintro e w1 ⟨rfl, rfl⟩)
      | (go_at_call_of 78 y; refine (unhide HY _).mono ?_; rintro e w1 ⟨rfl, rfl⟩))
  go_wp2
  exact bodyPost_ret (v := .agg #[.int .i64 xx, .int .i64 yy]) (by simp [results, Tryd.results71, go_sem, z]) rfl ⟨rfl, bset (bset (Below.drew (unhide B0)) (by dsimp only; omega)) (by dsimp only; omega)⟩
end Go.Proofs.YtpcajcgafmmlkaaDoor
