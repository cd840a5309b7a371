/-
  What Moved of the reference answers.
-/
import Derived.Test.YtagiekbijmdmdaaGR
import Derived.Deep.OwnRows
namespace Go.Proofs.Ytagiekbijmdmdaa
open Go.RowKit

/-- where the reference puts the i-th cell's colour, and which it is -/
def tgtR (g : Int) (t : Nat) (f : Bool) (u v : Int) (N i : Nat) : Nat := cby N (mv g t f u v ((i : Int) % N) ((i : Int) / N)).1 (mv g t f u v ((i : Int) % N) ((i : Int) / N)).2 0 0
def srcR (P : Int → Int → Int) (N i : Nat) : Int := P ((i : Int) % N) ((i : Int) / N)
theorem irow_new (w : World) (k : Nat) (tgt : Nat → Nat) (src : Nat → Int) (hk : k ≤ 9223372036854775807) : IRow (w.alloc (.cells (madeCells #[.int .i64 0] k) 3)) w.heap.size k (mcF tgt src 0) := by
  have h := World.ownsRow_lit (base := 0) (size := 1) w (madeCells #[.int .i64 0] k) (e := 3) k (Nat.zero_le _) (by unfold maxLen; exact hk) (by rw [size_madeCells, Nat.mul_one])
  exact irow_made tgt src h
theorem mcF_congr (tgt tgt' : Nat → Nat) (src src' : Nat → Int) (k : Nat) (h : ∀ i, i < k → tgt i = tgt' i ∧ src i = src' i) : mcF tgt src k = mcF tgt' src' k := by
  induction k with
  | zero => rfl
  | succ k ih =>
    unfold mcF
    rw [ih (fun i hi => h i (by omega)), (h k (by omega)).1, (h k (by omega)).2]

theorem r4_grown {a b : World} {o : Nat} {row : Option Nat} (h : R4 a o) (hl : o < a.heap.size) (hg : a.grownBy b row) (hne : some o ≠ row) : R4 b o := by
  obtain ⟨⟨c0, c1, c2, c3⟩, d0, d1, d2, d3⟩ := h
  refine ⟨C4.hat ⟨gcell hg hl hne c0, gcell hg hl hne c1, gcell hg hl hne c2, gcell hg hl hne c3⟩, ?_, ?_, ?_, ?_⟩
  · rw [World.frozen?_of_block (hg.block o hl hne)]; exact d0
  · rw [World.frozen?_of_block (hg.block o hl hne)]; exact d1
  · rw [World.frozen?_of_block (hg.block o hl hne)]; exact d2
  · rw [World.frozen?_of_block (hg.block o hl hne)]; exact d3

set_option maxHeartbeats 1000000 in
theorem rmoved_err1 (g w h : Int) (p : Option Addr) (n cap : Nat) (px : Nat → Int) (t : Int) (f : Bool) (x y : Int) (W : World) (hc : Ch.Cells W p n px) (er : Int) (her : toE g w h n px = er) (hp : 1 ≤ er) : MovedErr 23 g w h p n cap t f x y W er := by
  have HT := hide (fun V (hc : Ch.Cells V p n px) => rtorus_any g w h p n cap px V hc)
  rw [her] at HT
  generalize toN g w h n px = N at *
  have B0 := bal (o := .cells #[.int .i64 0, .int .i64 0, .int .i64 0, .slice none 0 0] 24) (bal (o := .cells #[.int .i64 t, .bool f, .int .i64 x, .int .i64 y] 45) (bal (o := .cells #[.int .i64 g, .int .i64 w, .int .i64 h, .slice p n cap] 24) (Below.refl W.heap.size W)))
  have D0 := R4.new ((W.alloc (.cells #[.int .i64 g, .int .i64 w, .int .i64 h, .slice p n cap] 24)).alloc (.cells #[.int .i64 t, .bool f, .int .i64 x, .int .i64 y] 45)) 24
  simp only [World.size_alloc] at D0
  have hz : W.heap.size + 1 + 1 < (((W.alloc (.cells #[.int .i64 g, .int .i64 w, .int .i64 h, .slice p n cap] 24)).alloc (.cells #[.int .i64 t, .bool f, .int .i64 x, .int .i64 y] 45)).alloc (.cells #[.int .i64 0, .int .i64 0, .int .i64 0, .slice none 0 0] 24)).heap.size := by simp
  have Hc := hide (hc.keep B0)
  have HB := hide B0
  clear her hc B0
  unfold MovedErr
  go_enter Try.func23, Try.ntmps23
  go_wp2_with fail
  generalize ((W.alloc (.cells #[.int .i64 g, .int .i64 w, .int .i64 h, .slice p n cap] 24)).alloc (.cells #[.int .i64 t, .bool f, .int .i64 x, .int .i64 y] 45)).alloc (.cells #[.int .i64 0, .int .i64 0, .int .i64 0, .slice none 0 0] 24) = w0 at *
  refine (unhide HT _ (unhide Hc)).mono ?_
  rintro e w1 ⟨rfl, hb⟩
  have S := btrans (unhide HB) hb
  obtain ⟨⟨d0, d1, d2, d3⟩, f0, f1, f2, f3⟩ := R4.keep D0 hz hb
  have hz1 : W.heap.size + 1 + 1 < w1.heap.size := Nat.lt_of_lt_of_le hz hb.size
  clear hb Hc HB D0
  go_wp2
  exact bodyPost_ret (v := .tuple #[Ch.ch 0 0 0 none 0 0, .int .i64 er]) (by simp [results, Try.results23, go_sem, d0, d1, d2, d3]) rfl ⟨rfl, bset (bset (bset (bset S (by dsimp only; omega)) (by dsimp only; omega)) (by dsimp only; omega)) (by dsimp only; omega)⟩

set_option maxHeartbeats 2000000 in
theorem rmoved_err2 (g w h : Int) (p : Option Addr) (n cap : Nat) (px : Nat → Int) (w' h' N b o : Nat) (t : Int) (f : Bool) (x y : Int) (W : World) (r : Right W g w h p n px w' h' N b o) (er : Int) (her : wE g t x y = er) (hp : 1 ≤ er) : MovedErr 23 g w h p n cap t f x y W er := by
  have HT := hide (fun V (r : Right V g w h p n px w' h' N b o) => rtorus_any g w h p n cap px V (Or.inr ⟨b, o, r.hp, r.row⟩))
  rw [r.hE, r.hN] at HT
  have HW := hide (rwrong_any g t f x y)
  rw [her] at HW
  have B0 := bal (o := .cells #[.int .i64 0, .int .i64 0, .int .i64 0, .slice none 0 0] 24) (bal (o := .cells #[.int .i64 t, .bool f, .int .i64 x, .int .i64 y] 45) (bal (o := .cells #[.int .i64 g, .int .i64 w, .int .i64 h, .slice p n cap] 24) (Below.refl W.heap.size W)))
  have D0 := R4.new ((W.alloc (.cells #[.int .i64 g, .int .i64 w, .int .i64 h, .slice p n cap] 24)).alloc (.cells #[.int .i64 t, .bool f, .int .i64 x, .int .i64 y] 45)) 24
  have C0 := ((Ch.OwnC.new W g w h p n cap 24).alloc (.cells #[.int .i64 t, .bool f, .int .i64 x, .int .i64 y] 45)).alloc (.cells #[.int .i64 0, .int .i64 0, .int .i64 0, .slice none 0 0] 24)
  have M0 := (OwnM.new (W.alloc (.cells #[.int .i64 g, .int .i64 w, .int .i64 h, .slice p n cap] 24)) t f x y 45).alloc (.cells #[.int .i64 0, .int .i64 0, .int .i64 0, .slice none 0 0] 24)
  simp only [World.size_alloc] at D0 M0
  have hz : W.heap.size + 1 + 1 < (((W.alloc (.cells #[.int .i64 g, .int .i64 w, .int .i64 h, .slice p n cap] 24)).alloc (.cells #[.int .i64 t, .bool f, .int .i64 x, .int .i64 y] 45)).alloc (.cells #[.int .i64 0, .int .i64 0, .int .i64 0, .slice none 0 0] 24)).heap.size := by simp
  have Hr := hide (r.keep B0)
  have HB := hide B0
  have HC0 := hide C0
  have HM0 := hide M0
  clear her r B0 C0 M0
  unfold MovedErr
  go_enter Try.func23, Try.ntmps23
  go_wp2_with fail
  generalize ((W.alloc (.cells #[.int .i64 g, .int .i64 w, .int .i64 h, .slice p n cap] 24)).alloc (.cells #[.int .i64 t, .bool f, .int .i64 x, .int .i64 y] 45)).alloc (.cells #[.int .i64 0, .int .i64 0, .int .i64 0, .slice none 0 0] 24) = w0 at *
  refine (unhide HT _ (unhide Hr)).mono ?_
  rintro e w1 ⟨rfl, hb⟩
  have S := btrans (unhide HB) hb
  have D1 := R4.keep D0 hz hb
  have hz1 := Nat.lt_of_lt_of_le hz hb.size
  have c := ((unhide HC0).keep hb).2
  have m := ((unhide HM0).keep hb).2.1
  have HD1 := hide D1
  clear hb Hr HB D0 D1
  go_wp2_with fail
  clear c m
  refine (unhide HW _).mono ?_
  rintro e w3 ⟨rfl, hb⟩
  have S2 := btrans S hb
  obtain ⟨⟨d0, d1, d2, d3⟩, f0, f1, f2, f3⟩ := R4.keep (unhide HD1) hz1 hb
  clear hb S HD1
  go_wp2
  exact bodyPost_ret (v := .tuple #[Ch.ch 0 0 0 none 0 0, .int .i64 er]) (by simp [results, Try.results23, go_sem, d0, d1, d2, d3]) rfl ⟨rfl, bset (bset (bset (bset S2 (by dsimp only; omega)) (by dsimp only; omega)) (by dsimp only; omega)) (by dsimp only; omega)⟩

end Go.Proofs.Ytagiekbijmdmdaa
