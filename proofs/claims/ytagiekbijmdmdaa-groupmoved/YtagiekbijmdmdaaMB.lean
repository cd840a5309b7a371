/-
  GroupMoved: the moved chart is a right one; the law's walk where a chart or a move is wrong, or what undoes the move is out of bounds.
-/
import Derived.Test.YtagiekbijmdmdaaMA
namespace Go.Proofs.Ytagiekbijmdmdaa
open Go.RowKit

theorem mcF_or (tgt : Nat → Nat) (src : Nat → Int) (k j : Nat) : mcF tgt src k j = 0 ∨ ∃ i, mcF tgt src k j = src i := by
  induction k with
  | zero => exact Or.inl rfl
  | succ k ih =>
    simp only [mcF, put]
    split
    · exact Or.inr ⟨k, rfl⟩
    · exact ih
theorem allin_of (px : Nat → Int) (n : Nat) (h : ∀ k, 0 ≤ px k ∧ px k ≤ 61) : Ch.allin px n = true := by
  induction n with
  | zero => rfl
  | succ n ih =>
    have := h n
    simp only [Ch.allin, ih, Bool.true_and]
    simp only [this.1, this.2, decide_true, Bool.and_self]
theorem Right.colours {W : World} {g w h : Int} {p : Option Addr} {n : Nat} {px : Nat → Int} {w' h' N b o : Nat} (r : Right W g w h p n px w' h' N b o) : Ch.allin px n = true := by
  obtain ⟨_, _, _, _, hc, _⟩ := Ch.wE_zero g w h p n px W (Or.inr ⟨b, o, r.hp, r.row⟩) (toE_zero r.hE).1
  exact hc
theorem Right.moved {W : World} {g w h : Int} {p : Option Addr} {n : Nat} {px : Nat → Int} {w' h' N b o : Nat} (r : Right W g w h p n px w' h' N b o) (t : Nat) (f : Bool) (x y : Int) {V : World} {q : Nat} (hrow : Ch.Row V q 0 (N * N) (movP w' h' N px g t f x y)) :
    Right V g N N (some ⟨q, 0, none⟩) (N * N) (movP w' h' N px g t f x y) N N N q 0 := by
  have hN1 := r.hN1
  have hcol : ∀ k, 0 ≤ movP w' h' N px g t f x y k ∧ movP w' h' N px g t f x y k ≤ 61 := by
    intro k
    unfold movP
    rcases mcF_or (tgtF g t f (x % N) (y % N) N) (tcx w' h' N px) (N * N) k with e | ⟨i, e⟩
    · rw [e]; decide
    · rw [e]
      unfold tcx
      refine Ch.allin_get px n r.colours _ ?_
      rw [r.hn]
      have a := Nat.mod_lt (i / N) (show 0 < h' by have := r.hh; omega)
      have c := Nat.mod_lt (i % N) (show 0 < w' by have := r.hw; omega)
      have d := Nat.mul_le_mul_right w' (show i / N % h' + 1 ≤ h' by omega)
      rw [Nat.mul_comm w' h']
      rw [Nat.add_mul, Nat.one_mul] at d
      omega
  have hwE : Ch.wE g N N (N * N) (movP w' h' N px g t f x y) = 0 := by
    unfold Ch.wE
    rw [(Ch.okg_iff g).2 r.hg, (Ch.sw_iff _).2 (show 1 ≤ (N : Int) ∧ (N : Int) ≤ 64 by omega), allin_of _ _ hcol]
    rw [if_pos rfl, if_pos (by decide), if_pos (by rw [Int.natCast_mul]), if_pos rfl]
  have hlm : lm N N = N := by unfold lm; simp
  have hE : toE g N N (N * N) (movP w' h' N px g t f x y) = 0 := by
    unfold toE
    rw [if_pos hwE, hlm, if_pos (by omega)]
  exact { hg := r.hg, hw := ⟨rfl, by omega, by omega⟩, hh := ⟨rfl, by omega, by omega⟩, hn := rfl, hp := rfl, row := hrow, hE := hE, hN := by unfold toN; rw [if_pos hE, hlm], hN1 := hN1 }

def MvdIs (g w h : Int) (p : Option Addr) (n cap : Nat) (t : Int) (f : Bool) (x y : Int) (W : World) : Prop :=
  Calls Try.prog 9 #[Ch.ch g w h p n cap, .agg #[.int .i64 t, .bool f, .int .i64 x, .int .i64 y]] W fun e w' => e = .returned (.bool true) ∧ Below W.heap.size W w'

set_option maxHeartbeats 4000000 in
set_option maxRecDepth 100000 in
theorem mvd_err (g w h : Int) (p : Option Addr) (n cap : Nat) (px : Nat → Int) (t : Int) (f : Bool) (x y : Int) (W : World) (hc : Ch.Cells W p n px) (er : Int) (hp : 1 ≤ er)
    (H3 : ∀ V, Ch.Cells V p n px → MovedErr 22 g w h p n cap t f x y V er) : MvdIs g w h p n cap t f x y W := by
  have K3 := hide H3
  have B0 := bal (o := .cells #[.int .i64 t, .bool f, .int .i64 x, .int .i64 y] 45) (bal (o := .cells #[.int .i64 g, .int .i64 w, .int .i64 h, .slice p n cap] 24) (Below.refl W.heap.size W))
  have Hc := hide (hc.keep B0)
  have HB := hide B0
  have HC0 := hide ((Ch.OwnC.new W g w h p n cap 24).alloc (.cells #[.int .i64 t, .bool f, .int .i64 x, .int .i64 y] 45))
  have M0 := OwnM.new (W.alloc (.cells #[.int .i64 g, .int .i64 w, .int .i64 h, .slice p n cap] 24)) t f x y 45
  rw [World.size_alloc] at M0
  have HM0 := hide M0
  have hee : (er != 0) = true := by simp; omega
  clear hc B0 M0 H3 hp
  unfold MvdIs
  go_enter Try.func9, Try.ntmps9
  go_wp2_with fail
  generalize (W.alloc (.cells #[.int .i64 g, .int .i64 w, .int .i64 h, .slice p n cap] 24)).alloc (.cells #[.int .i64 t, .bool f, .int .i64 x, .int .i64 y] 45) = w0 at *
  refine (alive_any _).mono ?_
  rintro e w1 ⟨rfl, hb⟩
  have S1 := hb
  have c := ((unhide HC0).keep S1).2
  have m := ((unhide HM0).keep S1).2.1
  go_wp2_with fail
  clear c m
  refine (unhide K3 _ ((unhide Hc).keep S1)).mono ?_
  rintro e w2 ⟨rfl, hb⟩
  have S3 := btrans S1 (bal (o := .cells #[.int .i64 0, .int .i64 0, .int .i64 0, .slice none 0 0] 24) hb)
  clear hb S1
  go_wp2
  go_ret
  exact ⟨ret_bool (by simp), btrans (unhide HB) S3⟩

set_option maxHeartbeats 4000000 in
set_option maxRecDepth 100000 in
theorem mvd_far (g w h : Int) (p : Option Addr) (n cap : Nat) (px : Nat → Int) (w' h' N b o : Nat) (t : Nat) (f : Bool) (x y : Int) (W : World) (r : Right W g w h p n px w' h' N b o) (her : wE g t x y = 0) (hi : iE g t f x y ≠ 0) : MvdIs g w h p n cap t f x y W := by
  have K3 := hide (fun V (r : Right V g w h p n px w' h' N b o) => moved_ok g w h p n cap px w' h' N b o t f x y V r her)
  generalize movP w' h' N px g t f x y = m at *
  have HI := hide (inverse_any g t f x y)
  rw [if_neg hi, if_neg hi, if_neg hi, if_neg hi] at HI
  have hee : (iE g t f x y != 0) = true := by simp [hi]
  generalize iE g t f x y = er at *
  have B0 := bal (o := .cells #[.int .i64 t, .bool f, .int .i64 x, .int .i64 y] 45) (bal (o := .cells #[.int .i64 g, .int .i64 w, .int .i64 h, .slice p n cap] 24) (Below.refl W.heap.size W))
  have Hr := hide (r.keep B0)
  have HB := hide B0
  have HC0 := hide ((Ch.OwnC.new W g w h p n cap 24).alloc (.cells #[.int .i64 t, .bool f, .int .i64 x, .int .i64 y] 45))
  have M0 := OwnM.new (W.alloc (.cells #[.int .i64 g, .int .i64 w, .int .i64 h, .slice p n cap] 24)) t f x y 45
  rw [World.size_alloc] at M0
  have HM0 := hide M0
  clear r B0 M0 hi her
  unfold MvdIs
  go_enter Try.func9, Try.ntmps9
  go_wp2_with fail
  generalize (W.alloc (.cells #[.int .i64 g, .int .i64 w, .int .i64 h, .slice p n cap] 24)).alloc (.cells #[.int .i64 t, .bool f, .int .i64 x, .int .i64 y] 45) = w0 at *
  refine (alive_any _).mono ?_
  rintro e w1 ⟨rfl, hb⟩
  have S1 := hb
  have c := ((unhide HC0).keep S1).2
  have mm := ((unhide HM0).keep S1).2.1
  go_wp2_with fail
  clear c mm
  refine (unhide K3 _ ((unhide Hr).keep S1)).mono ?_
  rintro e w2 ⟨q, rfl, -, hb⟩
  have S3 := btrans S1 (bal (o := .cells #[.int .i64 g, .int .i64 N, .int .i64 N, .slice (some ⟨q, 0, none⟩) (N * N) (N * N)] 24) hb)
  have c := ((unhide HC0).keep S3).2
  have mm := ((unhide HM0).keep S3).2.1
  clear hb S1
  go_wp2_with fail
  clear c mm
  refine (unhide HI _).mono ?_
  rintro e w4 ⟨rfl, hb⟩
  have S5 := btrans S3 (bal (o := .cells #[.int .i64 0, .bool false, .int .i64 0, .int .i64 0] 45) hb)
  clear hb S3
  go_wp2
  go_ret
  exact ⟨ret_bool (by simp), btrans (unhide HB) S5⟩
end Go.Proofs.Ytagiekbijmdmdaa
