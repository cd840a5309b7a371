/-
  What Keeps of package group answers.
-/
import Derived.Test.YtpcajcgafmmlkaaDoorGG
namespace Go.Proofs.YtpcajcgafmmlkaaDoor
open Go.RowKit

/-- a chart with which nothing is wrong, and its torus -/
structure Right (W : World) (g w h : Int) (p : Option Addr) (n : Nat) (px : Nat → Int) (w' h' N b o : Nat) : Prop where
  hg : g = 4 ∨ g = 6
  hw : w = (w' : Int) ∧ 1 ≤ w' ∧ w' ≤ 64
  hh : h = (h' : Int) ∧ 1 ≤ h' ∧ h' ≤ 64
  hn : n = w' * h'
  hp : p = some ⟨b, o, none⟩
  row : Ch.Row W b o n px
  hE : toE g w h n px = 0
  hN : toN g w h n px = (N : Int)
  hN1 : 1 ≤ N ∧ N ≤ 24
theorem right_of {W : World} {g w h : Int} {p : Option Addr} {n : Nat} {px : Nat → Int} (hc : Ch.Cells W p n px) (he : toE g w h n px = 0) : ∃ w' h' N b o, Right W g w h p n px w' h' N b o := by
  obtain ⟨h0, hl⟩ := toE_zero he
  obtain ⟨hg, hw, hh, hn, _, b, o, hp, hr⟩ := Ch.wE_zero g w h p n px W hc h0
  have hl1 := lm_range w h hw.1 hh.1
  refine ⟨w.toNat, h.toNat, (lm w h).toNat, b, o, hg, ⟨by omega, by omega, by omega⟩, ⟨by omega, by omega, by omega⟩, ?_, hp, hr, he, ?_, by omega, by omega⟩
  · have : (n : Int) = ((w.toNat * h.toNat : Nat) : Int) := by rw [Int.natCast_mul, Int.toNat_of_nonneg (by omega), Int.toNat_of_nonneg (by omega)]; exact hn
    omega
  · unfold toN; rw [if_pos he]; omega
theorem Right.keep {W V : World} {g w h : Int} {p : Option Addr} {n : Nat} {px : Nat → Int} {w' h' N b o : Nat} (r : Right W g w h p n px w' h' N b o) (hb : Below W.heap.size W V) : Right V g w h p n px w' h' N b o :=
  { r with row := r.row.keep hb }
/-- what torusOf answers of a right chart -/
theorem Right.torusOf {W : World} {g w h : Int} {p : Option Addr} {n : Nat} {px : Nat → Int} {w' h' N b o : Nat} (cap : Nat) (r : Right W g w h p n px w' h' N b o) :
    Calls Tryd.prog 39 #[Ch.ch g w h p n cap] W fun e V => ∃ q cp, e = .returned (.tuple #[tv g N (some ⟨q, 0, none⟩) (N * N) cp, .int .i64 0]) ∧ Ch.Row V q 0 (N * N) (tcx w' h' N px) ∧ Below W.heap.size W V := by
  have e1 := r.hw.1
  have e2 := r.hh.1
  have e3 := r.hp
  subst e1 e2 e3
  exact torusOf_ok g w' h' b o n cap px N W r.hw.2 r.hh.2 r.hn r.row r.hN r.hE r.hN1

/-- whether a move keeps the pattern, as the program reckons it -/
def kpV (w h N : Nat) (px : Nat → Int) (g : Int) (t : Nat) (f : Bool) (u v : Int) : Bool := kpB (tcx w h N px) (imX g t f N) (imY g t f N) N u v (N * N)
theorem im_range (g : Int) (t : Nat) (f : Bool) (N j : Nat) (hN : 1 ≤ N ∧ N ≤ 24) : (0 ≤ imX g t f N j ∧ imX g t f N j ≤ 24) ∧ 0 ≤ imY g t f N j ∧ imY g t f N j ≤ 24 := by
  have a (z : Int) : 0 ≤ z % (N : Int) ∧ z % (N : Int) ≤ 24 := by
    have h1 := Int.emod_nonneg z (show (N : Int) ≠ 0 by omega)
    have h2 := Int.emod_lt_of_pos z (show (0 : Int) < N by omega)
    omega
  exact ⟨a _, a _⟩
theorem em_range (z : Int) (N : Nat) (hN : 1 ≤ N ∧ N ≤ 24) : 0 ≤ z % (N : Int) ∧ z % (N : Int) ≤ 24 := by
  have h1 := Int.emod_nonneg z (show (N : Int) ≠ 0 by omega)
  have h2 := Int.emod_lt_of_pos z (show (0 : Int) < N by omega)
  omega
def mvv (t : Int) (f : Bool) (x y : Int) : Value := .agg #[.int .i64 t, .bool f, .int .i64 x, .int .i64 y]
def KeepsIs (F : Nat) (g w h : Int) (p : Option Addr) (n cap : Nat) (t : Int) (f : Bool) (x y : Int) (W : World) (v : Bool) (er : Int) : Prop :=
  Calls Tryd.prog F #[Ch.ch g w h p n cap, .agg #[.int .i64 t, .bool f, .int .i64 x, .int .i64 y]] W fun e w' => e = .returned (.tuple #[.bool v, .int .i64 er]) ∧ Below W.heap.size W w'

set_option maxHeartbeats 1000000 in
theorem keeps_err1 (g w h : Int) (p : Option Addr) (n cap : Nat) (px : Nat → Int) (t : Int) (f : Bool) (x y : Int) (W : World) (hc : Ch.Cells W p n px) (er : Int) (her : toE g w h n px = er) (hp : 1 ≤ er) : KeepsIs 74 g w h p n cap t f x y W false er := by
  have HT := hide (fun V (hc : Ch.Cells V p n px) => torusOf_err g w h p n cap px V hc er her hp)
  have B0 := bal (o := .cells #[.int .i64 t, .bool f, .int .i64 x, .int .i64 y] 41) (bal (o := .cells #[.int .i64 g, .int .i64 w, .int .i64 h, .slice p n cap] 24) (Below.refl W.heap.size W))
  have Hc := hide (hc.keep B0)
  have HB := hide B0
  clear her hc B0
  unfold KeepsIs
  go_enter Tryd.func74, Tryd.ntmps74
  go_wp2_with fail
  refine (unhide HT _ (unhide Hc)).mono ?_
  rintro e w1 ⟨rfl, hb⟩
  have S := bal (o := .cells #[.int .i64 0, .int .i64 0, .slice none 0 0] 74) (btrans (unhide HB) hb)
  clear hb Hc HB
  go_wp2
  exact bodyPost_ret (v := .tuple #[.bool false, .int .i64 er]) (by simp [results, Tryd.results74, go_sem]) rfl ⟨rfl, S⟩

set_option maxHeartbeats 1000000 in
theorem keeps_err2 (g w h : Int) (p : Option Addr) (n cap : Nat) (px : Nat → Int) (w' h' N b o : Nat) (t : Int) (f : Bool) (x y : Int) (W : World) (r : Right W g w h p n px w' h' N b o) (er : Int) (her : wE g t x y = er) (hp : 1 ≤ er) : KeepsIs 74 g w h p n cap t f x y W false er := by
  have HT := hide (fun V (r : Right V g w h p n px w' h' N b o) => r.torusOf cap)
  have HW := hide (wrong_any g t f x y)
  rw [her] at HW
  have B0 := bal (o := .cells #[.int .i64 t, .bool f, .int .i64 x, .int .i64 y] 41) (bal (o := .cells #[.int .i64 g, .int .i64 w, .int .i64 h, .slice p n cap] 24) (Below.refl W.heap.size W))
  have Hr := hide (r.keep B0)
  have HB := hide B0
  have C0 := hide ((Ch.OwnC.new W g w h p n cap 24).alloc (.cells #[.int .i64 t, .bool f, .int .i64 x, .int .i64 y] 41))
  have M0 := OwnM.new (W.alloc (.cells #[.int .i64 g, .int .i64 w, .int .i64 h, .slice p n cap] 24)) t f x y 41
  rw [World.size_alloc] at M0
  have HM0 := hide M0
  clear her B0 M0 r
  unfold KeepsIs
  go_enter Tryd.func74, Tryd.ntmps74
  go_wp2_with fail
  generalize (W.alloc (.cells #[.int .i64 g, .int .i64 w, .int .i64 h, .slice p n cap] 24)).alloc (.cells #[.int .i64 t, .bool f, .int .i64 x, .int .i64 y] 41) = w0 at *
  refine (unhide HT _ (unhide Hr)).mono ?_
  rintro e w1 ⟨q, cp, rfl, hrow, hb⟩
  have hb2 := bal (o := .cells #[.int .i64 g, .int .i64 N, .slice (some ⟨q, 0, none⟩) (N * N) cp] 74) hb
  have S := btrans (unhide HB) hb2
  have c := ((unhide C0).keep hb2).2
  have m := ((unhide HM0).keep hb2).2.1
  clear hb hb2 Hr HB hrow
  generalize N * N = k at *
  go_wp2_with fail
  clear c m
  refine (unhide HW _).mono ?_
  rintro e w2 ⟨rfl, hb⟩
  have S2 := btrans S hb
  clear hb S
  go_wp2
  exact bodyPost_ret (v := .tuple #[.bool false, .int .i64 er]) (by simp [results, Tryd.results74, go_sem]) rfl ⟨rfl, S2⟩

set_option maxHeartbeats 2000000 in
set_option maxRecDepth 100000 in
theorem keeps_ok (g w h : Int) (p : Option Addr) (n cap : Nat) (px : Nat → Int) (w' h' N b o : Nat) (t : Nat) (f : Bool) (x y : Int) (W : World) (r : Right W g w h p n px w' h' N b o) (her : wE g t x y = 0) : KeepsIs 74 g w h p n cap t f x y W (kpV w' h' N px g t f (x % N) (y % N)) 0 := by
  have HT := hide (fun V (r : Right V g w h p n px w' h' N b o) => r.torusOf cap)
  have HW := hide (wrong_any g t f x y)
  rw [her] at HW
  have ht := (wE_zero g t x y her).2.1
  have hN1 := r.hN1
  obtain ⟨k, hk⟩ : ∃ k, k = N * N := ⟨_, rfl⟩
  have HI := hide (fun (V : World) (q : Nat) (cp : Nat) => images_any g N (some ⟨q, 0, none⟩) k cp t f V r.hg ht.2 r.hN1 hk)
  have HO := hide (fun (V : World) (q : Nat) (cp : Nat) => onto_any g N (some ⟨q, 0, none⟩) k cp x y V (by omega))
  have HK := hide (fun (V : World) (q cp bi : Nat) (hr : Ch.Row V q 0 k (tcx w' h' N px)) (hp : PRow V bi k (imX g t f N) (imY g t f N)) => keeps_any g N q 0 k cp bi (tcx w' h' N px) (imX g t f N) (imY g t f N) (x % N) (y % N) V r.hN1 hk hr hp (fun j _ => im_range g t f N j r.hN1) (em_range x N r.hN1) (em_range y N r.hN1))
  have HV := hide (show kpV w' h' N px g t f (x % N) (y % N) = kpB (tcx w' h' N px) (imX g t f N) (imY g t f N) N (x % N) (y % N) k by rw [hk]; rfl)
  rw [unhide HV]
  rw [← hk] at HT
  generalize kpB (tcx w' h' N px) (imX g t f N) (imY g t f N) N (x % N) (y % N) k = res at *
  generalize tcx w' h' N px = cx at *
  have B0 := bal (o := .cells #[.int .i64 t, .bool f, .int .i64 x, .int .i64 y] 41) (bal (o := .cells #[.int .i64 g, .int .i64 w, .int .i64 h, .slice p n cap] 24) (Below.refl W.heap.size W))
  have Hr := hide (r.keep B0)
  have HB := hide B0
  have C0 := hide ((Ch.OwnC.new W g w h p n cap 24).alloc (.cells #[.int .i64 t, .bool f, .int .i64 x, .int .i64 y] 41))
  have M0 := OwnM.new (W.alloc (.cells #[.int .i64 g, .int .i64 w, .int .i64 h, .slice p n cap] 24)) t f x y 41
  rw [World.size_alloc] at M0
  have HM0 := hide M0
  clear her B0 M0 r hk HV
  generalize x % (N : Int) = xx at *
  generalize y % (N : Int) = yy at *
  unfold KeepsIs
  go_enter Tryd.func74, Tryd.ntmps74
  go_wp2_with fail
  generalize (W.alloc (.cells #[.int .i64 g, .int .i64 w, .int .i64 h, .slice p n cap] 24)).alloc (.cells #[.int .i64 t, .bool f, .int .i64 x, .int .i64 y] 41) = w0 at *
  refine (unhide HT _ (unhide Hr)).mono ?_
  rintro e w1 ⟨q, cp, rfl, hrow, hb⟩
  have hb2 := bal (o := .cells #[.int .i64 g, .int .i64 N, .slice (some ⟨q, 0, none⟩) k cp] 74) hb
  have S := btrans (unhide HB) hb2
  have R1 := hrow.keep (bal (o := .cells #[.int .i64 g, .int .i64 N, .slice (some ⟨q, 0, none⟩) k cp] 74) (Below.refl _ _))
  have T1 := OwnT.new w1 g N (some ⟨q, 0, none⟩) k cp 74
  have c := ((unhide C0).keep hb2).2
  have M1 := (unhide HM0).keep hb2
  have m := M1.2.1
  have HM1 := hide M1
  have HT1 := hide T1
  clear hb hb2 Hr HB hrow M1 T1
  go_wp2_with fail
  clear c m
  generalize w1.alloc (.cells #[.int .i64 g, .int .i64 N, .slice (some ⟨q, 0, none⟩) k cp] 74) = w2 at *
  refine (unhide HW _).mono ?_
  rintro e w3 ⟨rfl, hb⟩
  have S3 := btrans S hb
  have R3 := R1.keep hb
  have T3 := (unhide HT1).keep hb
  have M3 := (unhide HM1).keep hb
  clear hb S R1 HT1 HM1 HT HW
  have Mk := hide (show ∀ V, Below w3.heap.size w3 V → Below w3.heap.size w3 V ∧ (V.cell? ⟨w1.heap.size, 0, none⟩ = some (.int .i64 g) ∧ V.cell? ⟨w1.heap.size, 1, none⟩ = some (.int .i64 N) ∧ V.cell? ⟨w1.heap.size, 2, none⟩ = some (.slice (some ⟨q, 0, none⟩) k cp)) ∧ CM V (W.heap.size + 1) t f x y from fun V hV =>
    ⟨hV, (T3.keep hV).2, (M3.keep hV).2.1⟩)
  have HR3 := hide R3
  clear T3 M3 R3
  go_wp2_with fail
  have hP := True.intro
  have hP2 := True.intro
  go_region_held3 (fun V => Below w3.heap.size w3 V ∧ (V.cell? ⟨w1.heap.size, 0, none⟩ = some (.int .i64 g) ∧ V.cell? ⟨w1.heap.size, 1, none⟩ = some (.int .i64 N) ∧ V.cell? ⟨w1.heap.size, 2, none⟩ = some (.slice (some ⟨q, 0, none⟩) k cp)) ∧ CM V (W.heap.size + 1) t f x y)
    (first
      | (exact unhide Mk _ (Below.drew (Below.refl _ _)))
      | (exact unhide Mk _ (btrans (by assumption : Below w3.heap.size w3 _ ∧ _).1 hb)))
    (first
      | (go_at_call 57; refine (unhide HI _ _ _).mono ?_; rintro e w4 ⟨bi, rfl, hP, -, hb⟩)
      | (go_at_call 71; refine (unhide HO _ _ _).mono ?_; rintro e w5 ⟨rfl, hb⟩; have hP2 := hP.keep hb)
      | (go_at_call 71; refine (unhide HO _ _ _).mono ?_; rintro e w5 ⟨rfl, hb⟩)
      | (go_at_call 59; refine (unhide HK _ _ _ _ ((unhide HR3).keep (by assumption : Below w3.heap.size w3 _ ∧ _).1) hP2).mono ?_; rintro e w6 ⟨rfl, hb⟩)
      | (go_at_call 59; refine (unhide HK _ _ _ _ ((unhide HR3).keep (by assumption : Below w3.heap.size w3 _ ∧ _).1) hP).mono ?_; rintro e w6 ⟨rfl, hb⟩))
  all_goals
    have S4 := btrans S3 (by assumption : Below w3.heap.size w3 _ ∧ _).1
    go_wp2
    exact bodyPost_ret (v := .tuple #[.bool res, .int .i64 0]) (by simp [results, Tryd.results74, go_sem]) rfl ⟨rfl, S4⟩
end Go.Proofs.YtpcajcgafmmlkaaDoor
