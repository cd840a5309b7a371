/-
  Chain.
-/
import Derived.Test.YtfbggbalnfbbgaaDrD
namespace Go.Proofs.Ytfbggbalnfbbgaa
open Go.RowKit Go.Shelf

theorem ch_facts (W : World) (q1 : Option Addr) (n1 c1 : Nat) (w h : Int) (p : Option Addr) (n cap : Nat) (q2 : Option Addr) (n2 c2 : Nat) : ∃ w0,
    (((W.alloc (.cells #[.slice q1 n1 c1, .int .i64 w, .int .i64 h, .slice p n cap, .slice q2 n2 c2] 27)).alloc (.cells #[.int .i64 0, .int .i64 0, .slice none 0 0] 25)).alloc (.cells #[.int .i64 0, .int .i64 0, .slice none 0 0] 25)).alloc (.cells #[.int .i64 0, .int .i64 0, .slice none 0 0] 25) = w0 ∧
    OwnR w0 W.heap.size q1 n1 c1 w h p n cap q2 n2 c2 ∧ OwnY w0 (W.heap.size + 1) 0 0 none 0 0 ∧ OwnY w0 (W.heap.size + 1 + 1) 0 0 none 0 0 ∧ OwnY w0 (W.heap.size + 1 + 1 + 1) 0 0 none 0 0 ∧ Below W.heap.size W w0 := by
  have O := ((OwnR.new W q1 n1 c1 w h p n cap q2 n2 c2).keep (bal (o := .cells #[.int .i64 0, .int .i64 0, .slice none 0 0] 25) (Below.refl _ _)))
  have O2 := (O.keep (bal (o := .cells #[.int .i64 0, .int .i64 0, .slice none 0 0] 25) (Below.refl _ _))).keep (bal (o := .cells #[.int .i64 0, .int .i64 0, .slice none 0 0] 25) (Below.refl _ _))
  have A := (OwnY.new (W.alloc (.cells #[.slice q1 n1 c1, .int .i64 w, .int .i64 h, .slice p n cap, .slice q2 n2 c2] 27)) 0 0 none 0 0)
  have A2 := (A.keep (bal (o := .cells #[.int .i64 0, .int .i64 0, .slice none 0 0] 25) (Below.refl _ _))).keep (bal (o := .cells #[.int .i64 0, .int .i64 0, .slice none 0 0] 25) (Below.refl _ _))
  have B := OwnY.new ((W.alloc (.cells #[.slice q1 n1 c1, .int .i64 w, .int .i64 h, .slice p n cap, .slice q2 n2 c2] 27)).alloc (.cells #[.int .i64 0, .int .i64 0, .slice none 0 0] 25)) 0 0 none 0 0
  have B2 := B.keep (bal (o := .cells #[.int .i64 0, .int .i64 0, .slice none 0 0] 25) (Below.refl _ _))
  have C := OwnY.new (((W.alloc (.cells #[.slice q1 n1 c1, .int .i64 w, .int .i64 h, .slice p n cap, .slice q2 n2 c2] 27)).alloc (.cells #[.int .i64 0, .int .i64 0, .slice none 0 0] 25)).alloc (.cells #[.int .i64 0, .int .i64 0, .slice none 0 0] 25)) 0 0 none 0 0
  simp only [World.size_alloc] at A2 B2 C
  exact ⟨_, rfl, O2, A2, B2, C, bal (bal (bal (bal (Below.refl _ _))))⟩

/-- a call that answers three truths and an error -/
def ChainErr (F : Nat) (q1 : Option Addr) (n1 c1 : Nat) (w h : Int) (p : Option Addr) (n cap : Nat) (q2 : Option Addr) (n2 c2 : Nat) (W : World) (er : Int) : Prop :=
  Calls Try.prog F #[dr q1 n1 c1 w h p n cap q2 n2 c2] W fun e V => e = .returned (.tuple #[tr 0 0 none 0 0, tr 0 0 none 0 0, tr 0 0 none 0 0, .int .i64 er]) ∧ Below W.heap.size W V

set_option maxHeartbeats 1000000 in
theorem chain_err (q1 : Option Addr) (n1 c1 : Nat) (f1 : Nat → Int) (w h : Int) (p : Option Addr) (n cap : Nat) (q2 : Option Addr) (n2 c2 : Nat) (f2 : Nat → Int) (W : World) (h1 : Is W q1 n1 f1) (h2 : Is W q2 n2 f2) (er : Int) (her : dE n1 f1 w h n n2 f2 = er) (hp : 1 ≤ er) : ChainErr 14 q1 n1 c1 w h p n cap q2 n2 c2 W er := by
  obtain ⟨w0, E0, O, A, B, C, B0⟩ := ch_facts W q1 n1 c1 w h p n cap q2 n2 c2
  have HW := hide (dwrong_any q1 n1 c1 f1 w h p n cap q2 n2 c2 f2 _ (h1.keep B0) (h2.keep B0))
  rw [her] at HW
  have hp' : (er != 0) = true := by simp; omega
  have HE := hide E0
  have HA := hide A
  have HBB := hide B
  have HC := hide C
  have HB := hide B0
  have HO := hide O
  clear her h1 h2 A B C B0 O E0
  unfold ChainErr
  go_enter Try.func14, Try.ntmps14
  go_wp2_with fail
  rw [unhide HE]
  clear HE
  have o1 := (unhide HO).2
  go_wp2_with fail
  clear o1
  refine (unhide HW).mono ?_
  rintro e w1 ⟨rfl, hb⟩
  have S := hide (btrans (unhide HB) hb)
  obtain ⟨⟨-, a0, a1, a2⟩, fa0, fa1, fa2⟩ := (unhide HA).keep hb
  obtain ⟨⟨-, b0, b1, b2⟩, fb0, fb1, fb2⟩ := (unhide HBB).keep hb
  obtain ⟨⟨-, c0, c1, c2⟩, fc0, fc1, fc2⟩ := (unhide HC).keep hb
  clear hb HB HA HBB HC
  go_wp2
  refine bodyPost_ret (v := .tuple #[tr 0 0 none 0 0, tr 0 0 none 0 0, tr 0 0 none 0 0, .int .i64 er]) (by simp [results, Try.results14, go_sem, a0, a1, a2, b0, b1, b2, c0, c1, c2]) rfl ⟨rfl, ?_⟩
  exact bset (bset (bset (bset (bset (bset (bset (bset (bset (unhide S) (by dsimp only; omega)) (by dsimp only; omega)) (by dsimp only; omega)) (by dsimp only; omega)) (by dsimp only; omega)) (by dsimp only; omega)) (by dsimp only; omega)) (by dsimp only; omega)) (by dsimp only; omega)

/-- right truths that lie in no block below s -/
def RtO (V : World) (s w h : Nat) (q : Option Addr) (m cp : Nat) (g : Nat → Bool) : Prop := Rt V w h q m cp g ∧ ∀ j, j < s → Off q m j
theorem RtO.keep {W V : World} {s w h : Nat} {q : Option Addr} {m cp : Nat} {g : Nat → Bool} (r : RtO W s w h q m cp g) (hb : Below W.heap.size W V) : RtO V s w h q m cp g := ⟨r.1.keep hb, r.2⟩
theorem RtO.grown {W V : World} {s w h : Nat} {q : Option Addr} {m cp : Nat} {g : Nat → Bool} {b : Nat} (r : RtO W s w h q m cp g) (hg : W.grownBy V (some b)) (hb : b < s) : RtO V s w h q m cp g :=
  ⟨⟨r.1.1, r.1.2.1, r.1.2.2.1, r.1.2.2.2.grown hg (r.2 b hb)⟩, r.2⟩
theorem RtO.put {W : World} {s w h : Nat} {q : Option Addr} {m cp : Nat} {g : Nat → Bool} {b : Nat} (r : RtO W s w h q m cp g) (v0 v1 v2 : Value) (hb : b < s) : RtO (put3 W b v0 v1 v2) s w h q m cp g := r.grown (gput b v0 v1 v2) hb
theorem RtO.mono {W : World} {s s' w h : Nat} {q : Option Addr} {m cp : Nat} {g : Nat → Bool} (r : RtO W s w h q m cp g) (h' : s' ≤ s) : RtO W s' w h q m cp g := ⟨r.1, fun j hj => r.2 j (by omega)⟩
theorem bput {W V : World} {b : Nat} (h : Below W.heap.size W V) (hb : W.heap.size ≤ b) (v0 v1 v2 : Value) : Below W.heap.size W (put3 V b v0 v1 v2) := bset (bset (bset h hb) hb) hb
theorem OwnR.grown {a c : World} {row : Option Nat} {b : Nat} {q1 : Option Addr} {n1 c1 : Nat} {w h : Int} {p : Option Addr} {n cap : Nat} {q2 : Option Addr} {n2 c2 : Nat} (k : OwnR a b q1 n1 c1 w h p n cap q2 n2 c2) (hg : a.grownBy c row) (hne : some b ≠ row) : OwnR c b q1 n1 c1 w h p n cap q2 n2 c2 :=
  ⟨Nat.lt_of_lt_of_le k.1 hg.size, gcell hg k.1 hne k.2.1, gcell hg k.1 hne k.2.2.1, gcell hg k.1 hne k.2.2.2.1, gcell hg k.1 hne k.2.2.2.2.1, gcell hg k.1 hne k.2.2.2.2.2⟩

/-- the three results of Chain in their boxes, behind s -/
def K3 (W : World) (s : Nat) (wa ha : Nat) (qa : Option Addr) (ma ca : Nat) (ga : Nat → Bool) (wb hb : Nat) (qb : Option Addr) (mb cb : Nat) (gb : Nat → Bool) (wc hc : Nat) (qc : Option Addr) (mc cc : Nat) (gc : Nat → Bool) (V : World) : Prop :=
  OwnY V (s + 1) wa ha qa ma ca ∧ OwnY V (s + 1 + 1) wb hb qb mb cb ∧ OwnY V (s + 1 + 1 + 1) wc hc qc mc cc ∧ RtO V (s + 4) wa ha qa ma ca ga ∧ RtO V (s + 4) wb hb qb mb cb gb ∧ RtO V (s + 4) wc hc qc mc cc gc ∧ Below W.heap.size W V
/-- .. and their cells -/
def Y3 (b : Nat) (w h : Int) (q : Option Addr) (m c : Nat) (V : World) : Prop := V.cell? ⟨b, 0, none⟩ = some (.int .i64 w) ∧ V.cell? ⟨b, 1, none⟩ = some (.int .i64 h) ∧ V.cell? ⟨b, 2, none⟩ = some (.slice q m c) ∧ V.frozen? ⟨b, 0, none⟩ = false ∧ V.frozen? ⟨b, 1, none⟩ = false ∧ V.frozen? ⟨b, 2, none⟩ = false
theorem OwnY.y3 {V : World} {b : Nat} {w h : Int} {q : Option Addr} {m c : Nat} (k : OwnY V b w h q m c) : Y3 b w h q m c V := ⟨k.1.2.1, k.1.2.2.1, k.1.2.2.2, k.2⟩
theorem some_ne {a b : Nat} (h : a ≠ b) : some a ≠ some b := fun e => h (Option.some.inj e)
theorem K3.keep {W V : World} {s wa ha : Nat} {qa : Option Addr} {ma ca : Nat} {ga : Nat → Bool} {wb hb : Nat} {qb : Option Addr} {mb cb : Nat} {gb : Nat → Bool} {wc hc : Nat} {qc : Option Addr} {mc cc : Nat} {gc : Nat → Bool} (k : K3 W s wa ha qa ma ca ga wb hb qb mb cb gb wc hc qc mc cc gc V) {V' : World} (h : Below V.heap.size V V') : K3 W s wa ha qa ma ca ga wb hb qb mb cb gb wc hc qc mc cc gc V' :=
  ⟨k.1.keep h, k.2.1.keep h, k.2.2.1.keep h, k.2.2.2.1.keep h, k.2.2.2.2.1.keep h, k.2.2.2.2.2.1.keep h, btrans k.2.2.2.2.2.2 h⟩
theorem K3.puta {W V : World} {s wa ha : Nat} {qa : Option Addr} {ma ca : Nat} {ga : Nat → Bool} {wb hb : Nat} {qb : Option Addr} {mb cb : Nat} {gb : Nat → Bool} {wc hc : Nat} {qc : Option Addr} {mc cc : Nat} {gc : Nat → Bool} (k : K3 W s wa ha qa ma ca ga wb hb qb mb cb gb wc hc qc mc cc gc V) (hs : W.heap.size ≤ s) : K3 W s wa ha qa ma ca ga wb hb qb mb cb gb wc hc qc mc cc gc (put3 V (s + 1) (.int .i64 wa) (.int .i64 ha) (.slice qa ma ca)) :=
  ⟨k.1.put _ _ _ _ _, k.2.1.grown (gput _ _ _ _) (some_ne (by omega)), k.2.2.1.grown (gput _ _ _ _) (some_ne (by omega)), k.2.2.2.1.put _ _ _ (by omega), k.2.2.2.2.1.put _ _ _ (by omega), k.2.2.2.2.2.1.put _ _ _ (by omega), bput k.2.2.2.2.2.2 (by omega) _ _ _⟩
theorem K3.putb {W V : World} {s wa ha : Nat} {qa : Option Addr} {ma ca : Nat} {ga : Nat → Bool} {wb hb : Nat} {qb : Option Addr} {mb cb : Nat} {gb : Nat → Bool} {wc hc : Nat} {qc : Option Addr} {mc cc : Nat} {gc : Nat → Bool} (k : K3 W s wa ha qa ma ca ga wb hb qb mb cb gb wc hc qc mc cc gc V) (hs : W.heap.size ≤ s) : K3 W s wa ha qa ma ca ga wb hb qb mb cb gb wc hc qc mc cc gc (put3 V (s + 1 + 1) (.int .i64 wb) (.int .i64 hb) (.slice qb mb cb)) :=
  ⟨k.1.grown (gput _ _ _ _) (some_ne (by omega)), k.2.1.put _ _ _ _ _, k.2.2.1.grown (gput _ _ _ _) (some_ne (by omega)), k.2.2.2.1.put _ _ _ (by omega), k.2.2.2.2.1.put _ _ _ (by omega), k.2.2.2.2.2.1.put _ _ _ (by omega), bput k.2.2.2.2.2.2 (by omega) _ _ _⟩
theorem K3.putc {W V : World} {s wa ha : Nat} {qa : Option Addr} {ma ca : Nat} {ga : Nat → Bool} {wb hb : Nat} {qb : Option Addr} {mb cb : Nat} {gb : Nat → Bool} {wc hc : Nat} {qc : Option Addr} {mc cc : Nat} {gc : Nat → Bool} (k : K3 W s wa ha qa ma ca ga wb hb qb mb cb gb wc hc qc mc cc gc V) (hs : W.heap.size ≤ s) : K3 W s wa ha qa ma ca ga wb hb qb mb cb gb wc hc qc mc cc gc (put3 V (s + 1 + 1 + 1) (.int .i64 wc) (.int .i64 hc) (.slice qc mc cc)) :=
  ⟨k.1.grown (gput _ _ _ _) (some_ne (by omega)), k.2.1.grown (gput _ _ _ _) (some_ne (by omega)), k.2.2.1.put _ _ _ _ _, k.2.2.2.1.put _ _ _ (by omega), k.2.2.2.2.1.put _ _ _ (by omega), k.2.2.2.2.2.1.put _ _ _ (by omega), bput k.2.2.2.2.2.2 (by omega) _ _ _⟩

set_option maxRecDepth 100000 in
set_option maxHeartbeats 2000000 in
theorem chain_ok {W : World} {q1 n1 c1 t1 p n cap f q2 n2 c2 t2} {w h : Nat} (r : Rd W q1 n1 t1 w h p n cap f q2 n2 t2) (ma mc : Nat) (hma : ma = h * n2) (hmc : mc = n1 * w) :
    Calls Try.prog 14 #[dr q1 n1 c1 w h p n cap q2 n2 c2] W fun e V => ∃ qa ca qb cb qc cc, e = .returned (.tuple #[tr h n2 qa ma ca, tr w h qb n cb, tr n1 w qc mc cc, .int .i64 0]) ∧
      RtO V W.heap.size h n2 qa ma ca (mdF (fun y x => (t2 y : Int) == (x : Int)) h) ∧ RtO V W.heap.size w h qb n cb (mdF (fun y x => f (y * w + x)) w) ∧ RtO V W.heap.size n1 w qc mc cc (mdF (fun y x => (t1 x : Int) == (y : Int)) n1) ∧ Below W.heap.size W V := by
  obtain ⟨w0, E0, O, A, B, C, B0⟩ := ch_facts W q1 n1 c1 w h p n cap q2 n2 c2
  have r0 := r.keep B0
  have HW := hide (dwrong_any q1 n1 c1 _ w h p n cap q2 n2 c2 _ _ r0.2.1.2.2.1 r0.2.2.2.2.1)
  rw [dE_right r] at HW
  have hn1 := r.2.1.2.1
  have hn2 := r.2.2.2.1
  have hw := r.1.1
  have hh := r.1.2.1
  have hn := hide r.1.2.2.1
  have Hma := hide hma
  have Hmc := hide hmc
  have HE := hide E0
  have HA := hide A
  have HBB := hide B
  have HC := hide C
  have HB := hide B0
  have HO := hide O
  have HR := hide r
  clear A B C B0 O E0 r r0 hma hmc
  go_enter Try.func14, Try.ntmps14
  go_wp2_with fail
  rw [unhide HE]
  clear HE
  have o1 := (unhide HO).2
  go_wp2_with fail
  clear o1
  refine (unhide HW).mono ?_
  rintro e w1 ⟨rfl, hb⟩
  have S := hide (btrans (unhide HB) hb)
  have A1 := hide ((unhide HA).keep hb)
  have B1 := hide ((unhide HBB).keep hb)
  have C1 := hide ((unhide HC).keep hb)
  have O1 := hide ((unhide HO).keep hb)
  have R1 := hide ((unhide HR).keep (unhide S))
  have hs1 : W.heap.size + 1 + 1 + 1 < w1.heap.size := (unhide C1).1.1
  have HM := hide (made35 h n2 ma W.heap.size hh hn2 (unhide Hma) (fun y x => (t2 y : Int) == (x : Int)) w1 (fun y x V hy hx hV => fn35_any ((unhide O1).keep hV) ((unhide R1).2.2.keep hV) y x hy))
  have o1 := (unhide O1).2
  clear hb HB HA HBB HC HO HW R1
  go_wp2_with fail
  clear o1
  refine (unhide HM).mono ?_
  rintro e w2 ⟨qa, ca, rfl, hr, hb⟩
  have hs2 := hb.size
  obtain ⟨w3, E3, Ra3, A3, B3, C3, O3, S3⟩ : ∃ w3, ((w2.setCell ⟨W.heap.size + 1, 0, none⟩ (.int .i64 h)).setCell ⟨W.heap.size + 1, 1, none⟩ (.int .i64 n2)).setCell ⟨W.heap.size + 1, 2, none⟩ (.slice qa ma ca) = w3 ∧
      RtO w3 (W.heap.size + 4) h n2 qa ma ca (mdF (fun y x => (t2 y : Int) == (x : Int)) h) ∧ OwnY w3 (W.heap.size + 1) h n2 qa ma ca ∧ OwnY w3 (W.heap.size + 1 + 1) 0 0 none 0 0 ∧ OwnY w3 (W.heap.size + 1 + 1 + 1) 0 0 none 0 0 ∧ OwnR w3 W.heap.size q1 n1 c1 w h p n cap q2 n2 c2 ∧ Below W.heap.size W w3 :=
    ⟨_, rfl, (RtO.mono (s := w1.heap.size) hr (by omega)).put _ _ _ (by omega), ((unhide A1).keep hb).put _ _ _ _ _, ((unhide B1).keep hb).grown (gput _ _ _ _) (some_ne (by omega)), ((unhide C1).keep hb).grown (gput _ _ _ _) (some_ne (by omega)), ((unhide O1).keep hb).grown (gput _ _ _ _) (some_ne (by omega)), bput (btrans (unhide S) hb) (by omega) _ _ _⟩
  have a0 := ((unhide A1).keep hb).y3
  unfold Y3 at a0
  have o1 := ((unhide O1).keep hb).2
  have HE3 := hide E3
  have HRa := hide Ra3
  have HA3 := hide A3
  have HB3 := hide B3
  have HC3 := hide C3
  have HO3 := hide O3
  have HS3 := hide S3
  have R3 := hide ((unhide HR).keep S3)
  have hs3 : W.heap.size + 1 + 1 + 1 < w3.heap.size := C3.1.1
  have HM3 := hide (made36 w h n W.heap.size hw hh (unhide hn) (fun y x => f (y * w + x)) w3 (fun y x V hy hx hV => fn36_any ((unhide HO3).keep hV) ((unhide R3).1.keep hV) y x hy hx))
  clear hb S A1 B1 C1 O1 HM hr E3 Ra3 A3 B3 C3 O3 S3 R3
  go_wp2_with fail
  rw [unhide HE3]
  clear a0 o1 HE3
  refine (unhide HM3).mono ?_
  rintro e w4 ⟨qb, cb, rfl, hr, hb⟩
  have hs4 := hb.size
  obtain ⟨w5, E5, Ra5, Rb5, A5, B5, C5, O5, S5⟩ : ∃ w5, ((w4.setCell ⟨W.heap.size + 1 + 1, 0, none⟩ (.int .i64 w)).setCell ⟨W.heap.size + 1 + 1, 1, none⟩ (.int .i64 h)).setCell ⟨W.heap.size + 1 + 1, 2, none⟩ (.slice qb n cb) = w5 ∧
      RtO w5 (W.heap.size + 4) h n2 qa ma ca (mdF (fun y x => (t2 y : Int) == (x : Int)) h) ∧ RtO w5 (W.heap.size + 4) w h qb n cb (mdF (fun y x => f (y * w + x)) w) ∧ OwnY w5 (W.heap.size + 1) h n2 qa ma ca ∧ OwnY w5 (W.heap.size + 1 + 1) w h qb n cb ∧ OwnY w5 (W.heap.size + 1 + 1 + 1) 0 0 none 0 0 ∧ OwnR w5 W.heap.size q1 n1 c1 w h p n cap q2 n2 c2 ∧ Below W.heap.size W w5 :=
    ⟨_, rfl, ((unhide HRa).keep hb).put _ _ _ (by omega), (RtO.mono (s := w3.heap.size) hr (by omega)).put _ _ _ (by omega), ((unhide HA3).keep hb).grown (gput _ _ _ _) (some_ne (by omega)), ((unhide HB3).keep hb).put _ _ _ _ _, ((unhide HC3).keep hb).grown (gput _ _ _ _) (some_ne (by omega)), ((unhide HO3).keep hb).grown (gput _ _ _ _) (some_ne (by omega)), bput (btrans (unhide HS3) hb) (by omega) _ _ _⟩
  have a0 := ((unhide HB3).keep hb).y3
  unfold Y3 at a0
  have o1 := ((unhide HO3).keep hb).2
  have HE5 := hide E5
  have HRa5 := hide Ra5
  have HRb5 := hide Rb5
  have HA5 := hide A5
  have HB5 := hide B5
  have HC5 := hide C5
  have HO5 := hide O5
  have HS5 := hide S5
  have R5 := hide ((unhide HR).keep S5)
  have hs5 : W.heap.size + 1 + 1 + 1 < w5.heap.size := C5.1.1
  have HM5 := hide (made37 n1 w mc W.heap.size hn1 hw (unhide Hmc) (fun y x => (t1 x : Int) == (y : Int)) w5 (fun y x V hy hx hV => fn37_any ((unhide HO5).keep hV) ((unhide R5).2.1.keep hV) y x hx))
  clear hb hr E5 Ra5 Rb5 A5 B5 C5 O5 S5 R5 HRa HA3 HB3 HC3 HO3 HS3 HM3
  go_wp2_with fail
  rw [unhide HE5]
  clear a0 o1 HE5
  refine (unhide HM5).mono ?_
  rintro e w6 ⟨qc, cc, rfl, hr, hb⟩
  obtain ⟨w7, E7, K7⟩ : ∃ w7, ((w6.setCell ⟨W.heap.size + 1 + 1 + 1, 0, none⟩ (.int .i64 n1)).setCell ⟨W.heap.size + 1 + 1 + 1, 1, none⟩ (.int .i64 w)).setCell ⟨W.heap.size + 1 + 1 + 1, 2, none⟩ (.slice qc mc cc) = w7 ∧
      K3 W W.heap.size h n2 qa ma ca (mdF (fun y x => (t2 y : Int) == (x : Int)) h) w h qb n cb (mdF (fun y x => f (y * w + x)) w) n1 w qc mc cc (mdF (fun y x => (t1 x : Int) == (y : Int)) n1) w7 :=
    ⟨_, rfl, ((unhide HA5).keep hb).grown (gput _ _ _ _) (some_ne (by omega)), ((unhide HB5).keep hb).grown (gput _ _ _ _) (some_ne (by omega)), ((unhide HC5).keep hb).put _ _ _ _ _, ((unhide HRa5).keep hb).put _ _ _ (by omega), ((unhide HRb5).keep hb).put _ _ _ (by omega), (RtO.mono (s := w5.heap.size) hr (by omega)).put _ _ _ (by omega), bput (btrans (unhide HS5) hb) (by omega) _ _ _⟩
  have a0 := ((unhide HC5).keep hb).y3
  unfold Y3 at a0
  have HE7 := hide E7
  have HK7 := hide K7
  clear hb hr E7 K7 HRa5 HRb5 HA5 HB5 HC5 HO5 HS5 HM5
  go_wp2_with fail
  rw [unhide HE7]
  clear a0 HE7
  have Hst := hide (show ∀ V, K3 W W.heap.size h n2 qa ma ca (mdF (fun y x => (t2 y : Int) == (x : Int)) h) w h qb n cb (mdF (fun y x => f (y * w + x)) w) n1 w qc mc cc (mdF (fun y x => (t1 x : Int) == (y : Int)) n1) V → (fun V => K3 W W.heap.size h n2 qa ma ca (mdF (fun y x => (t2 y : Int) == (x : Int)) h) w h qb n cb (mdF (fun y x => f (y * w + x)) w) n1 w qc mc cc (mdF (fun y x => (t1 x : Int) == (y : Int)) n1) V ∧ V.cell? ⟨W.heap.size + 1, 0, none⟩ = some (.int .i64 h) ∧ V.cell? ⟨W.heap.size + 1, 1, none⟩ = some (.int .i64 n2) ∧ V.cell? ⟨W.heap.size + 1, 2, none⟩ = some (.slice qa ma ca) ∧ V.frozen? ⟨W.heap.size + 1, 0, none⟩ = false ∧ V.frozen? ⟨W.heap.size + 1, 1, none⟩ = false ∧ V.frozen? ⟨W.heap.size + 1, 2, none⟩ = false ∧ V.cell? ⟨W.heap.size + 1 + 1, 0, none⟩ = some (.int .i64 w) ∧ V.cell? ⟨W.heap.size + 1 + 1, 1, none⟩ = some (.int .i64 h) ∧ V.cell? ⟨W.heap.size + 1 + 1, 2, none⟩ = some (.slice qb n cb) ∧ V.frozen? ⟨W.heap.size + 1 + 1, 0, none⟩ = false ∧ V.frozen? ⟨W.heap.size + 1 + 1, 1, none⟩ = false ∧ V.frozen? ⟨W.heap.size + 1 + 1, 2, none⟩ = false ∧ V.cell? ⟨W.heap.size + 1 + 1 + 1, 0, none⟩ = some (.int .i64 n1) ∧ V.cell? ⟨W.heap.size + 1 + 1 + 1, 1, none⟩ = some (.int .i64 w) ∧ V.cell? ⟨W.heap.size + 1 + 1 + 1, 2, none⟩ = some (.slice qc mc cc) ∧ V.frozen? ⟨W.heap.size + 1 + 1 + 1, 0, none⟩ = false ∧ V.frozen? ⟨W.heap.size + 1 + 1 + 1, 1, none⟩ = false ∧ V.frozen? ⟨W.heap.size + 1 + 1 + 1, 2, none⟩ = false) V from fun V k => ⟨k, k.1.1.2.1, k.1.1.2.2.1, k.1.1.2.2.2, k.1.2.1, k.1.2.2.1, k.1.2.2.2, k.2.1.1.2.1, k.2.1.1.2.2.1, k.2.1.1.2.2.2, k.2.1.2.1, k.2.1.2.2.1, k.2.1.2.2.2, k.2.2.1.1.2.1, k.2.2.1.1.2.2.1, k.2.2.1.1.2.2.2, k.2.2.1.2.1, k.2.2.1.2.2.1, k.2.2.1.2.2.2⟩)
  obtain ⟨w8, E8, K8⟩ : ∃ w8, (((((((((w7.setCell ⟨W.heap.size + 1, 0, none⟩ (.int .i64 h)).setCell ⟨W.heap.size + 1, 1, none⟩ (.int .i64 n2)).setCell ⟨W.heap.size + 1, 2, none⟩ (.slice qa ma ca)).setCell ⟨W.heap.size + 1 + 1, 0, none⟩ (.int .i64 w)).setCell ⟨W.heap.size + 1 + 1, 1, none⟩ (.int .i64 h)).setCell ⟨W.heap.size + 1 + 1, 2, none⟩ (.slice qb n cb)).setCell ⟨W.heap.size + 1 + 1 + 1, 0, none⟩ (.int .i64 n1)).setCell ⟨W.heap.size + 1 + 1 + 1, 1, none⟩ (.int .i64 w)).setCell ⟨W.heap.size + 1 + 1 + 1, 2, none⟩ (.slice qc mc cc)).drew = w8 ∧ K3 W W.heap.size h n2 qa ma ca (mdF (fun y x => (t2 y : Int) == (x : Int)) h) w h qb n cb (mdF (fun y x => f (y * w + x)) w) n1 w qc mc cc (mdF (fun y x => (t1 x : Int) == (y : Int)) n1)  w8 := ⟨_, rfl, ((((unhide HK7).puta (Nat.le_refl _)).putb (Nat.le_refl _)).putc (Nat.le_refl _)).keep (Below.drew (Below.refl _ _))⟩
  have HE8 := hide E8
  have HK8 := hide K8
  have HK9 := hide (unhide Hst _ (unhide HK8))
  clear E8 K8
  obtain ⟨-, a0, a1, a2, g0, g1, g2, b0, b1, b2, g3, g4, g5, d0, d1, d2, g6, g7, g8⟩ := unhide Hst _ (unhide HK7)
  clear Hst
  go_region
  rw [unhide HE8]
  clear a0 a1 a2 g0 g1 g2 b0 b1 b2 g3 g4 g5 d0 d1 d2 g6 g7 g8 HE8 HK7
  obtain ⟨-, a0, a1, a2, -, -, -, b0, b1, b2, -, -, -, d0, d1, d2, -, -, -⟩ := unhide HK9
  clear HK9
  go_wp2
  refine bodyPost_ret (v := .tuple #[tr h n2 qa ma ca, tr w h qb n cb, tr n1 w qc mc cc, .int .i64 0]) (by simp [results, Try.results14, go_sem, a0, a1, a2, b0, b1, b2, d0, d1, d2]) rfl ⟨qa, ca, qb, cb, qc, cc, rfl, ?_⟩
  exact ⟨(unhide HK8).2.2.2.1.mono (by omega), (unhide HK8).2.2.2.2.1.mono (by omega), (unhide HK8).2.2.2.2.2.1.mono (by omega), (unhide HK8).2.2.2.2.2.2⟩
end Go.Proofs.Ytfbggbalnfbbgaa
