/-
  TruthTells: what both sides answer, and the law's walk.
-/
import Derived.Test.YtppnfafmgkpnnaaRefG
namespace Go.Proofs.Ytppnfafmgkpnnaa
open Go.RowKit Go.Shelf

/-- a call that answers truths and an error -/
def AnsT (F : Nat) (args : Array Value) (V : World) (pw ph : Int) (pn : Nat) (pf : Nat → Bool) (pe : Int) : Prop :=
  Calls Try.prog F args V fun e V' => ∃ q cp, e = .returned (.tuple #[tr pw ph q pn cp, .int .i64 pe]) ∧ Bs V' q pn cp pf ∧ Below V.heap.size V V'
theorem bs_zero (W : World) (q : Option Addr) (cp : Nat) (f : Nat → Bool) : Bs W q 0 cp f := ⟨Nat.zero_le _, .inl rfl⟩
theorem prod_pair (w h : Int) (n : Nat) (f : Nat → Bool) (w2 h2 : Int) (n2 : Nat) (g : Nat → Bool) : ∃ (pw ph : Int) (pn : Nat) (pf : Nat → Bool) (pe : Int), pn ≤ 4096 ∧
    (∀ V p cap p2 cap2, Bs V p n cap f → Bs V p2 n2 cap2 g → AnsT 8 #[tr w h p n cap, tr w2 h2 p2 n2 cap2] V pw ph pn pf pe) ∧
    (∀ V p cap p2 cap2, Bs V p n cap f → Bs V p2 n2 cap2 g → AnsT 9 #[tr w h p n cap, tr w2 h2 p2 n2 cap2] V pw ph pn pf pe) := by
  by_cases e : pE w h n w2 h2 n2 = 0
  · obtain ⟨e1, e2, e3⟩ := pE_zero e
    obtain ⟨wa, ha, rfl, rfl, h1, h2, h3⟩ := wE_zero _ _ _ e1
    obtain ⟨wb, hb, rfl, rfl, k1, k2, k3⟩ := wE_zero _ _ _ e2
    obtain rfl : wa = hb := by omega
    refine ⟨wb, ha, wb * ha, prF f g wa wb, 0, Nat.mul_le_mul k1 h2, fun V p cap p2 cap2 ha' hb' => ?_, fun V p cap p2 cap2 ha' hb' => ?_⟩
    · refine (prod_ok (W := V) (p := p) (ca := cap) (p2 := p2) (cb := cap2) ⟨h1, h2, h3, ha'⟩ ⟨k1, k2, k3, hb'⟩ (wb * ha) rfl).mono ?_
      rintro e V' ⟨q, rfl, hr, hb⟩
      exact ⟨_, _, rfl, hr.2.2.2, hb⟩
    · refine (rprod_ok (W := V) (p := p) (ca := cap) (p2 := p2) (cb := cap2) ⟨h1, h2, h3, ha'⟩ ⟨k1, k2, k3, hb'⟩ (wb * ha) rfl).mono ?_
      rintro e V' ⟨q, cp, rfl, hr, hb⟩
      exact ⟨_, _, rfl, hr.2.2.2, hb⟩
  · refine ⟨0, 0, 0, fun _ => false, pE w h n w2 h2 n2, Nat.zero_le _, fun V p cap p2 cap2 _ _ => ?_, fun V p cap p2 cap2 _ _ => ?_⟩
    · refine (prod_err w h p n cap w2 h2 p2 n2 cap2 V e).mono ?_
      rintro e V' ⟨rfl, hb⟩
      exact ⟨_, _, rfl, bs_zero _ _ _ _, hb⟩
    · refine (rprod_err w h p n cap w2 h2 p2 n2 cap2 V e).mono ?_
      rintro e V' ⟨rfl, hb⟩
      exact ⟨_, _, rfl, bs_zero _ _ _ _, hb⟩
/-- .. whose bits lie in memory of their own -/
def AnsO (F : Nat) (args : Array Value) (V : World) (pw ph : Int) (pn : Nat) (pf : Nat → Bool) (pe : Int) : Prop :=
  Calls Try.prog F args V fun e V' => ∃ q cp, e = .returned (.tuple #[tr pw ph q pn cp, .int .i64 pe]) ∧ (Bs V' q pn cp pf ∧ ∀ j, j < V.heap.size → Off q pn j) ∧ Below V.heap.size V V'
theorem turned_pair (w h : Int) (n : Nat) (f : Nat → Bool) : ∃ (pw ph : Int) (pn : Nat) (pf : Nat → Bool) (pe : Int), pn ≤ 4096 ∧
    (∀ V p cap, Bs V p n cap f → AnsO 11 #[tr w h p n cap] V pw ph pn pf pe) ∧ (∀ V p cap, Bs V p n cap f → AnsO 12 #[tr w h p n cap] V pw ph pn pf pe) := by
  by_cases e : wE w h n = 0
  · obtain ⟨wa, ha, rfl, rfl, h1, h2, h3⟩ := wE_zero _ _ _ e
    refine ⟨ha, wa, n, tuF f wa ha, 0, by rw [h3]; exact Nat.mul_le_mul h1 h2, fun V p cap hf => ?_, fun V p cap hf => ?_⟩
    · refine (turned_new (W := V) (p := p) (cap := cap) ⟨h1, h2, h3, hf⟩).mono ?_
      rintro e V' ⟨q, cp, rfl, hr, hb⟩
      exact ⟨_, _, rfl, ⟨hr.1.2.2.2, hr.2⟩, hb⟩
    · refine (rturned_new (W := V) (p := p) (cap := cap) ⟨h1, h2, h3, hf⟩).mono ?_
      rintro e V' ⟨q, cp, rfl, hr, hb⟩
      exact ⟨_, _, rfl, ⟨hr.1.2.2.2, hr.2⟩, hb⟩
  · refine ⟨0, 0, 0, fun _ => false, wE w h n, Nat.zero_le _, fun V p cap _ => ?_, fun V p cap _ => ?_⟩
    · refine (turned_err w h p n cap V _ rfl (wE_pos _ _ _ e)).mono ?_
      rintro e V' ⟨rfl, hb⟩
      exact ⟨_, _, rfl, ⟨bs_zero _ _ _ _, fun _ _ => .inl rfl⟩, hb⟩
    · refine (rturned_err w h p n cap V _ rfl (wE_pos _ _ _ e)).mono ?_
      rintro e V' ⟨rfl, hb⟩
      exact ⟨_, _, rfl, ⟨bs_zero _ _ _ _, fun _ _ => .inl rfl⟩, hb⟩
/-- a call that answers numbers and an error -/
def AnsN (F : Nat) (args : Array Value) (V : World) (pn : Nat) (pf : Nat → Nat) (pe : Int) : Prop :=
  Calls Try.prog F args V fun e V' => ∃ q cp, e = .returned (.tuple #[.slice q pn cp, .int .i64 pe]) ∧ Ns V' q pn pf ∧ Below V.heap.size V V'
theorem alike_pair (w h : Int) (n : Nat) (f : Nat → Bool) : ∃ (pn : Nat) (pf : Nat → Nat) (pe : Int), pn ≤ 64 ∧
    (∀ V p cap, Bs V p n cap f → AnsN 13 #[tr w h p n cap] V pn pf pe) ∧ (∀ V p cap, Bs V p n cap f → AnsN 14 #[tr w h p n cap] V pn pf pe) := by
  by_cases e : wE w h n = 0
  · obtain ⟨wa, ha, rfl, rfl, h1, h2, h3⟩ := wE_zero _ _ _ e
    refine ⟨ha, nuN f wa, 0, h2, fun V p cap hf => ?_, fun V p cap hf => ?_⟩
    · refine (alike_ok (W := V) (p := p) (cap := cap) ⟨h1, h2, h3, hf⟩).mono ?_
      rintro e V' ⟨q, rfl, hr, hb⟩
      exact ⟨_, _, rfl, .inr ⟨q, rfl, hr.1, fun j hj => by rw [← al_num f wa ha j hj]; exact (hr.2 j hj).1⟩, hb⟩
    · refine (ralike_ok (W := V) (p := p) (cap := cap) ⟨h1, h2, h3, hf⟩).mono ?_
      rintro e V' ⟨q, cp, rfl, hr, hb⟩
      exact ⟨_, _, rfl, hr, hb⟩
  · refine ⟨0, fun _ => 0, wE w h n, Nat.zero_le _, fun V p cap _ => ?_, fun V p cap _ => ?_⟩
    · refine (alike_err w h p n cap V _ rfl (wE_pos _ _ _ e)).mono ?_
      rintro e V' ⟨rfl, hb⟩
      exact ⟨_, _, rfl, .inl rfl, hb⟩
    · refine (ralike_err w h p n cap V _ rfl (wE_pos _ _ _ e)).mono ?_
      rintro e V' ⟨rfl, hb⟩
      exact ⟨_, _, rfl, .inl rfl, hb⟩
theorem floats_pair (w h : Int) (n : Nat) (f : Nat → Bool) : ∃ d a e : Int, (∀ V p cap, Bs V p n cap f → FloatsIs 16 w h p n cap V d a e) ∧ (∀ V p cap, Bs V p n cap f → FloatsIs 17 w h p n cap V d a e) := by
  by_cases e : wE w h n = 0
  · obtain ⟨wa, ha, rfl, rfl, h1, h2, h3⟩ := wE_zero _ _ _ e
    by_cases e0 : n = 0
    · exact ⟨0, 0, 5, fun V p cap hf => floats_none wa ha p n cap f V ⟨h1, h2, h3, hf⟩ e0, fun V p cap hf => rfloats_none wa ha p n cap f V ⟨h1, h2, h3, hf⟩ e0⟩
    · exact ⟨_, _, _, fun V p cap hf => floats_ok wa ha p n cap f V ⟨h1, h2, h3, hf⟩ (by omega), fun V p cap hf => rfloats_ok wa ha p n cap f V ⟨h1, h2, h3, hf⟩ (by omega)⟩
  · exact ⟨_, _, _, fun V p cap _ => floats_err w h p n cap V _ rfl (wE_pos _ _ _ e), fun V p cap _ => rfloats_err w h p n cap V _ rfl (wE_pos _ _ _ e)⟩
theorem same_nums {W : World} {q1 q2 : Option Addr} {n c1 c2 : Nat} {f : Nat → Nat} (hn : n ≤ 64) (h1 : Ns W q1 n f) (h2 : Ns W q2 n f) : Calls Try.prog 15 #[.slice q1 n c1, .slice q2 n c2] W fun e w' => e = .returned (.bool true) ∧ Below W.heap.size W w' := by
  rcases h1 with rfl | ⟨b1, rfl, l1, k1⟩
  · exact same_numbers_none q1 q2 c1 c2 W
  · rcases h2 with rfl | ⟨b2, rfl, l2, k2⟩
    · exact same_numbers_none _ q2 c1 c2 W
    · exact same_numbers_any b1 b2 n c1 c2 f W hn (.inr k1) (.inr k2) l1 l2

/-- a box of truths that may be written -/
def OwnY (W : World) (b : Nat) (w h : Int) (p : Option Addr) (n cap : Nat) : Prop := OwnM W b w h p n cap ∧ W.frozen? ⟨b, 0, none⟩ = false ∧ W.frozen? ⟨b, 1, none⟩ = false ∧ W.frozen? ⟨b, 2, none⟩ = false
theorem OwnY.new (W : World) (w h : Int) (p : Option Addr) (n cap : Nat) : OwnY (W.alloc (.cells #[.int .i64 w, .int .i64 h, .slice p n cap] 24)) W.heap.size w h p n cap := ⟨OwnM.new W w h p n cap 24, by simp [go_sem], by simp [go_sem], by simp [go_sem]⟩
theorem OwnY.grown {a c : World} {row : Option Nat} {b : Nat} {w h : Int} {p : Option Addr} {n cap : Nat} (k : OwnY a b w h p n cap) (hg : a.grownBy c row) (hne : some b ≠ row) : OwnY c b w h p n cap := ⟨k.1.grown hg hne, gfroz hg k.1.1 hne k.2.1, gfroz hg k.1.1 hne k.2.2.1, gfroz hg k.1.1 hne k.2.2.2⟩
theorem OwnY.keep {W w1 : World} {b : Nat} {w h : Int} {p : Option Addr} {n cap : Nat} (k : OwnY W b w h p n cap) (hb : Below W.heap.size W w1) : OwnY w1 b w h p n cap := k.grown (gbelow none hb) (by simp)
theorem OwnY.put {W : World} {b : Nat} {w h : Int} {p : Option Addr} {n cap : Nat} (k : OwnY W b w h p n cap) (w' h' : Int) (p' : Option Addr) (n' cap' : Nat) : OwnY (put3 W b (.int .i64 w') (.int .i64 h') (.slice p' n' cap')) b w' h' p' n' cap' := by
  obtain ⟨⟨h0, h1, h2, h3⟩, f0, f1, f2⟩ := k
  refine ⟨⟨by simpa using h0, by simp [go_sem, h1], by simp [go_sem, h2], by simp [go_sem, h3]⟩, ?_, ?_, ?_⟩
  · rw [World.frozen?_setCell, World.frozen?_setCell, World.frozen?_setCell]; exact f0
  · rw [World.frozen?_setCell, World.frozen?_setCell, World.frozen?_setCell]; exact f1
  · rw [World.frozen?_setCell, World.frozen?_setCell, World.frozen?_setCell]; exact f2
theorem gput {W : World} (b : Nat) (v0 v1 v2 : Value) : W.grownBy (put3 W b v0 v1 v2) (some b) := gset (gset (gset (World.grownBy.refl _ _) 0 v0) 1 v1) 2 v2

def TellsIs (w h : Int) (p : Option Addr) (n cap : Nat) (w2 h2 : Int) (p2 : Option Addr) (n2 cap2 : Nat) (W : World) : Prop := Calls Try.prog 3 #[tr w h p n cap, tr w2 h2 p2 n2 cap2] W fun e w' => e = .returned (.bool true) ∧ Below W.heap.size W w'

set_option maxHeartbeats 4000000 in
set_option maxRecDepth 100000 in
theorem tells_any (w h : Int) (p : Option Addr) (n cap : Nat) (f : Nat → Bool) (w2 h2 : Int) (p2 : Option Addr) (n2 cap2 : Nat) (g : Nat → Bool) (W : World) (hf0 : Bs W p n cap f) (hg0 : Bs W p2 n2 cap2 g) : TellsIs w h p n cap w2 h2 p2 n2 cap2 W := by
  obtain ⟨pw, ph, pn, pf, pe, hpn, HP, HQ⟩ := prod_pair w h n f w2 h2 n2 g
  obtain ⟨tw, th, tn, tf, te, htn, HT, HU⟩ := turned_pair w h n f
  obtain ⟨an, af, ae, han, HA, HB⟩ := alike_pair w h n f
  obtain ⟨fd, fa, fe, HF, HG⟩ := floats_pair w h n f
  have HP := hide HP
  have HQ := hide HQ
  have HT := hide HT
  have HU := hide HU
  have HA := hide HA
  have HB := hide HB
  have HF := hide HF
  have HG := hide HG
  have HW1 := hide (fun V => wrong_any w h p n cap V)
  have HW2 := hide (fun V => rwrong_any w h p n cap V)
  have B0 := bal (o := .cells #[.int .i64 w2, .int .i64 h2, .slice p2 n2 cap2] 24) (bal (o := .cells #[.int .i64 w, .int .i64 h, .slice p n cap] 24) (Below.refl W.heap.size W))
  have S := hide B0
  have A := hide ((OwnM.new W w h p n cap 24).alloc (.cells #[.int .i64 w2, .int .i64 h2, .slice p2 n2 cap2] 24))
  have B := OwnM.new (W.alloc (.cells #[.int .i64 w, .int .i64 h, .slice p n cap] 24)) w2 h2 p2 n2 cap2 24
  rw [World.size_alloc] at B
  have B := hide B
  have FA := hide (hf0.keep B0)
  have FB := hide (hg0.keep B0)
  have OA := hide (fun q (hq : W.heap.size ≤ q) => hf0.off hq)
  have OB := hide (fun q (hq : W.heap.size ≤ q) => hg0.off hq)
  generalize wE w h n = er at *
  have z0 : (er != er) = false := by simp
  have z1 : (pe != pe) = false := by simp
  have z2 : (te != te) = false := by simp
  have z3 : (ae != ae) = false := by simp
  have z4 : (fd == fd) = true := by simp
  have z5 : (fa == fa) = true := by simp
  have z6 : (fe == fe) = true := by simp
  have hB0 := hide ((unhide B).1)
  clear B0 hf0 hg0
  unfold TellsIs
  go_enter Try.func3, Try.ntmps3
  go_wp2_with fail
  generalize (W.alloc (.cells #[.int .i64 w, .int .i64 h, .slice p n cap] 24)).alloc (.cells #[.int .i64 w2, .int .i64 h2, .slice p2 n2 cap2] 24) = w0 at *
  have hb2 := True.intro
  have hb3 := True.intro
  have Hld := hide (show ∀ V, Below w0.heap.size w0 V → V.cell? ⟨W.heap.size, 0, none⟩ = some (.int .i64 w) ∧ V.cell? ⟨W.heap.size, 1, none⟩ = some (.int .i64 h) ∧ V.cell? ⟨W.heap.size, 2, none⟩ = some (.slice p n cap) from fun V hV => ((unhide A).keep hV).2)
  go_region_held3 (fun V => Below w0.heap.size w0 V ∧ V.cell? ⟨W.heap.size, 0, none⟩ = some (.int .i64 w) ∧ V.cell? ⟨W.heap.size, 1, none⟩ = some (.int .i64 h) ∧ V.cell? ⟨W.heap.size, 2, none⟩ = some (.slice p n cap))
    (first
      | (exact ⟨Below.drew (Below.refl _ _), unhide Hld _ (Below.drew (Below.refl _ _))⟩)
      | (exact ⟨hb3, unhide Hld _ hb3⟩)
      | (exact ⟨hb2, unhide Hld _ hb2⟩))
    (first
      | (go_at_call 6; refine (unhide HW1 _).mono ?_; rintro e w10 ⟨rfl, hb⟩; have hb3 := btrans (by first | exact hb2 | exact Below.drew (Below.refl _ _)) hb)
      | (go_at_call 7; refine (unhide HW2 _).mono ?_; rintro e w11 ⟨rfl, hb⟩; have hb2 := btrans (by first | exact hb3 | exact Below.drew (Below.refl _ _)) hb))
  have An := hide ((unhide A).keep hb2)
  have Bn := hide ((unhide B).keep hb2)
  have FAn := hide ((unhide FA).keep hb2)
  have FBn := hide ((unhide FB).keep hb2)
  have Sn := hide (btrans (unhide S) hb2)
  clear S A B FA FB
  have A := An
  have B := Bn
  have FA := FAn
  have FB := FBn
  have S := Sn
  clear Sn An Bn FAn FBn
  clear hb hb2 hb3 Hld HW1 HW2
  have hBw := (unhide B).1
  have cA := (unhide A).2
  have cB := (unhide B).2
  go_wp2_with fail
  clear cA cB
  refine (unhide HP _ _ _ _ _ (unhide FA) (unhide FB)).mono ?_
  rintro e v1 ⟨q1, c1, rfl, hr, hb⟩
  have hb2 := bal (o := .cells #[.int .i64 pw, .int .i64 ph, .slice q1 pn c1] 24) hb
  have An := hide ((unhide A).keep hb2)
  have Bn := hide ((unhide B).keep hb2)
  have FAn := hide ((unhide FA).keep hb2)
  have FBn := hide ((unhide FB).keep hb2)
  have Sn := hide (btrans (unhide S) hb2)
  clear S A B FA FB
  have A := An
  have B := Bn
  have FA := FAn
  have FB := FBn
  have S := Sn
  clear Sn An Bn FAn FBn
  have FX := hide (hr.keep (bal (o := .cells #[.int .i64 pw, .int .i64 ph, .slice q1 pn c1] 24) (Below.refl _ _)))
  have X := hide (OwnY.new v1 pw ph q1 pn c1)
  have hxw : W.heap.size + 1 < v1.heap.size := by have := hb.size; omega
  clear hb hb2 hr
  have cA := (unhide A).2
  have cB := (unhide B).2
  go_wp2_with fail
  clear cA cB
  generalize v1.alloc (.cells #[.int .i64 pw, .int .i64 ph, .slice q1 pn c1] 24) = x1 at *
  generalize v1.heap.size = bx at *
  refine (unhide HQ _ _ _ _ _ (unhide FA) (unhide FB)).mono ?_
  rintro e v2 ⟨q2, c2, rfl, hr, hb⟩
  have hb2 := bal (o := .cells #[.int .i64 pw, .int .i64 ph, .slice q2 pn c2] 24) hb
  have hyx : bx < v2.heap.size := Nat.lt_of_lt_of_le (unhide X).1.1 hb.size
  have An := hide ((unhide A).keep hb2)
  have Bn := hide ((unhide B).keep hb2)
  have FAn := hide ((unhide FA).keep hb2)
  have FBn := hide ((unhide FB).keep hb2)
  have FXn := hide ((unhide FX).keep hb2)
  have Xn := hide ((unhide X).keep hb2)
  have Sn := hide (btrans (unhide S) hb2)
  clear S A B FA FB FX X
  have A := An
  have B := Bn
  have FA := FAn
  have FB := FBn
  have FX := FXn
  have X := Xn
  have S := Sn
  clear Sn An Bn FAn FBn FXn Xn
  have FY := hide (hr.keep (bal (o := .cells #[.int .i64 pw, .int .i64 ph, .slice q2 pn c2] 24) (Below.refl _ _)))
  have Y := hide (OwnY.new v2 pw ph q2 pn c2)
  clear hb hb2 hr
  have cX := (unhide X).1.2
  have cY := (unhide Y).1.2
  go_wp2_with fail
  clear cX cY
  generalize v2.alloc (.cells #[.int .i64 pw, .int .i64 ph, .slice q2 pn c2] 24) = x2 at *
  generalize v2.heap.size = bz at *
  refine (same_any pw ph q1 pn c1 pf q2 c2 pf x2 hpn (unhide FX) (unhide FY) (fun _ _ => rfl)).mono ?_
  rintro e v3 ⟨rfl, hb⟩
  have An := hide ((unhide A).keep hb)
  have Bn := hide ((unhide B).keep hb)
  have FAn := hide ((unhide FA).keep hb)
  have FBn := hide ((unhide FB).keep hb)
  have FXn := hide ((unhide FX).keep hb)
  have Xn := hide ((unhide X).keep hb)
  have FYn := hide ((unhide FY).keep hb)
  have Yn := hide ((unhide Y).keep hb)
  have Sn := hide (btrans (unhide S) hb)
  clear S A B FA FB FX X FY Y
  have A := An
  have B := Bn
  have FA := FAn
  have FB := FBn
  have FX := FXn
  have X := Xn
  have FY := FYn
  have Y := Yn
  have S := Sn
  clear Sn An Bn FAn FBn FXn Xn FYn Yn
  clear hb FX FY
  have hbx3 : bx < v3.heap.size := (unhide X).1.1
  have hby3 : bz < v3.heap.size := (unhide Y).1.1
  have cA := (unhide A).2
  go_wp2_with fail
  clear cA
  refine (unhide HT _ _ _ (unhide FA)).mono ?_
  rintro e v4 ⟨q3, c3, rfl, hr, hb⟩
  have An := hide ((unhide A).keep hb)
  have Bn := hide ((unhide B).keep hb)
  have FAn := hide ((unhide FA).keep hb)
  have FBn := hide ((unhide FB).keep hb)
  have Xn := hide ((unhide X).keep hb)
  have Yn := hide ((unhide Y).keep hb)
  have Sn := hide (btrans (unhide S) hb)
  clear S A B FA FB X Y
  have A := An
  have B := Bn
  have FA := FAn
  have FB := FBn
  have X := Xn
  have Y := Yn
  have S := Sn
  clear Sn An Bn FAn FBn Xn Yn
  have FX := hide hr.1
  have FXx := hide (hr.2 bx hbx3)
  have FXy := hide (hr.2 bz hby3)
  clear hb hr
  obtain ⟨⟨-, g0, g1, g2⟩, k0, k1, k2⟩ := unhide X
  have cA0 := (unhide A).2
  have hn1 : W.heap.size ≠ bx := by omega
  have hn2 : bx ≠ W.heap.size := by omega
  have hn3 : W.heap.size ≠ bz := by omega
  have hn4 : bz ≠ W.heap.size := by omega
  have hn5 : bx ≠ bz := by omega
  have hn6 : bz ≠ bx := by omega
  have An := hide ((unhide A).grown (gput bx (.int .i64 tw) (.int .i64 th) (.slice q3 tn c3)) (fun e => by have := Option.some.inj e; omega))
  have Bn := hide ((unhide B).grown (gput bx (.int .i64 tw) (.int .i64 th) (.slice q3 tn c3)) (fun e => by have := Option.some.inj e; omega))
  have FAn := hide ((unhide FA).grown (gput bx (.int .i64 tw) (.int .i64 th) (.slice q3 tn c3)) (unhide OA bx (by omega)))
  have FBn := hide ((unhide FB).grown (gput bx (.int .i64 tw) (.int .i64 th) (.slice q3 tn c3)) (unhide OB bx (by omega)))
  have Xn := hide ((unhide X).put tw th q3 tn c3)
  have Yn := hide ((unhide Y).grown (gput bx (.int .i64 tw) (.int .i64 th) (.slice q3 tn c3)) (fun e => by have := Option.some.inj e; omega))
  have FXn := hide ((unhide FX).grown (gput bx (.int .i64 tw) (.int .i64 th) (.slice q3 tn c3)) (unhide FXx))
  have Sn := hide ((unhide S).grown (gput bx (.int .i64 tw) (.int .i64 th) (.slice q3 tn c3)) (unhide S).size (fun k e => by cases e; omega))
  dsimp only [put3] at Sn An Bn FAn FBn Xn Yn FXn
  go_wp2_with fail
  clear cA0 g0 g1 g2 k0 k1 k2
  clear S A B FA FB X Y FX
  have A := An
  have B := Bn
  have FA := FAn
  have FB := FBn
  have X := Xn
  have Y := Yn
  have FX := FXn
  have S := Sn
  clear Sn An Bn FAn FBn Xn Yn FXn
  generalize (((v4.setCell ⟨bx, 0, none⟩ (.int .i64 tw)).setCell ⟨bx, 1, none⟩ (.int .i64 th)).setCell ⟨bx, 2, none⟩ (.slice q3 tn c3)) = x4 at *
  have hbx4 : bx < x4.heap.size := (unhide X).1.1
  have hby4 : bz < x4.heap.size := (unhide Y).1.1
  refine (unhide HU _ _ _ (unhide FA)).mono ?_
  rintro e v5 ⟨q4, c4, rfl, hr, hb⟩
  have An := hide ((unhide A).keep hb)
  have Bn := hide ((unhide B).keep hb)
  have FAn := hide ((unhide FA).keep hb)
  have FBn := hide ((unhide FB).keep hb)
  have Xn := hide ((unhide X).keep hb)
  have Yn := hide ((unhide Y).keep hb)
  have FXn := hide ((unhide FX).keep hb)
  have Sn := hide (btrans (unhide S) hb)
  clear S A B FA FB X Y FX
  have A := An
  have B := Bn
  have FA := FAn
  have FB := FBn
  have X := Xn
  have Y := Yn
  have FX := FXn
  have S := Sn
  clear Sn An Bn FAn FBn Xn Yn FXn
  have FY := hide hr.1
  have FYx := hide (hr.2 bx hbx4)
  have FYy := hide (hr.2 bz hby4)
  clear hb hr
  obtain ⟨⟨-, g0, g1, g2⟩, k0, k1, k2⟩ := unhide Y
  have cX0 := (unhide X).1.2
  have An := hide ((unhide A).grown (gput bz (.int .i64 tw) (.int .i64 th) (.slice q4 tn c4)) (fun e => by have := Option.some.inj e; omega))
  have Bn := hide ((unhide B).grown (gput bz (.int .i64 tw) (.int .i64 th) (.slice q4 tn c4)) (fun e => by have := Option.some.inj e; omega))
  have FAn := hide ((unhide FA).grown (gput bz (.int .i64 tw) (.int .i64 th) (.slice q4 tn c4)) (unhide OA bz (by omega)))
  have FBn := hide ((unhide FB).grown (gput bz (.int .i64 tw) (.int .i64 th) (.slice q4 tn c4)) (unhide OB bz (by omega)))
  have Xn := hide ((unhide X).grown (gput bz (.int .i64 tw) (.int .i64 th) (.slice q4 tn c4)) (fun e => by have := Option.some.inj e; omega))
  have Yn := hide ((unhide Y).put tw th q4 tn c4)
  have FXn := hide ((unhide FX).grown (gput bz (.int .i64 tw) (.int .i64 th) (.slice q4 tn c4)) (unhide FXy))
  have FYn := hide ((unhide FY).grown (gput bz (.int .i64 tw) (.int .i64 th) (.slice q4 tn c4)) (unhide FYy))
  have Sn := hide ((unhide S).grown (gput bz (.int .i64 tw) (.int .i64 th) (.slice q4 tn c4)) (unhide S).size (fun k e => by cases e; omega))
  dsimp only [put3] at Sn An Bn FAn FBn Xn Yn FXn FYn
  go_wp2_with fail
  clear cX0 g0 g1 g2 k0 k1 k2
  clear S A B FA FB X Y FX FY
  have A := An
  have B := Bn
  have FA := FAn
  have FB := FBn
  have X := Xn
  have Y := Yn
  have FX := FXn
  have FY := FYn
  have S := Sn
  clear Sn An Bn FAn FBn Xn Yn FXn FYn
  generalize (((v5.setCell ⟨bz, 0, none⟩ (.int .i64 tw)).setCell ⟨bz, 1, none⟩ (.int .i64 th)).setCell ⟨bz, 2, none⟩ (.slice q4 tn c4)) = x5 at *
  refine (same_any tw th q3 tn c3 tf q4 c4 tf x5 htn (unhide FX) (unhide FY) (fun _ _ => rfl)).mono ?_
  rintro e v6 ⟨rfl, hb⟩
  clear FX FY FXx FXy FYx FYy X Y
  have An := hide ((unhide A).keep hb)
  have Bn := hide ((unhide B).keep hb)
  have FAn := hide ((unhide FA).keep hb)
  have FBn := hide ((unhide FB).keep hb)
  have Sn := hide (btrans (unhide S) hb)
  clear S A B FA FB
  have A := An
  have B := Bn
  have FA := FAn
  have FB := FBn
  have S := Sn
  clear Sn An Bn FAn FBn
  clear hb
  have cA := (unhide A).2
  go_wp2_with fail
  clear cA
  refine (unhide HA _ _ _ (unhide FA)).mono ?_
  rintro e v7 ⟨q5, c5, rfl, hr, hb⟩
  have An := hide ((unhide A).keep hb)
  have Bn := hide ((unhide B).keep hb)
  have FAn := hide ((unhide FA).keep hb)
  have FBn := hide ((unhide FB).keep hb)
  have Sn := hide (btrans (unhide S) hb)
  clear S A B FA FB
  have A := An
  have B := Bn
  have FA := FAn
  have FB := FBn
  have S := Sn
  clear Sn An Bn FAn FBn
  have N1 := hide hr
  clear hb hr
  have cA := (unhide A).2
  go_wp2_with fail
  clear cA
  refine (unhide HB _ _ _ (unhide FA)).mono ?_
  rintro e v8 ⟨q6, c6, rfl, hr, hb⟩
  have An := hide ((unhide A).keep hb)
  have Bn := hide ((unhide B).keep hb)
  have FAn := hide ((unhide FA).keep hb)
  have FBn := hide ((unhide FB).keep hb)
  have N1n := hide ((unhide N1).keep hb)
  have Sn := hide (btrans (unhide S) hb)
  clear S A B FA FB N1
  have A := An
  have B := Bn
  have FA := FAn
  have FB := FBn
  have N1 := N1n
  have S := Sn
  clear Sn An Bn FAn FBn N1n
  have N2 := hide hr
  clear hb hr
  go_wp2_with fail
  refine (same_nums han (unhide N1) (unhide N2)).mono ?_
  rintro e v9 ⟨rfl, hb⟩
  have An := hide ((unhide A).keep hb)
  have Bn := hide ((unhide B).keep hb)
  have FAn := hide ((unhide FA).keep hb)
  have FBn := hide ((unhide FB).keep hb)
  have N1n := hide ((unhide N1).keep hb)
  have N2n := hide ((unhide N2).keep hb)
  have Sn := hide (btrans (unhide S) hb)
  clear S A B FA FB N1 N2
  have A := An
  have B := Bn
  have FA := FAn
  have FB := FBn
  have N1 := N1n
  have N2 := N2n
  have S := Sn
  clear Sn An Bn FAn FBn N1n N2n
  clear hb N1 N2
  have cA := (unhide A).2
  go_wp2_with fail
  clear cA
  refine (unhide HF _ _ _ (unhide FA)).mono ?_
  rintro e v10 ⟨rfl, hb⟩
  have An := hide ((unhide A).keep hb)
  have Bn := hide ((unhide B).keep hb)
  have FAn := hide ((unhide FA).keep hb)
  have FBn := hide ((unhide FB).keep hb)
  have Sn := hide (btrans (unhide S) hb)
  clear S A B FA FB
  have A := An
  have B := Bn
  have FA := FAn
  have FB := FBn
  have S := Sn
  clear Sn An Bn FAn FBn
  clear hb
  have cA := (unhide A).2
  go_wp2_with fail
  clear cA
  refine (unhide HG _ _ _ (unhide FA)).mono ?_
  rintro e v11 ⟨rfl, hb⟩
  have An := hide ((unhide A).keep hb)
  have Bn := hide ((unhide B).keep hb)
  have FAn := hide ((unhide FA).keep hb)
  have FBn := hide ((unhide FB).keep hb)
  have Sn := hide (btrans (unhide S) hb)
  clear S A B FA FB
  have A := An
  have B := Bn
  have FA := FAn
  have FB := FBn
  have S := Sn
  clear Sn An Bn FAn FBn
  clear hb
  go_wp2
  go_ret
  exact ⟨rfl, unhide S⟩
end Go.Proofs.Ytppnfafmgkpnnaa
