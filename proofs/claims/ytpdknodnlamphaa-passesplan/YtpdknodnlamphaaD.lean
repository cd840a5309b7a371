/-
  Package passes: the iterator from, which goes over the iterator all.
-/
import Derived.Test.YtpdknodnlamphaaC
namespace Go.Proofs.Ytpdknodnlamphaa
open Go.RowKit Go.Shelf

attribute [local go_sem] Oper.semAt_some

theorem grown_of {a b : World} (h : Below a.heap.size a b) : a.grownBy b none := ⟨h.os, h.tape, h.output, h.size, fun k hk _ => h.block k hk⟩
/-- where loops are to go, in memory that is older than B -/
def Iq (B : Nat) (W : World) (q : Option Addr) (n : Nat) (t : Nat → Int) : Prop := ∃ b o, q = some ⟨b, o, none⟩ ∧ b < B ∧ ∀ k, k < n → W.cell? ⟨b, o + k, none⟩ = some (.int .i64 (t k))
theorem Iq.is {B : Nat} {W : World} {q : Option Addr} {n : Nat} {t : Nat → Int} (h : Iq B W q n t) (hB : B ≤ W.heap.size) : Is W q n t := by
  obtain ⟨b, o, e, hb, hc⟩ := h
  exact .inr ⟨b, o, e, by omega, hc⟩
/-- all that a round of from reads -/
structure Ev (B0 Bw Ba s l0 : Nat) (q : Option Addr) (c : Nat) (z : Pz) (l : List Int) (V : World) : Prop where
  sz : s + 2 ≤ V.heap.size
  w0 : V.cell? ⟨Bw, 0, none⟩ = some (.slice q z.n c)
  w1 : V.cell? ⟨Bw, 1, none⟩ = some (.int .i64 z.sl)
  a : ∀ j, j < 5 → V.cell? ⟨Ba, j, none⟩ = some (.int .i64 (gt l j))
  y : V.cell? ⟨s, 0, none⟩ = some (.func (.yield l0) #[] #[])
  d : Iq B0 V q z.n z.t
theorem Ev.mono {B0 Bw Ba s l0 : Nat} {q : Option Addr} {c : Nat} {z : Pz} {l : List Int} {V V' : World} (h : Ev B0 Bw Ba s l0 q c z l V) (hs : V.heap.size ≤ V'.heap.size)
    (hc : ∀ (a : Addr) v, (a.block < B0 ∨ a.block = Bw ∨ a.block = Ba ∨ a.block = s) → V.cell? a = some v → V'.cell? a = some v) : Ev B0 Bw Ba s l0 q c z l V' where
  sz := Nat.le_trans h.sz hs
  w0 := hc _ _ (.inr (.inl rfl)) h.w0
  w1 := hc _ _ (.inr (.inl rfl)) h.w1
  a j hj := hc _ _ (.inr (.inr (.inl rfl))) (h.a j hj)
  y := hc _ _ (.inr (.inr (.inr rfl))) h.y
  d := by
    obtain ⟨b, o, e, hb, hk⟩ := h.d
    exact ⟨b, o, e, hb, fun k hkn => hc _ _ (.inl hb) (hk k hkn)⟩
theorem Ev.below {B0 Bw Ba s l0 : Nat} {q : Option Addr} {c : Nat} {z : Pz} {l : List Int} {V V' : World} (h : Ev B0 Bw Ba s l0 q c z l V) (hb : Below V.heap.size V V') : Ev B0 Bw Ba s l0 q c z l V' :=
  h.mono hb.size (fun a v _ hc => by rw [hb.cell (p := a) (by have := World.block_lt_of_cell? V a hc; exact this)]; exact hc)
theorem Ev.kc {B0 Bw Ba s l0 : Nat} {q : Option Addr} {c : Nat} {z : Pz} {l : List Int} {C : Nat → Prop} {V V' : World} (h : Ev B0 Bw Ba s l0 q c z l V) (k : KC C V V') (hC : ∀ b, (b < B0 ∨ b = Bw ∨ b = Ba ∨ b = s) → C b) : Ev B0 Bw Ba s l0 q c z l V' :=
  h.mono k.1 (fun a v hb hc => by rw [World.cell?_of_block (k.2 _ (hC _ hb) (World.block_lt_of_cell? V a hc))]; exact hc)
theorem Ev.own {β : Type} {B B0 Bw Ba s l0 : Nat} {q : Option Addr} {c : Nat} {z : Pz} {l : List Int} : OwnFrom B (fun (_ : β) V => Ev B0 Bw Ba s l0 q c z l V) := fun _ _ _ _ h hg hr =>
  h.mono hg.size (fun _ _ _ hc => cell_kept hc hg (fun r e => (hr r e).2))
theorem PB.own {β : Type} {B b : Nat} {x y : Int} : OwnFrom B (fun (_ : β) V => PB V b x y) := fun _ _ _ _ h hg hr =>
  ⟨Nat.lt_of_lt_of_le h.1 hg.size, cell_kept h.2.1 hg (fun r e => (hr r e).2), cell_kept h.2.2 hg (fun r e => (hr r e).2)⟩

/-- a pass that may be done -/
abbrev Fx (z : Pz) (l : List Int) := { p : Ps // okP z.n p ∧ OkS z (bh l p) }
abbrev encF (z : Pz) (l : List Int) (x : Fx z l) : Array Value := #[psV x.1, stV (bh l x.1)]
open Classical in
noncomputable def toF (z : Pz) (l : List Int) (x : Px z.n) : Option (Fx z l) := if h : OkS z (bh l x.1) then some ⟨x.1, x.2, h⟩ else none
noncomputable def fl (z : Pz) (l : List Int) (xs : List (Px z.n)) : List (Fx z l) := xs.filterMap (toF z l)
theorem fl_yes {z : Pz} {l : List Int} {xs : List (Px z.n)} {x : Px z.n} (h : OkS z (bh l x.1)) : fl z l (xs ++ [x]) = fl z l xs ++ [⟨x.1, x.2, h⟩] := by
  simp [fl, toF, List.filterMap_append, h]
theorem fl_no {z : Pz} {l : List Int} {xs : List (Px z.n)} {x : Px z.n} (h : ¬ OkS z (bh l x.1)) : fl z l (xs ++ [x]) = fl z l xs := by
  simp [fl, toF, List.filterMap_append, h]
open Classical in
theorem fl_map {z : Pz} {l : List Int} : ∀ (xs : List (Px z.n)), (fl z l xs).map (·.1) = (xs.map (·.1)).filter fun p => @decide (OkS z (bh l p)) (Classical.propDecidable _)
  | [] => rfl
  | x :: xs => by
    have ih := fl_map (l := l) xs
    unfold fl at ih ⊢
    by_cases h : OkS z (bh l x.1)
    · simp [toF, h, ih]
    · simp [toF, h, ih]
theorem prefix_filter {α : Type} {a b : List α} (p : α → Bool) (h : a <+: b) : a.filter p <+: b.filter p := by
  obtain ⟨c, rfl⟩ := h
  rw [List.filter_append]
  exact List.prefix_append _ _
theorem stB_ok {z : Pz} {l : List Int} {p : Ps} (hl : l.length = z.n) : stB z.n z.t z.sl (gt (bh l p)) = true ↔ OkS z (bh l p) := by
  rw [stB_iff]
  exact ⟨fun h => ⟨by simpa using hl, h⟩, fun h => h.2⟩

set_option maxRecDepth 100000 in
set_option maxHeartbeats 4000000 in
theorem from1_gives (z : Pz) (l : List Int) (hl : OkS z l) (h1 : 1 ≤ z.n) (h5 : z.n ≤ 5) (hsl : 1 ≤ z.sl ∧ z.sl ≤ 11) (B0 Bw Ba c : Nat) (q : Option Addr) (W0 : World) (hB0 : B0 ≤ W0.heap.size) (hK : KB W0 Bw q z.n c z.sl) (hA : SR W0 Ba (gt l)) (hq : Iq B0 W0 q z.n z.t) :
    Gives 4 31 #[.pointer (some ⟨Bw, 0, none⟩), .pointer (some ⟨Ba, 0, none⟩)] (encF z l) (fun s b => b < B0 ∨ b = Bw ∨ b = Ba ∨ (s ≤ b ∧ b < s + 4)) (fun xs => xs.map (·.1) = fromP z l) (fun pre => pre.map (·.1) <+: fromP z l) W0 := by
  intro l0 J Jx W hW hJ hJx hY h0
  have HY := hide hY
  have HJ := hide hJ
  have HJx := hide hJx
  have hK1 := (hK.keep hW).keep (bnew W (.cells #[.func (.yield l0) #[] #[]] 63))
  have E0 : Ev B0 Bw Ba W.heap.size l0 q c z l ((W.alloc (.cells #[.func (.yield l0) #[] #[]] 63)).alloc (.cells #[.slice q z.n c, .int .i64 z.sl] 36)) := by
    have hk := hK1.keep (bnew _ (.cells #[.slice q z.n c, .int .i64 z.sl] 36))
    have ha := ((hA.keep hW).keep (bnew W (.cells #[.func (.yield l0) #[] #[]] 63))).keep (bnew _ (.cells #[.slice q z.n c, .int .i64 z.sl] 36))
    obtain ⟨b, o, e, hb, hc⟩ := hq
    have hbl : b < W.heap.size := by have := hW.size; omega
    refine ⟨by simp, hk.2.1, hk.2.2, fun j hj => (ha.2 j hj).1, ?_, b, o, e, hb, fun k hkn => keepC (bal (bnew W _)) hbl (keepC hW (by omega) (hc k hkn))⟩
    exact keepC (bnew _ _) (by simp) (by simp [go_sem])
  have K0 := KB.new (W.alloc (.cells #[.func (.yield l0) #[] #[]] 63)) q z.n c z.sl 36
  rw [World.size_alloc] at K0
  have hJ0 : J [] ((W.alloc (.cells #[.func (.yield l0) #[] #[]] 63)).alloc (.cells #[.slice q z.n c, .int .i64 z.sl] 36)) := hJ.alloc _ (hJ.alloc _ h0)
  have hB0W : B0 ≤ W.heap.size := Nat.le_trans hB0 hW.size
  obtain ⟨-, k0, k1⟩ := hK1
  clear hY hJ hJx hK hA hq h0
  refine (callsIn_wide (n := 9)).1 (callsIn_of_wp_marks Try.func31 rfl trivial ?_ rfl)
  simp only [Try.ntmps31, List.size_toArray, List.length_cons, List.length_nil, Nat.reduceAdd, Nat.reduceSub, Array.replicate_succ, Array.replicate_zero, List.push_toArray, List.append_toArray, List.nil_append, List.cons_append]
  gi_wp2_with fail
  refine ⟨trivial, (callsIn_wide.2 (all_any q z.n c z.sl _)).mono ?_⟩
  rintro e w2 ⟨rfl, rfl⟩
  clear k0 k1
  gi_wp2_with fail
  have hs0 : ((W.alloc (.cells #[.func (.yield l0) #[] #[]] 63)).alloc (.cells #[.slice q z.n c, .int .i64 z.sl] 36)).heap.size = W.heap.size + 2 := by simp
  generalize (W.alloc (.cells #[.func (.yield l0) #[] #[]] 63)).alloc (.cells #[.slice q z.n c, .int .i64 z.sl] 36) = w0 at *
  have HOJ := hide (show OwnFrom w0.heap.size (fun pre V => J (fl z l pre) V ∧ Ev B0 Bw Ba W.heap.size l0 q c z l V) from
    OwnFrom.and (fun pre X Y row hs hg hr => unhide HJ _ X Y row hs hg (fun r e => ⟨by have := (hr r e).1; omega, (hr r e).2⟩)) (Ev.own (β := List (Px z.n))))
  refine over (gf := 33) (lb := #[.pointer (some ⟨W.heap.size + 1, 0, none⟩)]) rfl (enters_of Try.func33 (by kernel_rfl) rfl) (all1_gives (W.heap.size + 1) z.n c q z.sl h5 w0 K0) (fun b hb => by subst hb; omega) (fun _ => rfl)
    (fun pre V => J (fl z l pre) V ∧ Ev B0 Bw Ba W.heap.size l0 q c z l V) (fun pre V => Jx (fl z l pre) V) (unhide HOJ) (fun pre X Y row hs hg hr => unhide HJx _ X Y row hs hg (fun r e => ⟨by have := (hr r e).1; omega, (hr r e).2⟩)) ⟨hJ0, E0⟩
    (fun x a V => ∃ Bp, W.heap.size + 4 ≤ Bp ∧ PB V Bp x.1.1 x.1.2 ∧ a = { tmps := #[.func (.yield l0) #[] #[], .pointer (some ⟨Bw, 0, none⟩), .pointer (some ⟨Ba, 0, none⟩), .pointer (some ⟨W.heap.size, 0, none⟩), .pointer (some ⟨Bp, 0, none⟩), undef, .agg #[.slice q z.n c, .int .i64 z.sl], .func (.func 33) #[] #[.pointer (some ⟨W.heap.size + 1, 0, none⟩)], .agg #[.int .i64 x.1.1, .int .i64 (x.1.2 : Nat)], undef, undef, undef, undef, undef, undef, undef, undef, undef, undef, undef, undef, undef], defers := [] })
    (fun x a => fun u X Y row hs hg hr => by
      obtain ⟨Bp, hb, hp, e⟩ := hs
      exact ⟨Bp, hb, PB.own (β := Unit) u X Y row hp hg hr, e⟩) ?assign ?body ?done ?stop
  case assign =>
    intro pre x V K hlt hi hK
    have HI := hide hi
    clear hi E0 K0 hJ0
    unfold handed
    gi_wp2
    exact hK _ _ (KC.below (bnew _ _)) ⟨(unhide HJ).alloc _ (unhide HI).1, (unhide HI).2.below (bnew _ _)⟩ ⟨V.heap.size, by omega, PB.new _ _ _ _, rfl⟩
  case body =>
    clear E0 K0 hJ0 HOJ
    rintro pre ⟨⟨b, w⟩, hok⟩ a V hlt ⟨hJs, hE⟩ ⟨Bp, hBp, hP, rfl⟩
    dsimp only at hP ⊢
    have HJs := hide hJs
    have HE := hide hE
    have HP := hide hP
    have a0 := hE.a 0 (by omega)
    have a1 := hE.a 1 (by omega)
    have a2 := hE.a 2 (by omega)
    have a3 := hE.a 3 (by omega)
    have a4 := hE.a 4 (by omega)
    obtain ⟨-, p0, p1⟩ := hP
    clear hJs hE
    gi_wp2_with fail
    refine ⟨trivial, (CallsIn.inRound _ (callsIn_wide.2 (behind_any (by omega) l hl (b, w) hok V))).mono ?_⟩
    rintro e V1 ⟨rfl, hb1⟩
    clear a0 a1 a2 a3 a4 p0 p1
    have hb2 := btrans hb1 (bnew V1 (.cells #[.int .i64 (gt (bh l (b, w)) 0), .int .i64 (gt (bh l (b, w)) 1), .int .i64 (gt (bh l (b, w)) 2), .int .i64 (gt (bh l (b, w)) 3), .int .i64 (gt (bh l (b, w)) 4)] 38))
    have E2 := (unhide HE).below hb2
    have P2 := (unhide HP).keep hb2
    have R2 := SR.new V1 (gt (bh l (b, w))) 38
    have HM := hide (may_any q z.n c z.t z.sl (bh l (b, w)) _ (E2.d.is (by have := E2.sz; omega)) h1 h5 hsl)
    have d0 := E2.w0
    have d1 := E2.w1
    have c0 := (R2.2 0 (by omega)).1
    have c1 := (R2.2 1 (by omega)).1
    have c2 := (R2.2 2 (by omega)).1
    have c3 := (R2.2 3 (by omega)).1
    have c4 := (R2.2 4 (by omega)).1
    have HE2 := hide E2
    have HP2 := hide P2
    have HR2 := hide R2
    have HB2 := hide hb2
    clear E2 P2 R2 hb1 hb2
    gi_wp2_with fail
    refine ⟨trivial, (CallsIn.inRound _ (callsIn_wide.2 (unhide HM))).mono ?_⟩
    rintro e V3 ⟨rfl, hb3⟩
    have HB3 := hide (btrans (unhide HB2) hb3)
    have E3 := (unhide HE2).below hb3
    have P3 := (unhide HP2).keep hb3
    have R3 := (unhide HR2).keep hb3
    have HJ3 := hide (unhide HJ _ V V3 none (unhide HJs) (grown_of (unhide HB3)) (fun r e => by cases e))
    clear d0 d1 c0 c1 c2 c3 c4 HM HR2 HP2 HE2 hb3
    cases hr : stB z.n z.t z.sl (gt (bh l (b, w))) with
    | true =>
      have ok : OkS z (bh l (b, w)) := (stB_ok hl.1).1 hr
      have Hfl := hide (fl_yes (xs := pre) (x := ⟨(b, w), hok⟩) ok)
      obtain ⟨fn, tmps, assign, body, hy, hR⟩ := unhide HY (fl z l pre) ⟨(b, w), hok, ok⟩ V3 (by have := (unhide HB3).size; omega) (unhide HJ3)
      dsimp only [encF] at hy
      have d0 := E3.y
      obtain ⟨-, p0, p1⟩ := P3
      have c0 := (R3.2 0 (by omega)).1
      have c1 := (R3.2 1 (by omega)).1
      have c2 := (R3.2 2 (by omega)).1
      have c3 := (R3.2 3 (by omega)).1
      have c4 := (R3.2 4 (by omega)).1
      have HE3 := hide E3
      clear E3 R3
      gi_wp2
      refine (round_deep hR).mono ?_
      rintro e V4 ⟨hk4, ⟨rfl, hJ4⟩ | ⟨rfl, hJx4⟩⟩
      · have HK4 := hide hk4
        have HJ4 := hide hJ4
        clear hk4 hJ4 hR hy d0 p0 p1 c0 c1 c2 c3 c4
        gi_wp2
        exact ⟨(KC.below (unhide HB3)).trans ((unhide HK4).less fun b hb => .inr (.inr (.inr (by omega)))), by rw [unhide Hfl]; exact unhide HJ4, (unhide HE3).kc (unhide HK4) (fun b hb => by rcases hb with h | h | h | h; exact .inl h; exact .inr (.inl h); exact .inr (.inr (.inl h)); exact .inr (.inr (.inr (by omega))))⟩
      · have HK4 := hide hk4
        have HJ4 := hide hJx4
        clear hk4 hJx4 hR hy d0 p0 p1 c0 c1 c2 c3 c4
        gi_wp2
        exact ⟨(KC.below (unhide HB3)).trans ((unhide HK4).less fun b hb => .inr (.inr (.inr (by omega)))), by dsimp only; rw [unhide Hfl]; exact unhide HJ4⟩
    | false =>
      have no : ¬ OkS z (bh l (b, w)) := fun h => by rw [(stB_ok hl.1).2 h] at hr; cases hr
      have Hfl := hide (fl_no (xs := pre) (x := ⟨(b, w), hok⟩) no)
      have HE3 := hide E3
      clear E3 R3 P3
      gi_wp2
      refine ⟨fun _ h => (by cases h), ?_⟩
      gi_wp2
      exact ⟨KC.below (unhide HB3), by rw [unhide Hfl]; exact unhide HJ3, unhide HE3⟩
  case done =>
    rintro xs V hS ⟨hJs, -⟩ hD
    gi_wp2
    refine ⟨by simp, .inl ⟨_, _, rfl, run_takeDeferred hD, _, results_none rfl _ _ _, ⟨_, rfl⟩, .inl ⟨fl z l xs, ?_, (unhide HJ).putObj _ hJs (by omega) hD rfl⟩⟩⟩
    rw [fl_map, hS]
    rfl
  case stop =>
    intro pre V hS hJs hD
    gi_wp2
    refine ⟨by simp, .inl ⟨_, _, rfl, run_takeDeferred hD, _, results_none rfl _ _ _, ⟨_, rfl⟩, .inr ⟨fl z l pre, ?_, (unhide HJx).putObj _ hJs (by omega) hD rfl⟩⟩⟩
    rw [fl_map]
    exact prefix_filter _ hS
end Go.Proofs.Ytpdknodnlamphaa
