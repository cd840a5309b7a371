/-
  Package passes: nearer.
-/
import Derived.Test.YtpdknodnlamphaaD
namespace Go.Proofs.Ytpdknodnlamphaa
open Go.RowKit Go.Shelf

attribute [local go_sem] Oper.semAt_some

/-- how far it is, as a map has it -/
def encG (G : Gd) : List (Value × Nat) := G.map fun g => (stV g.1, g.2)
theorem MpI.own {β : Type} {B b : Nat} {k : TypeId} {L : List (Value × Nat)} (hb : b < B) : OwnFrom B (fun (_ : β) V => MpI V k b L) := fun _ X Y row h hg hr =>
  h.block (hg.block b h.lt (fun e => by have := (hr b e.symm).1; omega))
theorem SR.own {β : Type} {B b : Nat} {f : Nat → Int} : OwnFrom B (fun (_ : β) V => SR V b f) := fun _ _ _ _ h hg hr =>
  ⟨Nat.lt_of_lt_of_le h.1 hg.size, fun j hj => ⟨cell_kept (h.2 j hj).1 hg (fun r e => (hr r e).2), (frozen_kept (h.2 j hj).1 hg (fun r e => (hr r e).2)).trans (h.2 j hj).2⟩⟩
theorem cell_own {β : Type} {B : Nat} {a : Addr} {v : Value} : OwnFrom B (fun (_ : β) V => V.cell? a = some v) := fun _ _ _ _ h hg hr => cell_kept h hg (fun r e => (hr r e).2)
/-- two numbers in a box that may be written -/
def PW (W : World) (b : Nat) (x y : Int) : Prop := PB W b x y ∧ W.frozen? ⟨b, 0, none⟩ = false ∧ W.frozen? ⟨b, 1, none⟩ = false
theorem PW.own {β : Type} {B b : Nat} {x y : Int} : OwnFrom B (fun (_ : β) V => PW V b x y) := fun u X Y row h hg hr =>
  ⟨PB.own u X Y row h.1 hg hr, (frozen_kept h.1.2.1 hg (fun r e => (hr r e).2)).trans h.2.1, (frozen_kept h.1.2.2 hg (fun r e => (hr r e).2)).trans h.2.2⟩
theorem PW.keep {W V : World} {b : Nat} {x y : Int} (h : PW W b x y) (hb : Below W.heap.size W V) : PW V b x y := ⟨h.1.keep hb, keepF hb h.1.1 h.2.1, keepF hb h.1.1 h.2.2⟩
theorem PW.new (W : World) (x y : Int) (t : TypeId) : PW (W.alloc (.cells #[.int .i64 x, .int .i64 y] t)) W.heap.size x y := ⟨PB.new W x y t, by simp [go_sem], by simp [go_sem]⟩

/-- what nearer reads and writes -/
structure Nv (W : World) (bm : Nat) (l : List Int) (G : Gd) (V : World) : Prop where
  a : ∀ j, j < 5 → V.cell? ⟨W.heap.size + 1, j, none⟩ = some (.int .i64 (gt l j))
  m : V.cell? ⟨W.heap.size + 1 + 1, 0, none⟩ = some (.map (some bm))
  p : PW V (W.heap.size + 1 + 1 + 1) 0 0
  r : SR V (W.heap.size + 1 + 1 + 1 + 1) (fun _ => 0)
  mp : MpI V 38 bm (encG G)
  b : Below W.heap.size W V
theorem Nv.own {β : Type} {W : World} {B bm : Nat} {l : List Int} {G : Gd} (hB : W.heap.size ≤ B) (hb : bm < B) : OwnFrom B (fun (_ : β) V => Nv W bm l G V) := fun u X Y row h hg hr =>
  ⟨fun j hj => cell_own u X Y row (h.a j hj) hg hr, cell_own u X Y row h.m hg hr, PW.own u X Y row h.p hg hr, SR.own u X Y row h.r hg hr, MpI.own hb u X Y row h.mp hg hr, ownFrom_below (Nat.le_refl _) hB u X Y row h.b hg hr⟩
theorem Nv.keep {W : World} {bm : Nat} {l : List Int} {G : Gd} {V V' : World} (h : Nv W bm l G V) (hb : Below V.heap.size V V') : Nv W bm l G V' where
  a j hj := keepC hb (World.block_lt_of_cell? V _ (h.a j hj)) (h.a j hj)
  m := keepC hb (World.block_lt_of_cell? V _ h.m) h.m
  p := h.p.keep hb
  r := h.r.keep hb
  mp := h.mp.keep hb
  b := h.b.trans (hb.mono h.b.size)

theorem mixed : Try.prog.follows Departure.mixedOrders = true := by kernel_rfl
/-- two boxes that are written whole -/
theorem put_two {V : World} {b1 b2 : Nat} (h : PW V b1 0 0) (k : SR V b2 (fun _ => 0)) (hne : b1 ≠ b2) (x y : Int) (f : Nat → Int) :
    ∃ V', (((((((V.setCell ⟨b1, 0, none⟩ (.int .i64 x)).setCell ⟨b1, 1, none⟩ (.int .i64 y)).setCell ⟨b2, 0, none⟩ (.int .i64 (f 0))).setCell ⟨b2, 1, none⟩ (.int .i64 (f 1))).setCell ⟨b2, 2, none⟩ (.int .i64 (f 2))).setCell ⟨b2, 3, none⟩ (.int .i64 (f 3))).setCell ⟨b2, 4, none⟩ (.int .i64 (f 4))) = V' ∧
      PB V' b1 x y ∧ SR V' b2 f ∧ Kept (fun i => i = b1 ∨ i = b2) V V' := by
  have K : Kept (fun i => i = b1 ∨ i = b2) V _ := ((((((((Kept.refl _ V).set (b := b1) 0 (.int .i64 x) (.inl (.inl rfl))).set (b := b1) 1 (.int .i64 y) (.inl (.inl rfl))).set (b := b2) 0 (.int .i64 (f 0)) (.inl (.inr rfl))).set (b := b2) 1 (.int .i64 (f 1)) (.inl (.inr rfl))).set (b := b2) 2 (.int .i64 (f 2)) (.inl (.inr rfl))).set (b := b2) 3 (.int .i64 (f 3)) (.inl (.inr rfl))).set (b := b2) 4 (.int .i64 (f 4)) (.inl (.inr rfl)))
  have p : PB ((V.setCell ⟨b1, 0, none⟩ (.int .i64 x)).setCell ⟨b1, 1, none⟩ (.int .i64 y)) b1 x y := ⟨by simpa using h.1.1, cset (csame h.1.2.1) (by omega), csame (cset h.1.2.2 (by omega))⟩
  have k2 : SR ((V.setCell ⟨b1, 0, none⟩ (.int .i64 x)).setCell ⟨b1, 1, none⟩ (.int .i64 y)) b2 (fun _ => 0) := (k.kept (kset V b1 0 _) (fun e => hne e.symm)).kept (kset _ b1 1 _) (fun e => hne e.symm)
  have pk : ∀ {U : World} {j : Nat} {v : Value}, PB U b1 x y → PB (U.setCell ⟨b2, j, none⟩ v) b1 x y := fun hU => hU.kept (kset _ b2 _ _) hne
  refine ⟨_, rfl, pk (pk (pk (pk (pk p)))), (((((k2.set 0 (f 0)).set 1 (f 1)).set 2 (f 2)).set 3 (f 3)).set 4 (f 4)).congr ?_, K⟩
  intro j hj
  rcases j with _ | _ | _ | _ | _ | j
  · rfl
  · rfl
  · rfl
  · rfl
  · rfl
  · omega
/-- none of these is as near -/
def NoD (z : Pz) (k : Nat) (l : List Int) (pre : List (Fx z l)) : Prop := ∀ x ∈ pre, ¬ dst z k (bh l x.1)
theorem NoD.nil (z : Pz) (k : Nat) (l : List Int) : NoD z k l [] := fun _ h => by cases h
theorem NoD.snoc {z : Pz} {k : Nat} {l : List Int} {pre : List (Fx z l)} (h : NoD z k l pre) {x : Fx z l} (hx : ¬ dst z k (bh l x.1)) : NoD z k l (pre ++ [x]) := fun y hy => by
  rcases List.mem_append.1 hy with hy | hy
  · exact h y hy
  · rw [List.mem_singleton.1 hy]; exact hx
/-- .. but for the last one, which is in its boxes -/
def Hit (W : World) (z : Pz) (k : Nat) (l : List Int) (pre : List (Fx z l)) (V : World) : Prop :=
  ∃ xs x, pre = xs ++ [x] ∧ NoD z k l xs ∧ dst z k (bh l x.1) ∧ PB V (W.heap.size + 1 + 1 + 1) x.1.1 x.1.2 ∧ SR V (W.heap.size + 1 + 1 + 1 + 1) (gt (bh l x.1)) ∧ Below W.heap.size W V

set_option maxRecDepth 100000 in
set_option maxHeartbeats 4000000 in
theorem nearer_any (z : Pz) (h1 : 1 ≤ z.n) (h5 : z.n ≤ 5) (hsl : 1 ≤ z.sl ∧ z.sl ≤ 11) (hE : OkS z z.E) (l : List Int) (k : Nat) (hd : dst z (k + 1) l) (G : Gd) (hok : ∀ g ∈ G, dst z g.2 g.1) (hl : (l, k + 1) ∈ G) (hall : ∀ j x, j ≤ k → rc z j x → Kn G x)
    (q : Option Addr) (c bm B0 : Nat) (W : World) (hB0 : B0 ≤ W.heap.size) (hq : Iq B0 W q z.n z.t) (hm : MpI W 38 bm (encG G)) :
    Calls Try.prog 19 #[wkV q z.n c z.sl, stV l, .map (some bm)] W fun e w' => e = .returned (.tuple #[psV (pick z k l), stV (bh l (pick z k l))]) ∧ Below W.heap.size W w' := by
  obtain ⟨w5, hw5, N5, K5, A5, hs5⟩ : ∃ w5, ((((W.alloc (.cells #[.slice q z.n c, .int .i64 z.sl] 36)).alloc (.cells #[.int .i64 (gt l 0), .int .i64 (gt l 1), .int .i64 (gt l 2), .int .i64 (gt l 3), .int .i64 (gt l 4)] 38)).alloc (.cells #[.map (some bm)] 40)).alloc (.cells #[.int .i64 0, .int .i64 0] 44)).alloc (.cells #[.int .i64 0, .int .i64 0, .int .i64 0, .int .i64 0, .int .i64 0] 38) = w5 ∧ Nv W bm l G w5 ∧ KB w5 W.heap.size q z.n c z.sl ∧ SR w5 (W.heap.size + 1) (gt l) ∧ w5.heap.size = W.heap.size + 5 := by
    refine ⟨_, rfl, ?_⟩
    generalize hu1 : W.alloc (.cells #[.slice q z.n c, .int .i64 z.sl] 36) = u1
    have s1 : u1.heap.size = W.heap.size + 1 := by rw [← hu1]; simp
    have b1 : Below W.heap.size W u1 := by rw [← hu1]; exact bnew _ _
    have k1 : KB u1 W.heap.size q z.n c z.sl := by rw [← hu1]; exact KB.new _ _ _ _ _ _
    generalize hu2 : u1.alloc (.cells #[.int .i64 (gt l 0), .int .i64 (gt l 1), .int .i64 (gt l 2), .int .i64 (gt l 3), .int .i64 (gt l 4)] 38) = u2
    have s2 : u2.heap.size = W.heap.size + 2 := by rw [← hu2]; simp [s1]
    have b2 : Below u1.heap.size u1 u2 := by rw [← hu2]; exact bnew _ _
    have r2 : SR u2 (W.heap.size + 1) (gt l) := by rw [← hu2, ← s1]; exact SR.new _ _ _
    generalize hu3 : u2.alloc (.cells #[.map (some bm)] 40) = u3
    have s3 : u3.heap.size = W.heap.size + 3 := by rw [← hu3]; simp [s2]
    have b3 : Below u2.heap.size u2 u3 := by rw [← hu3]; exact bnew _ _
    have m3 : u3.cell? ⟨W.heap.size + 1 + 1, 0, none⟩ = some (.map (some bm)) := by rw [← hu3, ← s2]; simp [go_sem]
    generalize hu4 : u3.alloc (.cells #[.int .i64 0, .int .i64 0] 44) = u4
    have s4 : u4.heap.size = W.heap.size + 4 := by rw [← hu4]; simp [s3]
    have b4 : Below u3.heap.size u3 u4 := by rw [← hu4]; exact bnew _ _
    have p4 : PW u4 (W.heap.size + 1 + 1 + 1) 0 0 := by rw [← hu4, ← s3]; exact PW.new _ _ _ _
    have b5 := bnew u4 (.cells #[.int .i64 0, .int .i64 0, .int .i64 0, .int .i64 0, .int .i64 0] 38)
    have r5 := SR.new u4 (fun _ => 0) 38
    rw [s4] at r5
    have b35 := btrans b4 b5
    have b25 := btrans b3 b35
    have b15 := btrans b2 b25
    have r := r2.keep b25
    exact ⟨⟨fun j hj => (r.2 j hj).1, keepC b35 (by omega) m3, p4.keep b5, r5, hm.keep (btrans b1 b15), btrans b1 b15⟩, k1.keep b15, r, by simp [s4]⟩
  have HN5 := hide N5
  have HF := hide (from1_gives z l (rc_ok hE hd.1) h1 h5 hsl B0)
  have HK5 := hide K5
  have HA5 := hide A5
  have Hq := hide hq
  have hbm := hm.lt
  obtain ⟨-, k0, k1⟩ := K5
  have a0 := (A5.2 0 (by omega)).1
  have a1 := (A5.2 1 (by omega)).1
  have a2 := (A5.2 2 (by omega)).1
  have a3 := (A5.2 3 (by omega)).1
  have a4 := (A5.2 4 (by omega)).1
  clear N5 A5 hq hm
  refine (callsIn_wide (n := 9)).1 (callsIn_of_wp_marks Try.func19 rfl trivial ?_ rfl)
  simp only [Try.ntmps19, List.size_toArray, List.length_cons, List.length_nil, Nat.reduceAdd, Nat.reduceSub, Array.replicate_succ, Array.replicate_zero, List.push_toArray, List.append_toArray, List.nil_append, List.cons_append]
  gi_wp2_with fail
  clear k0 k1 a0 a1 a2 a3 a4 hw5
  refine ⟨trivial, (callsIn_wide.2 (from_any q z.n c z.sl l w5)).mono ?_⟩
  rintro e w7 ⟨rfl, rfl⟩
  gi_wp2_with fail
  have b7 := btrans (bnew w5 (.cells #[.slice q z.n c, .int .i64 z.sl] 36)) (bnew _ (.cells #[.int .i64 (gt l 0), .int .i64 (gt l 1), .int .i64 (gt l 2), .int .i64 (gt l 3), .int .i64 (gt l 4)] 38))
  have N7 := (unhide HN5).keep b7
  have K7 := (KB.new w5 q z.n c z.sl 36).keep (bnew _ (.cells #[.int .i64 (gt l 0), .int .i64 (gt l 1), .int .i64 (gt l 2), .int .i64 (gt l 3), .int .i64 (gt l 4)] 38))
  have A7 := SR.new (w5.alloc (.cells #[.slice q z.n c, .int .i64 z.sl] 36)) (gt l) 38
  rw [World.size_alloc, hs5] at A7
  rw [hs5] at K7
  have hs7 : ((w5.alloc (.cells #[.slice q z.n c, .int .i64 z.sl] 36)).alloc (.cells #[.int .i64 (gt l 0), .int .i64 (gt l 1), .int .i64 (gt l 2), .int .i64 (gt l 3), .int .i64 (gt l 4)] 38)).heap.size = W.heap.size + 7 := by simp [hs5]
  have Hq7 : Iq B0 ((w5.alloc (.cells #[.slice q z.n c, .int .i64 z.sl] 36)).alloc (.cells #[.int .i64 (gt l 0), .int .i64 (gt l 1), .int .i64 (gt l 2), .int .i64 (gt l 3), .int .i64 (gt l 4)] 38)) q z.n z.t := by
    obtain ⟨b, o, e, hb, hc⟩ := unhide Hq
    exact ⟨b, o, e, hb, fun i hi => keepC N7.b (by omega) (hc i hi)⟩
  have HN7 := hide N7
  have HF7 := hide (unhide HF (W.heap.size + 5) (W.heap.size + 5 + 1) c q _ (by rw [hs7]; omega) K7 A7 Hq7)
  clear HN5 HF HK5 HA5 N7 K7 A7 Hq7 b7
  generalize (w5.alloc (.cells #[.slice q z.n c, .int .i64 z.sl] 36)).alloc (.cells #[.int .i64 (gt l 0), .int .i64 (gt l 1), .int .i64 (gt l 2), .int .i64 (gt l 3), .int .i64 (gt l 4)] 38) = w7 at *
  refine over (gf := 31) (lb := #[.pointer (some ⟨W.heap.size + 5, 0, none⟩), .pointer (some ⟨W.heap.size + 5 + 1, 0, none⟩)]) rfl (enters_of Try.func31 (by kernel_rfl) rfl) (unhide HF7) (fun b hb => by omega) (fun _ => rfl)
    (fun pre V => NoD z k l pre ∧ Nv W bm l G V)
    (Hit W z k l)
    (OwnFrom.and (ownFrom_pure _ _) (Nv.own (by omega) (by omega)))
    (fun u X Y row hs hg hr => by
      obtain ⟨xs, x, e, hx, hdx, hp, hsr, hb⟩ := hs
      exact ⟨xs, x, e, hx, hdx, PB.own u X Y row hp hg hr, SR.own u X Y row hsr hg hr, ownFrom_below (Nat.le_refl _) (by omega) u X Y row hb hg hr⟩)
    ⟨NoD.nil z k l, unhide HN7⟩
    (fun x a V => ∃ Bp Bn, W.heap.size + 9 ≤ Bp ∧ W.heap.size + 9 ≤ Bn ∧ PB V Bp x.1.1 x.1.2 ∧ SR V Bn (gt (bh l x.1)) ∧ a = { tmps := #[wkV q z.n c z.sl, stV l, .map (some bm), .pointer (some ⟨W.heap.size, 0, none⟩), .pointer (some ⟨W.heap.size + 1, 0, none⟩), .pointer (some ⟨W.heap.size + 1 + 1, 0, none⟩), .pointer (some ⟨W.heap.size + 1 + 1 + 1, 0, none⟩), .pointer (some ⟨W.heap.size + 1 + 1 + 1 + 1, 0, none⟩), .pointer (some ⟨Bp, 0, none⟩), .pointer (some ⟨Bn, 0, none⟩), undef, undef, .agg #[.slice q z.n c, .int .i64 z.sl], .agg #[.int .i64 (gt l 0), .int .i64 (gt l 1), .int .i64 (gt l 2), .int .i64 (gt l 3), .int .i64 (gt l 4)], .func (.func 31) #[] #[.pointer (some ⟨W.heap.size + 5, 0, none⟩), .pointer (some ⟨W.heap.size + 5 + 1, 0, none⟩)], .agg #[.int .i64 x.1.1, .int .i64 (x.1.2 : Nat)], stV (bh l x.1), undef, undef, undef, undef, undef, undef, undef, undef, undef, undef, undef, undef, undef, undef, undef, undef, undef, undef], defers := [] })
    (fun x a => fun u X Y row hs hg hr => by
      obtain ⟨Bp, Bn, hb, hn, hp, hsr, e⟩ := hs
      exact ⟨Bp, Bn, hb, hn, PB.own u X Y row hp hg hr, SR.own u X Y row hsr hg hr, e⟩) ?assign ?body ?done ?stop
  case assign =>
    intro pre x V K hlt hi hK
    have HI := hide hi
    clear hi
    unfold handed
    gi_wp2
    have b2 := btrans (bnew V (.cells #[.int .i64 x.1.1, .int .i64 (x.1.2 : Nat)] 44)) (bnew _ (.cells #[.int .i64 (gt (bh l x.1) 0), .int .i64 (gt (bh l x.1) 1), .int .i64 (gt (bh l x.1) 2), .int .i64 (gt (bh l x.1) 3), .int .i64 (gt (bh l x.1) 4)] 38))
    have R2 := SR.new (V.alloc (.cells #[.int .i64 x.1.1, .int .i64 (x.1.2 : Nat)] 44)) (gt (bh l x.1)) 38
    rw [World.size_alloc] at R2
    exact hK _ _ (KC.below b2) ⟨(unhide HI).1, (unhide HI).2.keep b2⟩ ⟨V.heap.size, V.heap.size + 1, by omega, by omega, (PB.new _ _ _ _).keep (bnew _ _), R2, rfl⟩
  case body =>
    rintro pre ⟨⟨b, w⟩, hx1, hx2⟩ a V hlt ⟨hno, hN⟩ ⟨Bp, Bn, hBp, hBn, hP, hR, rfl⟩
    dsimp only at hP hR ⊢
    have HNo := hide hno
    have HN := hide hN
    have c0 := (hR.2 0 (by omega)).1
    have c1 := (hR.2 1 (by omega)).1
    have c2 := (hR.2 2 (by omega)).1
    have c3 := (hR.2 3 (by omega)).1
    have c4 := (hR.2 4 (by omega)).1
    obtain ⟨-, p0, p1⟩ := hP
    have a0 := hN.a 0 (by omega)
    have a1 := hN.a 1 (by omega)
    have a2 := hN.a 2 (by omega)
    have a3 := hN.a 3 (by omega)
    have a4 := hN.a 4 (by omega)
    have m0 := hN.m
    obtain ⟨kl, hkl⟩ := key_st (okS_bound hx2)
    by_cases hkn : Kn G (bh l (b, w))
    · obtain ⟨j, hj⟩ := hkn
      have L1 := hN.mp.found keyed38 Try.underlying40 (x := stV (bh l (b, w))) (v := j) (List.mem_map.2 ⟨_, hj, rfl⟩) true
      have L2 := hN.mp.found keyed38 Try.underlying40 (x := stV l) (v := k + 1) (List.mem_map.2 ⟨_, hl, rfl⟩) false
      have hjd := hok _ hj
      have hge : k ≤ j := by have := dst_next hd hx1 (rc_ok hE hd.1) hjd.1; omega
      simp only [if_true, Bool.false_eq_true, if_false] at L1 L2
      by_cases hjk : j = k
      · have g1 : ((j : Nat) : Int) < ((k + 1 : Nat) : Int) := by omega
        have Hd := hide (show dst z k (bh l (b, w)) from hjk ▸ hjd)
        generalize ((j : Nat) : Int) = jj at *
        generalize ((k + 1 : Nat) : Int) = kk at *
        obtain ⟨Vf, hVf, Pf, Rf, Kf⟩ := put_two hN.p hN.r (by omega) b w (gt (bh l (b, w)))
        obtain ⟨⟨-, x0, x1⟩, x2, x3⟩ := hN.p
        obtain ⟨y0, f0⟩ := hN.r.2 0 (by omega)
        obtain ⟨y1, f1⟩ := hN.r.2 1 (by omega)
        obtain ⟨y2, f2⟩ := hN.r.2 2 (by omega)
        obtain ⟨y3, f3⟩ := hN.r.2 3 (by omega)
        obtain ⟨y4, f4⟩ := hN.r.2 4 (by omega)
        have hmix := mixed
        have HFin := hide (show KC (fun b => (b < B0 ∨ b = W.heap.size + 5 ∨ b = W.heap.size + 5 + 1 ∨ (w7.heap.size + 2 ≤ b ∧ b < w7.heap.size + 2 + 4)) ∨ b = w7.heap.size ∨ b = w7.heap.size + 1) V Vf.drew ∧ Hit W z k l (pre ++ [⟨(b, w), hx1, hx2⟩]) Vf.drew from
          ⟨KC.kept Kf.dr (fun i hi => by omega), pre, ⟨(b, w), hx1, hx2⟩, rfl, hno, unhide Hd, Pf.keep (bdrew _), Rf.keep (bdrew _), Kf.dr.back hN.b (by omega) (fun i hi => by omega)⟩)
        clear hjk hjd hge hj hN hR hno Pf Rf Kf
        gi_wp2_with fail
        gi_region_with_o (fail)
        all_goals gi_wp2
        all_goals exact unhide HFin
      · have g1 : ¬ ((j : Nat) : Int) < ((k + 1 : Nat) : Int) := by omega
        have Hd := hide (show ¬ dst z k (bh l (b, w)) from fun h => hjk (dst_unique hjd h))
        generalize ((j : Nat) : Int) = jj at *
        generalize ((k + 1 : Nat) : Int) = kk at *
        clear hjk hjd hge hj hN hR hno
        gi_wp2
        exact ⟨KC.refl _ _, (unhide HNo).snoc (unhide Hd), unhide HN⟩
    · have L1 := hN.mp.missed keyed38 Try.underlying40 hkl (fun p hp e => by
        obtain ⟨g, hg, rfl⟩ := List.mem_map.1 hp
        have hgo := rc_ok hE (hok g hg).1
        have e2 : g.1 = bh l (b, w) := stV_inj (hgo.1.trans hx2.1.symm) (by have := hgo.1; omega) e
        exact hkn ⟨g.2, by rw [← e2]; exact hg⟩) true
      have Hd := hide (show ¬ dst z k (bh l (b, w)) from fun h => hkn (hall k _ (Nat.le_refl _) h.1))
      simp only [if_true] at L1
      clear hkn hN hR hno
      gi_wp2
      exact ⟨KC.refl _ _, (unhide HNo).snoc (unhide Hd), unhide HN⟩
  case done =>
    rintro xs V hS ⟨hno, -⟩ _
    obtain ⟨p, hp, hdp⟩ := pick_some hE hd
    rw [← hS] at hp
    obtain ⟨x, hx, rfl⟩ := List.mem_map.1 hp
    exact absurd hdp (hno x hx)
  case stop =>
    rintro pre V hS ⟨xs, x, rfl, hno, hdx, hP, hR, hB⟩ hD
    rw [List.map_append] at hS
    have e := pick_first (pre := xs.map (·.1)) (p := x.1) hS (fun p hp => by obtain ⟨y, hy, rfl⟩ := List.mem_map.1 hp; exact hno y hy) hdx
    gi_wp2
    have hgr := grownBy_putObj' V w7.heap.size (.deferred none)
    have own : ∀ {a : Addr} {v : Value}, V.cell? a = some v → (V.putObj w7.heap.size (.deferred none)).cell? a = some v := fun h => cell_kept h hgr (fun r e => by cases e; exact ⟨_, hD, rfl⟩)
    have y0 := own hP.2.1
    have y1 := own hP.2.2
    have y2 := own (hR.2 0 (by omega)).1
    have y3 := own (hR.2 1 (by omega)).1
    have y4 := own (hR.2 2 (by omega)).1
    have y5 := own (hR.2 3 (by omega)).1
    have y6 := own (hR.2 4 (by omega)).1
    refine ⟨by simp, .inl ⟨_, _, rfl, run_takeDeferred hD, .tuple #[psV x.1, stV (bh l x.1)], ?_, by rw [e], ?_⟩⟩
    · simp [results, Try.f19, go_sem, y0, y1, y2, y3, y4, y5, y6]
    · exact ownFrom_below (β := Unit) (B := w7.heap.size) (Nat.le_refl _) (by omega) () V _ _ hB hgr (fun r e => by cases e; exact ⟨Nat.le_refl _, _, hD, rfl⟩)
end Go.Proofs.Ytpdknodnlamphaa
