/-
  Read, and that the package is alive.
-/
import Derived.Test.YtbnjjkanokmakaaDoorRW
import Derived.Test.YtbnjjkanokmakaaDoorSC
namespace Go.Proofs.YtbnjjkanokmakaaDoor
open Go.RowKit

/-- a sett and a fault are told -/
def ReIs (W : World) (s : ByteArray) (e : Ending) (V : World) : Prop := Below W.heap.size W V ∧
  (((rE s).1 ≠ 0 ∧ e = .returned (.tuple #[sV false none 0 0, .agg #[.int .i64 (rE s).1, .int .i64 ((rE s).2 : Nat)]])) ∨ ((rE s).1 = 0 ∧ ∃ q cap, e = .returned (.tuple #[sV (pvS s) q (rdS s).2.2.length cap, .agg #[.int .i64 0, .int .i64 0]]) ∧ Sl V q (rdS s).2.2))
theorem ReIs.bad {W V : World} {s : ByteArray} {er : Int} {at' : Nat} (h : rE s = (er, at')) (he : er ≠ 0) (hb : Below W.heap.size W V) : ReIs W s (.returned (.tuple #[sV false none 0 0, .agg #[.int .i64 er, .int .i64 (at' : Nat)]])) V := by
  refine ⟨hb, .inl ?_⟩
  rw [h]
  exact ⟨he, rfl⟩
theorem ReIs.good {W V : World} {s : ByteArray} {q : Option Addr} {cap : Nat} (h : (rE s).1 = 0) (hb : Below W.heap.size W V) (h3 : Sl V q (rdS s).2.2) : ReIs W s (.returned (.tuple #[sV (pvS s) q (rdS s).2.2.length cap, .agg #[.int .i64 0, .int .i64 0]])) V :=
  ⟨hb, .inr ⟨h, q, cap, rfl, h3⟩⟩
theorem rE_long {s : ByteArray} (h : 65536 < s.size) : rE s = (4, 0) := by unfold rE; rw [if_pos h]
theorem rE_bad {s : ByteArray} (h : ¬ 65536 < s.size) (he : (rdE s).1 ≠ 0) : rE s = rdE s := by unfold rE; rw [if_neg h, if_pos he]
theorem rE_rest {s : ByteArray} (h : ¬ 65536 < s.size) (he : (rdE s).1 = 0) : rE s = (wE (pvS s) (rdS s).2.2, 0) := by unfold rE; rw [if_neg h, if_neg (by simp [he])]
/-- the boxes of what is told -/
def ReS (W : World) (n2 n3 : Nat) (V : World) : Prop := Below W.heap.size W V ∧ BSx V n2 false (.slice none 0 0) ∧ Bx V n3 0 0
theorem ReS.keep {W V U : World} {n2 n3 : Nat} (h : ReS W n2 n3 V) (hb : Below V.heap.size V U) : ReS W n2 n3 U := ⟨h.1.trans (hb.mono h.1.size), h.2.1.keep hb, h.2.2.keep hb⟩
theorem ReS.set {W V : World} {n2 n3 b : Nat} (h : ReS W n2 n3 V) (o : Nat) (v : Value) (h1 : W.heap.size ≤ b) (h2 : n2 ≠ b) (h3 : n3 ≠ b) : ReS W n2 n3 (V.setCell ⟨b, o, none⟩ v) :=
  ⟨h.1.setCell (p := ⟨b, o, none⟩) h1 _, h.2.1.but (kset V b o v) h2, h.2.2.but (kset V b o v) h3⟩
theorem ReS.fill {W V : World} {n2 n3 : Nat} (h : ReS W n2 n3 V) (h1 : W.heap.size ≤ n2) (h2 : W.heap.size ≤ n3) (h3 : n2 ≠ n3) (a : Bool) (v : Value) (c0 c1 : Int) :
    ∃ U, (((V.setCell ⟨n2, 0, none⟩ (.bool a)).setCell ⟨n2, 1, none⟩ v).setCell ⟨n3, 0, none⟩ (.int .i64 c0)).setCell ⟨n3, 1, none⟩ (.int .i64 c1) = U ∧ Below W.heap.size W U ∧ Kept (fun i => i = n2 ∨ i = n3) V U ∧ U.cell? ⟨n2, 0, none⟩ = some (.bool a) ∧ U.cell? ⟨n2, 1, none⟩ = some v ∧ U.cell? ⟨n3, 0, none⟩ = some (.int .i64 c0) ∧ U.cell? ⟨n3, 1, none⟩ = some (.int .i64 c1) := by
  obtain ⟨hb, ⟨⟨x1, x2, x3⟩, -⟩, ⟨⟨y1, y2, y3⟩, -⟩⟩ := h
  refine ⟨_, rfl, (((hb.setCell (p := ⟨n2, 0, none⟩) h1 _).setCell (p := ⟨n2, 1, none⟩) h1 _).setCell (p := ⟨n3, 0, none⟩) h2 _).setCell (p := ⟨n3, 1, none⟩) h2 _, ((((Kept.refl _ V).set 0 _ (.inl (.inl rfl))).set 1 _ (.inl (.inl rfl))).set 0 _ (.inl (.inr rfl))).set 1 _ (.inl (.inr rfl)), ?_, ?_, ?_, ?_⟩
  · exact cnot (cnot (cset (csame x2) (by decide)) h3) h3
  · exact cnot (cnot (csame (cset x3 (by decide))) h3) h3
  · exact cset (csame (cnot (cnot y2 h3.symm) h3.symm)) (by decide)
  · exact csame (cset (cnot (cnot y3 h3.symm) h3.symm) (by decide))
/-- nothing but new blocks -/
def Bl (W V : World) : Prop := Below W.heap.size W V
theorem ps_but {W V : World} {S : Nat → Prop} {q : Option Addr} {n : Nat} {a b : Nat → Int} (h : Ps W q n a b) (k : Kept S W V) (hS : n ≠ 0 → ∀ g o, q = some ⟨g, o, none⟩ → ¬ S g) : Ps V q n a b := by
  by_cases h0 : n = 0
  · exact .inl h0
  · obtain ⟨g, o, e, hl, hk⟩ := h.resolve_left h0
    exact .inr ⟨g, o, e, Nat.lt_of_lt_of_le hl k.size, fun i hi => ⟨k.cell hl (hS h0 g o e) (hk i hi).1, k.cell hl (hS h0 g o e) (hk i hi).2⟩⟩

set_option maxRecDepth 100000 in
set_option maxHeartbeats 20000000 in
theorem read_any (W : World) (s : ByteArray) (hT : RTabs W) : Calls Tryd.prog 7 #[.string s] W (ReIs W s) := by
  have Hbad := hide (fun V er at' (h : rE s = (er, at')) he (h1 : Bl W V) => ReIs.bad (W := W) (V := V) h he h1)
  have Hgood := hide (fun V q cap (h : (rE s).1 = 0) (h1 : Bl W V) h2 => ReIs.good (W := W) (V := V) (q := q) (cap := cap) h h1 h2)
  have b1 := bnew W (.cells #[.bool false, .slice none 0 0] 24)
  have b2 := bnew (W.alloc (.cells #[.bool false, .slice none 0 0] 24)) (.cells #[.int .i64 0, .int .i64 0] 27)
  have HS2 := hide (show ReS W W.heap.size (W.heap.size + 1) ((W.alloc (.cells #[.bool false, .slice none 0 0] 24)).alloc (.cells #[.int .i64 0, .int .i64 0] 27)) from ⟨b1.trans (b2.mono b1.size), (BSx.new W false (.slice none 0 0) 24).keep b2, by
    have := Bx.new (W.alloc (.cells #[.bool false, .slice none 0 0] 24)) 0 0 27
    rwa [show (W.alloc (.cells #[.bool false, .slice none 0 0] 24)).heap.size = W.heap.size + 1 by simp] at this⟩)
  have Hsz2 := hide (show ((W.alloc (.cells #[.bool false, .slice none 0 0] 24)).alloc (.cells #[.int .i64 0, .int .i64 0] 27)).heap.size = W.heap.size + 2 by simp)
  have HT := hide hT
  clear b1 b2 hT
  go_enter Tryd.func7, Tryd.ntmps7
  go_upto_region 1 with fail
  generalize (W.alloc (.cells #[.bool false, .slice none 0 0] 24)).alloc (.cells #[.int .i64 0, .int .i64 0] 27) = w2 at *
  generalize hb2 : W.heap.size = n2 at *
  generalize hb3 : n2 + 1 = n3 at *
  have nn1 : n2 ≠ n3 := by omega
  have Hb2 := hide (show W.heap.size ≤ n2 by omega)
  have Hb3 := hide (show W.heap.size ≤ n3 by omega)
  have Hnn := hide nn1
  have Hlt := hide (show n2 < w2.heap.size ∧ n3 < w2.heap.size by have := unhide Hsz2; omega)
  clear hb2 hb3 Hsz2 nn1
  by_cases hlong : 65536 < s.size
  · have HE := hide (rE_long hlong)
    have q0 : (65536 : Int) < (s.size : Int) := by omega
    have HS8 := HS2
    clear HS2 hlong
    go_upto_region 2 with fail
    obtain ⟨U, hU, r1, r2, u0, u1, u2, u3⟩ := (unhide HS8).fill (unhide Hb2) (unhide Hb3) (unhide Hnn) false (.slice none 0 0) 4 0
    obtain ⟨-, ⟨⟨-, x0, x1⟩, fx⟩, ⟨⟨-, y0, y1⟩, fy⟩⟩ := unhide HS8
    have fx0 := fx 0
    have fx1 := fx 1
    have fy0 := fy 0
    have fy1 := fy 1
    have R1 := hide r1
    have R2 := hide r2
    have nn1 := unhide Hnn
    have nn2 := nn1.symm
    clear r1 r2 fx fy
    go_wp2
    refine bodyPost_ret (v := .tuple #[sV false none 0 0, .agg #[.int .i64 (4), .int .i64 (0)]]) (by simp [results, Tryd.results7, sV, go_sem, u0, u1, u2, u3]) rfl ?_
    exact unhide Hbad _ 4 0 (unhide HE) (by decide) (unhide R1)

  · have q0 : ¬ ((65536 : Int) < (s.size : Int)) := by omega
    have hs : s.size ≤ 65536 := by omega
    have Hl := hide hlong
    have bn := bnew w2 (.cells #[.string s, .int .i64 0] 48)
    have HTw := hide (show RTabs w2 from (unhide HT).keep (unhide HS2).1)
    have HC := hide (sett_any w2 (w2.alloc (.cells #[.string s, .int .i64 0] 48)) w2.heap.size s hs (unhide HTw) ⟨⟨Nat.le_refl _, by simp⟩, ⟨by simp [go_sem], by simp [go_sem]⟩, fun j => by simp [go_sem], bn⟩)
    have Hq0 := hide q0
    have Hw3 := hide (show (w2.alloc (.cells #[.string s, .int .i64 0] 48)).heap.size = w2.heap.size + 1 by simp)
    clear bn hlong HT
    go_upto_region 4 with fail
    clear q0
    generalize w2.alloc (.cells #[.string s, .int .i64 0] 48) = w3 at *
    generalize hrb : w2.heap.size = rb at *
    go_wp2_with fail
    refine (unhide HC).mono ?_
    rintro e w4 ⟨⟨pp, hr⟩, -, hres⟩
    have hb4 := hr.2.2.2
    have HS4 := hide ((unhide HS2).keep hb4)
    have HTw4 := hide ((unhide HTw).keep hb4)
    rw [hrb] at hb4
    have Hl4 := hide (show n2 < w4.heap.size ∧ n3 < w4.heap.size from by
      have := hb4.size
      have := unhide Hlt
      omega)
    have Hl3 := hide (show n2 < w3.heap.size ∧ n3 < w3.heap.size from by
      have := unhide Hlt
      have := unhide Hw3
      omega)
    clear hr HC HTw HS2 hb4 hrb Hlt
    rcases hres with ⟨he, rfl⟩ | ⟨he, q, cap, rfl, hsl, hnew⟩
    · have hE := rE_bad (unhide Hl) he
      obtain ⟨er, at', hra⟩ : ∃ er at', rdE s = (er, at') := ⟨_, _, rfl⟩
      rw [hra] at he hE ⊢
      have HE := hide hE
      have He := hide he
      have z9 : (er == (0 : Int)) = false := by simpa using he
      have z8 : (er != (0 : Int)) = true := by simpa using he
      clear hE he hra
      go_upto_region 5 with fail
      have b6 := bnew w4 (.cells #[.bool false, .slice none 0 0] 24)
      have b7 := bnew (w4.alloc (.cells #[.bool false, .slice none 0 0] 24)) (.cells #[.int .i64 er, .int .i64 (at' : Int)] 27)
      have HS := hide (((unhide HS4).keep b6).keep b7)
      have HB := hide (B2.new (w4.alloc (.cells #[.bool false, .slice none 0 0] 24)) er (at' : Int) 27)
      rw [show (w4.alloc (.cells #[.bool false, .slice none 0 0] 24)).heap.size = w4.heap.size + 1 by simp] at HB
      clear b6 b7 HS4
      generalize (w4.alloc (.cells #[.bool false, .slice none 0 0] 24)).alloc (.cells #[.int .i64 er, .int .i64 (at' : Int)] 27) = w7 at *
      have Hne := hide (show w4.heap.size + 1 ≠ n2 ∧ w4.heap.size + 1 ≠ n3 from by
        have := unhide Hl4
        omega)
      generalize w4.heap.size + 1 = n6 at *
      obtain ⟨-, s0, s1⟩ := unhide HB
      go_upto_region 8 with fail
      clear s0 s1
      refine wp_region_noPanic ?_
      have hS := (unhide HB).keep (bdrew w7)
      have HS8 := hide ((unhide HS).keep (bdrew w7))
      clear HS HB
      refine wp_region_held_drew (S := fun V => B2 V n6 (er) ((at' : Int))) (by kernel_rfl) (hS) ?_
      intro _
      generalize w7.drew = w9 at *
      refine wpAnyH_take (i := 0) (oi := _) (v := .agg #[.bool false, .slice none 0 0]) g4_0 (by kernel_rfl) (by kernel_rfl) (by kernel_rfl) (fun _ _ _ h => h) (Or.inl ⟨by rfl, ?_⟩) (by assumption) ?_
      · intro V hSw
        try dsimp only at hSw
        go_simp
      simp only [Act.put, List.setIfInBounds_toArray, List.set_cons_zero, List.set_cons_succ]
      refine wpAnyH_take (i := 1) (oi := _) (v := .agg #[.int .i64 (er), .int .i64 ((at' : Int))]) g4_1 (by kernel_rfl) (by kernel_rfl) (by kernel_rfl) (fun _ _ _ h => h) (Or.inl ⟨by rfl, ?_⟩) (by assumption) ?_
      · intro V hSw
        try dsimp only at hSw
        obtain ⟨-, s0, s1⟩ := hSw
        go_simp
      simp only [Act.put, List.setIfInBounds_toArray, List.set_cons_zero, List.set_cons_succ]
      obtain ⟨U, hU, r1, r2, u0, u1, u2, u3⟩ := (unhide HS8).fill (unhide Hb2) (unhide Hb3) (unhide Hnn) false (.slice none 0 0) (er) ((at' : Int))
      obtain ⟨-, ⟨⟨-, x0, x1⟩, fx⟩, ⟨⟨-, y0, y1⟩, fy⟩⟩ := unhide HS8
      have fx0 := fx 0
      have fx1 := fx 1
      have fy0 := fy 0
      have fy1 := fy 1
      have R1 := hide r1
      have nn1 := unhide Hnn
      have nn2 := nn1.symm
      have hS2 : B2 ((w9.setCell ⟨n2, 0, none⟩ (.bool false)).setCell ⟨n2, 1, none⟩ (.slice none 0 0)) n6 (er) ((at' : Int)) := ⟨by simpa using hS.1, cnot (cnot hS.2.1 (unhide Hne).1) (unhide Hne).1, cnot (cnot hS.2.2 (unhide Hne).1) (unhide Hne).1⟩
      have hS3 : B2 U n6 (er) ((at' : Int)) := by
        rw [← hU]
        exact ⟨by simpa using hS2.1, cnot (cnot hS2.2.1 (unhide Hne).2) (unhide Hne).2, cnot (cnot hS2.2.2 (unhide Hne).2) (unhide Hne).2⟩
      clear r1 r2 fx fy
      refine wpAnyH_ready (rs := [2]) (by kernel_rfl) (by simp) ?_
      refine AllReadyH.cons (o := _) g4_2 (fun K hK => ?_) AllReadyH.nil
      go_simp
      refine hK.out _ _ (hS2) (fun _ => ?_)
      clear hK K
      refine wpAnyH_ready (rs := [3]) (by kernel_rfl) (by simp) ?_
      refine AllReadyH.cons (o := _) g4_3 (fun K hK => ?_) AllReadyH.nil
      go_simp
      refine hK.out _ _ (hS3) (fun _ => ?_)
      clear hK K
      refine wpAnyH_done (by kernel_rfl) ?_ _
      refine NoPanic.normal ?_
      go_wp2
      refine bodyPost_ret (v := .tuple #[sV false none 0 0, .agg #[.int .i64 (er), .int .i64 ((at' : Int))]]) (by simp [results, Tryd.results7, sV, go_sem, u0, u1, u2, u3]) rfl ?_
      exact unhide Hbad _ er at' (unhide HE) (unhide He) (unhide R1)

    · have hE := rE_rest (unhide Hl) he
      obtain ⟨ac, hac⟩ : ∃ ac, ac = (rdS s).2.2 := ⟨_, rfl⟩
      obtain ⟨pv, hpv⟩ : ∃ pv, pv = pvS s := ⟨_, rfl⟩
      rw [← hac] at hsl hE ⊢
      rw [← hpv] at hE ⊢
      have HW := hide (fun V (hb : Below w4.heap.size w4 V) => wrong_any pv q ac cap V (hsl.keep hb))
      have Hsl := hide hsl
      have Hac := hide hac
      have Hpv := hide hpv
      obtain ⟨er, her⟩ : ∃ er, er = wE pv ac := ⟨_, rfl⟩
      rw [← her] at HW hE
      have HE := hide hE
      obtain ⟨n, hn⟩ : ∃ n, n = ac.length := ⟨_, rfl⟩
      unfold sV at HW ⊢
      rw [← hn] at HW ⊢
      have Hn := hide hn
      clear hac hpv her hE hsl hn he
      go_upto_region 5 with fail
      have b6 := bnew w4 (.cells #[.bool pv, .slice q n cap] 24)
      have b7 := bnew (w4.alloc (.cells #[.bool pv, .slice q n cap] 24)) (.cells #[.int .i64 0, .int .i64 0] 27)
      have b67 := b6.trans (b7.mono b6.size)
      have HS := hide (((unhide HS4).keep b6).keep b7)
      have HX := hide ((BSx.new w4 pv (.slice q n cap) 24).keep b7)
      have HB := hide (Bx.new (w4.alloc (.cells #[.bool pv, .slice q n cap] 24)) 0 0 27)
      rw [show (w4.alloc (.cells #[.bool pv, .slice q n cap] 24)).heap.size = w4.heap.size + 1 by simp] at HB
      have HC := hide (unhide HW _ b67)
      have Hs7 := hide (Ps.keep (unhide Hsl) b67)
      have Hrow := hide (fun g o (e : q = some ⟨g, o, none⟩) => show ac.length ≠ 0 → g < w4.heap.size from fun h0 => by
        rcases unhide Hsl with h | ⟨g', o', e', hl, -⟩
        · exact absurd h h0
        · rw [e] at e'
          cases e'
          exact hl)
      have Hsz4 := hide (show W.heap.size ≤ w4.heap.size from (unhide HS4).1.size)
      clear b6 b7 b67 HS4 HW
      generalize (w4.alloc (.cells #[.bool pv, .slice q n cap] 24)).alloc (.cells #[.int .i64 0, .int .i64 0] 27) = w7 at *
      generalize hn5 : w4.heap.size = n5 at *
      generalize hn6 : n5 + 1 = n6 at *
      have Hne := hide (show n6 ≠ n2 ∧ n6 ≠ n3 from by
        have := unhide Hl4
        omega)
      have Hn5 := hide (show n5 ≠ n2 ∧ n5 ≠ n3 ∧ n5 ≠ n6 from by
        have := unhide Hl4
        omega)
      have Hn6 := hide (show W.heap.size ≤ n6 from by
        have := unhide Hsz4
        omega)
      have Hn56 := hide (show n5 + 1 = n6 from hn6)
      clear hn5 hn6
      obtain ⟨⟨-, s0, s1⟩, -⟩ := unhide HB
      obtain ⟨⟨-, e0, e1⟩, -⟩ := unhide HX
      go_wp2_with fail
      refine (unhide HC).mono ?_
      rintro e w8 ⟨rfl, hb8⟩
      have HSa := hide ((unhide HS).keep hb8)
      have HBa := hide ((unhide HB).keep hb8)
      have HXa := hide ((unhide HX).keep hb8)
      have Hsa := hide (Ps.keep (unhide Hs7) hb8)
      clear hb8 s0 s1 e0 e1 HS HB HX HC Hs7
      have HSb := hide ((unhide HSa).set 0 (.int .i64 er) (unhide Hn6) (unhide Hne).1.symm (unhide Hne).2.symm)
      have HXb := hide ((unhide HXa).but (kset w8 n6 0 (.int .i64 er)) (unhide Hn5).2.2)
      have HBb := hide (show B2 (w8.setCell ⟨n6, 0, none⟩ (.int .i64 er)) n6 er 0 from ⟨by simpa using (unhide HBa).1.1, csame (unhide HBa).1.2.1, cset (unhide HBa).1.2.2 (by decide)⟩)
      have Hsb := hide (ps_but (unhide Hsa) (kset w8 n6 0 (.int .i64 er)) (fun h0 g o e h => absurd h (Nat.ne_of_lt (by have := unhide Hrow g o e h0; have := unhide Hn56; omega))))
      obtain ⟨⟨-, s0, s1⟩, fs⟩ := unhide HBa
      have fs0 := fs 0
      clear fs
      go_upto_region 7 with fail
      clear s0 s1 fs0
      generalize w8.setCell ⟨n6, 0, none⟩ (.int .i64 er) = w10 at *
      have HS := HSb
      have HB := HBb
      have Hsl2 := hide (fun U (k : Kept (fun i => i = n2 ∨ i = n3) w10 U) => show Sl U q ac from ps_but (unhide Hsb) k (fun _ g o e h => by
        have h1 := hnew g o e
        have h2 := unhide Hl3
        rcases h with h | h <;> omega))
      clear hnew
      by_cases he : er = 0
      · have HE0 := hide (show (rE s).1 = 0 by rw [unhide HE]; exact he)
        have z8 : (er != (0 : Int)) = false := by simpa using he
        obtain ⟨-, s0, s1⟩ := unhide HB
        obtain ⟨⟨-, e0, e1⟩, -⟩ := unhide HXb
        have HS8 := HS
        clear he
        go_upto_region 9 with fail
        clear s0 s1 z8
        obtain ⟨U, hU, r1, r2, u0, u1, u2, u3⟩ := (unhide HS8).fill (unhide Hb2) (unhide Hb3) (unhide Hnn) pv (.slice q n cap) 0 0
        obtain ⟨-, ⟨⟨-, x0, x1⟩, fx⟩, ⟨⟨-, y0, y1⟩, fy⟩⟩ := unhide HS8
        have fx0 := fx 0
        have fx1 := fx 1
        have fy0 := fy 0
        have fy1 := fy 1
        have R1 := hide r1
        have R2 := hide r2
        have nn1 := unhide Hnn
        have nn2 := nn1.symm
        clear r1 r2 fx fy
        go_wp2
        refine bodyPost_ret (v := .tuple #[sV pv q n cap, .agg #[.int .i64 0, .int .i64 0]]) (by simp [results, Tryd.results7, sV, go_sem, u0, u1, u2, u3]) rfl ?_
        exact by
            have h := unhide Hgood U q cap (unhide HE0) (unhide R1) (by rw [← unhide Hac]; exact unhide Hsl2 U (unhide R2))
            rw [← unhide Hac, ← unhide Hpv, ← unhide Hn] at h
            exact h

      · have He := hide he
        have z8 : (er != (0 : Int)) = true := by simpa using he
        obtain ⟨-, s0, s1⟩ := unhide HB
        clear he
        go_upto_region 8 with fail
        clear s0 s1
        refine wp_region_noPanic ?_
        have hS := (unhide HB).keep (bdrew w10)
        have HS8 := hide ((unhide HS).keep (bdrew w10))
        clear HS HB
        refine wp_region_held_drew (S := fun V => B2 V n6 (er) (0)) (by kernel_rfl) (hS) ?_
        intro _
        generalize w10.drew = w9 at *
        refine wpAnyH_take (i := 0) (oi := _) (v := .agg #[.bool false, .slice none 0 0]) g4_0 (by kernel_rfl) (by kernel_rfl) (by kernel_rfl) (fun _ _ _ h => h) (Or.inl ⟨by rfl, ?_⟩) (by assumption) ?_
        · intro V hSw
          try dsimp only at hSw
          go_simp
        simp only [Act.put, List.setIfInBounds_toArray, List.set_cons_zero, List.set_cons_succ]
        refine wpAnyH_take (i := 1) (oi := _) (v := .agg #[.int .i64 (er), .int .i64 (0)]) g4_1 (by kernel_rfl) (by kernel_rfl) (by kernel_rfl) (fun _ _ _ h => h) (Or.inl ⟨by rfl, ?_⟩) (by assumption) ?_
        · intro V hSw
          try dsimp only at hSw
          obtain ⟨-, s0, s1⟩ := hSw
          go_simp
        simp only [Act.put, List.setIfInBounds_toArray, List.set_cons_zero, List.set_cons_succ]
        obtain ⟨U, hU, r1, r2, u0, u1, u2, u3⟩ := (unhide HS8).fill (unhide Hb2) (unhide Hb3) (unhide Hnn) false (.slice none 0 0) (er) (0)
        obtain ⟨-, ⟨⟨-, x0, x1⟩, fx⟩, ⟨⟨-, y0, y1⟩, fy⟩⟩ := unhide HS8
        have fx0 := fx 0
        have fx1 := fx 1
        have fy0 := fy 0
        have fy1 := fy 1
        have R1 := hide r1
        have nn1 := unhide Hnn
        have nn2 := nn1.symm
        have hS2 : B2 ((w9.setCell ⟨n2, 0, none⟩ (.bool false)).setCell ⟨n2, 1, none⟩ (.slice none 0 0)) n6 (er) (0) := ⟨by simpa using hS.1, cnot (cnot hS.2.1 (unhide Hne).1) (unhide Hne).1, cnot (cnot hS.2.2 (unhide Hne).1) (unhide Hne).1⟩
        have hS3 : B2 U n6 (er) (0) := by
          rw [← hU]
          exact ⟨by simpa using hS2.1, cnot (cnot hS2.2.1 (unhide Hne).2) (unhide Hne).2, cnot (cnot hS2.2.2 (unhide Hne).2) (unhide Hne).2⟩
        clear r1 r2 fx fy
        refine wpAnyH_ready (rs := [2]) (by kernel_rfl) (by simp) ?_
        refine AllReadyH.cons (o := _) g4_2 (fun K hK => ?_) AllReadyH.nil
        go_simp
        refine hK.out _ _ (hS2) (fun _ => ?_)
        clear hK K
        refine wpAnyH_ready (rs := [3]) (by kernel_rfl) (by simp) ?_
        refine AllReadyH.cons (o := _) g4_3 (fun K hK => ?_) AllReadyH.nil
        go_simp
        refine hK.out _ _ (hS3) (fun _ => ?_)
        clear hK K
        refine wpAnyH_done (by kernel_rfl) ?_ _
        refine NoPanic.normal ?_
        go_wp2
        refine bodyPost_ret (v := .tuple #[sV false none 0 0, .agg #[.int .i64 (er), .int .i64 (0)]]) (by simp [results, Tryd.results7, sV, go_sem, u0, u1, u2, u3]) rfl ?_
        exact unhide Hbad _ er 0 (unhide HE) (unhide He) (unhide R1)

end Go.Proofs.YtbnjjkanokmakaaDoor
