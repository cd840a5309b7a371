/-
  The reference: what follows from colours that some threads have.
-/
import Derived.Test.YtbmgjoocpbikkaaLf
import Derived.Deep.LoopGhost
namespace Go.Proofs.Ytbmgjoocpbikkaa
open Go.RowKit

/-- what is known of a cell that was looked at -/
def OKc (w : Nat) (px G : Nat → Int) (j : Nat) : Prop := G (j % w) = px j ∨ G (w + j / w) = px j ∨ (G (j % w) = -1 ∧ G (w + j / w) = -1)
/-- while the picture is gone over: how far, and whether anything came of it -/
def Ps (P : Pic) (w : Nat) (px g : Nat → Int) (u0 k : Nat) (again : Bool) (G : Nat → Int) : Prop :=
  Ext P g G ∧ InR P G ∧ (∀ f, Tot P f → Good P f → Ext P g f → Ext P G f) ∧ (again = false → ∀ j, j < k → OKc w px G j) ∧ (again = true → un G P.n < u0) ∧ un G P.n ≤ u0
theorem Ps.skip {P : Pic} {w : Nat} {px g : Nat → Int} {u0 k : Nat} {again : Bool} {G : Nat → Int} (h : Ps P w px g u0 k again G) (hk : OKc w px G k) : Ps P w px g u0 (k + 1) again G :=
  ⟨h.1, h.2.1, h.2.2.1, fun e j hj => by
    by_cases q : j = k
    · rw [q]; exact hk
    · exact h.2.2.2.1 e j (by omega), h.2.2.2.2⟩
theorem Ps.set {P : Pic} {w : Nat} {px g : Nat → Int} {u0 k : Nat} {again : Bool} {G : Nat → Int} (ok : P.Ok) (h : Ps P w px g u0 k again G) {s t : Nat} (hx : P.X s t) (hs : G s ≠ -1) (ht : G t = -1) (hc : P.c s t ≠ G s) : Ps P w px g u0 (k + 1) true (put G t (P.c s t)) := by
  obtain ⟨a1, a2, a3, a4, a5, a6⟩ := h
  have c1 := ok.col s t hx
  have hlt := ok.lt t s (ok.sym s t hx)
  have he : Ext P G (put G t (P.c s t)) := Ext.put _ ht
  have hu := he.un_lt hlt ht (by rw [put_same]; omega)
  refine ⟨a1.trans he, a2.put t c1.1 c1.2, fun f hT hf hE => ?_, (fun e => by cases e), fun _ => by omega, by omega⟩
  have hG := a3 f hT hf hE
  refine ext_put hG ?_
  rcases hf s t hx with r | r
  · exact absurd (by rw [← r, hG s (ok.lt s t hx) hs]) hc
  · exact r
theorem Ps.fail {P : Pic} {w : Nat} {px g : Nat → Int} {u0 k : Nat} {again : Bool} {G : Nat → Int} (ok : P.Ok) (h : Ps P w px g u0 k again G) {s t : Nat} (hx : P.X s t) (hs : G s ≠ -1) (ht : G t ≠ -1) (hc : P.c s t ≠ G s) (hd : P.c s t ≠ G t) : Nf P g := by
  intro f hT hf hE
  have hG := h.2.2.1 f hT hf hE
  have e1 := hG s (ok.lt s t hx) hs
  have e2 := hG t (ok.lt t s (ok.sym s t hx)) ht
  rcases hf s t hx with r | r
  · exact hc (by rw [← r, e1])
  · exact hd (by rw [← r, e2])
/-- ends and picks in their rows -/
def FR (w0 V : World) (ba bb w h : Nat) (G : Nat → Int) : Prop := CR V ba w G ∧ CR V bb h (fun y => G (w + y)) ∧ Kept (fun i => i = ba ∨ i = bb) w0 V
theorem two_fresh {W0 w0 : World} {B v6b v4b : Nat} (hB : Below B W0 w0) (hs : B ≤ w0.heap.size) (h1 : B ≤ v4b) (h2 : B ≤ v6b) {V : World} (k : Kept (fun i => i = v4b ∨ i = v6b) w0 V) : Below B W0 V :=
  Kept.back hB k hs (fun q e => by rcases e with e | e <;> omega)
theorem FR.setE {w0 V : World} {ba bb w h : Nat} {G : Nat → Int} (k : FR w0 V ba bb w h G) (hne : ba ≠ bb) {x : Nat} (hx : x < w) (c : Int) : FR w0 (V.setCell ⟨ba, x, none⟩ (.int .i64 c)) ba bb w h (put G x c) :=
  ⟨k.1.set x c, (k.2.1.but (kset V ba x _) (Ne.symm hne)).congr (fun j _ => by rw [put_ne G c (by omega)]), k.2.2.set x _ (.inl (.inl rfl))⟩
theorem FR.setP {w0 V : World} {ba bb w h : Nat} {G : Nat → Int} (k : FR w0 V ba bb w h G) (hne : ba ≠ bb) {y : Nat} (c : Int) : FR w0 (V.setCell ⟨bb, y, none⟩ (.int .i64 c)) ba bb w h (put G (w + y) c) :=
  ⟨(k.1.but (kset V bb y _) hne).congr (fun j hj => by rw [put_ne G c (by omega)]), (k.2.1.set y c).congr (fun j _ => by
    by_cases e : j = y
    · subst e; rw [put_same, put_same]
    · rw [put_ne _ c e, put_ne G c (by omega)]), k.2.2.set y _ (.inl (.inr rfl))⟩
theorem okc_iff {w x y : Nat} {px G : Nat → Int} (hx : x < w) : OKc w px G (y * w + x) ↔ (G x = px (y * w + x) ∨ G (w + y) = px (y * w + x) ∨ (G x = -1 ∧ G (w + y) = -1)) := by
  unfold OKc
  rw [show (y * w + x) % w = x by rw [Nat.add_comm, Nat.add_mul_mod_self_right, Nat.mod_eq_of_lt hx], show (y * w + x) / w = y by rw [Nat.add_comm, Nat.add_mul_div_right _ _ (by omega), Nat.div_eq_of_lt hx, Nat.zero_add]]
theorem pic_at {w h x y : Nat} {px : Nat → Int} (hx : x < w) (hy : y < h) : (pic w h px).X x (w + y) ∧ (pic w h px).X (w + y) x ∧ (pic w h px).c x (w + y) = px (y * w + x) ∧ (pic w h px).c (w + y) x = px (y * w + x) := by
  refine ⟨.inl ⟨hx, by omega, by omega⟩, .inr ⟨hx, by omega, by omega⟩, ?_, ?_⟩
  · show px _ = px _
    rw [Nat.max_eq_right (by omega), Nat.min_eq_left (by omega), Nat.add_sub_cancel_left]
  · show px _ = px _
    rw [Nat.max_eq_left (by omega), Nat.min_eq_right (by omega), Nat.add_sub_cancel_left]
/-- nothing came of the whole picture -/
theorem closed {w h : Nat} {px G : Nat → Int} (hk : ∀ j, j < h * w → OKc w px G j) : Cl (pic w h px) G := by
  have key : ∀ x y, x < w → y < h → (G x = px (y * w + x) ∨ G (w + y) = px (y * w + x) ∨ (G x = -1 ∧ G (w + y) = -1)) := fun x y hx hy => by
    have l := place_lt hx hy
    exact (okc_iff hx).1 (hk _ (by rw [Nat.mul_comm h w]; exact l))
  intro s t hx hs hc
  rcases hx with ⟨a, b, d⟩ | ⟨a, b, d⟩
  · obtain ⟨y, rfl⟩ : ∃ y, t = w + y := ⟨t - w, by omega⟩
    obtain ⟨_, _, e1, _⟩ := pic_at (px := px) a (show y < h by omega)
    rw [e1] at hc ⊢
    rcases key s y a (by omega) with r | r | ⟨r, _⟩
    · exact absurd r.symm hc
    · exact r
    · exact absurd r hs
  · obtain ⟨y, rfl⟩ : ∃ y, s = w + y := ⟨s - w, by omega⟩
    obtain ⟨_, _, _, e2⟩ := pic_at (px := px) a (show y < h by omega)
    rw [e2] at hc ⊢
    rcases key t y a (by omega) with r | r | ⟨_, r⟩
    · exact r
    · exact absurd r.symm hc
    · exact absurd r hs

/-- what Follows answers -/
def FwP (P : Pic) (w h : Nat) (g : Nat → Int) (W : World) : Ending → World → Prop := fun e w' =>
  Below W.heap.size W w' ∧ ((∃ q1 c1 q2 c2 G, e = .returned (.tuple #[.slice q1 w c1, .slice q2 h c2, .bool true]) ∧ T.Is w' q1 w G ∧ T.Is w' q2 h (fun y => G (w + y)) ∧ Fw P g G ∧ (∀ a, q1 = some a → W.heap.size ≤ a.block) ∧ ∀ a, q2 = some a → W.heap.size ≤ a.block) ∨
    (e = .returned (.tuple #[.slice none 0 0, .slice none 0 0, .bool false]) ∧ Nf P g))

set_option maxRecDepth 100000 in
set_option maxHeartbeats 4000000 in
theorem follows_any {W : World} {w h : Nat} {p : Option Addr} {n cap : Nat} {px : Nat → Int} (hw : 1 ≤ w ∧ w ≤ 64) (hh : 1 ≤ h ∧ h ≤ 64) (hn : n = w * h) (hI : T.Is W p n px) (hpx : ∀ k, k < w * h → 0 ≤ px k ∧ px k ≤ 61)
    {q1 q2 : Option Addr} {c1 c2 : Nat} {g : Nat → Int} (h1 : T.Is W q1 w g) (h2 : T.Is W q2 h (fun y => g (w + y))) (hR : InR (pic w h px) g) :
    Calls Try.prog 27 #[Ch.ch 4 w h p n cap, .slice q1 w c1, .slice q2 h c2] W (FwP (pic w h px) w h g W) := by
  have B0 := bnew W (.cells #[.int .i64 4, .int .i64 w, .int .i64 h, .slice p n cap] 29)
  have O0 := OwnC.new W 4 w h p n cap 29
  have I1 := h1.keep B0
  have I2 := h2.keep B0
  have HI := hide hI
  have Hn := hide hn
  have Hpx := hide hpx
  have Hok := hide (show (pic w h px).Ok from pic_ok hpx)
  have HR := hide hR
  obtain ⟨w1, w2⟩ := hw
  obtain ⟨h1', h2'⟩ := hh
  obtain ⟨pk, hpk⟩ : ∃ pk : Nat → Int, pk = fun y => g (w + y) := ⟨_, rfl⟩
  rw [← hpk] at I2
  have Hpk := hide hpk
  clear hI hn hpx h1 h2 hR hpk
  go_enter Try.func27, Try.ntmps27
  go_upto_region 1 with fail
  generalize W.alloc (.cells #[.int .i64 4, .int .i64 w, .int .i64 h, .slice p n cap] 29) = w3 at *
  have hL1 := own_lit (B := w3.heap.size) (e := 3) (z := 1) (k := 0) w3 #[] (Nat.le_refl _) (by unfold maxLen; omega) rfl
  have I1' := I1.keep (bnew w3 (.cells #[] 3))
  go_wp2_with (at_builtin; refine wl_src rfl rfl Try.underlying22 info3 rfl (by decide) rfl rfl hL1 (is_src I1' w1 c1) (vals_one g w) (by unfold maxLen; omega) (by omega) (by simp) ?_)
  intro v4 w4 hown4 hgrow4 hat4
  have b4 : Below w3.heap.size w3 w4 := (bnew w3 (.cells #[] 3)).grown hgrow4 (by simp) (fun k hk => by have := (hL1.lt k hk).1; omega)
  have hA4 : IR w4 w3.heap.size v4 w g := hown4
  have I2' := (I2.keep b4).keep (bnew w4 (.cells #[] 3))
  have hL2 := own_lit (B := w3.heap.size) (e := 3) (z := 1) (k := 0) w4 #[] b4.size (by unfold maxLen; omega) rfl
  have hA5 := own_keep hA4 (bnew w4 (.cells #[] 3))
  clear hown4 hgrow4 hat4
  go_wp2_with (at_builtin; refine wl_src rfl rfl Try.underlying22 info3 rfl (by decide) rfl rfl hL2 (is_src I2' h1' c2) (vals_one pk h) (by unfold maxLen; omega) (by omega) (by have := b4.size; rw [World.size_alloc]; omega) ?_)
  intro v6 w6 hown6 hgrow6 hat6
  have hD : Df v4 (.slice (some ⟨w4.heap.size, 0, none⟩) 0 0) := Df.new hA4 0
  have hA6 : IR w6 w3.heap.size v4 w g := hD.symm.kept hA5 hgrow6
  have hD6 : Df v6 v4 := hD.symm.app hA5 (by rw [World.size_alloc]; exact hat6)
  have b6 : Below w3.heap.size w3 w6 := (b4.trans ((bnew w4 (.cells #[] 3)).mono b4.size)).grown hgrow6 (by have := b4.size; rw [World.size_alloc]; omega) (fun k hk => (hL2.lt k hk).1)
  have hB6 : IR w6 w3.heap.size v6 h pk := hown6
  obtain ⟨ba, ca, rfl, hra, hba⟩ := hA6.slice w1
  obtain ⟨bb, cb, rfl, hrb, hbb⟩ := hB6.slice h1'
  have hne : ba ≠ bb := fun e => hD6 bb rfl (by rw [e]; rfl)
  have HO := hide (O0.keep b6)
  have HB := hide (B0.trans (b6.mono B0.size))
  have HF0 := hide (show FR w6 w6 ba bb w h g from ⟨hra, hrb.congr (fun j _ => by rw [unhide Hpk]), Kept.refl _ _⟩)
  have Hob := hide (show W.heap.size ≠ ba ∧ W.heap.size ≠ bb ∧ W.heap.size ≤ ba ∧ W.heap.size ≤ bb by have := O0.1; omega)
  have Hne := hide hne
  clear hown6 hgrow6 hat6 hD hA6 hD6 hB6 hra hrb hba hbb hA4 hA5 hL1 hL2 I1 I2 I1' I2' b4 b6 B0 O0 hne Hpk
  have HBw := hide (fun (wr : World) (G : Nat → Int) (k : FR w6 wr ba bb w h G) => two_fresh (unhide HB) (unhide HB).size (unhide Hob).2.2.1 (unhide Hob).2.2.2 k.2.2)
  have HOw := hide (fun (wr : World) (G : Nat → Int) (k : FR w6 wr ba bb w h G) => (unhide HO).but k.2.2 (fun e => e.elim (unhide Hob).1 (unhide Hob).2.1))
  clear HO
  go_wp2
  go_loopg [9] (w + h + 1) (fun gg v9 wr => ∃ (again : Bool) (G : Nat → Int), v9 = .bool again ∧ FR w6 wr ba bb w h G ∧ Ext (pic w h px) g G ∧ InR (pic w h px) G ∧ (∀ f, Tot (pic w h px) f → Good (pic w h px) f → Ext (pic w h px) g f → Ext (pic w h px) G f) ∧ (again = true → un G (w + h) + 1 ≤ gg) ∧ (again = false → Cl (pic w h px) G))
  case atStart => exact ⟨true, g, rfl, unhide HF0, Ext.refl _ _, unhide HR, fun _ _ _ k => k, fun _ => by have := un_max g (w + h); omega, fun e => by cases e⟩
  case round =>
    clear HF0
    obtain ⟨again, G0, rfl, hf, hE, hRR, hall, hgg, hcl⟩ := hrel
    have HF := hide hf
    have HE := hide hE
    have HRR := hide hRR
    have Hall := hide hall
    clear hf hE hRR hall
    cases again
    · have HCl := hide (hcl rfl)
      clear hgg hcl
      go_wp2_with fail
      refine bodyPost_ret (v := .tuple #[.slice (some ⟨ba, 0, none⟩) w ca, .slice (some ⟨bb, 0, none⟩) h cb, .bool true]) (by simp [results, Try.results27, go_sem]) rfl ⟨unhide HBw _ _ (unhide HF), .inl ⟨_, _, _, _, G0, rfl, (unhide HF).1.is0, (unhide HF).2.1.is0, ⟨unhide HE, unhide HCl, unhide HRR, unhide Hall⟩, (fun a e => by cases e; exact (unhide Hob).2.2.1), fun a e => by cases e; exact (unhide Hob).2.2.2⟩⟩
    · have Hgg := hide (hgg rfl)
      clear hgg hcl
      have HP0 := hide (show Ps (pic w h px) w px g (un G0 (w + h)) (0 * w) false G0 from ⟨unhide HE, unhide HRR, unhide Hall, fun _ j hj => by rw [Nat.zero_mul] at hj; omega, (fun e => by cases e), Nat.le_refl _⟩)
      clear HE HRR Hall
      go_wp2
      go_loopw [9, 10] (fun v9 v10 wr => ∃ (y : Nat) (again : Bool) (G : Nat → Int), y ≤ h ∧ v9 = .bool again ∧ v10 = .int .i64 y ∧ FR w6 wr ba bb w h G ∧ Ps (pic w h px) w px g (un G0 (w + h)) (y * w) again G) (fun _ v10 _ => h - (intOf v10).toNat)
      case atStart => exact ⟨0, false, G0, by omega, rfl, rfl, unhide HF, unhide HP0⟩
      case round =>
        clear HF HP0
        obtain ⟨y, again, G, hy, rfl, rfl, hf, hps⟩ := hrel
        have HF := hide hf
        have HPs := hide hps
        clear hf hps
        obtain ⟨_, o0, o1, o2, o3⟩ := unhide HOw _ _ (unhide HF)
        by_cases hlt : y < h
        · have qy : (y : Int) < (h : Int) := by omega
          go_wp2
          clear o0 o1 o2 o3
          have HP1 := hide (show Ps (pic w h px) w px g (un G0 (w + h)) (y * w + 0) again G from unhide HPs)
          clear HPs
          go_loopw [9, 11] (fun v9 v11 wr => ∃ (x : Nat) (again : Bool) (G : Nat → Int), x ≤ w ∧ v9 = .bool again ∧ v11 = .int .i64 x ∧ FR w6 wr ba bb w h G ∧ Ps (pic w h px) w px g (un G0 (w + h)) (y * w + x) again G) (fun _ v11 _ => w - (intOf v11).toNat)
          case atStart => exact ⟨0, again, G, by omega, rfl, rfl, unhide HF, unhide HP1⟩
          case round =>
            clear HF HP1
            obtain ⟨x, again, G, hx, rfl, rfl, hf, hps⟩ := hrel
            have HFR := hide hf
            have HPs := hide hps
            obtain ⟨_, o0, o1, o2, o3⟩ := unhide HOw _ _ (unhide HFR)
            by_cases hlx : x < w
            · have qx : (x : Int) < (w : Int) := by omega
              have qy : (y : Int) < (h : Int) := by omega
              obtain ⟨yw, k, -, -, hk2, e3, e4, hk, hn4, hyw, -, -⟩ := place_nums w2 h2' (unhide Hn) hlx hlt
              obtain ⟨b3, i3, rfl, _, hcf⟩ := ((unhide HI).keep (unhide HBw _ _ (unhide HFR))).at hk
              have hce := (hf.1.2 x hlx).1
              have hcp := (hf.2.1.2 y hlt).1
              have hfe := (hf.1.2 x hlx).2
              have hfp := (hf.2.1.2 y hlt).2
              obtain ⟨p1, p2, p3, p4⟩ := pic_at (px := px) hlx hlt
              have HX1 := hide p1
              have HX2 := hide p2
              have HC1 := hide p3
              have HC2 := hide p4
              have HOK := hide (okc_iff (px := px) (G := G) (y := y) hlx)
              have HRe := hide (hps.2.1 x (show x < w + h by omega))
              have HRp := hide (hps.2.1 (w + y) (show w + y < w + h by omega))
              rw [← hk2] at HPs HC1 HC2 HOK
              have Hk := hide (show y * w + (x + 1) = k + 1 by omega)
              have qk : (k : Int) < (n : Int) := by omega
              have qk0 : (0 : Int) ≤ (k : Int) := by omega
              clear hf hps p1 p2 p3 p4 hk2 hk hn4
              obtain ⟨gx, hgx⟩ : ∃ z, z = G x := ⟨_, rfl⟩
              obtain ⟨gy, hgy⟩ : ∃ z, z = G (w + y) := ⟨_, rfl⟩
              obtain ⟨c, hc⟩ : ∃ z, z = px k := ⟨_, rfl⟩
              have Hgx := hide hgx
              have Hgy := hide hgy
              have Hc := hide hc
              rw [← hgx] at hce HRe HOK
              dsimp only at hcp
              rw [← hgy] at hcp HRp HOK
              rw [← hc] at hcf HC1 HC2 HOK
              clear hgx hgy hc
              by_cases t1 : gx = c
              · have e1 : (gx == c) = true := by simp [t1]
                have HN := hide (show Ps (pic w h px) w px g (un G0 (w + h)) (y * w + (x + 1)) again G by rw [unhide Hk]; exact (unhide HPs).skip ((unhide HOK).2 (.inl t1)))
                clear t1 HRe HRp
                go_wp2
                go_roundw
                case rel => exact ⟨x + 1, again, G, by omega, rfl, by go_num, unhide HFR, unhide HN⟩
                case measure => simp [intOf]; omega
              · have e1 : (gx == c) = false := by simp [t1]
                by_cases t2 : gy = c
                · have e2 : (gy == c) = true := by simp [t2]
                  have HN := hide (show Ps (pic w h px) w px g (un G0 (w + h)) (y * w + (x + 1)) again G by rw [unhide Hk]; exact (unhide HPs).skip ((unhide HOK).2 (.inr (.inl t2))))
                  clear t1 t2 HRe HRp
                  go_wp2
                  go_roundw
                  case rel => exact ⟨x + 1, again, G, by omega, rfl, by go_num, unhide HFR, unhide HN⟩
                  case measure => simp [intOf]; omega
                · have e2 : (gy == c) = false := by simp [t2]
                  by_cases t3 : gx = -1
                  · have l1 : ¬ (0 : Int) ≤ gx := by omega
                    by_cases t4 : gy = -1
                    · have l2 : ¬ (0 : Int) ≤ gy := by omega
                      have HN := hide (show Ps (pic w h px) w px g (un G0 (w + h)) (y * w + (x + 1)) again G by rw [unhide Hk]; exact (unhide HPs).skip ((unhide HOK).2 (.inr (.inr ⟨t3, t4⟩))))
                      clear t1 t2 t3 t4 HRe HRp
                      go_wp2
                      go_roundw
                      case rel => exact ⟨x + 1, again, G, by omega, rfl, by go_num, unhide HFR, unhide HN⟩
                      case measure => simp [intOf]; omega
                    · have l2 : (0 : Int) ≤ gy := by have := unhide HRp; omega
                      have HN := hide (show Ps (pic w h px) w px g (un G0 (w + h)) (y * w + (x + 1)) true (put G x c) by
                        rw [unhide Hk, ← unhide HC2]
                        exact (unhide HPs).set (unhide Hok) (unhide HX2) (by rw [← unhide Hgy]; exact t4) (by rw [← unhide Hgx]; exact t3) (by rw [unhide HC2, ← unhide Hgy]; exact fun e => t2 e.symm))
                      have HFN := hide ((unhide HFR).setE (unhide Hne) hlx c)
                      clear t1 t2 t3 t4 HRe HRp
                      go_wp2
                      go_roundw
                      case rel => exact ⟨x + 1, true, _, by omega, rfl, by go_num, unhide HFN, unhide HN⟩
                      case measure => simp [intOf]; omega
                  · have l1 : (0 : Int) ≤ gx := by have := unhide HRe; omega
                    by_cases t4 : gy = -1
                    · have l2 : ¬ (0 : Int) ≤ gy := by omega
                      have HN := hide (show Ps (pic w h px) w px g (un G0 (w + h)) (y * w + (x + 1)) true (put G (w + y) c) by
                        rw [unhide Hk, ← unhide HC1]
                        exact (unhide HPs).set (unhide Hok) (unhide HX1) (by rw [← unhide Hgx]; exact t3) (by rw [← unhide Hgy]; exact t4) (by rw [unhide HC1, ← unhide Hgx]; exact fun e => t1 e.symm))
                      have HFN := hide ((unhide HFR).setP (unhide Hne) (y := y) c)
                      clear t1 t2 t3 t4 HRe HRp
                      go_wp2
                      go_roundw
                      case rel => exact ⟨x + 1, true, _, by omega, rfl, by go_num, unhide HFN, unhide HN⟩
                      case measure => simp [intOf]; omega
                    · have l2 : (0 : Int) ≤ gy := by have := unhide HRp; omega
                      have HNf := hide (show Nf (pic w h px) g from (unhide HPs).fail (unhide Hok) (unhide HX1) (by rw [← unhide Hgx]; exact t3) (by rw [← unhide Hgy]; exact t4) (by rw [unhide HC1, ← unhide Hgx]; exact fun e => t1 e.symm) (by rw [unhide HC1, ← unhide Hgy]; exact fun e => t2 e.symm))
                      clear t1 t2 t3 t4 HRe HRp
                      go_wp2_with fail
                      exact bodyPost_ret (v := .tuple #[.slice none 0 0, .slice none 0 0, .bool false]) (by simp [results, Try.results27, go_sem]) rfl ⟨unhide HBw _ _ (unhide HFR), .inr ⟨rfl, unhide HNf⟩⟩
            · obtain rfl : x = w := by omega
              have cl : ¬ ((x : Int) < (x : Int)) := by omega
              have HN := hide (show Ps (pic x h px) x px g (un G0 (x + h)) ((y + 1) * x) again G by rw [← row_next]; exact unhide HPs)
              clear hf hps
              go_wp2
              go_roundw
              case rel => exact ⟨y + 1, again, G, by omega, rfl, by go_num, unhide HFR, unhide HN⟩
              case measure => simp [intOf]; omega
        · obtain rfl : y = h := by omega
          have cl : ¬ ((y : Int) < (y : Int)) := by omega
          go_wp2
          cases again
          · go_roundg 0
            case measure => have := unhide Hgg; omega
            case rel => exact ⟨false, G, rfl, unhide HF, (unhide HPs).1, (unhide HPs).2.1, (unhide HPs).2.2.1, (fun e => by cases e), fun _ => closed ((unhide HPs).2.2.2.1 rfl)⟩
          · go_roundg (un G (w + y) + 1)
            case measure => have := unhide Hgg; have : un G (w + y) < un G0 (w + y) := (unhide HPs).2.2.2.2.1 rfl; omega
            case rel => exact ⟨true, G, rfl, unhide HF, (unhide HPs).1, (unhide HPs).2.1, (unhide HPs).2.2.1, (fun _ => Nat.le_refl _), fun e => by cases e⟩
end Go.Proofs.Ytbmgjoocpbikkaa
