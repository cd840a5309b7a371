/-
  Turned of package truth: of right truths.
-/
import Derived.Test.YtpefcpbkdofblaaTurn
namespace Go.Proofs.Ytpefcpbkdofblaa
open Go.RowKit Go.Shelf

attribute [local go_sem] Oper.semAt_some

set_option maxRecDepth 100000 in
set_option maxHeartbeats 600000 in
theorem turned_in (w h : Nat) (p : Option Addr) (n cap : Nat) (f : Nat → Bool) (W : World) (hw : w ≤ 64) (hh : h ≤ 64) (hn : n = w * h) (hf : Bs W p n cap f) :
    CallsIn Fence.wide 9 Try.prog 30 #[tr w h p n cap] W fun e w' => ∃ q, e = .returned (.tuple #[tr h w (some ⟨q, 0, none⟩) n n, .int .i64 0]) ∧ W.heap.size ≤ q ∧ BRow w' q n (tuF f w h) ∧ Below W.heap.size W w' := by
  have hE : wE w h n = 0 := by
    have h1 : sd w = true := (sd_iff _).2 (by omega)
    have h2 : sd h = true := (sd_iff _).2 (by omega)
    simp [wE, h1, h2, hn]
  have HW := hide (fun W => wrong_any w h p n cap W)
  rw [hE] at HW
  have hn4 : n ≤ 4096 := by rw [hn]; exact Nat.mul_le_mul hw hh
  have HBl := hide (fun W => blank_any h w n W (by rw [hn, Nat.mul_comm]) hn4)
  have B0 := bal (o := .cells #[.int .i64 0, .int .i64 0, .slice none 0 0] 25) (bal (o := .cells #[.int .i64 w, .int .i64 h, .slice p n cap] 25) (Below.refl W.heap.size W))
  have M := (OwnM.new W w h p n cap 25).alloc (.cells #[.int .i64 0, .int .i64 0, .slice none 0 0] 25)
  have U := OwnM.new (W.alloc (.cells #[.int .i64 w, .int .i64 h, .slice p n cap] 25)) 0 0 none 0 0 25
  rw [World.size_alloc] at U
  have Hn := hide hn
  have Hf := hide hf
  clear hE hn hf
  refine callsIn_of_wp_marks Try.func30 rfl trivial ?_ rfl
  simp only [Try.ntmps30, List.size_toArray, List.length_cons, List.length_nil, Nat.reduceAdd, Nat.reduceSub, Array.replicate_succ, Array.replicate_zero, List.push_toArray, List.append_toArray, List.nil_append, List.cons_append]
  gi_wp2_with fail
  refine ⟨trivial, (callsIn_wide.2 (unhide HW _)).mono ?_⟩
  rintro e w1 ⟨rfl, hb⟩
  have S1 := btrans B0 hb
  have U1 := U.keep hb
  have M1 := M.keep hb
  have f0 := keepF (o := 0) hb U.1 (by simp [go_sem])
  have f1 := keepF (o := 1) hb U.1 (by simp [go_sem])
  have f2 := keepF (o := 2) hb U.1 (by simp [go_sem])
  clear B0 M U hb
  have m1 := M1.2
  gi_wp2_with fail
  refine ⟨trivial, (callsIn_wide.2 (unhide HBl _)).mono ?_⟩
  rintro e w2 ⟨q, rfl, hq, hbr, hb⟩
  have S2 := btrans S1 hb
  have U2 := (U1.keep hb).alloc (.cells #[.int .i64 h, .int .i64 w, .slice (some ⟨q, 0, none⟩) n n] 25)
  have M2 := (M1.keep hb).alloc (.cells #[.int .i64 h, .int .i64 w, .slice (some ⟨q, 0, none⟩) n n] 25)
  have O2 := OwnM.new w2 h w (some ⟨q, 0, none⟩) n n 25
  have R2 := hbr.keep (bal (o := .cells #[.int .i64 h, .int .i64 w, .slice (some ⟨q, 0, none⟩) n n] 25) (Below.refl _ _))
  have hqz : q < w2.heap.size := hbr.1
  have g0 := hide (keepF (bal (o := .cells #[.int .i64 h, .int .i64 w, .slice (some ⟨q, 0, none⟩) n n] 25) (Below.refl w2.heap.size w2)) (U1.keep hb).1 (keepF hb U1.1 f0))
  have g1 := hide (keepF (bal (o := .cells #[.int .i64 h, .int .i64 w, .slice (some ⟨q, 0, none⟩) n n] 25) (Below.refl w2.heap.size w2)) (U1.keep hb).1 (keepF hb U1.1 f1))
  have g2 := hide (keepF (bal (o := .cells #[.int .i64 h, .int .i64 w, .slice (some ⟨q, 0, none⟩) n n] 25) (Below.refl w2.heap.size w2)) (U1.keep hb).1 (keepF hb U1.1 f2))
  have hzu : W.heap.size + 1 < w1.heap.size := U1.1
  have hqq : W.heap.size + 1 < q := by omega
  have S3 := hide (bal (o := .cells #[.int .i64 h, .int .i64 w, .slice (some ⟨q, 0, none⟩) n n] 25) S2)
  have HU := hide U2
  have HO := hide O2
  have HR := hide R2
  have m2 := M2.2
  have HM := hide M2
  clear m1 f0 f1 f2 U1 M1 S1 hb hbr U2 O2 R2 S2 M2
  gi_wp2_with fail
  refine ⟨trivial, (callsIn_wide.2 (rows_any w h p n cap _)).mono ?_⟩
  rintro e w3 ⟨rfl, rfl⟩
  clear m2
  gi_wp2_with fail
  have U3 := hide ((unhide HU).alloc (.cells #[.int .i64 w, .int .i64 h, .slice p n cap] 25))
  have O3 := hide ((unhide HO).alloc (.cells #[.int .i64 w, .int .i64 h, .slice p n cap] 25))
  have B3 := bal (o := .cells #[.int .i64 w, .int .i64 h, .slice p n cap] 25) (Below.refl (w2.alloc (.cells #[.int .i64 h, .int .i64 w, .slice (some ⟨q, 0, none⟩) n n] 25)).heap.size (w2.alloc (.cells #[.int .i64 h, .int .i64 w, .slice (some ⟨q, 0, none⟩) n n] 25)))
  have R3 := hide ((unhide HR).keep B3)
  have k0 := hide (keepF B3 (unhide HU).1 (unhide g0))
  have k1 := hide (keepF B3 (unhide HU).1 (unhide g1))
  have k2 := hide (keepF B3 (unhide HU).1 (unhide g2))
  have S4 := hide (btrans (unhide S3) B3)
  have N3 := OwnM.new (w2.alloc (.cells #[.int .i64 h, .int .i64 w, .slice (some ⟨q, 0, none⟩) n n] 25)) w h p n cap 25
  rw [World.size_alloc] at N3
  have HN := hide N3
  have hsz : w2.heap.size + 1 < ((w2.alloc (.cells #[.int .i64 h, .int .i64 w, .slice (some ⟨q, 0, none⟩) n n] 25)).alloc (.cells #[.int .i64 w, .int .i64 h, .slice p n cap] 25)).heap.size := by simp
  clear HU HO HR g0 g1 g2 S3 N3 HM HW HBl B3
  generalize (w2.alloc (.cells #[.int .i64 h, .int .i64 w, .slice (some ⟨q, 0, none⟩) n n] 25)).alloc (.cells #[.int .i64 w, .int .i64 h, .slice p n cap] 25) = w0 at *
  generalize hbx : w2.heap.size = bx at *
  have hqs : q < w0.heap.size := by omega
  have hne : some (bx + 1) ≠ some q := fun e => by have := Option.some.inj e; omega
  have hcp : h * w ≤ cap := by rw [Nat.mul_comm, ← unhide Hn]; exact (unhide Hf).1
  clear hbx
  refine wpIn_rangeFunc_ownG rfl (by omega) (gf := 39) (lb := #[.pointer (some ⟨bx + 1, 0, none⟩)]) rfl trivial (enters_of Try.func39 (by kernel_rfl) rfl)
    (rows_stops _ (bx + 1) w h n p cap hw hh hcp w0 (unhide HN)) kpB_t (kpB_b hsz) (Below.refl _ _) (fun _ => rfl)
    (Made w0 q n (tuG f w h)) (fun _ _ _ => False) (made_own _ hqs) (fun _ _ _ _ _ hs _ _ => hs)
    ⟨(unhide R3).congr (by intro j hj; simp [tuG]), World.grownBy.refl _ _⟩ ?a1 ?assign ?body ?done ?stop
  case assign =>
    intro l x V K hK
    gi_wp2
    exact hK
  case stop =>
    rintro D c pre V _ _ h _
    exact h.elim
  case body =>
    rintro l pre ⟨y, hy⟩ V hI _
    have hbs := ((unhide Hf).keep (unhide S4)).grown hI.2 ((unhide Hf).off (by omega))
    rw [unhide Hn] at hbs
    have Hbr := hide (hbs.row hy)
    have Hof := hide (Off.row (cap := cap) (show Off p (w * h) q by rw [← unhide Hn]; exact (unhide Hf).off (by omega)) hy)
    have Hrow := hide (show ∀ x, x < w → ∀ V, Calls Try.prog 37 #[tr h w (some ⟨q, 0, none⟩) n n, .int .i64 x] V fun e w' => e = .returned (.slice (some ⟨q, x * h, none⟩) h (n - x * h)) ∧ Below V.heap.size V w' from fun x hx V => by
      have := row_any h w x (some ⟨q, 0, none⟩) n n V hh hx hw (by rw [unhide Hn]; exact Nat.le_refl _)
      have hlt := Nat.mul_lt_mul_of_pos_right hx (show 0 < h by omega)
      rw [← unhide Hn] at hlt
      rw [rowV, rp_some _ _ _ _ (by omega), Nat.zero_add] at this
      exact this)
    have O4 := hide ((unhide O3).grown hI.2 (fun e => by have := Option.some.inj e; omega))
    have HI := hide hI
    have hVz : w0.heap.size ≤ V.heap.size := hI.2.size
    clear hI hbs
    dsimp only [rowV]
    generalize rp p cap (y * w) = r at *
    generalize cap - y * w = cp at *
    gi_wp2_with fail
    gi_loopw [27] (fun i wr => ∃ x : Nat, x ≤ w ∧ i = .int .i64 x ∧ BRow wr q n (tuH f w h pre y x) ∧ V.grownBy wr (some q)) (fun i _ => w - (intOf i).toNat)
    case atStart => exact ⟨0, Nat.zero_le _, rfl, by rw [tuH_zero]; exact (unhide HI).1, World.grownBy.refl _ _⟩
    case round =>
      obtain ⟨x, hx, rfl, hR, hg⟩ := hrel
      by_cases hlt : x < w
      · have hb1 := (unhide Hbr).grown hg (unhide Hof)
        obtain ⟨b, o, rfl, hbl, hc⟩ : ∃ b o, r = some ⟨b, o, none⟩ ∧ b < wr.heap.size ∧ ∀ k, k < w → wr.cell? ⟨b, o + k, none⟩ = some (.bool (f (y * w + k))) := by
          rcases hb1.2 with h0 | h1
          · omega
          · exact h1
        have c1 := hc x hlt
        have o1 := ((unhide O4).grown hg (fun e => by have := Option.some.inj e; omega)).2
        have hxh : x * h + y < n := by
          have := Nat.mul_le_mul_right h (show x + 1 ≤ w by omega)
          rw [mul_step, ← unhide Hn] at this
          omega
        have Hs := hide (tuH_succ f w h pre y x hy)
        have Hr1 := hide (unhide Hrow x hlt)
        generalize f (y * w + x) = v at *
        generalize x * h = xh at *
        have HR := hide hR
        have HG := hide hg
        have q1 : (x : Int) < (w : Int) := by omega
        have q2 : (0 : Int) ≤ (x : Int) := by omega
        have q3 : (y : Int) < (h : Int) := by omega
        have q4 : (0 : Int) ≤ (y : Int) := by omega
        clear hR hg hc hb1
        gi_wp2_with fail
        refine ⟨trivial, (CallsIn.inRound l (callsIn_wide.2 (unhide Hr1 _))).mono ?_⟩
        rintro e w5 ⟨rfl, hb⟩
        have R5 := (unhide HR).keep hb
        have d1 := (R5.2 _ hxh).1
        have d2 := (R5.2 _ hxh).2
        have HR5 := hide (show BRow (w5.setCell ⟨q, xh + y, none⟩ (.bool v)) q n (tuH f w h pre y (x + 1)) by rw [← unhide Hs]; exact R5.set _ v)
        have HG5 := hide (gset (gtrans (unhide HG) (gbelow (some q) hb)) (xh + y) (.bool v))
        clear hb R5 c1 o1 HR HG
        gi_wp2
        go_roundw
        case rel => exact ⟨x + 1, by omega, by go_num, unhide HR5, unhide HG5⟩
        case measure => simp [intOf]; omega
      · obtain rfl : x = w := by omega
        have cl : ¬ ((x : Int) < (x : Int)) := by omega
        have HR := hide (hR.congr (fun j hj => tuH_full f x h pre ⟨y, hy⟩ j (by rw [← unhide Hn]; exact hj)))
        have HG := hide hg
        clear hR hg
        gi_wp2
        exact ⟨KeepsFrom.of_grownBy (unhide HG) (fun j e => by cases e; omega), KpB.of_grown (unhide HG) (by omega) hne, unhide HR, gtrans (unhide HI).2 (unhide HG)⟩
  case done =>
    rintro D ys V hD hys hI hK
    have hU := ((unhide U3).grown hI.2 (fun e => by have := Option.some.inj e; omega))
    have hO := ((unhide O3).grown hI.2 (fun e => by have := Option.some.inj e; omega))
    have n1 : some (W.heap.size + 1) ≠ some q := fun e => by have := Option.some.inj e; omega
    have f0 := gfroz (p := ⟨W.heap.size + 1, 0, none⟩) hI.2 (unhide U3).1 n1 (unhide k0)
    have f1 := gfroz (p := ⟨W.heap.size + 1, 1, none⟩) hI.2 (unhide U3).1 n1 (unhide k1)
    have f2 := gfroz (p := ⟨W.heap.size + 1, 2, none⟩) hI.2 (unhide U3).1 n1 (unhide k2)
    have S5 := hide ((unhide S4).grown hI.2 (by have := (unhide S4).size; omega) (fun j e => by cases e; omega))
    have R5 := hide (show BRow V q n (tuF f w h) from hI.1.congr (fun j hj => by
      have hh0 : 0 < h := by
        rcases Nat.eq_zero_or_pos h with e | e
        · rw [unhide Hn, e] at hj; simp at hj
        · exact e
      have := Nat.mod_lt j hh0
      simp [tuG, hys, this]))
    obtain ⟨-, u0, u1, u2⟩ := hU
    obtain ⟨-, o0, o1, o2⟩ := hO
    have HD := hide hD
    clear hI hD hys
    gi_wp2
    obtain ⟨K3, Y0, Y1, Y2⟩ := put3_end (B := W.heap.size + 1) (.int .i64 h) (.int .i64 w) (.slice (some ⟨q, 0, none⟩) n n) u0 u1 u2 hK
    have hD' := unhide HD
    have hs4 := (unhide S4).size
    refine ⟨by simp, .inl ⟨_, _, rfl, run_takeDeferred K3, .tuple #[tr h w (some ⟨q, 0, none⟩) n n, .int .i64 0], ?_, q, rfl, by omega, (unhide R5).put3 _ _ _ _ (by omega) (by omega), put3_below _ _ _ _ (unhide S5) (by omega) (by omega)⟩⟩
    simp [results, Try.f30, go_sem, Y0, Y1, Y2]
end Go.Proofs.Ytpefcpbkdofblaa
