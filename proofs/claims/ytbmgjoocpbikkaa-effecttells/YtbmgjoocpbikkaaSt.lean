/-
  String: the threads of a picture that come first.
-/
import Derived.Test.YtbmgjoocpbikkaaSs
namespace Go.Proofs.Ytbmgjoocpbikkaa
open Go.RowKit

/-- what String tells of a chart -/
def StrR (g w h : Int) (n : Nat) (px : Nat → Int) (er : Int) (k1 k2 : Nat) (f : Nat → Int) : Prop :=
  (pE g w h n px ≠ 0 ∧ er = pE g w h n px ∧ k1 = 0 ∧ k2 = 0) ∨
  (pE g w h n px = 0 ∧ ((er = 0 ∧ w = (k1 : Int) ∧ h = (k2 : Int) ∧ First (pic k1 k2 px) f) ∨ (er = 6 ∧ k1 = 0 ∧ k2 = 0 ∧ ∀ a b : Nat, w = (a : Int) → h = (b : Int) → ∀ f, Tot (pic a b px) f → ¬ Good (pic a b px) f)))
theorem StrR.one {g w h : Int} {n : Nat} {px : Nat → Int} {er er' : Int} {k1 k2 l1 l2 : Nat} {f f' : Nat → Int} (a : StrR g w h n px er k1 k2 f) (b : StrR g w h n px er' l1 l2 f') :
    er = er' ∧ k1 = l1 ∧ k2 = l2 ∧ ∀ j, j < k1 + k2 → f j = f' j := by
  rcases a with ⟨a0, a1, a2, a3⟩ | ⟨a0, a⟩
  · rcases b with ⟨b0, b1, b2, b3⟩ | ⟨b0, _⟩
    · exact ⟨by rw [a1, b1], by omega, by omega, fun j hj => by omega⟩
    · exact absurd b0 a0
  · rcases b with ⟨b0, _⟩ | ⟨_, b⟩
    · exact absurd a0 b0
    · rcases a with ⟨a1, a2, a3, a4⟩ | ⟨a1, a2, a3, a4⟩
      · rcases b with ⟨b1, b2, b3, b4⟩ | ⟨b1, b2, b3, b4⟩
        · obtain rfl : k1 = l1 := by omega
          obtain rfl : k2 = l2 := by omega
          exact ⟨by omega, rfl, rfl, a4.one b4⟩
        · exact absurd a4.2.1 (b4 k1 k2 a2 a3 f a4.1)
      · rcases b with ⟨b1, b2, b3, b4⟩ | ⟨b1, b2, b3, b4⟩
        · exact absurd b4.2.1 (a4 l1 l2 b2 b3 f' b4.1)
        · exact ⟨by omega, by omega, by omega, fun j hj => by omega⟩
/-- what String answers -/
def StP (g w h : Int) (n : Nat) (px : Nat → Int) (W : World) : Ending → World → Prop := fun e w' =>
  ∃ er k1 k2 f q1 c1 q2 c2, e = .returned (.tuple #[sg q1 k1 c1 q2 k2 c2, .int .i64 er]) ∧ T.Is w' q1 k1 f ∧ T.Is w' q2 k2 (fun y => f (k1 + y)) ∧ Below W.heap.size W w' ∧ StrR g w h n px er k1 k2 f
theorem StP.err {g w h : Int} {n : Nat} {px : Nat → Int} {W w' : World} {er : Int} (hr : StrR g w h n px er 0 0 (fun _ => 0)) (hb : Below W.heap.size W w') : StP g w h n px W (.returned (.tuple #[sg none 0 0 none 0 0, .int .i64 er])) w' :=
  ⟨er, 0, 0, _, none, 0, none, 0, rfl, .inl rfl, .inl rfl, hb, hr⟩
/-- a right picture -/
theorem pE_zero {g w h : Int} {n : Nat} {px : Nat → Int} (he : pE g w h n px = 0) : g = 4 ∧ (1 ≤ w ∧ w ≤ 64) ∧ (1 ≤ h ∧ h ≤ 64) ∧ (n : Int) = w * h ∧ ∀ k, k < n → 0 ≤ px k ∧ px k ≤ 61 := by
  unfold pE at he
  split at he
  · rename_i e
    split at he
    · rename_i e2
      unfold Ch.wE at e
      split at e
      · split at e
        · rename_i s
          simp at s
          split at e
          · rename_i e3
            split at e
            · rename_i e4
              exact ⟨e2, (Ch.sw_iff w).1 s.1, (Ch.sw_iff h).1 s.2, e3, Ch.allin_get px n e4⟩
            · omega
          · omega
        · omega
      · omega
    · omega
  · rename_i e
    exact absurd he e

set_option maxRecDepth 100000 in
set_option maxHeartbeats 2000000 in
theorem string_any (g w h : Int) (p : Option Addr) (n cap : Nat) (px : Nat → Int) (W : World) (hI : T.Is W p n px) : Calls Try.prog 9 #[Ch.ch g w h p n cap] W (StP g w h n px W) := by
  have B0 := hide (bal (o := .cells #[.slice none 0 0, .slice none 0 0] 24) (bnew W (.cells #[.int .i64 g, .int .i64 w, .int .i64 h, .slice p n cap] 29)))
  have O0 := hide ((OwnC.new W g w h p n cap 29).keep (bnew _ (.cells #[.slice none 0 0, .slice none 0 0] 24)))
  have hZ := Bx.new (W.alloc (.cells #[.int .i64 g, .int .i64 w, .int .i64 h, .slice p n cap] 29)) #[.slice none 0 0, .slice none 0 0] 24
  rw [World.size_alloc] at hZ
  have Z0 := hide hZ
  have HP := hide (picture_any g w h p n cap px _ (hI.keep (unhide B0)))
  have HI := hide hI
  clear hI hZ
  by_cases he : pE g w h n px = 0
  · obtain ⟨rfl, hw, hh, hn, hpx⟩ := pE_zero he
    obtain ⟨a, rfl⟩ := Int.eq_ofNat_of_zero_le (show 0 ≤ w by omega)
    obtain ⟨b, rfl⟩ := Int.eq_ofNat_of_zero_le (show 0 ≤ h by omega)
    obtain ⟨K, hK⟩ : ∃ K, K = a + b := ⟨_, rfl⟩
    have HB := hide (fun V => blank_any V a b p n cap K hK (by omega) (by omega) (by omega))
    have HA := hide (fun (V : World) (cb : Nat) (hs : Sq V a b p n cb px) (hc : CR V cb K (fun _ => -1)) => all_any (cap := cap) hK hs hc (fun _ _ => rfl))
    have HS := hide (fun (V : World) (cb : Nat) => strung_any V a b p n cap cb K hK (by omega))
    have HK := hide hK
    have Hpx := hide hpx
    have He := hide he
    have hnn : n = a * b := by rw [← Int.natCast_mul] at hn; exact Int.ofNat.inj hn
    have Hn := hide hnn
    have Hw := hide hw
    have Hh := hide hh
    clear hnn
    rw [he] at HP
    clear hK hpx he hn hw hh
    go_enter Try.func9, Try.ntmps9
    go_upto_region 5 with (first | (go_at_call 22; refine (unhide HP).mono ?_; rintro e w1 ⟨rfl, hb1⟩; obtain ⟨_, o0, o1, o2, o3⟩ := (unhide O0).keep hb1) | (go_at_call 23; refine (unhide HB _).mono ?_; rintro e w2 ⟨q, rfl, hq, hcr, hb2⟩))
    clear o0 o1 o2 o3
    have hp2 : W.heap.size < w2.heap.size := by have := (unhide B0).size; have := hb1.size; have := hb2.size; have := (unhide Z0).1; omega
    have hb3 := btrans (btrans (unhide B0) hb1) hb2
    have hq1 : W.heap.size + 1 < q := by have := (unhide Z0).1; have := hb1.size; omega
    have hq2 : q < w2.heap.size := hcr.1
    have hz2 := ((unhide Z0).keep hb1).keep hb2
    have hc5 := hcr.keep (bnew w2 (.cells (pcC a b p n cap q K) 49))
    have hz5 := hz2.keep (bnew w2 (.cells (pcC a b p n cap q K) 49))
    have ho5 := OwnP.new w2 a b p n cap q K 49
    have hb5 := bal (o := .cells (pcC a b p n cap q K) 49) hb3
    have hs5 : Sq (w2.alloc (.cells (pcC a b p n cap q K) 49)) a b p n q px := by
      refine ⟨by have := unhide Hw; omega, by have := unhide Hh; omega, unhide Hn, (unhide HI).keep hb5, ?_, unhide Hpx⟩
      intro x hx e
      rcases unhide HI with h0 | ⟨b', o', e', hl, _⟩
      · have := unhide Hn; have h1 : 1 * 1 ≤ a * b := Nat.mul_le_mul (by have := unhide Hw; omega) (by have := unhide Hh; omega)
        omega
      · rw [e'] at hx; cases hx; dsimp only at e; omega
    have HC5 := hide hc5
    have HZ5 := hide hz5
    have HO5 := hide ho5
    have HB5 := hide hb5
    have HS5 := hide hs5
    have Hq := hide (show w2.heap.size ≠ q by omega)
    have Hq1 := hide (show W.heap.size + 1 ≠ q by omega)
    have Hge := hide (show W.heap.size ≤ q by omega)
    clear hb1 hb2 hb3 hq hcr hz2 hc5 hz5 ho5 hb5 hs5 hq1 hq2 hp2
    obtain ⟨_, o0, o1, o2, o3, o4⟩ := unhide HO5
    generalize w2.alloc (.cells (pcC a b p n cap q K) 49) = w5 at *
    generalize w2.heap.size = b5 at *
    go_wp2_with (first
      | (go_at_call 24; refine (unhide HA _ q (unhide HS5) (unhide HC5)).mono ?_; rintro e w6 ⟨r, f, rfl, hc6, hk6, hyes, hno⟩; clear o0 o1 o2 o3 o4; obtain ⟨_, o0, o1, o2, o3, o4⟩ := (unhide HO5).but hk6 (unhide Hq); have hz6 := (unhide HZ5).but hk6 (unhide Hq1); have hb6 : Below W.heap.size W w6 := Kept.back (unhide HB5) hk6 (unhide HB5).size (fun x e => by rw [e]; exact unhide Hge); obtain ⟨x0, y0⟩ := hz6.2 0 _ rfl; obtain ⟨x1, y1⟩ := hz6.2 1 _ rfl; obtain ⟨w12, hw12, hb12, hk12, hx12⟩ := put24 hb6 (show W.heap.size ≤ W.heap.size + 1 by omega) hz6 rfl (.slice none 0 0) (.slice none 0 0); have HX := hide hx12; have HB12 := hide hb12; have HC6 := hide hc6; have HZ6 := hide hz6; have HB6 := hide hb6; clear hx12 hb12 hk12 hc6 hz6 hb6; cases r)
      | (go_at_call 25; refine (unhide HS _ q).mono ?_; rintro e w7 ⟨rfl, hb7⟩; clear x0 y0 x1 y1 hw12 HX HB12; have hz7 := (unhide HZ6).keep hb7; obtain ⟨x0, y0⟩ := hz7.2 0 _ rfl; obtain ⟨x1, y1⟩ := hz7.2 1 _ rfl; obtain ⟨w13, hw13, hb13, hk13, hx13⟩ := put24 (btrans (unhide HB6) hb7) (show W.heap.size ≤ W.heap.size + 1 by omega) hz7 rfl (.slice (some ⟨q, 0, none⟩) a a) (.slice (some ⟨q, a, none⟩) b b); have HX := hide hx13; have HB13 := hide hb13; have HC13 := hide (((unhide HC6).keep hb7).but hk13 (Ne.symm (unhide Hq1))); clear hx13 hb13 hk13 hz7))
    · have Hno := hide (hno trivial)
      have u0 := ((unhide HX).2 0 _ rfl).1
      have u1 := ((unhide HX).2 1 _ rfl).1
      refine bodyPost_ret (v := .tuple #[sg none 0 0 none 0 0, .int .i64 6]) (by simp [results, Try.results9, go_sem, u0, u1]) rfl (StP.err ?_ (unhide HB12))
      refine .inr ⟨unhide He, .inr ⟨rfl, rfl, rfl, fun x y ex ey => ?_⟩⟩
      obtain rfl : x = a := by omega
      obtain rfl : y = b := by omega
      exact unhide Hno
    · have Hyes := hide (hyes trivial)
      have u0 := ((unhide HX).2 0 _ rfl).1
      have u1 := ((unhide HX).2 1 _ rfl).1
      refine bodyPost_ret (v := .tuple #[sg (some ⟨q, 0, none⟩) a a (some ⟨q, a, none⟩) b b, .int .i64 0]) (by simp [results, Try.results9, go_sem, u0, u1]) rfl ?_
      refine ⟨0, a, b, f, _, a, _, b, rfl, ?_, (unhide HC13).is (by have := unhide HK; omega), unhide HB13, .inr ⟨unhide He, .inl ⟨rfl, rfl, rfl, unhide Hyes⟩⟩⟩
      have := (unhide HC13).is (o := 0) (n := a) (by have := unhide HK; omega)
      simpa using this
  · have hne : (pE g w h n px != 0) = true := by simp [he]
    have HR := hide (show StrR g w h n px (pE g w h n px) 0 0 (fun _ => 0) from .inl ⟨he, rfl, rfl, rfl⟩)
    generalize pE g w h n px = er at *
    go_enter Try.func9, Try.ntmps9
    go_upto_region 3 with (go_at_call 22; refine (unhide HP).mono ?_; rintro e w1 ⟨rfl, hb1⟩)
    have hz := (unhide Z0).keep hb1
    obtain ⟨x0, y0⟩ := hz.2 0 _ rfl
    obtain ⟨x1, y1⟩ := hz.2 1 _ rfl
    obtain ⟨w12, hw12, hb12, hk12, hx12⟩ := put24 (btrans (unhide B0) hb1) (show W.heap.size ≤ W.heap.size + 1 by omega) hz rfl (.slice none 0 0) (.slice none 0 0)
    have HX := hide hx12
    have HB := hide hb12
    clear hx12 hb12 hk12
    go_wp2_with fail
    have u0 := ((unhide HX).2 0 _ rfl).1
    have u1 := ((unhide HX).2 1 _ rfl).1
    exact bodyPost_ret (v := .tuple #[sg none 0 0 none 0 0, .int .i64 er]) (by simp [results, Try.results9, go_sem, u0, u1]) rfl (StP.err (unhide HR) (unhide HB))
end Go.Proofs.Ytbmgjoocpbikkaa
