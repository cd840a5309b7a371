/-
  GroupMoved: it answers true, whatever the chart and the move.
-/
import Derived.Test.YtagiekbijmdmdaaMC
namespace Go.Proofs.Ytagiekbijmdmdaa
open Go.RowKit

theorem turned_of (w h N : Nat) (px : Nat → Int) (g : Int) (t : Nat) (f : Bool) (x y : Int) (m : Nat → Int) (hg : g = 4 ∨ g = 6) (ht : (t : Int) < g) (hN : 1 ≤ N ∧ N ≤ 24) (hM : Mov (pat w h N px) (pat N N N m) g t f x y) (U : Nat) (hU : bt g t f = U) (Rd : World → Nat → Prop)
    (hRd : ∀ V q, Rd V q → Right V g N N (some ⟨q, 0, none⟩) (N * N) m N N N q 0) :
    ∀ k ∈ movesL w h N px g, Turned g t f x y U (iP g t f x y).1 (iP g t f x y).2 (fun V T F u v => ∀ q, Rd V q → KeepsIs 20 g N N (some ⟨q, 0, none⟩) (N * N) (N * N) T F u v V true 0) k.1 k.2.1 k.2.2.1 k.2.2.2 := by
  rintro ⟨a, b, X, Y⟩ hk
  obtain ⟨ha, hX, hY, hKp⟩ := (mem_moves w h N px g a b X Y hN.1).1 hk
  have ht1 : (0 : Int) ≤ (t : Int) ∧ (t : Int) < g := by omega
  have ha1 : (0 : Int) ≤ (a : Int) ∧ (a : Int) < g := by omega
  dsimp only
  by_cases h1 : kE g t f x y a X Y = 0
  · obtain ⟨-, -, -, e1, e2, e3⟩ := kE_zero g t f x y a b X Y h1
    have hC := compose_any g t f x y a b X Y
    rw [h1, e1, e2, e3] at hC
    refine Or.inr ⟨_, _, _, _, hC, ?_⟩
    by_cases h2 : kE g (cT g t f a) (cF f b) (mv g (t : Int).toNat f x y X Y).1 (mv g (t : Int).toNat f x y X Y).2 (bt g t f) (iP g t f x y).1 (iP g t f x y).2 = 0
    · obtain ⟨-, -, hs, e4, e5, e6⟩ := kE_zero g _ _ _ _ _ f _ _ h2
      have hC2 := compose_any g (cT g t f a) (cF f b) (mv g (t : Int).toNat f x y X Y).1 (mv g (t : Int).toNat f x y X Y).2 (bt g t f) f (iP g t f x y).1 (iP g t f x y).2
      rw [h2, e4, e5, e6, hU] at hC2
      refine Or.inr ⟨_, _, _, _, hC2, fun V q hq => ?_⟩
      have hr := cT_range g (cT g t f a) (cF f b) (bt g t f) hg
      have hw := wE_of hg hr hs
      have hkp := hM.keeps (t := t) hg ht1 (t' := a) (f' := b) (u' := X) (v' := Y) ha1 (by rw [Int.toNat_natCast]; exact hKp)
      unfold cjT cjF cjP at hkp
      rw [hU] at hr hw hkp
      obtain ⟨T, hT⟩ := Int.eq_ofNat_of_zero_le hr.1
      rw [hT] at hw hkp ⊢
      rw [Int.toNat_natCast] at hkp
      have hkp2 := hkp.cong (pat_per N N N m) (mod_mod _ N).symm (mod_mod _ N).symm
      have hK := keeps_ok g N N (some ⟨q, 0, none⟩) (N * N) (N * N) m N N N q 0 T (cF (cF f b) f) _ _ V (hRd V q hq) hw
      rw [(kpV_iff N N N m g T _ _ _ hN.1).2 hkp2] at hK
      exact hK
    · have hC2 := compose_any g (cT g t f a) (cF f b) (mv g (t : Int).toNat f x y X Y).1 (mv g (t : Int).toNat f x y X Y).2 (bt g t f) f (iP g t f x y).1 (iP g t f x y).2
      rw [hU] at hC2 h2
      exact Or.inl ⟨_, _, _, _, _, h2, hC2⟩
  · exact Or.inl ⟨_, _, _, _, _, h1, compose_any g t f x y a b X Y⟩

theorem mvd_ok (g w h : Int) (p : Option Addr) (n cap : Nat) (px : Nat → Int) (w' h' N b o : Nat) (t : Nat) (f : Bool) (x y : Int) (W : World) (r : Right W g w h p n px w' h' N b o) (her : wE g t x y = 0) (hi : iE g t f x y = 0) : MvdIs g w h p n cap t f x y W := by
  have hN1 := r.hN1
  have hg := r.hg
  have ht := (wE_zero g t x y her).2.1
  have hM := mov_movP w' h' N px g t f x y hg ht.2 hN1.1
  have hb := bt_range g t f hg ht
  obtain ⟨U, hU⟩ := Int.eq_ofNat_of_zero_le hb.1
  have hI := inverse_any g t f x y
  rw [if_pos hi, if_pos hi, if_pos hi, if_pos hi, hi, hU] at hI
  have hs : sm2 (iP g t f x y).1 (iP g t f x y).2 = true := by
    unfold iE at hi
    rw [if_pos her] at hi
    split at hi
    · assumption
    · cases hi
  have hw2 : wE g U (iP g t f x y).1 (iP g t f x y).2 = 0 := wE_of hg (by omega) hs
  have hM2 := mov_movP N N N (movP w' h' N px g t f x y) g U f (iP g t f x y).1 (iP g t f x y).2 hg (by omega) hN1.1
  have hag : ∀ i j : Int, pat N N N (movP N N N (movP w' h' N px g t f x y) g U f (iP g t f x y).1 (iP g t f x y).2) i j = pat w' h' N px i j := by
    intro i j
    refine Mov.again hg ht.2 hM ?_ i j
    rw [hU, Int.toNat_natCast]
    exact hM2
  refine mvd_plain g w h p n cap t f x y N U (iP g t f x y).1 (iP g t f x y).2 (pat w' h' N px) (movesL w' h' N px g) (movesL N N N (movP w' h' N px g t f x y) g) W hN1
    (fun V => Right V g w h p n px w' h' N b o) (fun V q => Right V g N N (some ⟨q, 0, none⟩) (N * N) (movP w' h' N px g t f x y) N N N q 0) (fun V q => Right V g N N (some ⟨q, 0, none⟩) (N * N) (movP N N N (movP w' h' N px g t f x y) g U f (iP g t f x y).1 (iP g t f x y).2) N N N q 0)
    (fun V V' k hb => k.keep hb) (fun V V' q k hb => k.keep hb) (fun V V' q k hb => k.keep hb)
    (fun V k => ?_) hI (fun V q k => ?_) (fun V q i j k => ?_) (fun V i j k => k.at cap i j) (fun V k => ?_) (fun V q k => ?_)
    (moves_same w' h' N px N N _ g t f x y hg ht.2 hN1.1 hM) (moves_pos w' h' N px g hN1.1 hg) (moves_len w' h' N px g hN1.2 hg)
    (turned_of w' h' N px g t f x y _ hg ht.2 hN1 hM U hU _ (fun V q k => k)) r
  · refine (moved_ok g w h p n cap px w' h' N b o t f x y V k her).mono ?_
    rintro e V' ⟨q, rfl, hrow, hb⟩
    exact ⟨q, rfl, k.moved t f x y hrow, hb⟩
  · refine (moved_ok g N N (some ⟨q, 0, none⟩) (N * N) (N * N) _ N N N q 0 U f _ _ V k hw2).mono ?_
    rintro e V' ⟨q', rfl, hrow, hb⟩
    exact ⟨q', rfl, k.moved U f _ _ hrow, hb⟩
  · have := k.at (N * N) i j
    rw [hag] at this
    exact this
  · refine (moves_ok g w h p n cap px w' h' N b o V k).mono ?_
    rintro e V' ⟨q, cp, rfl, hm, hb⟩
    exact ⟨q, cp, rfl, hm.1, hb⟩
  · refine (moves_ok g N N (some ⟨q, 0, none⟩) (N * N) (N * N) _ N N N q 0 V k).mono ?_
    rintro e V' ⟨q, cp, rfl, hm, hb⟩
    exact ⟨q, cp, rfl, hb⟩

theorem mvd_walk (g w h : Int) (p : Option Addr) (n cap : Nat) (px : Nat → Int) (t : Int) (f : Bool) (x y : Int) (W : World) (hc : Ch.Cells W p n px) : MvdIs g w h p n cap t f x y W := by
  by_cases he : toE g w h n px = 0
  · obtain ⟨w', h', N, b, o, r⟩ := right_of hc he
    by_cases hm : wE g t x y = 0
    · obtain ⟨k, rfl⟩ := Int.eq_ofNat_of_zero_le (wE_zero g t x y hm).2.1.1
      by_cases hi : iE g k f x y = 0
      · exact mvd_ok g w h p n cap px w' h' N b o k f x y W r hm hi
      · exact mvd_far g w h p n cap px w' h' N b o k f x y W r hm hi
    · refine mvd_err g w h p n cap px t f x y W hc _ (wE_pos _ _ _ _ hm) (fun V hV => ?_)
      obtain ⟨w', h', N, b, o, r⟩ := right_of hV he
      exact moved_err2 g w h p n cap px w' h' N b o t f x y V r _ rfl (wE_pos _ _ _ _ hm)
  · exact mvd_err g w h p n cap px t f x y W hc _ (toE_pos he) (fun V hV => moved_err1 g w h p n cap px t f x y V hV _ rfl (toE_pos he))
end Go.Proofs.Ytagiekbijmdmdaa
