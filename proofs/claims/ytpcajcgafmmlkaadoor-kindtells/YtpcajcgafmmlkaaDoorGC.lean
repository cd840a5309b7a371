/-
  What Torus of package group answers.
-/
import Derived.Test.YtpcajcgafmmlkaaDoorGB
import Derived.OwnWalk
namespace Go.Proofs.YtpcajcgafmmlkaaDoor
open Go.RowKit

/-- what is wrong with a chart, or that its torus is too great -/
def toE (g w h : Int) (n : Nat) (px : Nat → Int) : Int := if Ch.wE g w h n px = 0 then (if lm w h ≤ 24 then 0 else 4) else Ch.wE g w h n px
def toN (g w h : Int) (n : Nat) (px : Nat → Int) : Int := if toE g w h n px = 0 then lm w h else 0
theorem toE_zero {g w h : Int} {n : Nat} {px : Nat → Int} (he : toE g w h n px = 0) : Ch.wE g w h n px = 0 ∧ lm w h ≤ 24 := by
  unfold toE at he
  split at he
  · rename_i h0
    split at he
    · rename_i h1; exact ⟨h0, h1⟩
    · omega
  · rename_i h0; exact absurd he h0
theorem toE_pos {g w h : Int} {n : Nat} {px : Nat → Int} (he : toE g w h n px ≠ 0) : 1 ≤ toE g w h n px := by
  unfold toE at *
  split
  · rename_i h0
    rw [if_pos h0] at he
    split
    · rename_i h1; rw [if_pos h1] at he; exact absurd rfl he
    · omega
  · rename_i h0; exact Ch.wE_pos _ _ _ _ _ h0
def TorusIs (F : Nat) (g w h : Int) (p : Option Addr) (n cap : Nat) (W : World) (v er : Int) : Prop := Calls Tryd.prog F #[Ch.ch g w h p n cap] W fun e w' => e = .returned (.tuple #[.int .i64 v, .int .i64 er]) ∧ Below W.heap.size W w'

set_option maxHeartbeats 1000000 in
theorem torus_wrong (g w h : Int) (p : Option Addr) (n cap : Nat) (px : Nat → Int) (W : World) (hc : Ch.Cells W p n px) (er : Int) (her : Ch.wE g w h n px = er) (hp : 1 ≤ er) : TorusIs 56 g w h p n cap W 0 er := by
  have HW := hide (fun W (hc : Ch.Cells W p n px) => Ch.wrong_any g w h p n cap px W hc)
  rw [her] at HW
  have Hc := hide (hc.keep (bal (o := .cells #[.int .i64 g, .int .i64 w, .int .i64 h, .slice p n cap] 24) (Below.refl _ _)))
  clear her hc
  unfold TorusIs
  go_enter Tryd.func56, Tryd.ntmps56
  go_wp2_with fail
  refine (unhide HW _ (unhide Hc)).mono ?_
  rintro e w1 ⟨rfl, hb⟩
  have S := btrans (bal (Below.refl _ _)) hb
  clear hb Hc
  go_wp2
  exact bodyPost_ret (v := .tuple #[.int .i64 0, .int .i64 er]) (by simp [results, Tryd.results56, go_sem]) rfl ⟨rfl, S⟩

set_option maxHeartbeats 1000000 in
theorem torus_right (g w h : Int) (p : Option Addr) (n cap : Nat) (px : Nat → Int) (W : World) (hc : Ch.Cells W p n px) (hw : 1 ≤ w ∧ w ≤ 64) (hh : 1 ≤ h ∧ h ≤ 64) (her : Ch.wE g w h n px = 0) (v er : Int) (hv : Hid (lm w h ≤ 24 ∧ v = lm w h ∧ er = 0 ∨ 24 < lm w h ∧ v = 0 ∧ er = 4)) : TorusIs 56 g w h p n cap W v er := by
  have HW := hide (fun W (hc : Ch.Cells W p n px) => Ch.wrong_any g w h p n cap px W hc)
  rw [her] at HW
  have Hc := hide (hc.keep (bal (o := .cells #[.int .i64 g, .int .i64 w, .int .i64 h, .slice p n cap] 24) (Below.refl _ _)))
  have HL := hide (fun W => least_any w h W hw hh)
  have C0 := Ch.OwnC.new W g w h p n cap 24
  generalize lm w h = l at *
  clear her hc
  unfold TorusIs
  go_enter Tryd.func56, Tryd.ntmps56
  go_wp2_with fail
  refine (unhide HW _ (unhide Hc)).mono ?_
  rintro e w1 ⟨rfl, hb⟩
  have S := btrans (bal (Below.refl _ _)) hb
  have q := (C0.keep hb).2
  clear hb Hc C0
  go_wp2_with fail
  refine (unhide HL _).mono ?_
  rintro e w2 ⟨rfl, rfl⟩
  rcases unhide hv with ⟨h1, rfl, rfl⟩ | ⟨h1, rfl, rfl⟩
  · go_wp2
    exact bodyPost_ret (v := .tuple #[.int .i64 v, .int .i64 0]) (by simp [results, Tryd.results56, go_sem]) rfl ⟨rfl, S⟩
  · go_wp2
    exact bodyPost_ret (v := .tuple #[.int .i64 0, .int .i64 4]) (by simp [results, Tryd.results56, go_sem]) rfl ⟨rfl, S⟩

theorem torus_any (g w h : Int) (p : Option Addr) (n cap : Nat) (px : Nat → Int) (W : World) (hc : Ch.Cells W p n px) : TorusIs 56 g w h p n cap W (toN g w h n px) (toE g w h n px) := by
  by_cases h0 : Ch.wE g w h n px = 0
  · obtain ⟨-, hw, hh, -⟩ := Ch.wE_zero g w h p n px W hc h0
    refine torus_right g w h p n cap px W hc hw hh h0 _ _ ?_
    unfold toN toE
    rw [if_pos h0]
    by_cases h1 : lm w h ≤ 24
    · simp only [if_pos h1, if_true]; exact Or.inl ⟨h1, by simp, by simp⟩
    · simp only [if_neg h1]; exact Or.inr ⟨by omega, by simp, by simp⟩
  · have e : toE g w h n px = Ch.wE g w h n px := by unfold toE; rw [if_neg h0]
    have e2 : toN g w h n px = 0 := by unfold toN; rw [e, if_neg h0]
    rw [e2]
    exact torus_wrong g w h p n cap px W hc _ e.symm (by rw [e]; exact Ch.wE_pos _ _ _ _ _ h0)
end Go.Proofs.YtpcajcgafmmlkaaDoor
