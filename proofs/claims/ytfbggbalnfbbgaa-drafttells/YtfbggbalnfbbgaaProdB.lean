/-
  Product of package truth: what is wrong.
-/
import Derived.Test.YtfbggbalnfbbgaaProd
namespace Go.Proofs.Ytfbggbalnfbbgaa
open Go.RowKit Go.Shelf

def ProdErr (F : Nat) (w h : Int) (p : Option Addr) (n cap : Nat) (w2 h2 : Int) (p2 : Option Addr) (n2 cap2 : Nat) (W : World) (er : Int) : Prop := Calls Try.prog F #[tr w h p n cap, tr w2 h2 p2 n2 cap2] W fun e w' => e = .returned (.tuple #[tr 0 0 none 0 0, .int .i64 er]) ∧ Below W.heap.size W w'
/-- what is wrong with a product -/
def pE (w h : Int) (n : Nat) (w2 h2 : Int) (n2 : Nat) : Int := if wE w h n = 0 then (if wE w2 h2 n2 = 0 then (if w = h2 then 0 else 8) else wE w2 h2 n2) else wE w h n
theorem wE_pos (w h : Int) (n : Nat) (he : wE w h n ≠ 0) : 1 ≤ wE w h n := by
  unfold wE at *
  repeat' split
  all_goals simp_all

/-- an empty box of an answer -/
def OwnZ (W : World) (b : Nat) : Prop := OwnM W b 0 0 none 0 0 ∧ W.frozen? ⟨b, 0, none⟩ = false ∧ W.frozen? ⟨b, 1, none⟩ = false ∧ W.frozen? ⟨b, 2, none⟩ = false
theorem OwnZ.new (W : World) : OwnZ (W.alloc (.cells #[.int .i64 0, .int .i64 0, .slice none 0 0] 25)) W.heap.size := ⟨OwnM.new W 0 0 none 0 0 25, by simp [go_sem], by simp [go_sem], by simp [go_sem]⟩
theorem OwnZ.keep {W w1 : World} {b : Nat} (h : OwnZ W b) (hb : Below W.heap.size W w1) : OwnZ w1 b := ⟨h.1.keep hb, keepF hb h.1.1 h.2.1, keepF hb h.1.1 h.2.2.1, keepF hb h.1.1 h.2.2.2⟩
theorem OwnZ.grown {a c : World} {row : Option Nat} {b : Nat} (h : OwnZ a b) (hg : a.grownBy c row) (hne : some b ≠ row) : OwnZ c b := ⟨h.1.grown hg hne, gfroz hg h.1.1 hne h.2.1, gfroz hg h.1.1 hne h.2.2.1, gfroz hg h.1.1 hne h.2.2.2⟩
theorem p3_facts (W : World) (w h : Int) (p : Option Addr) (n cap : Nat) (w2 h2 : Int) (p2 : Option Addr) (n2 cap2 : Nat) :
    ∃ w0, ((W.alloc (.cells #[.int .i64 w, .int .i64 h, .slice p n cap] 25)).alloc (.cells #[.int .i64 w2, .int .i64 h2, .slice p2 n2 cap2] 25)).alloc (.cells #[.int .i64 0, .int .i64 0, .slice none 0 0] 25) = w0 ∧ OwnM w0 W.heap.size w h p n cap ∧ OwnM w0 (W.heap.size + 1) w2 h2 p2 n2 cap2 ∧ OwnZ w0 (W.heap.size + 1 + 1) ∧ Below W.heap.size W w0 := by
  have a := OwnM.new W w h p n cap 25
  have b := OwnM.new (W.alloc (.cells #[.int .i64 w, .int .i64 h, .slice p n cap] 25)) w2 h2 p2 n2 cap2 25
  have c := OwnZ.new ((W.alloc (.cells #[.int .i64 w, .int .i64 h, .slice p n cap] 25)).alloc (.cells #[.int .i64 w2, .int .i64 h2, .slice p2 n2 cap2] 25))
  rw [World.size_alloc] at b c
  rw [World.size_alloc] at c
  exact ⟨_, rfl, (a.alloc _).alloc _, b.alloc _, c, bal (bal (bal (Below.refl _ _)))⟩

set_option maxHeartbeats 1000000 in
theorem prod_err1 (w h : Int) (p : Option Addr) (n cap : Nat) (w2 h2 : Int) (p2 : Option Addr) (n2 cap2 : Nat) (W : World) (er : Int) (her : wE w h n = er) (hp : 1 ≤ er) : ProdErr 17 w h p n cap w2 h2 p2 n2 cap2 W er := by
  have HW := hide (fun W => wrong_any w h p n cap W)
  rw [her] at HW
  have hp' : (er != 0) = true := by simp; omega
  obtain ⟨w0, E0, A, B, Z, S0⟩ := p3_facts W w h p n cap w2 h2 p2 n2 cap2
  have HE := hide E0
  have HZ := hide Z
  have HS := hide S0
  clear E0 her A B Z S0
  unfold ProdErr
  go_enter Try.func17, Try.ntmps17
  go_wp2_with fail
  rw [unhide HE]
  clear HE
  refine (unhide HW _).mono ?_
  rintro e w1 ⟨rfl, hb⟩
  have S := hide (btrans (unhide HS) hb)
  obtain ⟨⟨-, u0, u1, u2⟩, f0, f1, f2⟩ := (unhide HZ).keep hb
  clear hb HZ HS
  go_wp2
  exact bodyPost_ret (v := .tuple #[tr 0 0 none 0 0, .int .i64 er]) (by simp [results, Try.results17, go_sem, u0, u1, u2]) rfl ⟨rfl, bset (bset (bset (unhide S) (by dsimp only; omega)) (by dsimp only; omega)) (by dsimp only; omega)⟩

set_option maxHeartbeats 1000000 in
theorem prod_err2 (w h : Int) (p : Option Addr) (n cap : Nat) (w2 h2 : Int) (p2 : Option Addr) (n2 cap2 : Nat) (W : World) (er : Int) (h1 : wE w h n = 0) (her : wE w2 h2 n2 = er) (hp : 1 ≤ er) : ProdErr 17 w h p n cap w2 h2 p2 n2 cap2 W er := by
  have HW := hide (fun W => wrong_any w h p n cap W)
  rw [h1] at HW
  have HV := hide (fun W => wrong_any w2 h2 p2 n2 cap2 W)
  rw [her] at HV
  have hp' : (er != 0) = true := by simp; omega
  obtain ⟨w0, E0, A, B, Z, S0⟩ := p3_facts W w h p n cap w2 h2 p2 n2 cap2
  have HE := hide E0
  have HB := hide B
  have HZ := hide Z
  have HS := hide S0
  clear E0 her A B Z S0 h1
  unfold ProdErr
  go_enter Try.func17, Try.ntmps17
  go_wp2_with fail
  rw [unhide HE]
  clear HE
  refine (unhide HW _).mono ?_
  rintro e w1 ⟨rfl, hb⟩
  have S := hide (btrans (unhide HS) hb)
  have Z1 := hide ((unhide HZ).keep hb)
  have b1 := ((unhide HB).keep hb).2
  clear hb HZ HS HB
  go_wp2_with fail
  clear b1
  refine (unhide HV _).mono ?_
  rintro e w3 ⟨rfl, hb⟩
  have S2 := hide (btrans (unhide S) hb)
  obtain ⟨⟨-, u0, u1, u2⟩, f0, f1, f2⟩ := (unhide Z1).keep hb
  clear hb Z1 S
  go_wp2
  exact bodyPost_ret (v := .tuple #[tr 0 0 none 0 0, .int .i64 er]) (by simp [results, Try.results17, go_sem, u0, u1, u2]) rfl ⟨rfl, bset (bset (bset (unhide S2) (by dsimp only; omega)) (by dsimp only; omega)) (by dsimp only; omega)⟩

set_option maxHeartbeats 1000000 in
theorem prod_err3 (w h : Int) (p : Option Addr) (n cap : Nat) (w2 h2 : Int) (p2 : Option Addr) (n2 cap2 : Nat) (W : World) (h1 : wE w h n = 0) (her : wE w2 h2 n2 = 0) (hne : w ≠ h2) : ProdErr 17 w h p n cap w2 h2 p2 n2 cap2 W 8 := by
  have HW := hide (fun W => wrong_any w h p n cap W)
  rw [h1] at HW
  have HV := hide (fun W => wrong_any w2 h2 p2 n2 cap2 W)
  rw [her] at HV
  have hp' : (w != h2) = true := by simp [hne]
  obtain ⟨w0, E0, A, B, Z, S0⟩ := p3_facts W w h p n cap w2 h2 p2 n2 cap2
  have HE := hide E0
  have HA := hide A
  have HB := hide B
  have HZ := hide Z
  have HS := hide S0
  clear E0 her A B Z S0 h1 hne
  unfold ProdErr
  go_enter Try.func17, Try.ntmps17
  go_wp2_with fail
  rw [unhide HE]
  clear HE
  refine (unhide HW _).mono ?_
  rintro e w1 ⟨rfl, hb⟩
  have S := hide (btrans (unhide HS) hb)
  have Z1 := hide ((unhide HZ).keep hb)
  have B1 := (unhide HB).keep hb
  have A1 := hide ((unhide HA).keep hb)
  have b1 := B1.2
  clear hb HZ HS HB HA
  go_wp2_with fail
  clear b1
  refine (unhide HV _).mono ?_
  rintro e w3 ⟨rfl, hb⟩
  have S2 := hide (btrans (unhide S) hb)
  obtain ⟨⟨-, u0, u1, u2⟩, f0, f1, f2⟩ := (unhide Z1).keep hb
  have b2 := (B1.keep hb).2
  have a2 := ((unhide A1).keep hb).2
  clear hb Z1 S B1 A1
  go_wp2
  exact bodyPost_ret (v := .tuple #[tr 0 0 none 0 0, .int .i64 8]) (by simp [results, Try.results17, go_sem, u0, u1, u2]) rfl ⟨rfl, bset (bset (bset (unhide S2) (by dsimp only; omega)) (by dsimp only; omega)) (by dsimp only; omega)⟩
end Go.Proofs.Ytfbggbalnfbbgaa
