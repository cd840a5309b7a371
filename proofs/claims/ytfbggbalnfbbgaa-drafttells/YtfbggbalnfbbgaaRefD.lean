/-
  The reference: Floats; what is wrong with a product.
-/
import Derived.Test.YtfbggbalnfbbgaaRefC
namespace Go.Proofs.Ytfbggbalnfbbgaa
open Go.RowKit Go.Shelf

set_option maxHeartbeats 1000000 in
theorem rprod_err1 (w h : Int) (p : Option Addr) (n cap : Nat) (w2 h2 : Int) (p2 : Option Addr) (n2 cap2 : Nat) (W : World) (er : Int) (her : wE w h n = er) (hp : 1 ≤ er) : ProdErr 26 w h p n cap w2 h2 p2 n2 cap2 W er := by
  have HW := hide (fun W => rwrong_any w h p n cap W)
  rw [her] at HW
  have hp' : (er != 0) = true := by simp; omega
  obtain ⟨w0, E0, A, B, Z, S0⟩ := p3_facts W w h p n cap w2 h2 p2 n2 cap2
  have HE := hide E0
  have HZ := hide Z
  have HS := hide S0
  clear E0 her A B Z S0
  unfold ProdErr
  go_enter Try.func26, Try.ntmps26
  go_wp2_with fail
  rw [unhide HE]
  clear HE
  refine (unhide HW _).mono ?_
  rintro e w1 ⟨rfl, hb⟩
  have S := hide (btrans (unhide HS) hb)
  obtain ⟨⟨-, u0, u1, u2⟩, f0, f1, f2⟩ := (unhide HZ).keep hb
  clear hb HZ HS
  go_wp2
  exact bodyPost_ret (v := .tuple #[tr 0 0 none 0 0, .int .i64 er]) (by simp [results, Try.results26, go_sem, u0, u1, u2]) rfl ⟨rfl, bset (bset (bset (unhide S) (by dsimp only; omega)) (by dsimp only; omega)) (by dsimp only; omega)⟩

set_option maxHeartbeats 1000000 in
theorem rprod_err2 (w h : Int) (p : Option Addr) (n cap : Nat) (w2 h2 : Int) (p2 : Option Addr) (n2 cap2 : Nat) (W : World) (er : Int) (h1 : wE w h n = 0) (her : wE w2 h2 n2 = er) (hp : 1 ≤ er) : ProdErr 26 w h p n cap w2 h2 p2 n2 cap2 W er := by
  have HW := hide (fun W => rwrong_any w h p n cap W)
  rw [h1] at HW
  have HV := hide (fun W => rwrong_any w2 h2 p2 n2 cap2 W)
  rw [her] at HV
  have hp' : (er != 0) = true := by simp; omega
  obtain ⟨w0, E0, A, B, Z, S0⟩ := p3_facts W w h p n cap w2 h2 p2 n2 cap2
  have HE := hide E0
  have HB := hide B
  have HZ := hide Z
  have HS := hide S0
  clear E0 her A B Z S0 h1
  unfold ProdErr
  go_enter Try.func26, Try.ntmps26
  go_wp2_with fail
  rw [unhide HE]
  clear HE
  refine (unhide HW _).mono ?_
  rintro e w1 ⟨rfl, hb⟩
  have S := hide (btrans (unhide HS) hb)
  have Z1 := hide ((unhide HZ).keep hb)
  have b1 := ((unhide HB).keep hb).2
  clear hb HZ HS HB
  go_wp2_with fail
  clear b1
  refine (unhide HV _).mono ?_
  rintro e w3 ⟨rfl, hb⟩
  have S2 := hide (btrans (unhide S) hb)
  obtain ⟨⟨-, u0, u1, u2⟩, f0, f1, f2⟩ := (unhide Z1).keep hb
  clear hb Z1 S
  go_wp2
  exact bodyPost_ret (v := .tuple #[tr 0 0 none 0 0, .int .i64 er]) (by simp [results, Try.results26, go_sem, u0, u1, u2]) rfl ⟨rfl, bset (bset (bset (unhide S2) (by dsimp only; omega)) (by dsimp only; omega)) (by dsimp only; omega)⟩

set_option maxHeartbeats 1000000 in
theorem rprod_err3 (w h : Int) (p : Option Addr) (n cap : Nat) (w2 h2 : Int) (p2 : Option Addr) (n2 cap2 : Nat) (W : World) (h1 : wE w h n = 0) (her : wE w2 h2 n2 = 0) (hne : w ≠ h2) : ProdErr 26 w h p n cap w2 h2 p2 n2 cap2 W 8 := by
  have HW := hide (fun W => rwrong_any w h p n cap W)
  rw [h1] at HW
  have HV := hide (fun W => rwrong_any w2 h2 p2 n2 cap2 W)
  rw [her] at HV
  have hp' : (w != h2) = true := by simp [hne]
  obtain ⟨w0, E0, A, B, Z, S0⟩ := p3_facts W w h p n cap w2 h2 p2 n2 cap2
  have HE := hide E0
  have HA := hide A
  have HB := hide B
  have HZ := hide Z
  have HS := hide S0
  clear E0 her A B Z S0 h1 hne
  unfold ProdErr
  go_enter Try.func26, Try.ntmps26
  go_wp2_with fail
  rw [unhide HE]
  clear HE
  refine (unhide HW _).mono ?_
  rintro e w1 ⟨rfl, hb⟩
  have S := hide (btrans (unhide HS) hb)
  have Z1 := hide ((unhide HZ).keep hb)
  have B1 := (unhide HB).keep hb
  have A1 := hide ((unhide HA).keep hb)
  have b1 := B1.2
  clear hb HZ HS HB HA
  go_wp2_with fail
  clear b1
  refine (unhide HV _).mono ?_
  rintro e w3 ⟨rfl, hb⟩
  have S2 := hide (btrans (unhide S) hb)
  obtain ⟨⟨-, u0, u1, u2⟩, f0, f1, f2⟩ := (unhide Z1).keep hb
  have b2 := (B1.keep hb).2
  have a2 := ((unhide A1).keep hb).2
  clear hb Z1 S B1 A1
  go_wp2
  exact bodyPost_ret (v := .tuple #[tr 0 0 none 0 0, .int .i64 8]) (by simp [results, Try.results26, go_sem, u0, u1, u2]) rfl ⟨rfl, bset (bset (bset (unhide S2) (by dsimp only; omega)) (by dsimp only; omega)) (by dsimp only; omega)⟩
theorem rprod_err (w h : Int) (p : Option Addr) (n cap : Nat) (w2 h2 : Int) (p2 : Option Addr) (n2 cap2 : Nat) (W : World) (he : pE w h n w2 h2 n2 ≠ 0) : ProdErr 26 w h p n cap w2 h2 p2 n2 cap2 W (pE w h n w2 h2 n2) := by
  unfold pE at *
  by_cases e1 : wE w h n = 0
  · rw [if_pos e1] at *
    by_cases e2 : wE w2 h2 n2 = 0
    · rw [if_pos e2] at *
      by_cases e3 : w = h2
      · rw [if_pos e3] at he; exact absurd rfl he
      · rw [if_neg e3]; exact rprod_err3 w h p n cap w2 h2 p2 n2 cap2 W e1 e2 e3
    · rw [if_neg e2]; exact rprod_err2 w h p n cap w2 h2 p2 n2 cap2 W _ e1 rfl (wE_pos _ _ _ e2)
  · rw [if_neg e1]; exact rprod_err1 w h p n cap w2 h2 p2 n2 cap2 W _ rfl (wE_pos _ _ _ e1)

end Go.Proofs.Ytfbggbalnfbbgaa
