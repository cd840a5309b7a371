/-
  The reference: Floats; what is wrong with a product.
-/
import Derived.Test.YtppnfafmgkpnnaaRefC
namespace Go.Proofs.Ytppnfafmgkpnnaa
open Go.RowKit Go.Shelf

set_option maxHeartbeats 1000000 in
theorem rfloats_err (w h : Int) (p : Option Addr) (n cap : Nat) (W : World) (er : Int) (her : wE w h n = er) (hp : 1 ≤ er) : FloatsIs 17 w h p n cap W 0 0 er := by
  have HT := hide (fun V => rturned_err w h p n cap V er her hp)
  have hp' : (er != 0) = true := by simp; omega
  have B0 := hide (bal (o := .cells #[.int .i64 w, .int .i64 h, .slice p n cap] 24) (Below.refl W.heap.size W))
  clear her
  unfold FloatsIs
  go_enter Try.func17, Try.ntmps17
  go_wp2_with fail
  refine (unhide HT _).mono ?_
  rintro e w1 ⟨rfl, hb⟩
  have S := hide (bal (o := .cells #[.int .i64 0, .int .i64 0, .slice none 0 0] 24) (btrans (unhide B0) hb))
  clear hb
  go_wp2
  exact bodyPost_ret (v := .tuple #[.int .i64 0, .int .i64 0, .int .i64 er]) (by simp [results, Try.results17, go_sem]) rfl ⟨rfl, unhide S⟩

set_option maxHeartbeats 1000000 in
theorem rfloats_none (w h : Nat) (p : Option Addr) (n cap : Nat) (f : Nat → Bool) (W : World) (r : Rt W w h p n cap f) (hn : n = 0) : FloatsIs 17 w h p n cap W 0 0 5 := by
  have HR := hide (r.keep (bal (o := .cells #[.int .i64 w, .int .i64 h, .slice p n cap] 24) (Below.refl W.heap.size W)))
  have B0 := hide (bal (o := .cells #[.int .i64 w, .int .i64 h, .slice p n cap] 24) (Below.refl W.heap.size W))
  have M0 := hide (OwnM.new W w h p n cap 24)
  have hn' : ((n : Int) == 0) = true := by simp [hn]
  clear r hn
  unfold FloatsIs
  go_enter Try.func17, Try.ntmps17
  go_wp2_with fail
  generalize W.alloc (.cells #[.int .i64 w, .int .i64 h, .slice p n cap] 24) = w0 at *
  refine (rturned_ok (unhide HR)).mono ?_
  rintro e w1 ⟨q, cp, rfl, -, hb⟩
  have hb2 := bal (o := .cells #[.int .i64 h, .int .i64 w, .slice q n cp] 24) hb
  have S := hide (btrans (unhide B0) hb2)
  have m1 := ((unhide M0).keep hb2).2
  clear hb hb2 HR B0 M0
  go_wp2
  exact bodyPost_ret (v := .tuple #[.int .i64 0, .int .i64 0, .int .i64 5]) (by simp [results, Try.results17, go_sem]) rfl ⟨rfl, unhide S⟩

set_option maxRecDepth 100000 in
set_option maxHeartbeats 1000000 in
theorem rfloats_ok (w h : Nat) (p : Option Addr) (n cap : Nat) (f : Nat → Bool) (W : World) (r : Rt W w h p n cap f) (hn : 0 < n) : FloatsIs 17 w h p n cap W (lgM (tuF f w h) true h w : Nat) (lgM f false w h : Nat) 0 := by
  have HR := hide (r.keep (bal (o := .cells #[.int .i64 w, .int .i64 h, .slice p n cap] 24) (Below.refl W.heap.size W)))
  have B0 := hide (bal (o := .cells #[.int .i64 w, .int .i64 h, .slice p n cap] 24) (Below.refl W.heap.size W))
  have M0 := hide (OwnM.new W w h p n cap 24)
  have hn' : ((n : Int) == 0) = false := by simp; omega
  obtain ⟨hw1, hh1⟩ := pos_of_lt (show 0 < w * h by rw [← r.2.2.1]; exact hn)
  have hs0 : W.heap.size < (W.alloc (.cells #[.int .i64 w, .int .i64 h, .slice p n cap] 24)).heap.size := by simp
  obtain ⟨dd, hdd⟩ : ∃ dd, dd = lgM (tuF f w h) true h w := ⟨_, rfl⟩
  obtain ⟨aa, haa⟩ : ∃ aa, aa = lgM f false w h := ⟨_, rfl⟩
  rw [← hdd, ← haa]
  have Hdd := hide hdd
  have Haa := hide haa
  clear r hn hdd haa
  unfold FloatsIs
  go_enter Try.func17, Try.ntmps17
  go_wp2_with fail
  generalize W.alloc (.cells #[.int .i64 w, .int .i64 h, .slice p n cap] 24) = w0 at *
  refine (rturned_ok (unhide HR)).mono ?_
  rintro e w1 ⟨q, cp, rfl, hr, hb⟩
  have hb2 := bal (o := .cells #[.int .i64 h, .int .i64 w, .slice q n cp] 24) hb
  have S := hide (btrans (unhide B0) hb2)
  have M1 := (unhide M0).keep hb2
  have m1 := M1.2
  have T1 := Tb.new hr
  have R1 := hide ((unhide HR).keep hb2)
  have hz1 : W.heap.size < w1.heap.size := Nat.lt_of_lt_of_le hs0 hb.size
  clear hb hb2 HR B0 M0 hr
  go_wp2_with fail
  have Hm1 := hide M1
  have HT1 := hide T1
  clear m1 M1 T1
  generalize w1.alloc (.cells #[.int .i64 h, .int .i64 w, .slice q n cp] 24) = w2 at *
  generalize w1.heap.size = b1 at *
  have HLT := hide (show ∀ V, Below w2.heap.size w2 V → Calls Try.prog 30 #[tr h w q n cp, .bool true] V fun e w' => e = .returned (.int .i64 (dd : Nat)) ∧ Below V.heap.size V w' from fun V hV => by rw [unhide Hdd]; exact rlongest_ok true ((unhide HT1).2.keep hV) hh1)
  have HLF := hide (show ∀ V, Below w2.heap.size w2 V → Calls Try.prog 30 #[tr w h p n cap, .bool false] V fun e w' => e = .returned (.int .i64 (aa : Nat)) ∧ Below V.heap.size V w' from fun V hV => by rw [unhide Haa]; exact rlongest_ok false ((unhide R1).keep hV) hw1)
  have Hld := hide (show ∀ V, Below w2.heap.size w2 V → (V.cell? ⟨W.heap.size, 0, none⟩ = some (.int .i64 w) ∧ V.cell? ⟨W.heap.size, 1, none⟩ = some (.int .i64 h) ∧ V.cell? ⟨W.heap.size, 2, none⟩ = some (.slice p n cap)) ∧ (V.cell? ⟨b1, 0, none⟩ = some (.int .i64 h) ∧ V.cell? ⟨b1, 1, none⟩ = some (.int .i64 w) ∧ V.cell? ⟨b1, 2, none⟩ = some (.slice q n cp)) from fun V hV => ⟨((unhide Hm1).keep hV).2, ((unhide HT1).1.keep hV).2⟩)
  clear Hm1 HT1 R1
  have hb2 := True.intro
  have hb3 := True.intro
  go_region_held3 (fun V => Below w2.heap.size w2 V ∧ ((V.cell? ⟨W.heap.size, 0, none⟩ = some (.int .i64 w) ∧ V.cell? ⟨W.heap.size, 1, none⟩ = some (.int .i64 h) ∧ V.cell? ⟨W.heap.size, 2, none⟩ = some (.slice p n cap)) ∧ (V.cell? ⟨b1, 0, none⟩ = some (.int .i64 h) ∧ V.cell? ⟨b1, 1, none⟩ = some (.int .i64 w) ∧ V.cell? ⟨b1, 2, none⟩ = some (.slice q n cp))))
    (first
      | (exact ⟨Below.drew (Below.refl _ _), unhide Hld _ (Below.drew (Below.refl _ _))⟩)
      | (exact ⟨hb3, unhide Hld _ hb3⟩)
      | (exact ⟨hb2, unhide Hld _ hb2⟩))
    (first
      | (go_at_call_of 30 (Value.bool true); refine (unhide HLT _ (by first | exact hb2 | exact Below.drew (Below.refl _ _))).mono ?_; rintro e w10 ⟨rfl, hb⟩; have hb3 := btrans (by first | exact hb2 | exact Below.drew (Below.refl _ _)) hb)
      | (go_at_call_of 30 (Value.bool false); refine (unhide HLF _ (by first | exact hb3 | exact Below.drew (Below.refl _ _))).mono ?_; rintro e w11 ⟨rfl, hb⟩; have hb2 := btrans (by first | exact hb3 | exact Below.drew (Below.refl _ _)) hb))
  have Sf := hide (btrans (unhide S) hb2)
  go_wp2
  exact bodyPost_ret (v := .tuple #[.int .i64 (dd : Nat), .int .i64 (aa : Nat), .int .i64 0]) (by simp [results, Try.results17, go_sem]) rfl ⟨rfl, unhide Sf⟩
set_option maxHeartbeats 1000000 in
theorem rprod_err1 (w h : Int) (p : Option Addr) (n cap : Nat) (w2 h2 : Int) (p2 : Option Addr) (n2 cap2 : Nat) (W : World) (er : Int) (her : wE w h n = er) (hp : 1 ≤ er) : ProdErr 9 w h p n cap w2 h2 p2 n2 cap2 W er := by
  have HW := hide (fun W => rwrong_any w h p n cap W)
  rw [her] at HW
  have hp' : (er != 0) = true := by simp; omega
  obtain ⟨w0, E0, A, B, Z, S0⟩ := p3_facts W w h p n cap w2 h2 p2 n2 cap2
  have HE := hide E0
  have HZ := hide Z
  have HS := hide S0
  clear E0 her A B Z S0
  unfold ProdErr
  go_enter Try.func9, Try.ntmps9
  go_wp2_with fail
  rw [unhide HE]
  clear HE
  refine (unhide HW _).mono ?_
  rintro e w1 ⟨rfl, hb⟩
  have S := hide (btrans (unhide HS) hb)
  obtain ⟨⟨-, u0, u1, u2⟩, f0, f1, f2⟩ := (unhide HZ).keep hb
  clear hb HZ HS
  go_wp2
  exact bodyPost_ret (v := .tuple #[tr 0 0 none 0 0, .int .i64 er]) (by simp [results, Try.results9, go_sem, u0, u1, u2]) rfl ⟨rfl, bset (bset (bset (unhide S) (by dsimp only; omega)) (by dsimp only; omega)) (by dsimp only; omega)⟩

set_option maxHeartbeats 1000000 in
theorem rprod_err2 (w h : Int) (p : Option Addr) (n cap : Nat) (w2 h2 : Int) (p2 : Option Addr) (n2 cap2 : Nat) (W : World) (er : Int) (h1 : wE w h n = 0) (her : wE w2 h2 n2 = er) (hp : 1 ≤ er) : ProdErr 9 w h p n cap w2 h2 p2 n2 cap2 W er := by
  have HW := hide (fun W => rwrong_any w h p n cap W)
  rw [h1] at HW
  have HV := hide (fun W => rwrong_any w2 h2 p2 n2 cap2 W)
  rw [her] at HV
  have hp' : (er != 0) = true := by simp; omega
  obtain ⟨w0, E0, A, B, Z, S0⟩ := p3_facts W w h p n cap w2 h2 p2 n2 cap2
  have HE := hide E0
  have HB := hide B
  have HZ := hide Z
  have HS := hide S0
  clear E0 her A B Z S0 h1
  unfold ProdErr
  go_enter Try.func9, Try.ntmps9
  go_wp2_with fail
  rw [unhide HE]
  clear HE
  refine (unhide HW _).mono ?_
  rintro e w1 ⟨rfl, hb⟩
  have S := hide (btrans (unhide HS) hb)
  have Z1 := hide ((unhide HZ).keep hb)
  have b1 := ((unhide HB).keep hb).2
  clear hb HZ HS HB
  go_wp2_with fail
  clear b1
  refine (unhide HV _).mono ?_
  rintro e w3 ⟨rfl, hb⟩
  have S2 := hide (btrans (unhide S) hb)
  obtain ⟨⟨-, u0, u1, u2⟩, f0, f1, f2⟩ := (unhide Z1).keep hb
  clear hb Z1 S
  go_wp2
  exact bodyPost_ret (v := .tuple #[tr 0 0 none 0 0, .int .i64 er]) (by simp [results, Try.results9, go_sem, u0, u1, u2]) rfl ⟨rfl, bset (bset (bset (unhide S2) (by dsimp only; omega)) (by dsimp only; omega)) (by dsimp only; omega)⟩

set_option maxHeartbeats 1000000 in
theorem rprod_err3 (w h : Int) (p : Option Addr) (n cap : Nat) (w2 h2 : Int) (p2 : Option Addr) (n2 cap2 : Nat) (W : World) (h1 : wE w h n = 0) (her : wE w2 h2 n2 = 0) (hne : w ≠ h2) : ProdErr 9 w h p n cap w2 h2 p2 n2 cap2 W 8 := by
  have HW := hide (fun W => rwrong_any w h p n cap W)
  rw [h1] at HW
  have HV := hide (fun W => rwrong_any w2 h2 p2 n2 cap2 W)
  rw [her] at HV
  have hp' : (w != h2) = true := by simp [hne]
  obtain ⟨w0, E0, A, B, Z, S0⟩ := p3_facts W w h p n cap w2 h2 p2 n2 cap2
  have HE := hide E0
  have HA := hide A
  have HB := hide B
  have HZ := hide Z
  have HS := hide S0
  clear E0 her A B Z S0 h1 hne
  unfold ProdErr
  go_enter Try.func9, Try.ntmps9
  go_wp2_with fail
  rw [unhide HE]
  clear HE
  refine (unhide HW _).mono ?_
  rintro e w1 ⟨rfl, hb⟩
  have S := hide (btrans (unhide HS) hb)
  have Z1 := hide ((unhide HZ).keep hb)
  have B1 := (unhide HB).keep hb
  have A1 := hide ((unhide HA).keep hb)
  have b1 := B1.2
  clear hb HZ HS HB HA
  go_wp2_with fail
  clear b1
  refine (unhide HV _).mono ?_
  rintro e w3 ⟨rfl, hb⟩
  have S2 := hide (btrans (unhide S) hb)
  obtain ⟨⟨-, u0, u1, u2⟩, f0, f1, f2⟩ := (unhide Z1).keep hb
  have b2 := (B1.keep hb).2
  have a2 := ((unhide A1).keep hb).2
  clear hb Z1 S B1 A1
  go_wp2
  exact bodyPost_ret (v := .tuple #[tr 0 0 none 0 0, .int .i64 8]) (by simp [results, Try.results9, go_sem, u0, u1, u2]) rfl ⟨rfl, bset (bset (bset (unhide S2) (by dsimp only; omega)) (by dsimp only; omega)) (by dsimp only; omega)⟩
theorem rprod_err (w h : Int) (p : Option Addr) (n cap : Nat) (w2 h2 : Int) (p2 : Option Addr) (n2 cap2 : Nat) (W : World) (he : pE w h n w2 h2 n2 ≠ 0) : ProdErr 9 w h p n cap w2 h2 p2 n2 cap2 W (pE w h n w2 h2 n2) := by
  unfold pE at *
  by_cases e1 : wE w h n = 0
  · rw [if_pos e1] at *
    by_cases e2 : wE w2 h2 n2 = 0
    · rw [if_pos e2] at *
      by_cases e3 : w = h2
      · rw [if_pos e3] at he; exact absurd rfl he
      · rw [if_neg e3]; exact rprod_err3 w h p n cap w2 h2 p2 n2 cap2 W e1 e2 e3
    · rw [if_neg e2]; exact rprod_err2 w h p n cap w2 h2 p2 n2 cap2 W _ e1 rfl (wE_pos _ _ _ e2)
  · rw [if_neg e1]; exact rprod_err1 w h p n cap w2 h2 p2 n2 cap2 W _ rfl (wE_pos _ _ _ e1)

end Go.Proofs.Ytppnfafmgkpnnaa
